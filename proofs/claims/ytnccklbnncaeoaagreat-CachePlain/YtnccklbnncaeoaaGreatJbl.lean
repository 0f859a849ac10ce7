import Derived.Test.YtnccklbnncaeoaaGreatJbi
import Derived.Test.YtnccklbnncaeoaaGreatJbk
/- cache: State. -/
namespace Go.Proofs.YtnccklbnncaeoaaGreat
open Go.RowKit
set_option linter.unusedVariables false
set_option linter.unusedSimpArgs false
/-- State. -/
def StR (bits : Nat) (G : Gc) (w : World) (k : Int) (e : Ending) (w' : World) : Prop := Kp (fun _ => False) w w' ∧
  if mayn bits k = true then match nget G.c G.K k.toNat with
    | none => e = .returned (.tuple #[.agg #[.bool false, .bool false, .slice none 0 0], .int .i64 0])
    | some b => ∃ v, e = .returned (.tuple #[.agg #[.bool (G.c b).di, .bool (G.c b).pe, v], .int .i64 0]) ∧ w'.ownsRow w.heap.size 2 1 v (G.W b).length ((sno G.c (G.W b)).map (Value.int .i64)) ∧ (v = .slice none 0 0 ↔ G.W b = [])
  else e = .returned (.tuple #[.agg #[.bool false, .bool false, .slice none 0 0], .int .i64 2])
section
variable {S : ByteArray} {g bits room Q N : Nat} {G : Gc} {q : Gf} {ft : List (Int × Int)} {F : Nat → Prop} {w : World}
set_option maxHeartbeats 8000000 in
set_option maxRecDepth 100000 in
theorem state_any (h : Cv S g bits room Q N G q ft F w) (k : Int) :
    Calls Tryz.prog 35 #[ptr Q, .int .i64 k] w (StR bits G w k) := by
  have KA : Hid (Kp (fun _ => False) w (w.alloc (.cells #[.bool false, .bool false, .slice none 0 0] 86))) := (Kp.refl _ _).alloc _
  have h1 := h.kp0 KA.out
  have HN := hid h1.live
  have HM := hid (h1.maya k)
  have z4 := h1.cm.st.cell 4
  simp at z4
  unfold StR
  by_cases hk : mayn bits k = true
  · rw [hk] at HM
    simp only [if_pos hk]
    obtain ⟨m, rfl, hm⟩ := mayn_nat hk
    rw [Int.toNat_natCast]
    have hl := run_lookup_mn h1.cm.ks m
    cases hb : nget G.c G.K m with
    | none =>
      rw [nval_no hb] at hl
      clear h h1
      unfold ptr at *
      go_enter Tryz.func35, Tryz.ntmps35
      go_wp2_with (first
        | (go_at_call 64; refine HN.out.mono ?_; rintro e w' ⟨rfl, h⟩; replace h := h.symm; subst h)
        | (go_at_call 65; refine HM.out.mono ?_; rintro e w' ⟨rfl, h⟩; replace h := h.symm; subst h))
      refine bodyPost_ret (results_cell_tmp2 Tryz.results35 _ _ _ rfl rfl (load86 (St.new 86 w _))) rfl ?_
      exact ⟨KA.out, rfl⟩
    | some b =>
      rw [nval_of hb] at hl
      obtain ⟨hbK, hbn⟩ := nget_mem hb
      have hbB := h.iv.kb b hbK
      obtain ⟨s, hs⟩ := (h1.cm.pg b hbB).wt
      have y2 := St.cell hs 2
      have y3 := St.cell hs 3
      have y6 := St.cell hs 6
      simp [Pc.cs] at y2 y3 y6
      have HW := hid (h.cm.pg b hbB).ws
      have HL : Hid ((G.W b).length ≤ 1000000) := h.mlen (h.cm.pg b hbB).ws (fun a ha => h.wB ha)
      have HNB : Hid (∀ a ∈ G.W b, (G.c a).n < 1000000000) := fun a ha => by
        have h2 := h.nb a (h.wB ha)
        have h3 := Nat.div_le_self 268435456 (2 ^ bits)
        omega
      obtain ⟨z, hz⟩ : ∃ z, w.heap.size = z := ⟨_, rfl⟩
      have HZ := hid hz
      have SA : Hid (St 86 (w.alloc (.cells #[.bool false, .bool false, .slice none 0 0] 86)) z #[.bool false, .bool false, .slice none 0 0]) := by
        rw [← hz]; exact St.new 86 w _
      clear h h1 hs
      unfold ptr at *
      go_enter Tryz.func35, Tryz.ntmps35
      go_wp2_with (first
        | (go_at_call 64; refine HN.out.mono ?_; rintro e w' ⟨rfl, h⟩; replace h := h.symm; subst h)
        | (go_at_call 65; refine HM.out.mono ?_; rintro e w' ⟨rfl, h⟩; replace h := h.symm; subst h))
      clear hz HN HM hl z4
      generalize w.alloc (.cells #[.bool false, .bool false, .slice none 0 0] 86) = W1 at KA SA y2 y3 y6 ⊢
      have g0 : W1.drew.cell? ⟨b, 2, none⟩ = some (.bool (G.c b).di) ∧ W1.drew.cell? ⟨b, 3, none⟩ = some (.bool (G.c b).pe) ∧ W1.drew.cell? ⟨b, 6, none⟩ = some (.map (some (G.c b).wm)) := ⟨y2, y3, y6⟩
      refine wp_region_G (fun w' => w'.cell? ⟨b, 2, none⟩ = some (.bool (G.c b).di) ∧ w'.cell? ⟨b, 3, none⟩ = some (.bool (G.c b).pe) ∧ w'.cell? ⟨b, 6, none⟩ = some (.map (some (G.c b).wm))) [15, 16] hmix g0 (fun h0 => ?_)
      refine wpAnyG_takeW (i := 0) (v := .pointer (some ⟨b, 0, none⟩)) rfl (by kernel_rfl) (fun _ _ _ h => h) (Or.inl ⟨by rfl, fun w _ => by go_simp⟩) ?_
      refine wpAnyG_takeW (i := 1) (v := .pointer (some ⟨b, 0, none⟩)) rfl (by kernel_rfl) (fun _ _ _ h => h) (Or.inl ⟨by rfl, fun w _ => by go_simp⟩) ?_
      refine wpAnyG_takeW (i := 2) (v := .pointer (some ⟨b, 2, none⟩)) rfl (by kernel_rfl) (fun _ _ _ h => h) (Or.inl ⟨by rfl, fun w _ => by go_simp⟩) ?_
      refine wpAnyG_take (i := 3) (v := .bool (G.c b).di) rfl (by kernel_rfl) (fun _ _ _ h => h) (Or.inl ⟨by rfl, fun w hSw => by (obtain ⟨q2, q3, q6⟩ := hSw); go_simp⟩) h0 ?_
      refine wpAnyG_takeW (i := 4) (v := .pointer (some ⟨b, 0, none⟩)) rfl (by kernel_rfl) (fun _ _ _ h => h) (Or.inl ⟨by rfl, fun w _ => by go_simp⟩) ?_
      refine wpAnyG_takeW (i := 5) (v := .pointer (some ⟨b, 0, none⟩)) rfl (by kernel_rfl) (fun _ _ _ h => h) (Or.inl ⟨by rfl, fun w _ => by go_simp⟩) ?_
      refine wpAnyG_takeW (i := 6) (v := .pointer (some ⟨b, 3, none⟩)) rfl (by kernel_rfl) (fun _ _ _ h => h) (Or.inl ⟨by rfl, fun w _ => by go_simp⟩) ?_
      refine wpAnyG_take (i := 7) (v := .bool (G.c b).pe) rfl (by kernel_rfl) (fun _ _ _ h => h) (Or.inl ⟨by rfl, fun w hSw => by (obtain ⟨q2, q3, q6⟩ := hSw); go_simp⟩) h0 ?_
      refine wpAnyG_takeW (i := 8) (v := .pointer (some ⟨b, 0, none⟩)) rfl (by kernel_rfl) (fun _ _ _ h => h) (Or.inl ⟨by rfl, fun w _ => by go_simp⟩) ?_
      refine wpAnyG_takeW (i := 9) (v := .pointer (some ⟨b, 0, none⟩)) rfl (by kernel_rfl) (fun _ _ _ h => h) (Or.inl ⟨by rfl, fun w _ => by go_simp⟩) ?_
      refine wpAnyG_takeW (i := 10) (v := .pointer (some ⟨b, 6, none⟩)) rfl (by kernel_rfl) (fun _ _ _ h => h) (Or.inl ⟨by rfl, fun w _ => by go_simp⟩) ?_
      refine wpAnyG_take (i := 11) (v := .map (some (G.c b).wm)) rfl (by kernel_rfl) (fun _ _ _ h => h) (Or.inl ⟨by rfl, fun w hSw => by (obtain ⟨q2, q3, q6⟩ := hSw); go_simp⟩) h0 ?_
      refine wpAnyG_one (i := 12) (by kernel_rfl) rfl (fun K hK => ?_)
      go_simp
      refine (keys_any _ _).mono ?_
      rintro _ w3 ⟨rfl, hw3⟩
      have k3 : Kp (fun _ => False) W1.drew w3 := by rw [hw3]; exact (Kp.refl _ _).alloc _
      have t3 : St 106 w3 W1.drew.heap.size #[.map (some (G.c b).wm)] := by rw [hw3]; exact St.new 106 _ _
      have kd : Kp (fun _ => False) W1 W1.drew := (Kp.refl _ _).drew
      have KW3 : Hid (Kp (fun _ => False) w w3) := (KA.out.trans kd (fun _ _ h => h)).trans k3 (fun _ _ h => h)
      have g3 : w3.cell? ⟨b, 2, none⟩ = some (.bool (G.c b).di) ∧ w3.cell? ⟨b, 3, none⟩ = some (.bool (G.c b).pe) ∧ w3.cell? ⟨b, 6, none⟩ = some (.map (some (G.c b).wm)) := ⟨k3.cell g0.1, k3.cell g0.2.1, k3.cell g0.2.2⟩
      have HS3 := hid (keysS_any G.c w3 W1.drew.heap.size (G.c b).wm (G.W b) (HW.out.kp KW3.out (fun h => h)) (t3.cell 0) t3.lt HL.out HNB.out)
      have SA3 := hid (SA.out.kp (kd.trans k3 (fun _ _ h => h)) (fun h => h))
      clear hw3 k3 t3 kd SA
      go_wp2_with fail
      refine hK.out _ _ (fun _ _ => g3) ?_
      clear hK K h0
      refine wpAnyG_one (i := 13) (by kernel_rfl) rfl (fun K hK => ?_)
      go_simp
      refine HS3.out.mono ?_
      rintro _ w4 ⟨v, rfl, hrow, hnil, hbl⟩
      obtain ⟨ao, n0, cap, rfl⟩ : ∃ ao n0 cap, v = .slice ao n0 cap := by
        rcases hrow.2 with ⟨e, _⟩ | ⟨g', cap', cur, e, _⟩
        · exact ⟨_, _, _, e⟩
        · exact ⟨_, _, _, e⟩
      have k4 : Kp (fun _ => False) w3 w4 := Kp.of_below hbl
      have g4 : w4.cell? ⟨b, 2, none⟩ = some (.bool (G.c b).di) ∧ w4.cell? ⟨b, 3, none⟩ = some (.bool (G.c b).pe) ∧ w4.cell? ⟨b, 6, none⟩ = some (.map (some (G.c b).wm)) := ⟨k4.cell g3.1, k4.cell g3.2.1, k4.cell g3.2.2⟩
      have SA4 := hid (SA3.out.kp k4 (fun h => h))
      have KW4 : Hid (Kp (fun _ => False) w w4) := KW3.out.trans k4 (fun _ _ h => h)
      have HROW : Hid (w4.ownsRow w.heap.size 2 1 (.slice ao n0 cap) (G.W b).length ((sno G.c (G.W b)).map (Value.int .i64))) := ownsRow_base_a hrow KW3.out.size
      have HNIL := hid hnil
      have HBS : Hid (∀ i, (Value.slice ao n0 cap).ownBlock = some i → w3.heap.size ≤ i) := fun i e => by
        obtain ⟨cur, _, hr⟩ := ownb hrow e
        exact hr
      clear k4 hbl hrow hnil HS3
      go_wp2_with fail
      refine hK.out _ _ (fun _ _ => g4) ?_
      clear hK K
      refine wpAnyG_one (i := 14) (by kernel_rfl) rfl (fun K hK => ?_)
      go_simp
      refine hK.out _ _ (fun _ _ => g4) ?_
      clear hK K
      refine wpAnyG_one (i := 15) (by kernel_rfl) rfl (fun K hK => ?_)
      have c0 := SA4.out.cell 0
      have c1 := SA4.out.cell 1
      have c2 := SA4.out.cell 2
      have f0 := SA4.out.frozen 0
      have f1 := SA4.out.frozen 1
      have f2 := SA4.out.frozen 2
      simp at c0 c1 c2
      go_simp
      refine hK.out _ _ (fun h => absurd h (by decide)) ?_
      clear hK K
      refine wpAnyG_one (i := 16) (by kernel_rfl) rfl (fun K hK => ?_)
      go_simp
      refine hK.out _ _ (fun h => absurd h (by decide)) ?_
      clear hK K
      refine wpAnyG_done (by kernel_rfl) ?_ _
      go_wp2_with fail
      have SF : St 86 (((w4.setCell ⟨z, 0, none⟩ (.bool (G.c b).di)).setCell ⟨z, 1, none⟩ (.bool (G.c b).pe)).setCell ⟨z, 2, none⟩ (.slice ao n0 cap)) z #[.bool (G.c b).di, .bool (G.c b).pe, .slice ao n0 cap] := by
        have h2 := ((SA4.out.set 0 (.bool (G.c b).di)).set 1 (.bool (G.c b).pe)).set 2 (.slice ao n0 cap)
        simpa using h2
      have KF : Kp (fun i => i = z) w4 (((w4.setCell ⟨z, 0, none⟩ (.bool (G.c b).di)).setCell ⟨z, 1, none⟩ (.bool (G.c b).pe)).setCell ⟨z, 2, none⟩ (.slice ao n0 cap)) :=
        ((kp_setCell w4 z 0 _ (fun i => i = z) rfl).trans (kp_setCell _ z 1 _ (fun i => i = z) rfl) (fun _ _ h => h)).trans (kp_setCell _ z 2 _ (fun i => i = z) rfl) (fun _ _ h => h)
      have hzl := SA3.out.lt
      refine bodyPost_ret (results_cell_tmp2 Tryz.results35 _ _ _ rfl rfl (load86 SF)) rfl ?_
      refine ⟨KW4.out.trans KF (fun i hi e => by have := HZ.out; omega), _, rfl, own_kp HROW.out KF (fun i e e2 => by have := HBS.out i e; omega), HNIL.out⟩
  · have hk2 : mayn bits k = false := by simpa using hk
    rw [hk2] at HM
    simp only [if_neg hk]
    clear h h1
    unfold ptr at *
    go_enter Tryz.func35, Tryz.ntmps35
    go_wp2_with (first
      | (go_at_call 64; refine HN.out.mono ?_; rintro e w' ⟨rfl, h⟩; replace h := h.symm; subst h)
      | (go_at_call 65; refine HM.out.mono ?_; rintro e w' ⟨rfl, h⟩; replace h := h.symm; subst h))
    refine bodyPost_ret (results_cell_tmp2 Tryz.results35 _ _ _ rfl rfl (load86 (St.new 86 w _))) rfl ?_
    exact ⟨KA.out, rfl⟩
end
end Go.Proofs.YtnccklbnncaeoaaGreat
