import Derived.Test.YtnccklbnncaeoaaGreatJbd
import Derived.Test.YtnccklbnncaeoaaGreatJad
/- cache: newPage, known. -/
namespace Go.Proofs.YtnccklbnncaeoaaGreat
open Go.RowKit
set_option linter.unusedVariables false
set_option linter.unusedSimpArgs false
/-- A page that was just made. -/
def pc0 (n wm rm : Nat) : Pc := ⟨n, .slice none 0 0, false, false, 0, wm, rm⟩
def wNew (w : World) (n : Nat) : World := ((w.alloc (.map #[] 0)).alloc (.map #[] 0)).alloc (.cells ((pc0 n w.heap.size (w.heap.size + 1)).cs 0) 142)
theorem newPage_any (w : World) (n : Nat) : Calls Tryz.prog 112 #[.int .i64 n] w fun e w' => e = .returned (ptr (w.heap.size + 2)) ∧ w' = wNew w n := by
  unfold wNew pc0 Pc.cs ptr
  have hmm := @run_makeMap Tryz.prog
  go_enter Tryz.func112, Tryz.ntmps112
  go_wp2
  go_ret
  exact ⟨rfl, rfl⟩
def gNew (G : Gc) (b n wm rm : Nat) : Gc := { G with c := upd G.c b (pc0 n wm rm), W := upd G.W b [], R := upd G.R b [], y := upd G.y b none, B := b :: G.B }
theorem Ln.congr {c d : Nat → Pc} {w : World} {base B : Nat} {v : Value} {L : List Nat} (h : Ln c w base B v L) (e : ∀ b ∈ L, d b = c b) : Ln d w base B v L :=
  ⟨h.st, h.own, fun i hi => (h.tr i hi).congr (e _ (gn_mem hi)), fun b hb => by rw [e b hb]; exact h.may b hb⟩
section
variable {S : ByteArray} {g bits room Q : Nat} {G : Gc} {w : World}
theorem Cm.new (h : Cm S g bits room Q G w) (hW : ∀ b a, a ∈ G.W b → a ∈ G.B) (hR : ∀ b a, a ∈ G.R b → a ∈ G.B) (n : Nat) : Cm S g bits room Q (gNew G (w.heap.size + 2) n w.heap.size (w.heap.size + 1)) (wNew w n) ∧ Kp (fun _ => False) w (wNew w n) := by
  have k0 : Kp (fun _ => False) w (wNew w n) := (((Kp.refl _ _).alloc _).alloc _).alloc _
  have h0 := h.kp0 k0
  have hlt : ∀ a ∈ G.B, a ≠ w.heap.size + 2 := fun a ha e => by
    have := h.lt (.inr (.inr (.inr (.inr (.inr ⟨a, ha, .inl rfl⟩)))))
    omega
  have hltw : ∀ a ∈ G.B, (G.c a).wm < w.heap.size := fun a ha => h.lt (.inr (.inr (.inr (.inr (.inr ⟨a, ha, .inr (.inl rfl)⟩)))))
  have hltr : ∀ a ∈ G.B, (G.c a).rm < w.heap.size := fun a ha => h.lt (.inr (.inr (.inr (.inr (.inr ⟨a, ha, .inr (.inr (.inl rfl))⟩)))))
  have hpm : G.pm < w.heap.size := h.lt (.inr (.inr (.inl rfl)))
  have hc : ∀ a ∈ G.B, (gNew G (w.heap.size + 2) n w.heap.size (w.heap.size + 1)).c a = G.c a := fun a ha => upd_other _ _ (hlt a ha)
  have hn : (gNew G (w.heap.size + 2) n w.heap.size (w.heap.size + 1)).c (w.heap.size + 2) = pc0 n w.heap.size (w.heap.size + 1) := upd_same _ _ _
  have m1 : Mn (fun _ => pc0 0 0 0) (wNew w n) w.heap.size [] := (Mn.new (fun _ => pc0 0 0 0) w).kp (F := fun _ => False) (((Kp.refl _ _).alloc _).alloc _) (fun h => h)
  have m2 : Mn (fun _ => pc0 0 0 0) (wNew w n) (w.heap.size + 1) [] := by
    have := (Mn.new (fun _ => pc0 0 0 0) (w.alloc (.map #[] 0))).kp (F := fun _ => False) ((Kp.refl _ _).alloc (.cells ((pc0 n w.heap.size (w.heap.size + 1)).cs 0) 142)) (fun h => h)
    rw [World.size_alloc] at this
    exact this
  have st : St 142 (wNew w n) (w.heap.size + 2) ((pc0 n w.heap.size (w.heap.size + 1)).cs 0) := by
    have := St.new 142 ((w.alloc (.map #[] 0)).alloc (.map #[] 0)) ((pc0 n w.heap.size (w.heap.size + 1)).cs 0)
    rw [World.size_alloc, World.size_alloc] at this
    exact this
  refine ⟨⟨h0.st, h0.ln.congr (fun b hb => hc b (h.lb b hb)), h0.pd, h0.ks.congr (fun b hb => by rw [hc b (h.kb b hb)]), fun b hb => ?_, h.ap, fun a ha b hb => ?_, fun a ha => ?_, fun a ha b hb i zs zs' e1 e2 => ?_, fun b hb => List.mem_cons_of_mem _ (h.kb b hb), fun b hb => List.mem_cons_of_mem _ (h.lb b hb), fun b hb => List.mem_cons_of_mem _ (h.pb b hb)⟩, k0⟩
  · by_cases e : b = w.heap.size + 2
    · subst e
      refine ⟨⟨0, ?_⟩, ?_, ?_, ?_⟩
      · unfold Wt; rw [hn]; exact st
      · rw [hn]
        show Mn _ _ w.heap.size (upd G.W (w.heap.size + 2) [] (w.heap.size + 2))
        rw [upd_same]
        exact m1.congr (fun _ h => by cases h)
      · rw [hn]
        show Mn _ _ (w.heap.size + 1) (upd G.R (w.heap.size + 2) [] (w.heap.size + 2))
        rw [upd_same]
        exact m2.congr (fun _ h => by cases h)
      · rw [hn]
        show Yb _ _ (upd G.y (w.heap.size + 2) none (w.heap.size + 2))
        rw [upd_same]
        rfl
    · have hb : b ∈ G.B := (List.mem_cons.1 hb).resolve_left e
      have hp := h0.pg b hb
      obtain ⟨s, hs⟩ := hp.wt
      refine ⟨⟨s, hs.congr (hc b hb)⟩, ?_, ?_, ?_⟩
      · rw [hc b hb]
        show Mn _ _ (G.c b).wm (upd G.W (w.heap.size + 2) [] b)
        rw [upd_other _ _ e]
        exact hp.ws.congr (fun a ha => by rw [hc a (hW b a ha)])
      · rw [hc b hb]
        show Mn _ _ (G.c b).rm (upd G.R (w.heap.size + 2) [] b)
        rw [upd_other _ _ e]
        exact hp.rs.congr (fun a ha => by rw [hc a (hR b a ha)])
      · rw [hc b hb]
        show Yb _ _ (upd G.y (w.heap.size + 2) none b)
        rw [upd_other _ _ e]
        exact hp.ys
  · rcases List.mem_cons.1 ha with rfl | ha
    · rcases List.mem_cons.1 hb with rfl | hb
      · rw [hn]; exact ⟨fun _ => rfl, fun _ => rfl, by show w.heap.size ≠ w.heap.size + 1; omega⟩
      · rw [hn, hc b hb]
        have := hltw b hb
        have := hltr b hb
        exact ⟨fun e => by change w.heap.size = _ at e; omega, fun e => by change w.heap.size + 1 = _ at e; omega, by show w.heap.size ≠ _; omega⟩
    · rcases List.mem_cons.1 hb with rfl | hb
      · rw [hn, hc a ha]
        have := hltw a ha
        have := hltr a ha
        exact ⟨fun e => by change _ = w.heap.size at e; omega, fun e => by change _ = w.heap.size + 1 at e; omega, by show _ ≠ w.heap.size + 1; omega⟩
      · rw [hc a ha, hc b hb]; exact h.mi a ha b hb
  · rcases List.mem_cons.1 ha with rfl | ha
    · rw [hn]
      exact ⟨by show w.heap.size ≠ G.pm; omega, by show w.heap.size + 1 ≠ G.pm; omega⟩
    · rw [hc a ha]; exact h.mp a ha
  · have ha' : upd G.y (w.heap.size + 2) none a = some (i, zs) := e1
    have hb' : upd G.y (w.heap.size + 2) none b = some (i, zs') := e2
    unfold upd at ha' hb'
    split at ha'
    · cases ha'
    · split at hb'
      · cases hb'
      · rename_i q1 q2
        exact h.yi a ((List.mem_cons.1 ha).resolve_left q1) b ((List.mem_cons.1 hb).resolve_left q2) i zs zs' ha' hb'
set_option maxHeartbeats 4000000 in
theorem known_there (h : Cm S g bits room Q G w) (k b : Nat) (hk : nget G.c G.K k = some b) :
    Calls Tryz.prog 68 #[ptr Q, .int .i64 k] w fun e w' => e = .returned (ptr b) ∧ w' = w := by
  have hlk := run_lookup_mn h.ks k
  rw [nval_of hk] at hlk
  have z4 := h.st.cell 4
  simp at z4
  clear h
  unfold ptr at *
  go_enter Tryz.func68, Tryz.ntmps68
  go_wp2
  go_ret
  exact ⟨rfl, rfl⟩
set_option maxRecDepth 100000 in
set_option maxHeartbeats 4000000 in
theorem known_new (h : Cm S g bits room Q G w) (hW : ∀ b a, a ∈ G.W b → a ∈ G.B) (hR : ∀ b a, a ∈ G.R b → a ∈ G.B) (k : Nat) (hk : nget G.c G.K k = none) :
    Calls Tryz.prog 68 #[ptr Q, .int .i64 k] w fun e w' => ∃ b wm rm, w.heap.size ≤ b ∧ w.heap.size ≤ wm ∧ w.heap.size ≤ rm ∧ e = .returned (ptr b) ∧ Cm S g bits room Q { gNew G b k wm rm with K := G.K ++ [b] } w' ∧ Kp (fun i => i = G.pm) w w' := by
  have hlk := run_lookup_mn h.ks k
  rw [nval_no hk] at hlk
  have z4 := h.st.cell 4
  simp at z4
  have HS : Hid (∀ U, Kp (fun _ => False) w U → ∃ o', (Instr.mapUpdate 106 (.map (some G.pm)) (.int .i64 k) (.pointer (some ⟨U.heap.size + 2, 0, none⟩))).run Tryz.prog (wNew U k) = .ok () ((wNew U k).putObj G.pm o') ∧ (∃ b wm rm, U.heap.size + 2 = b ∧ w.heap.size ≤ b ∧ w.heap.size ≤ wm ∧ w.heap.size ≤ rm ∧ Cm S g bits room Q { gNew G b k wm rm with K := G.K ++ [b] } ((wNew U k).putObj G.pm o') ∧ nget { gNew G b k wm rm with K := G.K ++ [b] }.c (G.K ++ [b]) k = some b) ∧ Kp (fun i => i = G.pm) w ((wNew U k).putObj G.pm o')) := fun U k0 => by
    obtain ⟨c1, k1⟩ := (h.kp0 k0).new hW hR k
    have hz := k0.size
    obtain ⟨b, hb⟩ : ∃ b, U.heap.size + 2 = b := ⟨_, rfl⟩
    have hcb : (gNew G b k U.heap.size (U.heap.size + 1)).c b = pc0 k U.heap.size (U.heap.size + 1) := upd_same _ _ _
    have hno : ∀ a ∈ G.K, ((gNew G b k U.heap.size (U.heap.size + 1)).c a).n ≠ k := fun a ha => by
      have hne : a ≠ b := fun e => by
        have := h.lt (.inr (.inr (.inr (.inr (.inr ⟨a, h.kb a ha, .inl rfl⟩)))))
        omega
      have : (gNew G b k U.heap.size (U.heap.size + 1)).c a = G.c a := upd_other _ _ hne
      rw [this]
      exact nget_none hk a ha
    have hnn : nget (gNew G b k U.heap.size (U.heap.size + 1)).c G.K k = none := by
      unfold nget
      rw [List.find?_eq_none]
      intro a ha
      rw [decide_eq_false (hno a ha)]
      exact Bool.false_ne_true
    rw [hb] at c1
    obtain ⟨o', e1, m1, k2⟩ := c1.ks.put b (fun a ha e => by rw [hcb] at e; exact absurd e (hno a ha))
    rw [hcb] at e1
    rw [show ptr b = .pointer (some ⟨U.heap.size + 2, 0, none⟩) from by rw [hb]; rfl] at e1
    have hpt : nput (gNew G b k U.heap.size (U.heap.size + 1)).c (gNew G b k U.heap.size (U.heap.size + 1)).K b = G.K ++ [b] := by
      unfold nput
      rw [if_pos (by rw [hcb]; exact hnn)]
      rfl
    rw [hpt] at m1
    refine ⟨o', e1, ⟨b, _, _, hb, by omega, by omega, by omega, c1.known m1 k2 (fun a ha => ?_), ?_⟩, ((k0.trans k1 (fun _ _ h => h)).mono (fun _ _ h => h.elim)).trans k2 (fun _ _ h => h)⟩
    · rcases List.mem_append.1 ha with ha | ha
      · exact List.mem_cons_of_mem _ (h.kb a ha)
      · rw [List.mem_singleton.1 ha]; exact List.mem_cons_self
    · show nget (gNew G b k U.heap.size (U.heap.size + 1)).c (G.K ++ [b]) k = some b
      unfold nget at hnn ⊢
      rw [List.find?_append, hnn]
      simp [hcb, pc0]
  have g0 : w.drew.cell? ⟨Q, 4, none⟩ = some (.map (some G.pm)) := ((Kp.refl (fun _ => False) w).drew).cell z4
  clear h
  unfold ptr at *
  go_enter Tryz.func68, Tryz.ntmps68
  go_wp2_with fail
  refine wp_region_G (fun w' => w'.cell? ⟨Q, 4, none⟩ = some (.map (some G.pm))) [7] hmix g0 (fun h0 => ?_)
  refine wpAnyG_takeW (i := 0) (v := .pointer (some ⟨Q, 0, none⟩)) rfl (by kernel_rfl) (fun _ _ _ h => h) (Or.inl ⟨by rfl, fun w _ => by go_simp⟩) ?_
  refine wpAnyG_takeW (i := 1) (v := .pointer (some ⟨Q, 0, none⟩)) rfl (by kernel_rfl) (fun _ _ _ h => h) (Or.inl ⟨by rfl, fun w _ => by go_simp⟩) ?_
  refine wpAnyG_takeW (i := 2) (v := .pointer (some ⟨Q, 4, none⟩)) rfl (by kernel_rfl) (fun _ _ _ h => h) (Or.inl ⟨by rfl, fun w _ => by go_simp⟩) ?_
  refine wpAnyG_take (i := 3) (v := .map (some G.pm)) rfl (by kernel_rfl) (fun _ _ _ h => h) (Or.inl ⟨by rfl, fun w hSw => by (try dsimp only at hSw); go_simp⟩) h0 ?_
  refine wpAnyG_takeW (i := 4) (v := .int .i64 k) rfl (by kernel_rfl) (fun _ _ _ h => h) (Or.inl ⟨by rfl, fun w _ => by go_simp⟩) ?_
  refine wpAnyG_takeW (i := 5) (v := .int .i64 k) rfl (by kernel_rfl) (fun _ _ _ h => h) (Or.inl ⟨by rfl, fun w _ => by go_simp⟩) ?_
  refine wpAnyG_one (i := 6) (by kernel_rfl) rfl (fun K hK => ?_)
  go_simp
  refine (newPage_any _ _).mono ?_
  rintro e w3 ⟨rfl, hw3⟩
  obtain ⟨o', e1, ⟨b, wm, rm, hb, h1, h2, h3, hc, hg⟩, hkp⟩ := HS.out w.drew ((Kp.refl (fun _ => False) w).drew)
  rw [← hw3] at e1 hc hkp
  unfold ptr at *
  rw [hb] at e1 ⊢
  have k3 : Kp (fun _ => False) w.drew w3 := by rw [hw3]; exact (((Kp.refl _ _).alloc _).alloc _).alloc _
  have c3 := k3.cell g0
  clear hw3 k3
  go_wp2_with fail
  refine hK.out _ _ (fun _ _ => c3) ?_
  clear hK K h0
  refine wpAnyG_one (i := 7) (by kernel_rfl) rfl (fun K hK => ?_)
  go_simp
  refine hK.out _ _ (fun h => absurd h (by decide)) ?_
  clear hK K
  refine wpAnyG_done (by kernel_rfl) ?_ _
  have hlk2 := run_lookup_mn hc.ks k
  replace hlk2 := hlk2.trans (congrArg (fun v => Result.ok v (w3.putObj G.pm o')) (nval_of hg))
  have y4 := hc.st.cell 4
  simp [gNew] at y4
  have HC := hid hc
  have HK := hid hkp
  clear hc hkp hg e1 c3
  generalize w3.putObj G.pm o' = W at *
  unfold ptr at *
  change (Instr.lookup 106 (.map (some G.pm)) (.int .i64 k) false).run Tryz.prog W = _ at hlk2
  go_wp2_with fail
  go_ret
  exact ⟨b, wm, rm, h1, h2, h3, rfl, HC.out, HK.out⟩
end
end Go.Proofs.YtnccklbnncaeoaaGreat
/- cache: load. -/
namespace Go.Proofs.YtnccklbnncaeoaaGreat
open Go.RowKit
set_option linter.unusedVariables false
set_option linter.unusedSimpArgs false
/-- What a page's bytes are when it is brought in. -/
def ldz (q : Gf) (bits k : Nat) : List Int := splice (List.replicate (2 ^ bits) 0) 0 (rdz q (k * 2 ^ bits) (2 ^ bits))
theorem ldz_len (q : Gf) (bits k : Nat) : (ldz q bits k).length = 2 ^ bits := by
  have : (rdz q (k * 2 ^ bits) (2 ^ bits)).length ≤ 2 ^ bits := by unfold rdz; simp; omega
  unfold ldz splice
  simp
  omega
theorem pow_le (bits : Nat) (h : 9 ≤ bits ∧ bits ≤ 16) : 512 ≤ 2 ^ bits ∧ 2 ^ bits ≤ 65536 := by
  obtain ⟨h1, h2⟩ := h
  have a := Nat.pow_le_pow_right (n := 2) (by omega) h1
  have b := Nat.pow_le_pow_right (n := 2) (by omega) h2
  exact ⟨by simpa using a, by simpa using b⟩
section
variable {S : ByteArray} {g bits room Q N : Nat} {G : Gc} {q : Gf} {ft : List (Int × Int)} {F : Nat → Prop} {w : World}
set_option maxRecDepth 100000 in
set_option maxHeartbeats 4000000 in
theorem load_any (h : Cv S g bits room Q N G q ft F w) (k : Nat) (hk : k < 268435456 / 2 ^ bits) :
    Calls Tryz.prog 144 #[ptr Q, .int .i64 k] w fun e w' => ∃ b, w.heap.size ≤ b ∧ e = .returned (.tuple #[.slice (some ⟨b, 0, none⟩) (2 ^ bits) (2 ^ bits), .int .i64 0]) ∧ Rw .u8 5 w' b (ldz q bits k) ∧ Kp (fun _ => False) w w' := by
  have hp := pow_le bits h.bb
  have hkm : k * 2 ^ bits ≤ 268435456 := by
    have := Nat.div_mul_le_self 268435456 (2 ^ bits)
    have h2 : k * 2 ^ bits ≤ 268435456 / 2 ^ bits * 2 ^ bits := Nat.mul_le_mul_right _ (by omega)
    omega
  have hlz := ldz_len q bits k
  obtain ⟨Z, hZ⟩ : ∃ Z, ldz q bits k = Z := ⟨_, rfl⟩
  have hZ2 := hZ
  unfold ldz at hZ2
  have HP : Hid (∀ U, Kp (fun _ => False) w U → Calls Tryz.prog 116 #[ptr Q, .int .i64 k] U fun e w' => e = .returned (.int .i64 ((k * 2 ^ bits : Nat) : Int)) ∧ w' = U) := fun U kU => place_any U Q bits k h.bb.2 hkm ((by have := (h.cm.kp0 kU).st.cell 2; simpa using this))
  have HR : Hid (∀ U, Kp (fun _ => False) w U → Calls Tryz.prog 31 #[ptr g, .string S, .int .i64 ((k * 2 ^ bits : Nat) : Int), .int .i64 ((2 ^ bits : Nat) : Int)] U (RdW U q (k * 2 ^ bits) (2 ^ bits))) := fun U kU => read_w (h.sw.kp0 kU) _ _
  have z0 := h.cm.st.cell 0
  have z1 := h.cm.st.cell 1
  have z2 := h.cm.st.cell 2
  simp at z0 z1 z2
  rw [hZ] at hlz ⊢
  have hmin : min bits 64 = bits := Nat.min_eq_left (by have := h.bb; omega)
  have hsh : wrap64 ((2 : Int) ^ bits) = ((2 ^ bits : Nat) : Int) := by
    rw [show ((2 : Int) ^ bits) = ((2 ^ bits : Nat) : Int) by simp]
    unfold wrap64
    omega
  have HW : Hid (ldz q bits k = Z) := hZ
  have HZ2 := hid hZ2
  clear hZ hZ2
  obtain ⟨m, hm⟩ : ∃ m, 2 ^ bits = m := ⟨_, rfl⟩
  obtain ⟨p, hpp⟩ : ∃ p, k * m = p := ⟨_, rfl⟩
  rw [hm] at hp hkm hlz hsh HP HR HZ2 ⊢
  rw [hpp] at hkm HP HR HZ2
  clear h hk
  have hb16 : m ≤ 17592186044416 := by omega
  unfold ptr at *
  go_enter Tryz.func144, Tryz.ntmps144
  go_wp2_with (first | (at_make; refine wpList_make_rw (κ := .u8) 47 5 1 Tryz.underlying47 Tryz.info5 (by decide) rfl _ _ rfl m (by go_simp <;> exact hsh) (by go_simp <;> exact hsh) hb16 ?_; intro w1 r1 b1; have R1 : Hid (Rw .u8 5 w1 w.heap.size (List.replicate m 0)) := r1; have K1 : Hid (Kp (fun _ => False) w w1) := Kp.of_below b1; replace z0 := K1.out.cell z0; replace z1 := K1.out.cell z1; replace z2 := K1.out.cell z2; clear r1 b1))
  have HM := hid hp
  clear hp
  refine (wpIn_wide (n := 3)).1 ?_
  refine wpIn_region_rest 13 hmix (by kernel_rfl) (by decide) ?_
  dsimp only [List.take]
  repeat (gi_big_quiet_step (fail))
  refine wpQuietIn_step (fun _ _ _ _ => trivial) (fun K hK => ?_)
  go_simp
  apply Exists.intro
  refine ⟨fun n => ?_, hK _ ?_⟩
  · exact CallsIn.quiet_of_same (callsIn_wide.2 (HP.out _ (K1.out.trans (drewN_kp _ _ _) (fun _ _ h => h))))
  clear hK K
  repeat (gi_big_quiet_step (fail))
  refine wpQuietIn_nil ?_
  intro U hU
  obtain ⟨nq, hU2⟩ := hU
  subst hU2
  have K2 : Hid (Kp (fun _ => False) w (w1.drewN nq)) := K1.out.trans (drewN_kp _ _ _) (fun _ _ h => h)
  refine anyIn_one (i := 13) (fuel := 5) (by kernel_rfl) rfl ?_
  gi_wp2_with fail
  refine ⟨trivial, (callsIn_wide.2 (HR.out _ K2.out)).mono ?_⟩
  rintro _ w2 ⟨k2, hb⟩
  have K3 : Hid (Kp (fun _ => False) w w2) := K2.out.trans k2 (fun _ _ h => h)
  have R3 : Hid (Rw .u8 5 w2 w.heap.size (List.replicate m 0)) := (R1.out.kp (drewN_kp (fun _ => False) _ nq) (fun h => h)).kp k2 (fun h => h)
  clear k2 R1 K1 K2 z0 z1 z2 HP HR
  rcases hb with ⟨hlt, rfl⟩ | ⟨hle, b, rfl, hb1, hr⟩
  · have hz : rdz q p m = [] := by
      unfold rdz
      rw [show min m (q.sz - p) = 0 by omega]
      rfl
    rw [hz] at HZ2
    have HZ3 : Hid (splice (List.replicate m 0) 0 ([] : List Int) = Z) := HZ2.out
    have HFT : Hid (0 + ([] : List Int).length ≤ (List.replicate m (0 : Int)).length) := (by show 0 + 0 ≤ _; omega)
    clear HZ2 hlt hz
    gi_wp2_with fail
    refine anyIn_one (i := 14) (fuel := 4) (by kernel_rfl) rfl ?_
    gi_wp2_with fail
    refine anyIn_two (i := 15) (k := 16) (fuel := 3) (by kernel_rfl) rfl rfl ?_ ?_
    · gi_wp2_with fail
      refine anyIn_two (i := 16) (k := 17) (fuel := 2) (by kernel_rfl) rfl rfl ?_ ?_
      · gi_wp2_with fail
        refine anyIn_one (i := 17) (fuel := 1) (by kernel_rfl) rfl ?_
        gi_wp2_with fail
        refine anyIn_one (i := 18) (fuel := 0) (by kernel_rfl) rfl ?_
        gi_wp2_with fail
        refine ⟨by kernel_rfl, ?_⟩
        go_wp2_with (first | (refine wpList_copy_rw rfl (.tmp 39) (.tmp 40) 47 47 rfl 5 Tryz.underlying47 info5s _ _ _ _ _ _ rfl rfl w.heap.size 0 5 (List.replicate m 0) [] R3.out (by simp) (fun h => by simp at h) HFT.out ?_; intro w3 r3 g3; rw [HZ3.out] at r3; have R4 : Hid (Rw .u8 5 w3 w.heap.size Z) := r3; have K4 : Hid (Kp (fun _ => False) w w3) := K3.out.trans (Kp.of_grown (F := fun i => i = w.heap.size) g3 (fun i e => by cases e; rfl)) (fun i hi h => by omega); clear r3 g3))
        go_ret2
        exact ⟨w.heap.size, Nat.le_refl _, rfl, R4.out, K4.out⟩
      · gi_wp2_with fail
        refine anyIn_one (i := 16) (fuel := 1) (by kernel_rfl) rfl ?_
        gi_wp2_with fail
        refine anyIn_one (i := 18) (fuel := 0) (by kernel_rfl) rfl ?_
        gi_wp2_with fail
        refine ⟨by kernel_rfl, ?_⟩
        go_wp2_with (first | (refine wpList_copy_rw rfl (.tmp 39) (.tmp 40) 47 47 rfl 5 Tryz.underlying47 info5s _ _ _ _ _ _ rfl rfl w.heap.size 0 5 (List.replicate m 0) [] R3.out (by simp) (fun h => by simp at h) HFT.out ?_; intro w3 r3 g3; rw [HZ3.out] at r3; have R4 : Hid (Rw .u8 5 w3 w.heap.size Z) := r3; have K4 : Hid (Kp (fun _ => False) w w3) := K3.out.trans (Kp.of_grown (F := fun i => i = w.heap.size) g3 (fun i e => by cases e; rfl)) (fun i hi h => by omega); clear r3 g3))
        go_ret2
        exact ⟨w.heap.size, Nat.le_refl _, rfl, R4.out, K4.out⟩
    · gi_wp2_with fail
      refine anyIn_one (i := 15) (fuel := 2) (by kernel_rfl) rfl ?_
      gi_wp2_with fail
      refine anyIn_one (i := 17) (fuel := 1) (by kernel_rfl) rfl ?_
      gi_wp2_with fail
      refine anyIn_one (i := 18) (fuel := 0) (by kernel_rfl) rfl ?_
      gi_wp2_with fail
      refine ⟨by kernel_rfl, ?_⟩
      go_wp2_with (first | (refine wpList_copy_rw rfl (.tmp 39) (.tmp 40) 47 47 rfl 5 Tryz.underlying47 info5s _ _ _ _ _ _ rfl rfl w.heap.size 0 5 (List.replicate m 0) [] R3.out (by simp) (fun h => by simp at h) HFT.out ?_; intro w3 r3 g3; rw [HZ3.out] at r3; have R4 : Hid (Rw .u8 5 w3 w.heap.size Z) := r3; have K4 : Hid (Kp (fun _ => False) w w3) := K3.out.trans (Kp.of_grown (F := fun i => i = w.heap.size) g3 (fun i e => by cases e; rfl)) (fun i hi h => by omega); clear r3 g3))
      go_ret2
      exact ⟨w.heap.size, Nat.le_refl _, rfl, R4.out, K4.out⟩
  · have hzl : (rdz q p m).length ≤ m := by unfold rdz; simp; omega
    obtain ⟨zs, hz⟩ : ∃ zs, rdz q p m = zs := ⟨_, rfl⟩
    rw [hz] at HZ2 hr hzl ⊢
    have HZ3 : Hid (splice (List.replicate m 0) 0 zs = Z) := HZ2.out
    have HFT : Hid (0 + zs.length ≤ (List.replicate m (0 : Int)).length) := (by show 0 + zs.length ≤ _; simp; omega)
    have HLN : Hid (zs.length = Nat.min zs.length m) := (Nat.min_eq_left hzl).symm
    have HRS : Hid (∀ j, j < zs.length → w2.cell? ⟨b, j, none⟩ = some (.int .u8 (zs.getD j 0))) := fun j hj => by have := hr.cells j hj; rw [Nat.zero_add] at this; exact this
    clear HZ2 hz hr hb1 hle
    gi_wp2_with fail
    refine anyIn_one (i := 14) (fuel := 4) (by kernel_rfl) rfl ?_
    gi_wp2_with fail
    refine anyIn_two (i := 15) (k := 16) (fuel := 3) (by kernel_rfl) rfl rfl ?_ ?_
    · gi_wp2_with fail
      refine anyIn_two (i := 16) (k := 17) (fuel := 2) (by kernel_rfl) rfl rfl ?_ ?_
      · gi_wp2_with fail
        refine anyIn_one (i := 17) (fuel := 1) (by kernel_rfl) rfl ?_
        gi_wp2_with fail
        refine anyIn_one (i := 18) (fuel := 0) (by kernel_rfl) rfl ?_
        gi_wp2_with fail
        refine ⟨by kernel_rfl, ?_⟩
        go_wp2_with (first | (refine wpList_copy_rw rfl (.tmp 39) (.tmp 40) 47 47 rfl 5 Tryz.underlying47 info5s _ _ _ _ _ _ rfl rfl w.heap.size 0 5 (List.replicate m 0) zs R3.out HLN.out (fun _ => ⟨rfl, _, rfl, fun j hj => by rw [add_z]; exact HRS.out j hj⟩) HFT.out ?_; intro w3 r3 g3; rw [HZ3.out] at r3; have R4 : Hid (Rw .u8 5 w3 w.heap.size Z) := r3; have K4 : Hid (Kp (fun _ => False) w w3) := K3.out.trans (Kp.of_grown (F := fun i => i = w.heap.size) g3 (fun i e => by cases e; rfl)) (fun i hi h => by omega); clear r3 g3))
        go_ret2
        exact ⟨w.heap.size, Nat.le_refl _, rfl, R4.out, K4.out⟩
      · gi_wp2_with fail
        refine anyIn_one (i := 16) (fuel := 1) (by kernel_rfl) rfl ?_
        gi_wp2_with fail
        refine anyIn_one (i := 18) (fuel := 0) (by kernel_rfl) rfl ?_
        gi_wp2_with fail
        refine ⟨by kernel_rfl, ?_⟩
        go_wp2_with (first | (refine wpList_copy_rw rfl (.tmp 39) (.tmp 40) 47 47 rfl 5 Tryz.underlying47 info5s _ _ _ _ _ _ rfl rfl w.heap.size 0 5 (List.replicate m 0) zs R3.out HLN.out (fun _ => ⟨rfl, _, rfl, fun j hj => by rw [add_z]; exact HRS.out j hj⟩) HFT.out ?_; intro w3 r3 g3; rw [HZ3.out] at r3; have R4 : Hid (Rw .u8 5 w3 w.heap.size Z) := r3; have K4 : Hid (Kp (fun _ => False) w w3) := K3.out.trans (Kp.of_grown (F := fun i => i = w.heap.size) g3 (fun i e => by cases e; rfl)) (fun i hi h => by omega); clear r3 g3))
        go_ret2
        exact ⟨w.heap.size, Nat.le_refl _, rfl, R4.out, K4.out⟩
    · gi_wp2_with fail
      refine anyIn_one (i := 15) (fuel := 2) (by kernel_rfl) rfl ?_
      gi_wp2_with fail
      refine anyIn_one (i := 17) (fuel := 1) (by kernel_rfl) rfl ?_
      gi_wp2_with fail
      refine anyIn_one (i := 18) (fuel := 0) (by kernel_rfl) rfl ?_
      gi_wp2_with fail
      refine ⟨by kernel_rfl, ?_⟩
      go_wp2_with (first | (refine wpList_copy_rw rfl (.tmp 39) (.tmp 40) 47 47 rfl 5 Tryz.underlying47 info5s _ _ _ _ _ _ rfl rfl w.heap.size 0 5 (List.replicate m 0) zs R3.out HLN.out (fun _ => ⟨rfl, _, rfl, fun j hj => by rw [add_z]; exact HRS.out j hj⟩) HFT.out ?_; intro w3 r3 g3; rw [HZ3.out] at r3; have R4 : Hid (Rw .u8 5 w3 w.heap.size Z) := r3; have K4 : Hid (Kp (fun _ => False) w w3) := K3.out.trans (Kp.of_grown (F := fun i => i = w.heap.size) g3 (fun i e => by cases e; rfl)) (fun i hi h => by omega); clear r3 g3))
      go_ret2
      exact ⟨w.heap.size, Nat.le_refl _, rfl, R4.out, K4.out⟩
end
end Go.Proofs.YtnccklbnncaeoaaGreat
/- cache: letGo over a whole cache, makeRoom. -/
namespace Go.Proofs.YtnccklbnncaeoaaGreat
open Go.RowKit
set_option linter.unusedVariables false
set_option linter.unusedSimpArgs false
/-- What letting go of a page leaves. -/
def gLet (G : Gc) (lv : Value) (M : List Nat) (b : Nat) : Gc := gSet (gBare { G with lv := lv, L := M } b) b
theorem bare_c (G : Gc) (b a : Nat) : ((gBare G b).c a).n = (G.c a).n ∧ ((gBare G b).c a).pe = (G.c a).pe ∧ ((gBare G b).c a).tk = (G.c a).tk ∧ ((gBare G b).c a).di = (if a = b then false else (G.c a).di) := by
  show (upd G.c b _ a).n = _ ∧ (upd G.c b _ a).pe = _ ∧ (upd G.c b _ a).tk = _ ∧ (upd G.c b _ a).di = _
  unfold upd
  by_cases e : a = b
  · subst e
    simp
  · simp [e]
theorem bare_y (G : Gc) (b a : Nat) : (gBare G b).y a = if a = b then none else G.y a := rfl
section
variable {S : ByteArray} {g bits room Q N : Nat} {G : Gc} {q : Gf} {ft : List (Int × Int)} {F : Nat → Prop} {w : World}
theorem Iv.bare {G : Gc} (h : Iv G) (hn : G.L.Nodup) (lv : Value) (M : List Nat) (b : Nat) (hp : (b :: M).Perm G.L) (hh : Hpd (gBare G b).c M) (ho : Op G) : Iv (gBare { G with lv := lv, L := M } b) ∧ Opx (gBare { G with lv := lv, L := M } b) b := by
  have hnd := List.nodup_cons.1 (hp.nodup_iff.2 hn)
  have hm : ∀ a, a ∈ M ↔ a ∈ G.L ∧ a ≠ b := fun a => by
    constructor
    · intro ha
      exact ⟨hp.mem_iff.1 (List.mem_cons_of_mem _ ha), fun e => hnd.1 (e ▸ ha)⟩
    · rintro ⟨ha, hne⟩
      exact (List.mem_cons.1 (hp.mem_iff.2 ha)).resolve_left hne
  refine ⟨⟨h.wk, h.wr, h.rk, h.kb, fun a => ?_, fun a ha => h.ll a ((hm a).1 ha).1, fun a ha hpe => h.pk a ha (by rw [← (bare_c G b a).2.1]; exact hpe), fun a ha hd => ?_, hh⟩, fun x a ha hne => ?_⟩
  · show a ∈ M ↔ a ∈ G.B ∧ (if a = b then none else G.y a) ≠ none
    rw [hm a, h.lk a]
    by_cases e : a = b
    · simp [e]
    · simp [e]
  · have h2 := (bare_c G b a).2.2.2
    have hd2 : ((gBare G b).c a).di = true := hd
    rw [h2] at hd2
    split at hd2
    · cases hd2
    · rename_i e
      exact (hm a).2 ⟨h.dk a ha hd2, e⟩
  · have h2 := bare_c G b a
    show ((gBare G b).c a).di = true ∨ ((gBare G b).c a).pe = true
    rw [h2.2.1, h2.2.2.2, if_neg hne]
    exact ho x a ha
theorem letgo_cv (h : Cv S g bits room Q N G q ft F w) (b : Nat) (hb : b ∈ G.L) :
    Calls Tryz.prog 86 #[ptr Q, ptr b] w fun e w' => e = .returned (.tuple #[]) ∧ ∃ lv M, (b :: M).Perm G.L ∧ Cv S g bits room Q N (gLet G lv M b) q ft F w' ∧ Cch Q G (gLet G lv M b) F F w w' := by
  have hrr := h.rr
  have hlr := h.lr
  refine (letgo_any h.cm b (h.iv.ll b hb) hb h.iv.hp (by omega) (h.iv.rset b)).mono ?_
  rintro e w' ⟨rfl, lv, M, hp, hh, hcm, hk, hfc⟩
  obtain ⟨i1, o1⟩ := h.iv.bare h.cm.ln.nodup lv M b hp hh h.op
  obtain ⟨i2, o2, le⟩ := i1.set b (h.cm.lb b hb) o1
  have hs := set_wpR (gBare { G with lv := lv, L := M } b) b
  have hc : ∀ a, (gLet G lv M b).c a = (gBare G b).c a := fun a => congrFun hs.1 a
  have hP : (gLet G lv M b).P = G.P := hs.2.1
  have hB : (gLet G lv M b).B = G.B := le.B
  have hL : (gLet G lv M b).L = M := le.L
  have hy : (gLet G lv M b).y = (gBare G b).y := le.y
  have ht : (gLet G lv M b).t = G.t := le.t
  have h1 : (gLet G lv M b).n1 = G.n1 := le.n1
  have h2 : (gLet G lv M b).n2 = G.n2 := le.n2
  have h3 : (gLet G lv M b).n3 = G.n3 := le.n3
  have h4 : (gLet G lv M b).n4 = G.n4 := hs.2.2.2
  refine ⟨rfl, lv, M, hp, ⟨hcm, h.sw.kp hk (fun i hi hf => h.ap i hf hi), fun i hi hf => ?_, i2, o2, fun a ha => ?_, by rw [hP]; exact h.pn, by rw [h3, h4]; exact h.nn, by rw [h1, h2, ht]; exact h.tt, fun a ha => ?_, fun a ha => ?_, fun a ha i zs e => ?_, ?_, h.bb, h.rr⟩, hk.mono (fun i _ e => .inl e), hfc, fun i hi => .inl hi⟩
  · rcases hfc i hi with e | e
    · exact h.ap i e hf
    · have := h.sw.lt hf; omega
  · rw [hP] at ha
    rw [hc a, (bare_c G b a).2.1]
    exact h.pp a ha
  · rw [hB] at ha
    rw [hc a, (bare_c G b a).2.2.1, ht]
    exact h.tk a ha
  · rw [hB] at ha
    rw [hc a, (bare_c G b a).1]
    exact h.nb a ha
  · rw [hB] at ha
    rw [hy, bare_y] at e
    split at e
    · cases e
    · exact h.yl a ha i zs e
  · rw [hL]
    have := hp.length_eq
    simp at this
    omega
/-- What making room leaves. -/
def Mk (S : ByteArray) (g bits room Q N : Nat) (G : Gc) (q : Gf) (ft : List (Int × Int)) (F : Nat → Prop) (w : World) (e : Ending) (w' : World) : Prop :=
  if G.L.length < room then e = .returned (.int .i64 0) ∧ Kp (fun _ => False) w w' else
  ∃ z k G' q' ft' F', e = .returned (.int .i64 z) ∧ Out bits k ⟨G, q, ft⟩ z ⟨G', q', ft'⟩ ∧ k + mu G' ≤ mu G + (if z = 0 then 0 else 2) ∧ if z = 0 then (G'.c (G.L.getD 0 0)).di = false ∧ ∃ lv M, (G.L.getD 0 0 :: M).Perm G'.L ∧ Cv S g bits room Q (N + k) (gLet G' lv M (G.L.getD 0 0)) q' ft' F' w' ∧ Cch Q G (gLet G' lv M (G.L.getD 0 0)) F F' w w'
    else Cv S g bits room Q (N + k) G' q' ft' F' w' ∧ Cch Q G G' F F' w w'
set_option maxRecDepth 100000 in
set_option maxHeartbeats 4000000 in
theorem makeroom_any (h : Cv S g bits room Q N G q ft F w) (hN : N + mu G + 2 ≤ 9000) :
    Calls Tryz.prog 143 #[ptr Q] w (Mk S g bits room Q N G q ft F w) := by
  have z3 := h.cm.st.cell 3
  have z5 := h.cm.st.cell 5
  simp at z3 z5
  have hrr := h.rr
  have hlr := h.lr
  have HL : Hid (∀ n, Calls Tryz.prog 180 #[ptr G.kl] (w.drewN n) fun e w' => e = .returned (.int .i64 G.L.length) ∧ w' = w.drewN n) := fun n => len_any G.c (w.drewN n) 0 G.kl G.lv G.L (h.cm.ln.kp0 (drewN_kp _ _ _))
  unfold Mk
  by_cases hr : G.L.length < room
  · simp only [if_pos hr]
    have hd : decide ((G.L.length : Int) < (room : Int)) = true := by simp; omega
    clear h
    unfold ptr at *
    go_enter Tryz.func143, Tryz.ntmps143
    go_wp2_with (fail)
    go_quiet (first | (go_at_call 180; refine Calls.quiet_of_same (HL.out _)))
    go_wp2_with (fail)
    go_ret
    exact ⟨rfl, drewN_kp _ _ _⟩
  · simp only [if_neg hr]
    have hd : decide ((G.L.length : Int) < (room : Int)) = false := by simp; omega
    have h0 : 0 < G.L.length := by omega
    have HF : Hid (∀ n, Calls Tryz.prog 181 #[ptr G.kl] (w.drewN n) fun e w' => e = .returned (ptr (G.L.getD 0 0)) ∧ w' = w.drewN n) := fun n => first_any (h.cm.kp0 (drewN_kp _ _ _)) h0
    have hbL : G.L.getD 0 0 ∈ G.L := gn_mem h0
    obtain ⟨b, hb⟩ : ∃ b, G.L.getD 0 0 = b := ⟨_, rfl⟩
    rw [hb] at hbL HF ⊢
    have HE : Hid (∀ n, Calls Tryz.prog 71 #[.func (.func 72) #[ptr Q] #[], .slice (some ⟨w.heap.size, 0, none⟩) 1 1] ((w.drewN n).alloc (.cells #[ptr b] 138)) (Bk S g bits room Q N G q ft F (w.drewN n) [b])) := fun n => by
      have e : (w.drewN n).heap.size = w.heap.size := by simp
      rw [← e]
      exact each1_any (h.kp0 (drewN_kp _ _ _)) b (h.cm.lb b hbL) hN
    have HH := hid h
    have HBL := hid hbL
    clear h hb
    unfold ptr at *
    go_enter Tryz.func143, Tryz.ntmps143
    go_wp2_with (fail)
    go_quiet (first | (go_at_call 180; refine Calls.quiet_of_same (HL.out _)))
    replace z5 := (drewN_kp (fun _ => False) w nq).cell z5
    go_wp2_with (first
      | (go_at_call 181; refine (HF.out nq).mono ?_; rintro e w' ⟨rfl, h⟩; replace h := h.symm; subst h))
    refine (HE.out nq).mono ?_
    rintro _ w1 ⟨z, k, G', q', ft', F', rfl, H1, H2, H3, H4, H5⟩
    have HV := hid H1
    have HC := hid (Cch.pre (drewN_kp _ _ _) H2)
    have HO := hid H3
    have HB := hid H4
    have HD := hid H5
    have hbL' : b ∈ G'.L := by
      have := H3.stb.L
      exact (List.Perm.mem_iff this).2 HBL.out
    have HG := hid (letgo_cv H1 b hbL')
    clear H1 H2 H3 H4 H5 HE HF HL z5 z3 hbL'
    unfold ptr at HG
    by_cases hz : z = 0
    · subst hz
      go_wp2_with (first
        | (go_at_call 86; refine HG.out.mono ?_; rintro _ w2 ⟨rfl, lv, M, G1, G2, G3⟩))
      go_ret
      refine ⟨0, k, G', q', ft', F', rfl, HO.out, HB.out, ?_⟩
      rw [if_pos rfl]
      exact ⟨HD.out (by first | rfl | trivial) b (by simp), lv, M, G1, G2, HC.out.trans G3⟩
    · have hz2 : decide (z = 0) = false := by simpa using hz
      go_wp2_with (fail)
      all_goals
        go_ret
        refine ⟨z, k, G', q', ft', F', rfl, HO.out, HB.out, ?_⟩
        rw [if_neg hz]
        exact ⟨HV.out, HC.out⟩
end
end Go.Proofs.YtnccklbnncaeoaaGreat
/- cache: what bringing a page in leaves. -/
namespace Go.Proofs.YtnccklbnncaeoaaGreat
open Go.RowKit
set_option linter.unusedVariables false
set_option linter.unusedSimpArgs false
/-- The page of a number is known now. -/
def KnG (s : Nat) (G : Gc) (k b : Nat) (G2 : Gc) : Prop :=
  (nget G.c G.K k = some b ∧ G2 = G) ∨ (nget G.c G.K k = none ∧ ∃ wm rm, s ≤ b ∧ s ≤ wm ∧ s ≤ rm ∧ G2 = { gNew G b k wm rm with K := G.K ++ [b] })
/-- Its bytes are brought in. -/
def gBring (G : Gc) (b i : Nat) (Z : List Int) : Gc := { G with c := upd G.c b { G.c b with bv := .slice (some ⟨i, 0, none⟩) Z.length Z.length }, y := upd G.y b (some (i, Z)) }
section
variable {S : ByteArray} {g bits room Q N : Nat} {G : Gc} {q : Gf} {ft : List (Int × Int)} {F : Nat → Prop} {w : World}
theorem Iv.wb (h : Iv G) : (∀ b a, a ∈ G.W b → a ∈ G.B) ∧ (∀ b a, a ∈ G.R b → a ∈ G.B) :=
  ⟨fun b a ha => h.kb a (h.wk b a ha).2, fun b a ha => h.kb a (h.wk a b ((h.wr a b).2 ha)).1⟩
theorem known_any (h : Cm S g bits room Q G w) (hW : ∀ b a, a ∈ G.W b → a ∈ G.B) (hR : ∀ b a, a ∈ G.R b → a ∈ G.B) (k : Nat) :
    Calls Tryz.prog 68 #[ptr Q, .int .i64 k] w fun e w' => ∃ b G2, KnG w.heap.size G k b G2 ∧ e = .returned (ptr b) ∧ Cm S g bits room Q G2 w' ∧ Kp (fun i => i = G.pm) w w' := by
  cases hk : nget G.c G.K k with
  | none =>
    refine (known_new h hW hR k hk).mono ?_
    rintro e w' ⟨b, wm, rm, h1, h2, h3, h4, h5, h6⟩
    exact ⟨b, _, .inr ⟨hk, wm, rm, h1, h2, h3, rfl⟩, h4, h5, h6⟩
  | some b =>
    refine (known_there h k b hk).mono ?_
    rintro e w' ⟨h1, rfl⟩
    exact ⟨b, _, .inl ⟨hk, rfl⟩, h1, h, Kp.refl _ _⟩
/-- What is known of it then. -/
structure KnP (s : Nat) (G : Gc) (k b : Nat) (G2 : Gc) : Prop where
  kl : G2.kl = G.kl
  pm : G2.pm = G.pm
  lv : G2.lv = G.lv
  pv : G2.pv = G.pv
  L : G2.L = G.L
  P : G2.P = G.P
  t : G2.t = G.t
  n1 : G2.n1 = G.n1
  n2 : G2.n2 = G.n2
  n3 : G2.n3 = G.n3
  n4 : G2.n4 = G.n4
  bB : b ∈ G2.B
  bK : b ∈ G2.K
  bL : b ∉ G2.L
  y : G2.y b = none
  n : (G2.c b).n = k
  di : (G2.c b).di = false
  ne : ∀ a ∈ G.B, a ≠ b ∨ b ∈ G.B
  c : ∀ a ∈ G.B, G2.c a = G.c a
  ya : ∀ a ∈ G.B, G2.y a = G.y a
  B : ∀ a ∈ G2.B, a ∈ G.B ∨ a = b
  nw : b ∉ G.B → s ≤ b ∧ s ≤ (G2.c b).wm ∧ s ≤ (G2.c b).rm ∧ (G2.c b).pe = false ∧ (G2.c b).tk = 0
  iv : Iv G2
  op : Op G2
theorem KnG.of (hs : ∀ a ∈ G.B, a < w.heap.size) (hi : Iv G) (ho : Op G) {s k b : Nat} {G2 : Gc} (hss : w.heap.size ≤ s) (hno : ∀ a ∈ G.L, (G.c a).n ≠ k) (h : KnG s G k b G2) : KnP s G k b G2 := by
  rcases h with ⟨hg, rfl⟩ | ⟨hg, wm, rm, h1, h2, h3, rfl⟩
  · obtain ⟨hK, hn⟩ := nget_mem hg
    have hB := hi.kb b hK
    have hL : b ∉ G2.L := fun e => hno b e hn
    have hy : G2.y b = none := by
      cases e : G2.y b with
      | none => rfl
      | some x => exact absurd ((hi.lk b).2 ⟨hB, by rw [e]; simp⟩) hL
    exact ⟨rfl, rfl, rfl, rfl, rfl, rfl, rfl, rfl, rfl, rfl, rfl, hB, hK, hL, hy, hn, by
      cases e : (G2.c b).di with
      | false => rfl
      | true => exact absurd (hi.dk b hB e) hL, fun _ _ => .inr hB, fun _ _ => rfl, fun _ _ => rfl, fun a ha => .inl ha, fun e => absurd hB e, hi, ho⟩
  · have hlt : ∀ a ∈ G.B, a ≠ b := fun a ha e => by have := hs a ha; omega
    have hbB : b ∉ G.B := fun e => hlt b e rfl
    have hc : ∀ a, a ≠ b → (gNew G b k wm rm).c a = G.c a := fun a ha => upd_other _ _ ha
    have hcb : (gNew G b k wm rm).c b = pc0 k wm rm := upd_same _ _ _
    have hy : ∀ a, a ≠ b → (gNew G b k wm rm).y a = G.y a := fun a ha => upd_other _ _ ha
    have hyb : (gNew G b k wm rm).y b = none := upd_same _ _ _
    have hWb : G.W b = [] := by
      cases e : G.W b with
      | nil => rfl
      | cons a l => exact absurd (hi.kb b (hi.wk b a (by rw [e]; exact List.mem_cons_self)).1) hbB
    have hRb : G.R b = [] := by
      cases e : G.R b with
      | nil => rfl
      | cons a l => exact absurd (hi.kb b (hi.wk a b ((hi.wr a b).2 (by rw [e]; exact List.mem_cons_self))).2) hbB
    have hW : (gNew G b k wm rm).W = G.W := by show upd G.W b [] = G.W; rw [← hWb]; exact upd_self _ _
    have hR : (gNew G b k wm rm).R = G.R := by show upd G.R b [] = G.R; rw [← hRb]; exact upd_self _ _
    have hiv : Iv { gNew G b k wm rm with K := G.K ++ [b] } := by
      refine ⟨fun x a ha => ?_, fun x a => ?_, ?_, fun a ha => ?_, fun a => ?_, fun a ha => List.mem_append_left _ (hi.ll a ha), fun a ha hp => ?_, fun a ha hd => ?_, ?_⟩
      · have ha2 : a ∈ G.W x := by rw [← hW]; exact ha
        exact ⟨List.mem_append_left _ (hi.wk x a ha2).1, List.mem_append_left _ (hi.wk x a ha2).2⟩
      · show a ∈ (gNew G b k wm rm).W x ↔ x ∈ (gNew G b k wm rm).R a
        rw [hW, hR]
        exact hi.wr x a
      · show Ranked (gNew G b k wm rm).W
        rw [hW]; exact hi.rk
      · rcases List.mem_append.1 ha with ha | ha
        · exact List.mem_cons_of_mem _ (hi.kb a ha)
        · rw [List.mem_singleton.1 ha]; exact List.mem_cons_self
      · show a ∈ G.L ↔ a ∈ b :: G.B ∧ (gNew G b k wm rm).y a ≠ none
        by_cases e : a = b
        · subst e
          rw [hyb]
          exact ⟨fun ha => absurd ((hi.lk a).1 ha).1 hbB, fun ha => absurd rfl ha.2⟩
        · rw [hy a e, hi.lk a]
          simp [e]
      · rcases List.mem_cons.1 ha with rfl | ha
        · change ((gNew G a k wm rm).c a).pe = true at hp
          rw [hcb] at hp
          cases hp
        · change ((gNew G b k wm rm).c a).pe = true at hp
          rw [hc a (hlt a ha)] at hp
          exact ⟨List.mem_append_left _ (hi.pk a ha hp).1, (hi.pk a ha hp).2⟩
      · rcases List.mem_cons.1 ha with rfl | ha
        · change ((gNew G a k wm rm).c a).di = true at hd
          rw [hcb] at hd
          cases hd
        · change ((gNew G b k wm rm).c a).di = true at hd
          rw [hc a (hlt a ha)] at hd
          exact hi.dk a ha hd
      · show Hpd (gNew G b k wm rm).c G.L
        exact Hpd.congr hi.hp (fun a ha => by
          have := hc a (hlt a ((hi.lk a).1 ha).1)
          unfold key
          rw [this])
    refine ⟨rfl, rfl, rfl, rfl, rfl, rfl, rfl, rfl, rfl, rfl, rfl, List.mem_cons_self, List.mem_append_right _ (List.mem_singleton.2 rfl), fun e => hbB ((hi.lk b).1 e).1, hyb, by show ((gNew G b k wm rm).c b).n = k; rw [hcb]; rfl, by show ((gNew G b k wm rm).c b).di = false; rw [hcb]; rfl, fun a ha => .inl (hlt a ha), fun a ha => hc a (hlt a ha), fun a ha => hy a (hlt a ha), fun a ha => (List.mem_cons.1 ha).symm, fun _ => ?_, hiv, fun x a ha => ?_⟩
    · show s ≤ b ∧ s ≤ ((gNew G b k wm rm).c b).wm ∧ s ≤ ((gNew G b k wm rm).c b).rm ∧ ((gNew G b k wm rm).c b).pe = false ∧ ((gNew G b k wm rm).c b).tk = 0
      rw [hcb]
      exact ⟨h1, h2, h3, rfl, rfl⟩
    · have ha2 : a ∈ G.W x := by rw [← hW]; exact ha
      have hab := hi.kb a (hi.wk x a ha2).2
      show ((gNew G b k wm rm).c a).di = true ∨ ((gNew G b k wm rm).c a).pe = true
      rw [hc a (hlt a hab)]
      exact ho x a ha2
end
end Go.Proofs.YtnccklbnncaeoaaGreat
/- cache: a page's bytes are brought in. -/
namespace Go.Proofs.YtnccklbnncaeoaaGreat
open Go.RowKit
set_option linter.unusedVariables false
set_option linter.unusedSimpArgs false
/-- A cache over its store while a ticket is still to be drawn. -/
structure Cb (S : ByteArray) (g bits room Q N : Nat) (G : Gc) (q : Gf) (ft : List (Int × Int)) (F : Nat → Prop) (w : World) : Prop where
  cm : Cm S g bits room Q G w
  sw : Sw S g N F q ft w
  ap : ∀ i, Fc Q G i → ¬ F i
  iv : Iv G
  op : Op G
  pp : ∀ b ∈ G.P, (G.c b).pe = true
  pn : G.P.Nodup
  nn : G.n3 + G.n4 ≤ N
  tt : G.n1 + G.n2 = G.t + 1
  tk : ∀ b ∈ G.B, (G.c b).tk ≤ G.t
  nb : ∀ b ∈ G.B, (G.c b).n < 268435456 / 2 ^ bits
  yl : ∀ b ∈ G.B, ∀ i zs, G.y b = some (i, zs) → zs.length = 2 ^ bits
  lr : G.L.length ≤ room
  bb : 9 ≤ bits ∧ bits ≤ 16
  rr : 1 ≤ room ∧ room ≤ 1024
section
variable {S : ByteArray} {g bits room Q N : Nat} {G G1 G2 : Gc} {q : Gf} {ft : List (Int × Int)} {F : Nat → Prop} {w : World}
theorem bring_cm (h : Cm S g bits room Q G w) {b i : Nat} {Z : List Int} (hb : b ∈ G.B) (hbL : b ∉ G.L) (hr : Rw .u8 5 w i Z) (hf : ∀ a ∈ G.B, a ≠ b → ∀ zs', G.y a ≠ some (i, zs')) :
    Cm S g bits room Q (gBring G b i Z) (w.setCell ⟨b, 1, none⟩ (.slice (some ⟨i, 0, none⟩) Z.length Z.length)) ∧ Kp (fun j => j = b) w (w.setCell ⟨b, 1, none⟩ (.slice (some ⟨i, 0, none⟩) Z.length Z.length)) := by
  have hk : Kp (fun j => j = b) w (w.setCell ⟨b, 1, none⟩ (.slice (some ⟨i, 0, none⟩) Z.length Z.length)) := kp_setCell w b 1 _ (fun j => j = b) rfl
  refine ⟨Cm.page h (b := b) hb (p := { G.c b with bv := .slice (some ⟨i, 0, none⟩) Z.length Z.length }) (y := some (i, Z)) (fun s hs => ?_) hk rfl rfl rfl (fun e => absurd e hbL) ⟨rfl, hr.kp hk (tag_ne (rw_tag hr) (h.pt hb) (by decide))⟩ (fun j zs e a ha hab zs' => ?_), hk⟩
  · have h2 : St 142 (w.setCell ⟨b, 1, none⟩ (.slice (some ⟨i, 0, none⟩) Z.length Z.length)) b (((G.c b).cs s).set! 1 (.slice (some ⟨i, 0, none⟩) Z.length Z.length)) := St.set hs 1 _
    simpa [Pc.cs] using h2
  · cases e
    exact hf a ha hab zs'
theorem fc_bring {b i : Nat} {Z : List Int} (hb : b ∈ G.B) {j : Nat} (hj : Fc Q (gBring G b i Z) j) : Fc Q G j ∨ j = i := by
  rcases hj with e | e | e | e | e | ⟨a, ha, e⟩
  · exact .inl (.inl e)
  · exact .inl (.inr (.inl e))
  · exact .inl (.inr (.inr (.inl e)))
  · exact .inl (.inr (.inr (.inr (.inl e))))
  · exact .inl (.inr (.inr (.inr (.inr (.inl e)))))
  · have hwm : ((gBring G b i Z).c a).wm = (G.c a).wm ∧ ((gBring G b i Z).c a).rm = (G.c a).rm := by
      show (upd G.c b _ a).wm = _ ∧ (upd G.c b _ a).rm = _
      unfold upd; split
      · rename_i e; rw [e]; exact ⟨rfl, rfl⟩
      · exact ⟨rfl, rfl⟩
    rw [hwm.1, hwm.2] at e
    rcases e with e | e | e | ⟨zs, e⟩
    · exact .inl (.inr (.inr (.inr (.inr (.inr ⟨a, ha, .inl e⟩)))))
    · exact .inl (.inr (.inr (.inr (.inr (.inr ⟨a, ha, .inr (.inl e)⟩)))))
    · exact .inl (.inr (.inr (.inr (.inr (.inr ⟨a, ha, .inr (.inr (.inl e))⟩)))))
    · change upd G.y b (some (i, Z)) a = some (j, zs) at e
      unfold upd at e
      split at e
      · cases e; exact .inr rfl
      · exact .inl (.inr (.inr (.inr (.inr (.inr ⟨a, ha, .inr (.inr (.inr ⟨zs, e⟩))⟩)))))
theorem fc_kn {s k b : Nat} (hp : KnP s G k b G2) {j : Nat} (hj : Fc Q G2 j) : Fc Q G j ∨ s ≤ j := by
  rcases hj with e | e | e | e | e | ⟨a, ha, e⟩
  · exact .inl (.inl e)
  · exact .inl (.inr (.inl (by rw [← hp.kl]; exact e)))
  · exact .inl (.inr (.inr (.inl (by rw [← hp.pm]; exact e))))
  · exact .inl (.inr (.inr (.inr (.inl (by rw [← hp.lv]; exact e)))))
  · exact .inl (.inr (.inr (.inr (.inr (.inl (by rw [← hp.pv]; exact e))))))
  · by_cases hB : a ∈ G.B
    · rw [hp.c a hB, hp.ya a hB] at e
      exact .inl (.inr (.inr (.inr (.inr (.inr ⟨a, hB, e⟩)))))
    · have hab := (hp.B a ha).resolve_left hB
      subst hab
      have hn := hp.nw hB
      rw [hp.y] at e
      rcases e with e | e | e | ⟨zs, e⟩
      · exact .inr (by omega)
      · exact .inr (by omega)
      · exact .inr (by omega)
      · cases e
/-- What all of it leaves. -/
theorem bring_cb {w' : World} {s k b i : Nat} {Z : List Int} {lv : Value} {L : List Nat} (h : Cv S g bits room Q N G q ft F w) (hk : k < 268435456 / 2 ^ bits) (hroom : G.L.length < room) (hp : KnP s { G with n2 := G.n2 + 1 } k b G2) (hs : w.heap.size ≤ s) (hi : w.heap.size ≤ i) (hZ : Z.length = 2 ^ bits)
    (hL : L.Perm (b :: G.L)) (hh : Hpd (gBring G2 b i Z).c L) (hc : Cm S g bits room Q { gBring G2 b i Z with lv := lv, L := L } w') (hkp : Kp (Fc Q G) w w') (hfc : ∀ j, Fc Q { gBring G2 b i Z with lv := lv, L := L } j → Fc Q G j ∨ w.heap.size ≤ j) :
    Cb S g bits room Q N { gBring G2 b i Z with lv := lv, L := L } q ft F w' ∧ Cch Q G { gBring G2 b i Z with lv := lv, L := L } F F w w' := by
  have hcc : ∀ a, ((gBring G2 b i Z).c a).n = (G2.c a).n ∧ ((gBring G2 b i Z).c a).pe = (G2.c a).pe ∧ ((gBring G2 b i Z).c a).di = (G2.c a).di ∧ ((gBring G2 b i Z).c a).tk = (G2.c a).tk := fun a => by
    show (upd G2.c b _ a).n = _ ∧ (upd G2.c b _ a).pe = _ ∧ (upd G2.c b _ a).di = _ ∧ (upd G2.c b _ a).tk = _
    unfold upd; split
    · rename_i e; rw [e]; exact ⟨rfl, rfl, rfl, rfl⟩
    · exact ⟨rfl, rfl, rfl, rfl⟩
  have hy : ∀ a, (gBring G2 b i Z).y a = if a = b then some (i, Z) else G2.y a := fun a => rfl
  have hm : ∀ a, a ∈ L ↔ a = b ∨ a ∈ G.L := fun a => by rw [hL.mem_iff, List.mem_cons]
  have hL2 : G2.L = G.L := hp.L
  refine ⟨⟨hc, h.sw.kp hkp (fun j hj hf => h.ap j hf hj), fun j hj hf => ?_, ⟨hp.iv.wk, hp.iv.wr, hp.iv.rk, hp.iv.kb, fun a => ?_, fun a ha => ?_, fun a ha he => ?_, fun a ha hd => ?_, hh⟩, fun x a ha => ?_, fun a ha => ?_, ?_, ?_, ?_, fun a ha => ?_, fun a ha => ?_, fun a ha j zs e => ?_, ?_, h.bb, h.rr⟩, hkp.mono (fun j _ e => .inl e), hfc, fun j hj => .inl hj⟩
  · rcases hfc j hj with e | e
    · exact h.ap j e hf
    · have := h.sw.lt hf; omega
  · show a ∈ L ↔ a ∈ G2.B ∧ (gBring G2 b i Z).y a ≠ none
    rw [hm a, hy a]
    by_cases e : a = b
    · subst e
      simp [hp.bB]
    · rw [if_neg e, ← hp.iv.lk a, hL2]
      simp [e]
  · rcases (hm a).1 ha with rfl | ha
    · exact hp.bK
    · exact hp.iv.ll a (by rw [hL2]; exact ha)
  · exact hp.iv.pk a ha (by rw [← (hcc a).2.1]; exact he)
  · refine (hm a).2 (.inr ?_)
    rw [← hL2]
    exact hp.iv.dk a ha (by rw [← (hcc a).2.2.1]; exact hd)
  · show ((gBring G2 b i Z).c a).di = true ∨ ((gBring G2 b i Z).c a).pe = true
    rw [(hcc a).2.1, (hcc a).2.2.1]
    exact hp.op x a ha
  · show ((gBring G2 b i Z).c a).pe = true
    rw [(hcc a).2.1]
    have ha' : a ∈ G.P := by have e := hp.P; change G2.P = G.P at e; rw [← e]; exact ha
    have hpe := h.pp a ha'
    have hc2 := hp.c a (h.cm.pb a ha')
    change G2.c a = G.c a at hc2
    rw [hc2]
    exact hpe
  · have e := hp.P
    change G2.P = G.P at e
    show G2.P.Nodup
    rw [e]; exact h.pn
  · have e3 := hp.n3
    have e4 := hp.n4
    change G2.n3 = G.n3 at e3
    change G2.n4 = G.n4 at e4
    show G2.n3 + G2.n4 ≤ N
    rw [e3, e4]; exact h.nn
  · have e1 := hp.n1
    have e2 := hp.n2
    have e3 := hp.t
    change G2.n1 = G.n1 at e1
    change G2.n2 = G.n2 + 1 at e2
    change G2.t = G.t at e3
    show G2.n1 + G2.n2 = G2.t + 1
    have := h.tt
    omega
  · show ((gBring G2 b i Z).c a).tk ≤ G2.t
    have e3 := hp.t
    change G2.t = G.t at e3
    rw [(hcc a).2.2.2, e3]
    by_cases hB : a ∈ G.B
    · have hc2 := hp.c a hB
      change G2.c a = G.c a at hc2
      rw [hc2]; exact h.tk a hB
    · have hab := (hp.B a ha).resolve_left hB
      subst hab
      rw [(hp.nw hB).2.2.2.2]; omega
  · show ((gBring G2 b i Z).c a).n < _
    rw [(hcc a).1]
    rcases hp.B a ha with hB | rfl
    · have hc2 := hp.c a hB
      change G2.c a = G.c a at hc2
      rw [hc2]; exact h.nb a hB
    · rw [hp.n]; exact hk
  · have e' : (gBring G2 b i Z).y a = some (j, zs) := e
    rw [hy a] at e'
    split at e'
    · cases e'; exact hZ
    · rename_i hab
      have hB := (hp.B a ha).resolve_right hab
      have hya := hp.ya a hB
      change G2.y a = G.y a at hya
      rw [hya] at e'
      exact h.yl a hB j zs e'
  · show L.length ≤ room
    have := hL.length_eq
    simp at this
    omega
end
end Go.Proofs.YtnccklbnncaeoaaGreat
/- cache: bringIn. -/
namespace Go.Proofs.YtnccklbnncaeoaaGreat
open Go.RowKit
set_option linter.unusedVariables false
set_option linter.unusedSimpArgs false
/-- Room was made. -/
def RmG (bits room k : Nat) (G : Gc) (q : Gf) (ft : List (Int × Int)) (G1 : Gc) (q1 : Gf) (ft1 : List (Int × Int)) : Prop :=
  (G.L.length < room ∧ k = 0 ∧ G1 = G ∧ q1 = q ∧ ft1 = ft) ∨
  (¬ G.L.length < room ∧ ∃ G', Out bits k ⟨G, q, ft⟩ 0 ⟨G', q1, ft1⟩ ∧ k + mu G' ≤ mu G ∧ (G'.c (G.L.getD 0 0)).di = false ∧ ∃ lv M, (G.L.getD 0 0 :: M).Perm G'.L ∧ G1 = gLet G' lv M (G.L.getD 0 0))
section
variable {S : ByteArray} {g bits room Q N : Nat} {G G1 : Gc} {q q1 : Gf} {ft ft1 : List (Int × Int)} {F : Nat → Prop} {w : World}
theorem let_c (G : Gc) (lv : Value) (M : List Nat) (b : Nat) (a : Nat) : (gLet G lv M b).c a = (gBare G b).c a := congrFun (set_wpR (gBare { G with lv := lv, L := M } b) b).1 a
theorem set_L (G : Gc) (b : Nat) : (gSet G b).L = G.L := by
  unfold gSet
  split
  · exact (les_forget G b).L
  · exact (les_forget { gS G b (G.R b) with R := upd G.R b [] } b).L
theorem set_t (G : Gc) (b : Nat) : (gSet G b).t = G.t := by
  unfold gSet
  split
  · exact (les_forget G b).t
  · exact (les_forget { gS G b (G.R b) with R := upd G.R b [] } b).t
theorem let_L (G : Gc) (lv : Value) (M : List Nat) (b : Nat) : (gLet G lv M b).L = M := set_L _ _
theorem let_t (G : Gc) (lv : Value) (M : List Nat) (b : Nat) : (gLet G lv M b).t = G.t := set_t _ _
/-- What was not kept is not kept then. -/
theorem RmG.no {k0 : Nat} (h : RmG bits room k0 G q ft G1 q1 ft1) {k : Nat} (hn : ∀ a ∈ G.L, (G.c a).n ≠ k) : ∀ a ∈ G1.L, (G1.c a).n ≠ k := by
  rcases h with ⟨_, _, rfl, _, _⟩ | ⟨_, G', ho, _, _, lv, M, hp, he⟩
  · exact hn
  · intro a ha
    rw [he, let_L] at ha
    have ha' : a ∈ G'.L := hp.mem_iff.1 (List.mem_cons_of_mem _ ha)
    have hst := ho.stb
    have hG : a ∈ G.L := (List.Perm.mem_iff hst.L).1 ha'
    rw [he, let_c, (bare_c G' _ a).1, (hst.c a).1]
    exact hn a hG
theorem RmG.t {k0 : Nat} (h : RmG bits room k0 G q ft G1 q1 ft1) : G1.t = G.t := by
  rcases h with ⟨_, _, rfl, _, _⟩ | ⟨_, G', ho, _, _, lv, M, hp, he⟩
  · rfl
  · rw [he, let_t]; exact ho.stb.t
theorem room_any (h : Cv S g bits room Q N G q ft F w) (hN : N + mu G + 2 ≤ 9000) :
    Calls Tryz.prog 143 #[ptr Q] w fun e w' => ∃ z k1 G1 q1 ft1 F1, e = .returned (.int .i64 z) ∧ Cv S g bits room Q (N + k1) G1 q1 ft1 F1 w' ∧ Cch Q G G1 F F1 w w' ∧
      ((z ≠ 0 ∧ Out bits k1 ⟨G, q, ft⟩ z ⟨G1, q1, ft1⟩ ∧ k1 + mu G1 ≤ mu G + 2) ∨ (z = 0 ∧ RmG bits room k1 G q ft G1 q1 ft1 ∧ G1.L.length < room)) := by
  refine (makeroom_any h hN).mono ?_
  intro e w' hm
  unfold Mk at hm
  split at hm
  · rename_i hr
    obtain ⟨rfl, k⟩ := hm
    exact ⟨0, 0, G, q, ft, F, rfl, h.kp0 k, (Cch.refl Q G F w).kp0 k, .inr ⟨rfl, .inl ⟨hr, rfl, rfl, rfl, rfl⟩, hr⟩⟩
  · rename_i hr
    obtain ⟨z, k, G', q', ft', F', rfl, ho, hb, hm⟩ := hm
    by_cases hz : z = 0
    · subst hz
      rw [if_pos rfl] at hm hb
      obtain ⟨hd, lv, M, hp, hc, hh⟩ := hm
      refine ⟨0, k, _, q', ft', F', rfl, hc, hh, .inr ⟨rfl, .inr ⟨hr, G', ho, by omega, hd, lv, M, hp, rfl⟩, ?_⟩⟩
      rw [let_L]
      have h1 := hp.length_eq
      have h2 := ho.stb.L.length_eq
      have h3 := h.lr
      have h4 := h.rr
      change G'.L.length = G.L.length at h2
      simp at h1
      omega
    · rw [if_neg hz] at hm hb
      exact ⟨z, k, G', q', ft', F', rfl, hm.1, hm.2, .inl ⟨hz, ho, hb⟩⟩
/-- What bringing in leaves. -/
def BrP (S : ByteArray) (g bits room Q N : Nat) (G : Gc) (q : Gf) (ft : List (Int × Int)) (F : Nat → Prop) (w : World) (k : Nat) (e : Ending) (w' : World) : Prop :=
  ∃ z k1 G1 q1 ft1 F1,
    (z ≠ 0 ∧ e = .returned (.tuple #[.pointer none, .int .i64 z]) ∧ Out bits k1 ⟨G, q, ft⟩ z ⟨G1, q1, ft1⟩ ∧ k1 + mu G1 ≤ mu G + 2 ∧ Cv S g bits room Q (N + k1) G1 q1 ft1 F1 w' ∧ Cch Q G G1 F F1 w w') ∨
    (z = 0 ∧ RmG bits room k1 G q ft G1 q1 ft1 ∧ ∃ s b G2 i lv L, w.heap.size ≤ s ∧ KnG s { G1 with n2 := G1.n2 + 1 } k b G2 ∧ KnP s { G1 with n2 := G1.n2 + 1 } k b G2 ∧ L.Perm (b :: G1.L) ∧ w.heap.size ≤ i ∧ e = .returned (.tuple #[ptr b, .int .i64 0]) ∧
      Cb S g bits room Q (N + k1) { gBring G2 b i (ldz q1 bits k) with lv := lv, L := L } q1 ft1 F1 w' ∧ Cch Q G { gBring G2 b i (ldz q1 bits k) with lv := lv, L := L } F F1 w w')
set_option maxRecDepth 100000 in
set_option maxHeartbeats 4000000 in
theorem bringin_any (h : Cv S g bits room Q N G q ft F w) (k : Nat) (hk : k < 268435456 / 2 ^ bits) (hno : kget G k = none) (hN : N + mu G + 2 ≤ 9000) (ht : G.t < 1000000000000) :
    Calls Tryz.prog 109 #[ptr Q, .int .i64 k] w (BrP S g bits room Q N G q ft F w k) := by
  have HR := hid (room_any h hN)
  have HNO := hid (h.kget_none hno)
  clear h hno
  unfold ptr at HR
  unfold ptr
  go_enter Tryz.func109, Tryz.ntmps109
  go_wp2_with fail
  refine HR.out.mono ?_
  rintro _ w1 ⟨z, k1, G1, q1, ft1, F1, rfl, hv, hc, hor⟩
  have HC := hid hc
  clear HR hc
  by_cases hz : z = 0
  · have hor2 : RmG bits room k1 G q ft G1 q1 ft1 ∧ G1.L.length < room := by
      rcases hor with ⟨h, _⟩ | ⟨_, h⟩
      · exact absurd hz h
      · exact h
    clear hor
    subst hz
    have HRM := hid hor2.1
    have HRL := hid hor2.2
    have hno1 := HRM.out.no HNO.out
    have ht1 := HRM.out.t
    have htt := hv.tt
    have hn2 : G1.n2 < 1000000000000 := by omega
    have HLD := hid (load_any hv k hk)
    have HV := hid hv
    have HN1 := hid hno1
    clear hor2 hno1 hv htt ht1 HNO
    unfold ptr at HLD
    go_wp2_with fail
    refine HLD.out.mono ?_
    rintro _ w2 ⟨i, hi, rfl, hr, k2⟩
    have hcm := HV.out.cm.kp0 k2
    have z9 := hcm.st.cell 9
    have f9 := hcm.st.frozen 9
    simp at z9
    have HCM := hid hcm
    have HI := hid hi
    have HR2 := hid hr
    have K2 := hid k2
    clear hcm hi hr k2 HLD
    go_wp2_with fail
    have hcm3 : Cm S g bits room Q { G1 with n2 := G1.n2 + 1 } (w2.setCell ⟨Q, 9, none⟩ (.int .i64 ((G1.n2 : Int) + 1))) := by
      refine Cm.nums HCM.out (w' := w2.setCell ⟨Q, 9, none⟩ (.int .i64 ((G1.n2 : Int) + 1))) ?_ (kp_setCell w2 Q 9 _ (fun i => i = Q) rfl)
      have h2 := St.set HCM.out.st 9 (.int .i64 ((G1.n2 : Int) + 1))
      simpa [ptr] using h2
    have k3 : Kp (fun j => j = Q) w2 (w2.setCell ⟨Q, 9, none⟩ (.int .i64 ((G1.n2 : Int) + 1))) := kp_setCell w2 Q 9 _ (fun i => i = Q) rfl
    have r3 := HR2.out.kp k3 (fun e => tag_ne (rw_tag HR2.out) HCM.out.st.tag (by decide) e)
    generalize w2.setCell ⟨Q, 9, none⟩ (.int .i64 ((G1.n2 : Int) + 1)) = w3 at hcm3 k3 r3 ⊢
    have hkn := known_any hcm3 HV.out.iv.wb.1 HV.out.iv.wb.2 k
    unfold ptr at hkn
    refine hkn.mono ?_
    rintro _ w4 ⟨b, G2, hg, rfl, hcm4, k4⟩
    have hsz3 : w1.heap.size ≤ w3.heap.size := Nat.le_trans K2.out.size k3.size
    have hKN : KnP w3.heap.size { G1 with n2 := G1.n2 + 1 } k b G2 := KnG.of (G := { G1 with n2 := G1.n2 + 1 }) (w := w3) (fun a ha => hcm3.lt (.inr (.inr (.inr (.inr (.inr ⟨a, ha, .inl rfl⟩)))))) ⟨HV.out.iv.wk, HV.out.iv.wr, HV.out.iv.rk, HV.out.iv.kb, HV.out.iv.lk, HV.out.iv.ll, HV.out.iv.pk, HV.out.iv.dk, HV.out.iv.hp⟩ HV.out.op (Nat.le_refl _) HN1.out hg
    have r4 := r3.kp k4 (fun e => tag_ne (rw_tag r3) hcm3.ks.tag (by decide) e)
    obtain ⟨s4, hs4⟩ := (hcm4.pg b hKN.bB).wt
    have y1 : w4.cell? ⟨b, 1, none⟩ = some (G2.c b).bv := St.cell hs4 1
    have f1 : w4.frozen? ⟨b, 1, none⟩ = false := St.frozen hs4 1
    have hZl : (ldz q1 bits k).length = 2 ^ bits := ldz_len q1 bits k
    obtain ⟨hcm5, k5⟩ := bring_cm hcm4 hKN.bB hKN.bL r4 (fun a ha hab zs' e => by
      have hB := (hKN.B a ha).resolve_right hab
      have hya := hKN.ya a hB
      rw [hya] at e
      have := HV.out.cm.lt (.inr (.inr (.inr (.inr (.inr ⟨a, hB, .inr (.inr (.inr ⟨zs', e⟩))⟩)))))
      have := HI.out
      omega)
    rw [hZl] at hcm5 k5
    have z5 := hcm5.st.cell 5
    simp [gBring] at z5
    have hrr := HV.out.rr
    have hLl : (gBring G2 b i (ldz q1 bits k)).L.length < 17592186044415 := by
      have e := hKN.L
      change G2.L = G1.L at e
      show G2.L.length < _
      rw [e]; have := HRL.out; omega
    have hhp : Hpd (gBring G2 b i (ldz q1 bits k)).c (gBring G2 b i (ldz q1 bits k)).L := Hpd.congr hKN.iv.hp (fun a ha => by
      have hab : a ≠ b := fun e => hKN.bL (e ▸ ha)
      have : (gBring G2 b i (ldz q1 bits k)).c a = G2.c a := upd_other _ _ hab
      unfold key
      rw [this])
    have hmy : Mayp ((gBring G2 b i (ldz q1 bits k)).c b) := by
      have : (gBring G2 b i (ldz q1 bits k)).c b = { G2.c b with bv := .slice (some ⟨i, 0, none⟩) (ldz q1 bits k).length (ldz q1 bits k).length } := upd_same _ _ _
      rw [this]
      show (G2.c b).tk < 4611686018427387904
      by_cases hB : b ∈ G1.B
      · have e := hKN.c b hB
        change G2.c b = G1.c b at e
        rw [e]
        have := HV.out.tk b hB
        have := HV.out.tt
        have := HRM.out.t
        omega
      · rw [(hKN.nw hB).2.2.2.2]; omega
    have hadd := add_any hcm5 b hKN.bB hKN.bL hhp hmy hLl
    unfold ptr at hadd z5
    have HAD := hid hadd
    have HG := hid hg
    have HKN := hid hKN
    have K3 := hid k3
    have K4 := hid k4
    have HS3 := hid hsz3
    have K5 := hid k5
    clear hg hKN hcm3 k3 r3 hkn k4 r4 hs4 hsz3 hcm4 hadd hhp hmy hLl hcm5 k5
    go_wp2_with fail
    refine HAD.out.mono ?_
    rintro _ w6 ⟨rfl, lv, L, hpm, hhd, hcm6, k6, hfc6⟩
    go_wp2_with fail
    go_ret2
    have hsz := HC.out.kp.size
    have hsz3 := HS3.out
    have e2 := HKN.out.L
    change G2.L = G1.L at e2
    have hL : L.Perm (b :: G1.L) := by rw [← e2]; exact hpm
    have hfb : ∀ j, Fc Q (gBring G2 b i (ldz q1 bits k)) j → Fc Q G1 j ∨ w1.heap.size ≤ j := fun j hj => by
      rcases fc_bring HKN.out.bB hj with e | e
      · rcases fc_kn HKN.out e with e | e
        · exact .inl e
        · exact .inr (by omega)
      · have := HI.out
        exact .inr (by omega)
    have hz5 := K5.out.size
    have hz4 := K4.out.size
    have hkp : Kp (Fc Q G1) w1 w6 := by
      refine ((((K2.out.mono (G := Fc Q G1) (fun _ _ e => e.elim)).trans K3.out (fun j _ e => .inl e)).trans K4.out (fun j _ e => .inr (.inr (.inl e)))).trans K5.out (fun j hj e => ?_)).trans k6 (fun j hj e => ?_)
      · subst e
        by_cases hB : j ∈ G1.B
        · exact .inr (.inr (.inr (.inr (.inr ⟨j, hB, .inl rfl⟩))))
        · have := (HKN.out.nw hB).1; omega
      · rcases hfb j e with e | e
        · exact e
        · omega
    have hfc : ∀ j, Fc Q { gBring G2 b i (ldz q1 bits k) with lv := lv, L := L } j → Fc Q G1 j ∨ w1.heap.size ≤ j := fun j hj => by
      rcases hfc6 j hj with e | e
      · exact hfb j e
      · exact .inr (by omega)
    obtain ⟨cb, cch⟩ := bring_cb HV.out hk HRL.out HKN.out HS3.out HI.out (ldz_len q1 bits k) hL hhd hcm6 hkp hfc
    have hi := HI.out
    exact ⟨0, k1, G1, q1, ft1, F1, .inr ⟨rfl, HRM.out, w3.heap.size, b, G2, i, lv, L, by omega, HG.out, HKN.out, hL, by omega, rfl, cb, HC.out.trans cch⟩⟩
  · have hz2 : decide (z = 0) = false := by simpa using hz
    have hor2 : Out bits k1 ⟨G, q, ft⟩ z ⟨G1, q1, ft1⟩ ∧ k1 + mu G1 ≤ mu G + 2 := by
      rcases hor with ⟨_, h⟩ | ⟨h, _⟩
      · exact h
      · exact absurd h hz
    have HO := hid hor2
    have HV := hid hv
    clear hor hor2 hv HNO
    go_wp2_with fail
    all_goals
      go_ret2
      exact ⟨z, k1, G1, q1, ft1, F1, .inl ⟨hz, rfl, HO.out.1, HO.out.2, HV.out, HC.out⟩⟩
end
end Go.Proofs.YtnccklbnncaeoaaGreat
