import Derived.Test.YtnccklbnncaeoaaGreatJbl
import Derived.Sort.OwnSortedInts
/- cache: Pages. -/
namespace Go.Proofs.YtnccklbnncaeoaaGreat
open Go.RowKit Go.Sort Go.Shelf
set_option linter.unusedVariables false
set_option linter.unusedSimpArgs false
theorem sort_i (w : World) (base : Nat) (v : Value) (xs : List Int) (h : w.ownsRow base 2 1 v xs.length (xs.map (Value.int .i64))) (hl : xs.length ≤ 1000000) :
    Calls Tryz.prog 81 #[v] w fun e w' => e = .returned (.tuple #[]) ∧ w'.ownsRow base 2 1 v xs.length ((xs.mergeSort leI).map (Value.int .i64)) ∧ Kp (fun i => v.ownBlock = some i) w w' := by
  rcases h.2 with ⟨rfl, hz⟩ | ⟨g, cap, cur, rfl, hb, hg, r1, r2, r3, r4⟩
  · have hx : xs = [] := List.eq_nil_of_length_eq_zero hz
    subst hx
    have hcon := AnyM.slices_Sort_int_none Tryz.sortA none 0 w
    change Calls Tryz.prog 81 _ _ _ at hcon
    refine hcon.mono ?_
    rintro e w' ⟨rfl, rfl⟩
    exact ⟨rfl, by simpa using h, Kp.refl _ _⟩
  · have hH : Holds (Value.int .i64) w g 0 xs.toArray := holds_of_blockI hg (by simpa using r4)
    have hcon := AnyM.slices_Sort_int Tryz.sortA g 0 cap xs w hH (Array.getElem?_eq_some_iff.1 hg).1 (by omega)
    change Calls Tryz.prog 81 _ _ _ at hcon
    refine hcon.mono ?_
    rintro e w' ⟨rfl, n, os, rfl⟩
    refine ⟨rfl, ownsRow_sortedI (by simp) hb hg r1 r2 r3, ?_⟩
    refine ⟨rfl, rfl, rfl, ?_, fun k hk hne => ?_⟩
    · simp [grow, putRow, mapBlock, Sort.ahead]
    · have hgk : g ≠ k := fun e => hne (by rw [e]; rfl)
      simp [grow, putRow, mapBlock, Sort.ahead, Array.getElem?_append, hk, Array.getElem_modify, hgk]
theorem ownI_row {w : World} {base : Nat} {v : Value} {xs : List Int} (h : OwnI .i64 2 w base v xs) : w.ownsRow base 2 1 v xs.length (xs.map (Value.int .i64)) := by
  rcases h with ⟨rfl, rfl⟩ | ⟨g, cap, tl, rfl, h1, h2, h3, h4⟩
  · exact ⟨rfl, .inl ⟨rfl, rfl⟩⟩
  · refine ⟨by simp, .inr ⟨g, cap, _, rfl, h1, h2, by simp at h3; omega, h4, ?_, ?_⟩⟩
    · simp at h3 ⊢
      omega
    · simp
theorem inf2 : (Tryz.prog.info? 2).map (fun i => (i.zero, i.size, i.bytes)) = some (some (.int .i64 0), 1, 8) := by kernel_rfl
set_option maxHeartbeats 2000000 in
theorem vals2_any (v : Value) (w : World) (hv : ∃ ao n cap, v = .slice ao n cap) : Calls Tryz.prog 82 #[v] w fun e w' => e = .returned (.func (.func 131) #[] #[.pointer (some ⟨w.heap.size, 0, none⟩)]) ∧ w' = w.alloc (.cells #[v] 84) := by
  obtain ⟨ao, n, cap, rfl⟩ := hv
  go_enter Tryz.func82, Tryz.ntmps82
  go_wp2
  go_ret
  exact ⟨rfl, rfl⟩
section
variable {S : ByteArray} {g bits room Q N : Nat} {G : Gc} {q : Gf} {ft : List (Int × Int)} {F : Nat → Prop} {w : World}
/-- What Pages answers. -/
def PgR (G : Gc) (w : World) (e : Ending) (w' : World) : Prop := Kp (fun _ => False) w w' ∧ ∃ t v, e = .returned (.func (.func 131) #[] #[.pointer (some ⟨t, 0, none⟩)]) ∧ w.heap.size ≤ t ∧ St 84 w' t #[v] ∧ w'.ownsRow w.heap.size 2 1 v G.L.length ((sno G.c G.L).map (Value.int .i64))
set_option maxHeartbeats 8000000 in
set_option maxRecDepth 100000 in
theorem pages_any (h : Cv S g bits room Q N G q ft F w) :
    Calls Tryz.prog 33 #[ptr Q] w (PgR G w) := by
  have HN := hid h.live
  have z5 := h.cm.st.cell 5
  simp at z5
  have z0 := h.cm.ln.st.cell 0
  simp at z0
  obtain ⟨ao, cap, hlv, hlm, hrow⟩ := prow h.cm.ln.own
  rw [hlv] at z0
  have HROW := hid hrow
  have HL : Hid (G.L.length ≤ 1024) := by have := h.lr; have := h.rr; show _ ≤ _; omega
  have HC := hid h.cm
  clear h hrow hlv hlm
  unfold ptr at *
  go_enter Tryz.func33, Tryz.ntmps33
  go_wp2_with (first
    | (go_at_call 64; refine HN.out.mono ?_; rintro e w' ⟨rfl, h⟩; replace h := h.symm; subst h))
  have hL2 : G.L.length ≤ 1024 := HL.out
  clear z5 z0 HN
  go_loopw [17, 3, 5] (fun vi vv _ wr => ∃ i : Nat, vi = .int .i64 i ∧ i ≤ G.L.length ∧ OwnI .i64 2 wr w.heap.size vv ((G.L.take i).map (fun b => ((G.c b).n : Int))) ∧ Kp (fun _ => False) w wr) (fun vi _ _ _ => G.L.length - (intOf vi).toNat)
  case atStart => exact ⟨0, rfl, Nat.zero_le _, .inl ⟨rfl, rfl⟩, Kp.refl _ _⟩
  case round =>
    obtain ⟨i, rfl, hi, hown, hkp⟩ := hrel
    by_cases hlt : i < G.L.length
    · have hlt' : (i : Int) < (G.L.length : Int) := by omega
      obtain ⟨r, rfl, hri⟩ := HROW.out i hlt
      replace hri := hkp.cell hri
      obtain ⟨b, hbe⟩ : ∃ b, G.L.getD i 0 = b := ⟨_, rfl⟩
      have hbL : b ∈ G.L := hbe ▸ gn_mem hlt
      have hts := take_snoc hlt
      rw [hbe] at hri hts
      obtain ⟨s, hs⟩ := ((HC.out.kp0 hkp).pg b (HC.out.lb b hbL)).wt
      have y0 := St.cell hs 0
      simp [Pc.cs] at y0
      have HTS := hid hts
      have KA : Hid (Kp (fun _ => False) wr (wr.alloc (.cells #[.int .i64 ((G.c b).n : Int)] 2))) := (Kp.refl _ _).alloc _
      have HSRC : Hid (Src .i64 (wr.alloc (.cells #[.int .i64 ((G.c b).n : Int)] 2)) (some ⟨wr.heap.size, 0, none⟩) [((G.c b).n : Int)]) := Src.mk (fun j hj => by
        have h1 := (St.new 2 wr #[.int .i64 ((G.c b).n : Int)]).cell j
        have hj0 : j = 0 := by simpa using hj
        subst hj0
        rw [Nat.zero_add, h1]
        simp)
      have HOWN : Hid (OwnI .i64 2 (wr.alloc (.cells #[.int .i64 ((G.c b).n : Int)] 2)) w.heap.size u3 ((G.L.take i).map (fun b => ((G.c b).n : Int)))) := hown.kp KA.out (fun _ _ h => h)
      have HLN : Hid (((G.L.take i).map (fun b => ((G.c b).n : Int))).length + [((G.c b).n : Int)].length ≤ 17592186044416) := by
        have := HL.out
        show _ ≤ _
        simp
        omega
      have HKP := hid hkp
      have HI : Hid (i < G.L.length) := hlt
      have HBS : Hid (w.heap.size ≤ (wr.alloc (.cells #[.int .i64 ((G.c b).n : Int)] 2)).heap.size) := Nat.le_trans hkp.size KA.out.size
      clear hown hkp hs hts
      go_wp2_with (first | (at_builtin; refine wpList_append_i (κ := .i64) 84 2 8 Tryz.underlying84 inf2 (by decide) rfl (.tmp 21) (.tmp 26) rfl w.heap.size u3 _ rfl HOWN.out (some ⟨wr.heap.size, 0, none⟩) 1 1 [((G.c b).n : Int)] rfl rfl (fun e => by cases e) HSRC.out HLN.out HBS.out ?_; intro v' w1 h1 h2 h3 h4))
      refine ⟨⟨i + 1, by simp, by have := HI.out; omega, ?_, ?_⟩, by have := HI.out; simp [intOf]; omega⟩
      · rw [← List.map_singleton (f := fun b => ((G.c b).n : Int)), ← List.map_append, HTS.out] at h1
        exact h1
      · exact (HKP.out.trans KA.out (fun _ _ h => h)).trans (Kp.of_grown h2 (F := fun j => u3.ownBlock = some j) (fun j e => e)) (fun j hj e => by
          have := (HOWN.out.lt j e).1
          omega)
    · obtain rfl : i = G.L.length := by omega
      rw [List.take_length] at hown
      have hlen : (G.L.map (fun b => ((G.c b).n : Int))).length ≤ 1000000 := by have := HL.out; simp; omega
      have hro := ownI_row hown
      have HS := hid (sort_i wr w.heap.size u3 _ hro hlen)
      have HSH : Hid (∃ ao n cap, u3 = .slice ao n cap) := by
        rcases hown with ⟨e, _⟩ | ⟨g', cap', tl, e, _⟩
        · exact ⟨_, _, _, e⟩
        · exact ⟨_, _, _, e⟩
      have HB : Hid (∀ j, u3.ownBlock = some j → w.heap.size ≤ j) := fun j e => (hown.lt j e).1
      have HKP := hid hkp
      clear hown hro hlen hkp
      go_wp2_with (first
        | (go_at_call 81; refine HS.out.mono ?_; rintro _ w2 ⟨rfl, hro2, hk2⟩)
        | (go_at_call 82; refine (vals2_any u3 w2 HSH.out).mono ?_; rintro _ w3 ⟨rfl, hw3⟩))
      go_ret
      have k2 : Kp (fun _ => False) w w2 := HKP.out.trans hk2 (fun j hj e => by have := HB.out j e; omega)
      have k3 : Kp (fun _ => False) w2 (w2.alloc (.cells #[u3] 84)) := (Kp.refl _ _).alloc _
      subst hw3
      refine ⟨k2.trans k3 (fun _ _ h => h), w2.heap.size, u3, rfl, k2.size, by first | exact St.new 84 w2 _ | (rw [hw3]; exact St.new 84 w2 _), ?_⟩
      rw [List.length_map] at hro2
      exact own_kp hro2 k3 (fun _ _ h => h)
end
end Go.Proofs.YtnccklbnncaeoaaGreat
