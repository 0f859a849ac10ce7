/- granules: masks, as an iterator. -/
import Derived.Test.YteenlifdamhffaaDoorSq
import Derived.Test.YteenlifdamhffaaDoorMa
import Derived.Test.YteenlifdamhffaaDoorNb
namespace Go.Proofs.YteenlifdamhffaaDoor
open Go.RowKit Go.Shelf
attribute [local go_sem] Oper.semAt_some
set_option linter.unusedVariables false
set_option linter.unusedSimpArgs false
def KR (O : Nat → Prop) (A B : World) : Prop := ∀ i, O i → B.heap[i]? = A.heap[i]?
theorem kr_lt {O : Nat → Prop} {A B : World} (h : KR O A B) {i : Nat} (hi : O i) (hl : i < A.heap.size) : i < B.heap.size := by
  have h2 : A.heap[i]? = some A.heap[i] := Array.getElem?_eq_getElem hl
  rw [← h i hi] at h2
  exact (Array.getElem?_eq_some_iff.1 h2).1
/-- What is told of a word's bits: which word, which bits. -/
def menc (to x : Nat) : Array Value := #[.int .i64 ((x / 64 : Nat) : Int), .int .u64 ((msk (x % 64) (cw x to) : Nat) : Int)]
/-- The beginnings that were told. -/
def Chn (fr to : Nat) (pre : List Nat) : Prop := ∀ j, j < pre.length → pre.getD j 0 = pos fr to j ∧ pos fr to j < to
theorem Chn.nil (fr to : Nat) : Chn fr to [] := fun j hj => absurd hj (by simp)
theorem Chn.snoc {fr to : Nat} {pre : List Nat} (h : Chn fr to pre) (hlt : pos fr to pre.length < to) : Chn fr to (pre ++ [pos fr to pre.length]) := by
  intro j hj
  rw [List.length_append] at hj
  simp at hj
  by_cases e : j < pre.length
  · rw [List.getD_eq_getElem?_getD, List.getElem?_append_left e, ← List.getD_eq_getElem?_getD]
    exact h j e
  · obtain rfl : j = pre.length := by omega
    exact ⟨by simp [List.getD], hlt⟩
theorem Chn.last {fr to x : Nat} {pre : List Nat} (h : Chn fr to (pre ++ [x])) : x = pos fr to pre.length ∧ pos fr to pre.length < to := by
  obtain ⟨h1, h2⟩ := h pre.length (by simp)
  refine ⟨?_, h2⟩
  simpa [List.getD] using h1
theorem pos_le {fr to j : Nat} (h : fr ≤ to) : pos fr to j ≤ to := by
  induction j with
  | zero => exact h
  | succ j ih => show nxt _ to ≤ to; unfold nxt; omega
theorem Chn.len {fr to : Nat} {pre : List Nat} (h : Chn fr to pre) : fr + pre.length ≤ pos fr to pre.length ∨ pre = [] := by
  have key : ∀ j, j ≤ pre.length → fr + j ≤ pos fr to j := by
    intro j
    induction j with
    | zero => intro _; exact Nat.le_refl _
    | succ j ih =>
      intro hj
      have h1 := ih (by omega)
      have h2 := (cw_fact (h j (by omega)).2).2.2.2.2.1
      show fr + (j + 1) ≤ nxt (pos fr to j) to
      omega
  exact .inl (key _ (Nat.le_refl _))
set_option maxRecDepth 100000 in
set_option maxHeartbeats 4000000 in
theorem masks_seq (n : Nat) (hn : 1 ≤ n) (b1 b2 fr to : Nat) (w : World) (hto : to ≤ 4611686018427387904) (hfr : fr ≤ 4611686018427387904) (h1 : St 2 w b1 #[.int .i64 fr]) (h2 : St 2 w b2 #[.int .i64 to]) :
    SeqP Fence.wide n Tryd.prog 84 #[] #[ptr b1, ptr b2] (menc to) (fun ys => Chn fr to ys ∧ to ≤ pos fr to ys.length) (fun pre => Chn fr to pre) (to + 1) (fun i => i = b1 ∨ i = b2) w := by
  intro l J Jx X hX hA hAx hY h0
  have HS1 := hid (h1.below hX h1.lt)
  have HS2 := hid (h2.below hX h2.lt)
  have LB : Hid (∀ i, (i = b1 ∨ i = b2) → i < X.heap.size) := by
    rintro i (rfl | rfl)
    · exact HS1.out.lt
    · exact HS2.out.lt
  have J0 := hid h0
  clear h1 h2 hX h0
  have c1 := HS1.out.cell 0
  have c2 := HS2.out.cell 0
  simp at c1 c2
  unfold ptr
  refine callsIn_of_wp Tryd.func84 rfl trivial ?_ rfl
  simp only [Tryd.ntmps84, List.size_toArray, List.length_cons, List.length_nil, Nat.reduceAdd, Nat.reduceSub, Array.replicate_succ, Array.replicate_zero, List.push_toArray, List.append_toArray, List.nil_append, List.cons_append]
  gi_wp2_with fail
  gi_loopw [4] (fun i wr => ∃ (k : Nat) (pre : List Nat) (O : Nat → Prop), i = .int .i64 k ∧ Chn fr to pre ∧ k = pos fr to pre.length ∧ J pre O wr ∧ (∀ i, (i = b1 ∨ i = b2) → O i) ∧ KR (fun i => i = b1 ∨ i = b2) X wr) (fun i _ => to - (intOf i).toNat)
  case atStart => exact ⟨fr, [], _, rfl, Chn.nil _ _, rfl, J0.out, fun i h => h, fun _ _ => rfl⟩
  case round =>
    obtain ⟨k, pre, O, rfl, hch, hk, hJs, hOs, hkr⟩ := hrel
    have HCH := hid hch
    have HOS := hid hOs
    have HKR := hid hkr
    have c2w : wr.cell? ⟨b2, 0, none⟩ = some (.int .i64 to) := by
      rw [← c2]
      unfold World.cell?
      simp only [hkr b2 (.inr rfl)]
    have HK := hid hk
    clear hch hOs hkr hk
    by_cases hlt : k < to
    · have hlt' : (k : Int) < (to : Int) := by omega
      have hc := cw_fact hlt
      have hsn : Chn fr to (pre ++ [k]) := by
        have h := HCH.out.snoc (by rw [← HK.out]; exact hlt)
        rw [← HK.out] at h
        exact h
      have hnx : nxt k to = pos fr to (pre ++ [k]).length := by
        rw [List.length_append]
        show nxt k to = nxt (pos fr to pre.length) to
        rw [← HK.out]
      have hplen : pre.length < to + 1 := by
        rcases HCH.out.len with h | h
        · rw [← HK.out] at h; omega
        · rw [h]; exact Nat.succ_pos _
      have e5 : ((k / 64 : Nat) : Int) = (k : Int) / 64 := by simp
      by_cases hm : to - k ≤ 64 - k % 64
      · have hm' : (to : Int) - (k : Int) ≤ 64 - (k : Int) % 64 := by omega
        have hcw : cw k to = to - k := by unfold cw; omega
        have e8 := msk_eq (f := k % 64) (k := to - k) (by omega) (by omega)
        obtain ⟨fn, tmps, assign, body, hy, hR⟩ := hY pre O k wr hJs hplen hsn
        unfold menc at hy
        rw [hcw, e5] at hy
        have HR := hid hR
        clear hR
        gi_wp2_with fail
        refine HR.out.mono ?_
        rintro ee w3 (⟨rfl, hJ3, hk3⟩ | ⟨rfl, hJx3, hk3⟩)
        · have KR3 : Hid (KR (fun i => i = b1 ∨ i = b2) X w3) := fun i hi => (hk3.block i (kr_lt HKR.out hi (LB.out i hi)) (fun x => x (HOS.out i hi))).trans (HKR.out i hi)
          clear hk3
          gi_wp2
          go_roundw
          case rel => exact ⟨nxt k to, _, _, by go_num, hsn, hnx, hJ3, HOS.out, KR3.out⟩
          case measure => simp [intOf]; omega
        · gi_wp2
          refine bodyPost_ret (results_none rfl _ _ _) rfl ?_
          exact ⟨⟨_, rfl⟩, .inr ⟨_, _, hsn, hJx3⟩⟩
      · have hm' : ¬ (to : Int) - (k : Int) ≤ 64 - (k : Int) % 64 := by omega
        have hcw : cw k to = 64 - k % 64 := by unfold cw; omega
        have e8 := msk_eq (f := k % 64) (k := 64 - k % 64) (by omega) (by omega)
        obtain ⟨fn, tmps, assign, body, hy, hR⟩ := hY pre O k wr hJs hplen hsn
        unfold menc at hy
        rw [hcw, e5] at hy
        have HR := hid hR
        clear hR
        gi_wp2_with fail
        refine HR.out.mono ?_
        rintro ee w3 (⟨rfl, hJ3, hk3⟩ | ⟨rfl, hJx3, hk3⟩)
        · have KR3 : Hid (KR (fun i => i = b1 ∨ i = b2) X w3) := fun i hi => (hk3.block i (kr_lt HKR.out hi (LB.out i hi)) (fun x => x (HOS.out i hi))).trans (HKR.out i hi)
          clear hk3
          gi_wp2
          go_roundw
          case rel => exact ⟨nxt k to, _, _, by go_num, hsn, hnx, hJ3, HOS.out, KR3.out⟩
          case measure => simp [intOf]; omega
        · gi_wp2
          refine bodyPost_ret (results_none rfl _ _ _) rfl ?_
          exact ⟨⟨_, rfl⟩, .inr ⟨_, _, hsn, hJx3⟩⟩
    · have hlt' : ¬ (k : Int) < (to : Int) := by omega
      have HFIN : Hid (Chn fr to pre ∧ to ≤ pos fr to pre.length) := ⟨HCH.out, by rw [← HK.out]; omega⟩
      gi_wp2_with fail
      go_end0
      exact ⟨⟨_, rfl⟩, .inl ⟨pre, HFIN.out, O, hJs⟩⟩
end Go.Proofs.YteenlifdamhffaaDoor
