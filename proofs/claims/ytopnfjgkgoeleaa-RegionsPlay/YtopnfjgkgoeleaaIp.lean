/- regions: slices.Insert of one between. -/
import Derived.Test.YtopnfjgkgoeleaaIo
namespace Go.Proofs.Ytopnfjgkgoeleaa
open Go.RowKit
set_option linter.unusedVariables false
set_option linter.unusedSimpArgs false
theorem Try.sz46 (w : World) : (Go.sizeOf 46).run Try.prog w = .ok 3 w := by
  obtain ⟨i0, hi0, hz0, hz1, hz2⟩ := info_parts Try.inf46
  simp [sizeOf, typeInfo, hi0, hz1]
theorem frozen_st {t : TypeId} {w : World} {g : Nat} {cs : Array Value} (h : St t w g cs) (i : Nat) : w.frozen? ⟨g, i, none⟩ = false := St.frozen h i
theorem kp_setRowI {F : Nat → Prop} {w W : World} (g : Nat) (cs : Array Value) (k : Kp F w W) (hF : g < w.heap.size → F g) : Kp F w (W.setRow g cs) :=
  k.trans (kp_setRow W g cs) (fun i hi e => by subst e; exact hF hi)
set_option maxRecDepth 100000 in
set_option maxHeartbeats 4000000 in
/-- Between, where there is room. -/
theorem insert_shift (L : List Rn) (x : Rn) (ao : Option Addr) (n c i vb : Nat) (w : World) (hn : n = L.length) (h : Lst w ao c L) (hl : L.length ≤ 65536) (hv : St 46 w vb x.cs) (hi : i < n) (hroom : n < c) (hvb : ∀ off, ao ≠ some ⟨vb, off, none⟩) :
    Calls Try.prog 61 #[.slice ao n c, .int .i64 (i : Int), .slice (some ⟨vb, 0, none⟩) 1 1] w (InsR L x i ao c w) := by
  obtain ⟨g, cur, rfl, hg, hs, ht, hgl⟩ := h.own (by omega)
  have hc2 := h.2.2.1
  unfold maxLen at hc2
  have hne : vb ≠ g := fun e => hvb 0 (by rw [e])
  obtain ⟨A, hA⟩ : ∃ A, A = flr (L.take i) := ⟨_, rfl⟩
  obtain ⟨D, hD⟩ : ∃ D, D = flr (L.drop i) := ⟨_, rfl⟩
  obtain ⟨T, hT⟩ : ∃ T, T = cur.toList.drop (n * 3) := ⟨_, rfl⟩
  have hAl : A.length = i * 3 := by rw [hA, flr_len, List.length_take]; congr 1; omega
  have hDl : D.length = (n - i) * 3 := by rw [hD, flr_len, List.length_drop, hn]
  have hTl : T.length = (c - n) * 3 := by rw [hT, List.length_drop]; simp [hs]; omega
  have hcur : cur.toList = A ++ (D ++ T) := by
    rw [← List.append_assoc, hA, hD, ← flr_append, List.take_append_drop, ← ht, hT, hn, List.take_append_drop]
  obtain ⟨T0, T1, hT01, hT0l⟩ : ∃ T0 T1, T = T0 ++ T1 ∧ T0.length = 3 := ⟨T.take 3, T.drop 3, (List.take_append_drop 3 T).symm, by rw [List.length_take]; omega⟩
  have hXl : x.cl.length = 3 := rfl
  obtain ⟨E0, E1, hE, hE0⟩ : ∃ E0 E1, D ++ T0 = E0 ++ E1 ∧ E0.length = 3 := ⟨(D ++ T0).take 3, (D ++ T0).drop 3, (List.take_append_drop 3 _).symm, by rw [List.length_take, List.length_append]; omega⟩
  have hE1 : E1.length = D.length := by have := congrArg List.length hE; simp only [List.length_append] at this; omega
  have sp1 : splice cur.toList ((i + 1) * 3) D = A ++ (E0 ++ (D ++ T1)) := by
    rw [hcur, hT01, ← List.append_assoc D, hE, List.append_assoc E0, ← List.append_assoc A, splice_mid (A ++ E0) E1 D T1 _ (by simp; omega) hE1]
    simp
  have sp2 : splice (A ++ (E0 ++ (D ++ T1))) (i * 3) x.cl = A ++ (x.cl ++ (D ++ T1)) := splice_mid A E0 x.cl _ _ hAl.symm (by rw [hE0, hXl])
  have hsz : (Try.prog.info? 46).map (·.size) = some 3 := Try.isz46
  have hov : ∀ lb cb, (callFunc 64 #[.slice (some ⟨vb, 0, none⟩) 1 1, .slice (some ⟨g, (i + 1) * 3, none⟩) lb cb]).run Try.prog w = .ok (.value (.bool false)) w := fun lb cb => by
    rw [run_callFunc_extern Try.func64 (by kernel_rfl) (by kernel_rfl) (by kernel_rfl) (e := Extern.SlicesOverlaps.overlaps #[27, 27] #[4]) (by kernel_rfl),
      Lib.run_overlaps_apart w 27 4 46 Try.underlying27 3 Try.sz46 ⟨vb, 0, none⟩ ⟨g, (i + 1) * 3, none⟩ 1 1 lb cb hne 46 46 3 (c * 3) (by simp [World.shape?, show w.heap[vb]? = _ from hv, Rn.cs]) (by simp [World.shape?, hg, hs]) (by omega) (St.frozen hv 0) (St.frozen hv 3)]
    rfl
  have hcp1 : ∀ ty dc sc, (Builtin.copy_ #[73, 73] ty #[.slice (some ⟨g, (i + 1) * 3, none⟩) (n - i) dc, .slice (some ⟨g, i * 3, none⟩) (n + 1 - i) sc]).run Try.prog w.drew = .ok (goInt (n - i : Nat)) (w.drew.setRow g (A ++ (E0 ++ (D ++ T1))).toArray) := fun ty dc sc => by
    rw [← sp1]
    refine run_copy_rowN w.drew 73 73 ty 46 3 g ((i + 1) * 3) (n - i) dc ⟨g, i * 3, none⟩ (n + 1 - i) sc cur 46 D Try.underlying73 hsz hg (n - i) (by simp only [Nat.min_def]; split <;> omega) hDl (fun j v hj => ?_) ?_ ?_
    · rw [add_o]
      show w.cell? _ = _
      rw [cell_of_row w g (i * 3 + j) _ 46 _ hg, ← Array.getElem?_toList, hcur, List.getElem?_append_right (by omega), hAl, show i * 3 + j - i * 3 = j by omega, List.getElem?_append_left (List.getElem?_eq_some_iff.1 hj).1]
      exact hj
    · rw [hDl, hs]; omega
    · rw [hD]; exact flr_one _
  obtain ⟨W1, hW1⟩ : ∃ W1, W1 = w.drew.setRow g (A ++ (E0 ++ (D ++ T1))).toArray := ⟨_, rfl⟩
  have hg1 : W1.heap[g]? = some (.cells (A ++ (E0 ++ (D ++ T1))).toArray 46 (0, 0)) := by rw [hW1]; exact setRow_heap w.drew g _ _ 46 _ hg
  have k1 : Kp (Rmb (some ⟨g, 0, none⟩) L.length c) w W1 := by
    rw [hW1]
    exact kp_setRowI g _ (Kp.refl _ _).drew (fun _ => ⟨by omega, 0, rfl⟩)
  have hv1 : St 46 W1 vb x.cs := hv.kp k1 (fun ⟨_, off, e⟩ => hne (by cases e; rfl))
  have hcp2 : ∀ (W : World), W.heap = W1.heap → ∀ ty dc, (Builtin.copy_ #[73, 27] ty #[.slice (some ⟨g, i * 3, none⟩) (n + 1 - i) dc, .slice (some ⟨vb, 0, none⟩) 1 1]).run Try.prog W = .ok (goInt (1 : Nat)) (W.setRow g (A ++ (x.cl ++ (D ++ T1))).toArray) := fun W hW ty dc => by
    rw [← sp2]
    have hgW : W.heap[g]? = some (.cells (A ++ (E0 ++ (D ++ T1))).toArray 46 (0, 0)) := by rw [hW]; exact hg1
    have hvW : St 46 W vb x.cs := by unfold St; rw [hW]; exact hv1
    refine run_copy_rowN W 73 27 ty 46 3 g (i * 3) (n + 1 - i) dc ⟨vb, 0, none⟩ 1 1 _ 46 x.cl Try.underlying73 hsz hgW 1 (by simp only [Nat.min_def]; split <;> omega) hXl (fun j v hj => ?_) ?_ ?_
    · rw [add_o, Nat.zero_add, hvW.cell j, ← hj]; simp [Rn.cs, Rn.cl]
    · simp [hAl, hXl, hE0]
    · rw [← flr1]; exact flr_one _
  have HF : Hid (∀ W : World, W.heap = W1.heap → Kp (fun _ => False) W1 W → InsR L x i (some ⟨g, 0, none⟩) c w (.returned (.slice (some ⟨g, 0, none⟩) (n + 1) c)) (W.setRow g (A ++ (x.cl ++ (D ++ T1))).toArray)) := fun W hW hk => by
    have hgW : W.heap[g]? = some (.cells (A ++ (E0 ++ (D ++ T1))).toArray 46 (0, 0)) := by rw [hW]; exact hg1
    refine ⟨g, c, by rw [hn], ?_, kp_setRowI g _ (k1.trans hk (fun _ _ x => x.elim)) (fun _ => ⟨by omega, 0, rfl⟩), Or.inl ⟨by omega, 0, rfl⟩⟩
    have hlen : (L.take i ++ x :: L.drop i).length = n + 1 := by simp; omega
    refine Lst.of_row (setRow_heap W g _ _ 46 _ hgW) ?_ ?_ (by rw [hlen]; omega) (by unfold maxLen; exact hc2)
    · simp only [List.length_append]
      have hT1 : T1.length = (c - n) * 3 - 3 := by have := congrArg List.length hT01; simp only [List.length_append] at this; omega
      rw [hAl, hXl, hDl, hT1]; omega
    · rw [hlen, flr_ins, ← hA, ← hD, ← List.append_assoc x.cl, ← List.append_assoc A, List.take_append_of_le_length (by simp only [List.length_append]; omega), List.take_of_length_le (by simp only [List.length_append]; omega)]
  rw [← hW1] at hcp1
  have HC2 := hid hcp2
  have HN := hid hn
  have hz2 : ¬ ((i : Int) = (n : Int)) := by omega
  have hz3 : ¬ ((c : Int) < (n : Int) + 1) := by omega
  have hz4 : ¬ (c = i + 1) := by omega
  have hz5 : ¬ (c = i) := by omega
  have hz6 : i + 1 ≤ n + 1 := by omega
  have hw1 : IntKind.i64.wrap ((i : Int) + 1) = ((i + 1 : Nat) : Int) := by rw [IntKind.wrap_i64]; omega
  have hw2 : IntKind.i64.wrap ((n : Int) + 1) = ((n + 1 : Nat) : Int) := by rw [IntKind.wrap_i64]; omega
  have HW1 := hid hW1
  clear hW1 hcp2 sp1 sp2 hcur hT hD hA ht h hg hg1 hv1 k1 hn hl hAl hDl hTl hT01 hE hE1 hs hv
  have mixed := hmix
  have hz7 : (0 : Int) ≤ (i : Int) + 1 := by omega
  have hz8 : i ≤ n := by omega
  have hz9 : (i : Int) ≤ (n : Int) + 1 := by omega
  have hz10 : i ≤ n + 1 := by omega
  go_enter Try.func61, Try.ntmps61
  go_wp2_with (simp only [hov])
  go_region_law (refine step_copy_runI rfl _ _ 73 73 rfl _ _ (by simp [Act.eval, Act.put]) (by simp [Act.eval, Act.put]) (hcp1 _ _ _) ?_)
  go_wp2_with (refine wpList_copy_runI _ rfl _ _ 73 27 rfl _ _ rfl rfl (HC2.out _ rfl _ _) ?_)
  go_ret
  exact HF.out _ rfl (by first | exact Kp.refl _ _ | exact (Kp.refl _ _).drew)
end Go.Proofs.Ytopnfjgkgoeleaa
