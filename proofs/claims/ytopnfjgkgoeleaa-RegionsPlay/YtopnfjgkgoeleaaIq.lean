/- regions: slices.Insert of one between, where there is no room; all roads. -/
import Derived.Test.YtopnfjgkgoeleaaIp
import Derived.Laws.NewBlocks
namespace Go.Proofs.Ytopnfjgkgoeleaa
open Go.RowKit
set_option linter.unusedVariables false
set_option linter.unusedSimpArgs false
theorem zc_len (k : Nat) : (Builtin.zeroCells (Value.agg #[.int .i64 0, .int .i64 0, .int .i64 0]).cells k).size = k * 3 := by
  simp [Builtin.zeroCells, Value.cells]
set_option maxRecDepth 100000 in
set_option maxHeartbeats 4000000 in
/-- Between, where there is no room. -/
theorem insert_grow (L : List Rn) (x : Rn) (ao : Option Addr) (n i vb : Nat) (w : World) (hn : n = L.length) (h : Lst w ao n L) (hl : L.length ≤ 65536) (hv : St 46 w vb x.cs) (hi : i < n) :
    Calls Try.prog 61 #[.slice ao n n, .int .i64 (i : Int), .slice (some ⟨vb, 0, none⟩) 1 1] w (InsR L x i ao n w) := by
  obtain ⟨b, off, rfl, hbw, hcs⟩ := h.1 (by omega)
  have hvw := hv.lt
  obtain ⟨i0, hi0, hz0, hzs, hzb⟩ := info_parts Try.inf46
  obtain ⟨A, hA⟩ : ∃ A, A = flr (L.take i) := ⟨_, rfl⟩
  obtain ⟨D, hD⟩ : ∃ D, D = flr (L.drop i) := ⟨_, rfl⟩
  have hAl : A.length = i * 3 := by rw [hA, flr_len, List.length_take]; congr 1; omega
  have hDl : D.length = (n - i) * 3 := by rw [hD, flr_len, List.length_drop, hn]
  have hXl : x.cl.length = 3 := rfl
  have hAD : flr L = A ++ D := by rw [hA, hD, ← flr_append, List.take_append_drop]
  have hold : (Builtin.firstCells i0.size i (.slice (some ⟨b, off, none⟩) i n)).run Try.prog w.drew = .ok A.toArray w.drew := by
    rw [hzs]
    refine run_firstCells_some w.drew 3 i ⟨b, off, none⟩ i n A hAl (fun j v hj => ?_)
    rw [add_o]
    refine hcs j v ?_
    rw [hAD, List.getElem?_append_left (List.getElem?_eq_some_iff.1 hj).1]
    exact hj
  have hik : i + (n + 1 - i) = n + 1 := by omega
  obtain ⟨G, hG⟩ : ∃ G, G = grownCap w (n + 1) n 46 := ⟨_, rfl⟩
  obtain ⟨Z1, hZ1⟩ : ∃ Z1, Z1 = (Builtin.zeroCells (Value.agg #[.int .i64 0, .int .i64 0, .int .i64 0]).cells (n + 1 - i)).toList := ⟨_, rfl⟩
  obtain ⟨Z2, hZ2⟩ : ∃ Z2, Z2 = (Builtin.zeroCells (Value.agg #[.int .i64 0, .int .i64 0, .int .i64 0]).cells (G - (n + 1))).toList := ⟨_, rfl⟩
  have hZ1l : Z1.length = (n + 1 - i) * 3 := by rw [hZ1, Array.length_toList, zc_len]
  have hZ2l : Z2.length = (G - (n + 1)) * 3 := by rw [hZ2, Array.length_toList, zc_len]
  have hrz : ∀ ty, (Builtin.append_ #[73, 3] ty #[.slice (some ⟨b, off, none⟩) i n, .int .i64 ((n : Int) + 1 - (i : Int))]).run Try.prog w = .ok (.slice (some ⟨w.heap.size, 0, none⟩) (n + 1) G) (w.drew.alloc (.cells (A ++ (Z1 ++ Z2)).toArray 46)) := fun ty => by
    have h9 := Lib.run_append_grow_zeros w 73 3 ty 46 i0 _ .i64 .i64 Try.underlying73 Try.underlying3 hi0 hz0 (some ⟨b, off, none⟩) i n A hold (n + 1 - i) (by omega) (by omega) (by omega) (by omega) (by rw [hzb]; omega) (by rw [hzb, hik]; exact growslice_fits (by omega) (by omega))
    rw [hik, ← hG] at h9
    rw [show (n : Int) + 1 - (i : Int) = ((n + 1 - i : Nat) : Int) by omega, h9]
    congr 3
    rw [hZ1, hZ2]
    apply Array.ext'
    simp
  have hGn : n + 1 ≤ G := by rw [hG]; exact grownCap_ge w _ _ _
  have hGm : G ≤ maxLen := by rw [hG]; exact grownCap_le_maxLen w (n + 1) n 46 (by unfold maxLen; omega)
  have hG63 : G ≤ 9223372036854775807 := by unfold maxLen at hGm; omega
  obtain ⟨E0, E1, hE, hE0⟩ : ∃ E0 E1, Z1 = E0 ++ E1 ∧ E0.length = 3 := ⟨Z1.take 3, Z1.drop 3, (List.take_append_drop 3 _).symm, by rw [List.length_take]; omega⟩
  have hE1 : E1.length = D.length := by have := congrArg List.length hE; simp only [List.length_append] at this; omega
  have sp1 : splice (A ++ (Z1 ++ Z2)) (i * 3) x.cl = A ++ (x.cl ++ (E1 ++ Z2)) := by
    rw [hE, List.append_assoc]
    exact splice_mid A E0 x.cl _ _ hAl.symm (by rw [hE0, hXl])
  have sp2 : splice (A ++ (x.cl ++ (E1 ++ Z2))) ((i + 1) * 3) D = A ++ (x.cl ++ (D ++ Z2)) := by
    rw [← List.append_assoc, splice_mid (A ++ x.cl) E1 D Z2 _ (by simp only [List.length_append]; omega) hE1, List.append_assoc]
  have hsz : (Try.prog.info? 46).map (·.size) = some 3 := Try.isz46
  obtain ⟨N, hN⟩ : ∃ N, N = w.heap.size := ⟨_, rfl⟩
  obtain ⟨W1, hW1⟩ : ∃ W1, W1 = w.drew.alloc (.cells (A ++ (Z1 ++ Z2)).toArray 46) := ⟨_, rfl⟩
  have hg1 : W1.heap[N]? = some (.cells (A ++ (Z1 ++ Z2)).toArray 46 (0, 0)) := by rw [hW1, hN]; exact heap_alloc_new w.drew _
  have k1 : Kp (fun _ => False) w W1 := by rw [hW1]; exact (Kp.refl _ _).drew.alloc _
  have hv1 : St 46 W1 vb x.cs := hv.kp k1 (fun x => x)
  have hcp1 : ∀ (W : World), W.heap = W1.heap → ∀ ty dc, (Builtin.copy_ #[73, 27] ty #[.slice (some ⟨N, i * 3, none⟩) (n + 1 - i) dc, .slice (some ⟨vb, 0, none⟩) 1 1]).run Try.prog W = .ok (goInt (1 : Nat)) (W.setRow N (A ++ (x.cl ++ (E1 ++ Z2))).toArray) := fun W hW ty dc => by
    rw [← sp1]
    have hgW : W.heap[N]? = some (.cells (A ++ (Z1 ++ Z2)).toArray 46 (0, 0)) := by rw [hW]; exact hg1
    have hvW : St 46 W vb x.cs := by unfold St; rw [hW]; exact hv1
    refine run_copy_rowN W 73 27 ty 46 3 N (i * 3) (n + 1 - i) dc ⟨vb, 0, none⟩ 1 1 _ 46 x.cl Try.underlying73 hsz hgW 1 (by simp only [Nat.min_def]; split <;> omega) hXl (fun j v hj => ?_) ?_ ?_
    · rw [add_o, Nat.zero_add, hvW.cell j, ← hj]; simp [Rn.cs, Rn.cl]
    · simp only [List.size_toArray, List.length_append]; omega
    · rw [← flr1]; exact flr_one _
  have hcp2 : ∀ (W V : World), W.heap = W1.heap → V.heap = (W.setRow N (A ++ (x.cl ++ (E1 ++ Z2))).toArray).heap → ∀ ty dc sc, (Builtin.copy_ #[73, 73] ty #[.slice (some ⟨N, (i + 1) * 3, none⟩) (n - i) dc, .slice (some ⟨b, off + i * 3, none⟩) (n - i) sc]).run Try.prog V = .ok (goInt (n - i : Nat)) (V.setRow N (A ++ (x.cl ++ (D ++ Z2))).toArray) := fun W V hW hV ty dc sc => by
    rw [← sp2]
    have hgW : W.heap[N]? = some (.cells (A ++ (Z1 ++ Z2)).toArray 46 (0, 0)) := by rw [hW]; exact hg1
    have hgV : V.heap[N]? = some (.cells (A ++ (x.cl ++ (E1 ++ Z2))).toArray 46 (0, 0)) := by rw [hV]; exact setRow_heap W N _ _ 46 _ hgW
    have hbV : V.heap[b]? = w.heap[b]? := by
      rw [hV, setRow_other W N b _ (by omega), hW]
      exact k1.block b hbw (fun x => x)
    refine run_copy_rowN V 73 73 ty 46 3 N ((i + 1) * 3) (n - i) dc ⟨b, off + i * 3, none⟩ (n - i) sc _ 46 D Try.underlying73 hsz hgV (n - i) (by simp only [Nat.min_def]; split <;> omega) hDl (fun j v hj => ?_) ?_ ?_
    · rw [add_o]
      have h8 := hcs (i * 3 + j) v (by rw [hAD, List.getElem?_append_right (by omega), hAl, show i * 3 + j - i * 3 = j by omega]; exact hj)
      rw [← Nat.add_assoc] at h8
      rw [← h8]
      unfold World.cell?
      simp only [hbV]
    · simp only [List.size_toArray, List.length_append]; omega
    · rw [hD]; exact flr_one _
  have HF : Hid (∀ W V U : World, W.heap = W1.heap → Kp (fun _ => False) W1 W → V.heap = (W.setRow N (A ++ (x.cl ++ (E1 ++ Z2))).toArray).heap → Kp (fun _ => False) (W.setRow N (A ++ (x.cl ++ (E1 ++ Z2))).toArray) V → InsR L x i (some ⟨b, off, none⟩) n w (.returned (.slice (some ⟨N, 0, none⟩) (n + 1) G)) (V.setRow N (A ++ (x.cl ++ (D ++ Z2))).toArray)) := fun W V _ hW hkW hV hkV => by
    have hgW : W.heap[N]? = some (.cells (A ++ (Z1 ++ Z2)).toArray 46 (0, 0)) := by rw [hW]; exact hg1
    have hgV : V.heap[N]? = some (.cells (A ++ (x.cl ++ (E1 ++ Z2))).toArray 46 (0, 0)) := by rw [hV]; exact setRow_heap W N _ _ 46 _ hgW
    have kk : Kp (Rmb (some ⟨b, off, none⟩) L.length n) w (V.setRow N (A ++ (x.cl ++ (D ++ Z2))).toArray) := by
      refine kp_setRowI N _ ?_ (fun h => by omega)
      refine Kp.trans (F := Rmb (some ⟨b, off, none⟩) L.length n) ?_ hkV (fun _ _ x => x.elim)
      refine kp_setRowI N _ ?_ (fun h => by omega)
      exact (k1.trans hkW (fun _ _ x => x)).mono (fun _ _ x => x.elim)
    refine ⟨N, G, by rw [hn], ?_, kk, Or.inr (by omega)⟩
    have hlen : (L.take i ++ x :: L.drop i).length = n + 1 := by simp; omega
    refine Lst.of_row (setRow_heap V N _ _ 46 _ hgV) ?_ ?_ (by rw [hlen]; omega) hGm
    · simp only [List.length_append]; omega
    · rw [hlen, flr_ins, ← hA, ← hD, ← List.append_assoc x.cl, ← List.append_assoc A, List.take_append_of_le_length (by simp only [List.length_append]; omega), List.take_of_length_le (by simp only [List.length_append]; omega)]
  rw [← hW1, ← hN] at hrz
  have HC1 := hid hcp1
  have HC2 := hid hcp2
  have HN := hid hn
  have HNN := hid hN
  have HW1 := hid hW1
  have hz2 : ¬ ((i : Int) = (n : Int)) := by omega
  have hz3 : (n : Int) < (n : Int) + 1 := by omega
  have hz4 : ¬ (G = i + 1) := by omega
  have hz5 : ¬ (G = i) := by omega
  have hz5' : ¬ (n = i) := by omega
  have hw1 : IntKind.i64.wrap ((i : Int) + 1) = ((i + 1 : Nat) : Int) := by rw [IntKind.wrap_i64]; omega
  have hw2 : IntKind.i64.wrap ((n : Int) + 1) = ((n + 1 : Nat) : Int) := by rw [IntKind.wrap_i64]; omega
  have hz7 : (0 : Int) ≤ (i : Int) + 1 := by omega
  have hz8 : i ≤ n := by omega
  have hz9 : (i : Int) ≤ (n : Int) + 1 := by omega
  have hz10 : i ≤ n + 1 := by omega
  have hw3 : IntKind.i64.wrap ((n : Int) + 1 - (i : Int)) = (n : Int) + 1 - (i : Int) := by rw [IntKind.wrap_i64]; omega
  clear hW1 hN hcp1 hcp2 sp1 sp2 hAD hold hik hG hZ1 hZ2 hZ1l hZ2l hE hE1 hD hA h hg1 hv1 k1 hn hl hAl hDl hi0 hz0 hzs hzb hcs hGm hv hXl hsz
  have mixed := hmix
  go_enter Try.func61, Try.ntmps61
  go_wp2_with (first | (at_builtin; refine Lib.wpList_append_run _ rfl _ _ _ _ rfl _ _ rfl rfl _ _ (hrz _) ?_) | (refine wpList_copy_runI _ rfl _ _ 73 27 rfl _ _ rfl rfl (HC1.out _ rfl _ _) ?_))
  go_region_law (refine step_copy_runI rfl _ _ 73 73 rfl (.slice (some ⟨N, (i + 1) * 3, none⟩) (n - i) (G - (i + 1))) (.slice (some ⟨b, off + i * 3, none⟩) (n - i) (n - i)) (by simp [Act.eval, Act.put]) (by simp [Act.eval, Act.put]) (HC2.out W1 ((W1.setRow N (A ++ (x.cl ++ (E1 ++ Z2))).toArray).drew) rfl rfl 3 (G - (i + 1)) (n - i)) ?_)
  go_wp2_with fail
  go_ret
  exact HF.out W1 _ w rfl (Kp.refl _ _) rfl (Kp.refl _ _).drew
/-- slices.Insert of one. -/
theorem insert_any (L : List Rn) (x : Rn) (ao : Option Addr) (n c i vb : Nat) (w : World) (hn : n = L.length) (h : Lst w ao c L) (hl : L.length ≤ 65536) (hv : St 46 w vb x.cs) (hi : i ≤ n) (hvb : 0 < n → ∀ off, ao ≠ some ⟨vb, off, none⟩) :
    Calls Try.prog 61 #[.slice ao n c, .int .i64 (i : Int), .slice (some ⟨vb, 0, none⟩) 1 1] w (InsR L x i ao c w) := by
  by_cases h1 : i = n
  · subst h1
    exact insert_end L x ao i c vb w hn h hl hv
  · by_cases h2 : n < c
    · exact insert_shift L x ao n c i vb w hn h hl hv (by omega) h2 (hvb (by omega))
    · obtain rfl : c = n := by have := h.2.1; omega
      exact insert_grow L x ao c i vb w hn h hl hv (by omega)
end Go.Proofs.Ytopnfjgkgoeleaa
