/- The rows of trees of coins, level by level, and the lengths that are told by them. -/
import Derived.Test.YthpocbpleffdpaaMh
namespace Go.Proofs.Ythpocbpleffdpaa.Pm
set_option linter.unusedVariables false
theorem insk_mapf {α β : Type} {c : α → Nat} {c' : β → Nat} {f : α → β} (y : α) : ∀ l : List α, (∀ x ∈ y :: l, c' (f x) = c x) → (insk c y l).map f = insk c' (f y) (l.map f)
  | [], _ => rfl
  | a :: t, h => by
    have ha := h a (by simp)
    have hy := h y (by simp)
    unfold insk
    simp only [List.map_cons]
    rw [ha, hy]
    split
    · rw [List.map_cons, insk_mapf y t (fun x hx => h x (by
        rcases List.mem_cons.1 hx with rfl | hx
        · simp
        · simp [hx]))]
    · rfl
theorem mgk_mapf {α β : Type} {c : α → Nat} {c' : β → Nat} {f : α → β} : ∀ (ys xs : List α), (∀ x ∈ xs ++ ys, c' (f x) = c x) → (mgk c xs ys).map f = mgk c' (xs.map f) (ys.map f)
  | [], xs, _ => rfl
  | y :: t, xs, h => by
    have e := insk_mapf (c := c) (c' := c') (f := f) y xs (fun x hx => h x (by
      rcases List.mem_cons.1 hx with rfl | hx
      · simp
      · simp [hx]))
    have ih := mgk_mapf (c := c) (c' := c') (f := f) t (insk c y xs) (fun x hx => by
      rcases List.mem_append.1 hx with hx | hx
      · rcases List.mem_cons.1 ((insk_perm c y xs).mem_iff.1 hx) with rfl | hx
        · exact h x (by simp)
        · exact h x (by simp [hx])
      · exact h x (by simp [hx]))
    unfold mgk at ih ⊢
    simp only [List.foldl_cons, List.map_cons]
    rw [ih, e]
theorem mgk_app {α : Type} (c : α → Nat) (xs l m : List α) : mgk c xs (l ++ m) = mgk c (mgk c xs l) m := by
  unfold mgk
  rw [List.foldl_append]
/-- The symbols that come at all, the least first. -/
def ordS (zs : List Int) : List Nat := mgk (cnv zs) [] (pos zs)
theorem ordS_perm (zs : List Int) : (ordS zs).Perm (pos zs) := mgk_perm (cnv zs) (pos zs) []
theorem ordS_base (zs : List Int) : (ordS zs).map (cnv zs) = base zs := by
  refine srt_uniq ?_ (srt_srt _) (((ordS_perm zs).map _).trans (srt_perm _).symm)
  have : Srk (cnv zs) (ordS zs) := mgk_srk List.Pairwise.nil
  exact List.pairwise_map.2 this
theorem ordS_nodup (zs : List Int) : (ordS zs).Nodup := (ordS_perm zs).nodup_iff.2 (pos_nodup zs)
theorem ordS_len (zs : List Int) : (ordS zs).length = (pos zs).length := (ordS_perm zs).length_eq
def fk (F : List Nd) (k : Nat) : Nat × Bool := (co F k, (F.getD k nd0).2.2.isNone)
def tsum (F : List Nd) (l : List Nat) (s : Nat) : Nat := (l.map (fun x => tl F x s)).sum
structure Lv (zs : List Int) (t : Nat) (F : List Nd) (K : List Nat) : Prop where
  wf : Wf F
  asc : K.Pairwise (· < ·)
  kl : ∀ k ∈ K, k < F.length
  bd : F.length ≤ 640 * (t + 1)
  lf : ∀ k, k < F.length → (F.getD k nd0).2.2 = none → sy F k ∈ pos zs
  cs : (isk F K).map (fk F) = Ar (base zs) t
  ta : ∀ k, k ≤ K.length → ∀ j (hj : j < (ordS zs).length), tsum F ((isk F K).take k) (ordS zs)[j] = lev (base zs) t k j
theorem base_plen (zs : List Int) : (base zs).length = (pos zs).length := by unfold base; rw [(srt_perm _).length_eq, List.length_map]
theorem base_pos (zs : List Int) : ∀ x ∈ base zs, 0 < x := by
  intro x hx
  have := (srt_perm _).mem_iff.1 hx
  obtain ⟨s, hs, rfl⟩ := List.mem_map.1 this
  have := (pos_mem.1 hs).2
  unfold cnv
  omega
theorem row_two (b : List Nat) : ∀ t, (row b t).length ≤ 2 * b.length
  | 0 => by unfold row; omega
  | t + 1 => by rw [row_len]; have := row_two b t; omega
theorem Lv.len {zs : List Int} {t : Nat} {F : List Nd} {K : List Nat} (h : Lv zs t F K) : K.length = (row (base zs) t).length := by
  rw [← ar_len, ← h.cs, List.length_map, isk_len]
/-- Leaves that stand from a place on. -/
def lnum (zs : List Int) (o : Nat) : List Nat := (List.range (pos zs).length).map (fun i => o + i)
theorem lnum_mem {zs : List Int} {o k : Nat} (h : k ∈ lnum zs o) : o ≤ k ∧ k < o + (pos zs).length := by
  obtain ⟨i, hi, rfl⟩ := List.mem_map.1 h
  have := List.mem_range.1 hi
  omega
theorem lnum_get {zs : List Int} {F0 X : List Nd} {i : Nat} (hi : i < (pos zs).length) : (F0 ++ lv zs zs.length ++ X).getD (F0.length + i) nd0 = (cnv zs (pos zs)[i], (pos zs)[i], none) := by
  rw [get_app (by rw [List.length_append, lv_plen]; omega), List.getD_eq_getElem?_getD, List.getElem?_append_right (by omega), Nat.add_sub_cancel_left, ← List.getD_eq_getElem?_getD, lv_get hi]
theorem asc_add (o n : Nat) : ((List.range n).map (fun i => o + i)).Pairwise (· < ·) := by
  refine List.pairwise_map.2 ?_
  refine List.pairwise_lt_range.imp (fun h => by omega)
/-- The leaves of a row. -/
theorem leaf_row {zs : List Int} {F0 X F : List Nd} (hF : F = F0 ++ lv zs zs.length ++ X) : (isk F (lnum zs F0.length)).map (sy F) = ordS zs ∧ (isk F (lnum zs F0.length)).map (fk F) = (base zs).map (fun x => (x, true)) ∧ ∀ x ∈ lnum zs F0.length, (F.getD x nd0).2.2 = none := by
  have hat : ∀ x ∈ lnum zs F0.length, ∃ i, ∃ (hi : i < (pos zs).length), x = F0.length + i ∧ F.getD x nd0 = (cnv zs (pos zs)[i], (pos zs)[i], none) := by
    intro x hx
    obtain ⟨i, hi, rfl⟩ := List.mem_map.1 hx
    have hi2 := List.mem_range.1 hi
    exact ⟨i, hi2, rfl, by rw [hF]; exact lnum_get hi2⟩
  have hn : ∀ x ∈ lnum zs F0.length, (F.getD x nd0).2.2 = none := fun x hx => by
    obtain ⟨i, hi, _, e⟩ := hat x hx
    rw [e]
  have hc : ∀ x ∈ lnum zs F0.length, cnv zs (sy F x) = co F x := fun x hx => by
    obtain ⟨i, hi, _, e⟩ := hat x hx
    unfold sy co
    rw [e]
  have hs : (lnum zs F0.length).map (sy F) = pos zs := by
    unfold lnum
    rw [List.map_map]
    refine range_get _ _ (fun k hk => ?_)
    simp only [Function.comp]
    unfold sy
    rw [hF, lnum_get hk]
  have h1 : (isk F (lnum zs F0.length)).map (sy F) = ordS zs := by
    unfold isk ordS
    rw [mgk_mapf (c := co F) (c' := cnv zs) (f := sy F) (lnum zs F0.length) [] (by simpa using hc), hs]
    rfl
  refine ⟨h1, ?_, hn⟩
  rw [← ordS_base, ← h1, List.map_map, List.map_map]
  refine List.map_congr_left (fun x hx => ?_)
  have hx2 := (isk_perm _ _).mem_iff.1 hx
  simp only [Function.comp]
  unfold fk
  rw [hn x hx2, ← hc x hx2]
  rfl
theorem sum_zeros : ∀ l : List Nat, (l.map (fun _ => 0)).sum = 0
  | [] => rfl
  | a :: l => by rw [List.map_cons, List.sum_cons, sum_zeros l]
theorem one_in : ∀ (O : List Nat) (j e : Nat) (hn : O.Nodup) (hj : j < O.length), ((O.take e).map (fun x => if x = O[j] then 1 else 0)).sum = if j < e then 1 else 0
  | [], j, e, _, hj => by simp at hj
  | a :: O, j, 0, _, _ => by simp
  | a :: O, 0, e + 1, hn, _ => by
    have h1 := (List.nodup_cons.1 hn).1
    have : (O.take e).map (fun x => if x = (a :: O)[0] then 1 else 0) = (O.take e).map (fun _ => 0) := List.map_congr_left (fun x hx => by
      have : x ≠ a := fun e => h1 (e ▸ List.mem_of_mem_take hx)
      simp [this])
    rw [List.take_succ_cons, List.map_cons, List.sum_cons, this, sum_zeros]
    simp
  | a :: O, j + 1, e + 1, hn, hj => by
    have h1 := List.nodup_cons.1 hn
    have ih := one_in O j e h1.2 (by simpa using hj)
    have hne : a ≠ (a :: O)[j + 1] := fun e => h1.1 (by rw [List.getElem_cons_succ] at e; rw [e]; exact List.getElem_mem _)
    rw [List.take_succ_cons, List.map_cons, List.sum_cons, if_neg hne, List.getElem_cons_succ, ih, Nat.zero_add]
    split <;> split <;> omega
theorem leaf_sum {zs : List Int} {F0 X F : List Nd} (hF : F = F0 ++ lv zs zs.length ++ X) (e j : Nat) (hj : j < (ordS zs).length) : tsum F ((isk F (lnum zs F0.length)).take e) (ordS zs)[j] = if j < e then 1 else 0 := by
  obtain ⟨h1, h2, h3⟩ := leaf_row hF
  unfold tsum
  have : ∀ s, ((isk F (lnum zs F0.length)).take e).map (fun x => tl F x s) = ((ordS zs).take e).map (fun x => if x = s then 1 else 0) := by
    intro s
    conv => rhs; rw [← h1]
    rw [← List.map_take, List.map_map]
    refine List.map_congr_left (fun x hx => ?_)
    have hx2 := (isk_perm _ _).mem_iff.1 (List.mem_of_mem_take hx)
    simp only [Function.comp]
    exact tl_leaf _ (h3 x hx2)
  rw [this]
  exact one_in _ _ _ (ordS_nodup zs) hj
theorem lv_none_more {zs : List Int} {F : List Nd} (h : Wf F) : Wf (F ++ lv zs zs.length) := by
  intro k hk p e
  by_cases h1 : k < F.length
  · rw [get_app h1] at e
    exact h k h1 p e
  · rw [List.getD_eq_getElem?_getD, List.getElem?_append_right (by omega), ← List.getD_eq_getElem?_getD, lv_leaf] at e
    cases e
/-- The first row. -/
theorem lv_zero (zs : List Int) (hl : zs.length ≤ 320) : Lv zs 0 (lv zs zs.length) (List.range (pos zs).length) := by
  have hp := pos_le zs
  have e0 : List.range (pos zs).length = lnum zs ([] : List Nd).length := by
    unfold lnum
    simp
  have hF : lv zs zs.length = [] ++ lv zs zs.length ++ [] := by simp
  refine ⟨?_, List.pairwise_lt_range, fun k hk => by rw [lv_plen]; exact List.mem_range.1 hk, by rw [lv_plen]; omega, ?_, ?_, ?_⟩
  · intro k hk p e
    rw [lv_leaf] at e
    cases e
  · intro k hk _
    rw [lv_plen] at hk
    unfold sy
    rw [lv_get hk]
    exact List.getElem_mem _
  · rw [e0]
    exact (leaf_row hF).2.1
  · intro k hk j hj
    rw [e0, leaf_sum hF k j hj]
    rfl
end Go.Proofs.Ythpocbpleffdpaa.Pm
