/- The trees of coins, as the program makes them, against the mathematics of coins. -/
import Derived.Test.YthpocbpleffdpaaMg
import Derived.Test.YthpocbpleffdpaaMe
import Derived.Test.YthpocbpleffdpaaPp
namespace Go.Proofs.Ythpocbpleffdpaa.Pm
set_option linter.unusedVariables false
/-- The first n that come off, the least first. -/
def pks (F : List Nd) : Nat → List Nat → List Nat
  | 0, _ => []
  | n + 1, K => mn F K :: pks F n (K.erase (mn F K))
def co (F : List Nd) (k : Nat) : Nat := (F.getD k nd0).1
def sy (F : List Nd) (k : Nat) : Nat := (F.getD k nd0).2.1
def isk (F : List Nd) (K : List Nat) : List Nat := mgk (co F) [] K
theorem ky_co (F : List Nd) (k : Nat) : ky F k = co F k * 9223372036854775808 + k := rfl
theorem insk_ky {F : List Nd} {y : Nat} (hy : y < 9223372036854775808) : ∀ {l : List Nat}, l.Pairwise (fun a b => ky F a < ky F b) → (∀ a ∈ l, a < y) → (insk (co F) y l).Pairwise (fun a b => ky F a < ky F b)
  | [], _, _ => List.pairwise_singleton _ _
  | a :: t, h, hl => by
    have h1 := List.pairwise_cons.1 h
    have ha := hl a (by simp)
    unfold insk
    split
    · rename_i hc
      refine List.pairwise_cons.2 ⟨fun z hz => ?_, insk_ky hy h1.2 (fun x hx => hl x (by simp [hx]))⟩
      rcases List.mem_cons.1 ((insk_perm _ y t).mem_iff.1 hz) with rfl | hz
      · rw [ky_co, ky_co]; omega
      · exact h1.1 z hz
    · rename_i hc
      have hya : ky F y < ky F a := by rw [ky_co, ky_co]; omega
      refine List.pairwise_cons.2 ⟨fun z hz => ?_, h⟩
      rcases List.mem_cons.1 hz with rfl | hz
      · exact hya
      · exact Nat.lt_trans hya (h1.1 z hz)
theorem mgk_ky {F : List Nd} : ∀ {K xs : List Nat}, K.Pairwise (· < ·) → (∀ k ∈ K, k < 9223372036854775808) → xs.Pairwise (fun a b => ky F a < ky F b) → (∀ a ∈ xs, ∀ k ∈ K, a < k) → (mgk (co F) xs K).Pairwise (fun a b => ky F a < ky F b)
  | [], xs, _, _, h, _ => h
  | y :: K, xs, hK, hb, h, hx => by
    have h1 := List.pairwise_cons.1 hK
    have := insk_ky (F := F) (hb y (by simp)) h (fun a ha => hx a ha y (by simp))
    refine mgk_ky (K := K) (xs := insk (co F) y xs) h1.2 (fun k hk => hb k (by simp [hk])) this (fun a ha k hk => ?_)
    rcases List.mem_cons.1 ((insk_perm _ y xs).mem_iff.1 ha) with rfl | ha
    · exact h1.1 k hk
    · exact hx a ha k (by simp [hk])
theorem isk_perm (F : List Nd) (K : List Nat) : (isk F K).Perm K := mgk_perm (co F) K []
theorem isk_len (F : List Nd) (K : List Nat) : (isk F K).length = K.length := (isk_perm F K).length_eq
theorem uniq_ky {F : List Nd} : ∀ {l m : List Nat}, l.Pairwise (fun a b => ky F a < ky F b) → m.Pairwise (fun a b => ky F a < ky F b) → l.Perm m → l = m
  | [], m, _, _, h => (List.nil_perm.1 h).symm
  | a :: l, [], _, _, h => by have := h.length_eq; simp at this
  | a :: l, b :: m, h1, h2, h => by
    have a1 := List.pairwise_cons.1 h1
    have a2 := List.pairwise_cons.1 h2
    have e : a = b := by
      have h3 : a = b ∨ a ∈ m := by simpa using h.mem_iff.1 (show a ∈ a :: l by simp)
      have h4 : b = a ∨ b ∈ l := by simpa using h.mem_iff.2 (show b ∈ b :: m by simp)
      rcases h3 with e | e
      · exact e
      · rcases h4 with e' | e'
        · exact e'.symm
        · have := a1.1 b e'; have := a2.1 a e; omega
    subst e
    rw [uniq_ky a1.2 a2.2 h.cons_inv]
theorem pks_all {F : List Nd} : ∀ (n : Nat) (K : List Nat), K.length = n → K.Nodup → (∀ k ∈ K, k < 9223372036854775808) → (pks F n K).Perm K ∧ (pks F n K).Pairwise (fun a b => ky F a < ky F b)
  | 0, K, hn, _, _ => by
    have : K = [] := List.length_eq_zero_iff.1 hn
    subst this
    exact ⟨List.Perm.refl _, List.Pairwise.nil⟩
  | n + 1, K, hn, hd, hb => by
    obtain ⟨h1, h2⟩ := mn_mem F (K := K) (fun e => by rw [e] at hn; simp at hn)
    have hl := List.length_erase_of_mem h1
    obtain ⟨g1, g2⟩ := pks_all (F := F) n (K.erase (mn F K)) (by omega) (hd.erase _) (fun k hk => hb k (List.mem_of_mem_erase hk))
    refine ⟨(g1.cons _).trans (List.perm_cons_erase h1).symm, List.pairwise_cons.2 ⟨fun z hz => ?_, g2⟩⟩
    have hz2 := g1.mem_iff.1 hz
    have hz3 := (hd.mem_erase_iff).1 hz2
    have h3 := h2 z hz3.2
    rcases Nat.lt_or_ge (ky F (mn F K)) (ky F z) with h | h
    · exact h
    · exact absurd (ky_inj (hb _ hz3.2) (hb _ h1) (Nat.le_antisymm h h3)) hz3.1
theorem pks_isk {F : List Nd} {K : List Nat} (hK : K.Pairwise (· < ·)) (hb : ∀ k ∈ K, k < 9223372036854775808) : pks F K.length K = isk F K := by
  have hn : K.Nodup := hK.imp (fun h => Nat.ne_of_lt h)
  obtain ⟨h1, h2⟩ := pks_all (F := F) K.length K rfl hn hb
  exact uniq_ky h2 (mgk_ky hK hb List.Pairwise.nil (fun a ha => by simp at ha)) (h1.trans (isk_perm F K).symm)
theorem pks_take {F : List Nd} : ∀ (m n : Nat) (K : List Nat), m ≤ n → pks F m K = (pks F n K).take m
  | 0, n, K, _ => by simp [pks]
  | m + 1, 0, K, h => by omega
  | m + 1, n + 1, K, h => by simp only [pks, List.take_succ_cons]; rw [pks_take m n _ (by omega)]
theorem pks_mem {F : List Nd} : ∀ (n : Nat) (K : List Nat), n ≤ K.length → ∀ x ∈ pks F n K, x ∈ K
  | 0, K, _, x, hx => by simp [pks] at hx
  | n + 1, K, hn, x, hx => by
    have h1 := (mn_mem F (K := K) (fun e => by rw [e] at hn; simp at hn)).1
    have hl := List.length_erase_of_mem h1
    simp only [pks, List.mem_cons] at hx
    rcases hx with rfl | hx
    · exact h1
    · exact List.mem_of_mem_erase (pks_mem n _ (by omega) x hx)
theorem pks_len (F : List Nd) : ∀ (n : Nat) (K : List Nat), (pks F n K).length = n
  | 0, K => rfl
  | n + 1, K => by simp only [pks, List.length_cons]; rw [pks_len]
theorem get_app {F X : List Nd} {k : Nat} (h : k < F.length) : (F ++ X).getD k nd0 = F.getD k nd0 := by simp [List.getD, List.getElem?_append_left h]
theorem mn_app {F X : List Nd} : ∀ {K : List Nat}, (∀ k ∈ K, k < F.length) → mn (F ++ X) K = mn F K
  | [], _ => rfl
  | a :: K, h => by
    have key : ∀ (K : List Nat) (a : Nat), (∀ k ∈ a :: K, k < F.length) → K.foldl (fun x y => if ky (F ++ X) y < ky (F ++ X) x then y else x) a = K.foldl (fun x y => if ky F y < ky F x then y else x) a := by
      intro K
      induction K with
      | nil => intro a _; simp only [List.foldl_nil]
      | cons b K ih =>
        intro a h
        have ha := h a (by simp)
        have hb := h b (by simp)
        have e1 : ky (F ++ X) b = ky F b := by unfold ky; rw [get_app hb]
        have e2 : ky (F ++ X) a = ky F a := by unfold ky; rw [get_app ha]
        simp only [List.foldl_cons]
        rw [e1, e2]
        refine ih _ (fun k hk => ?_)
        rcases List.mem_cons.1 hk with rfl | hk
        · split <;> assumption
        · exact h k (by simp [hk])
    exact key K a h
theorem pks_app {F X : List Nd} : ∀ (n : Nat) {K : List Nat}, (∀ k ∈ K, k < F.length) → pks (F ++ X) n K = pks F n K
  | 0, K, _ => rfl
  | n + 1, K, h => by
    simp only [pks]
    rw [mn_app h, pks_app n (fun k hk => h k (List.mem_of_mem_erase hk))]
/-- What is put together, two by two. -/
def pnd (F : List Nd) : List Nat → List Nd
  | a :: b :: t => jnd F a b :: pnd F t
  | _ => []
theorem pnd_len (F : List Nd) : ∀ l, (pnd F l).length = l.length / 2
  | [] => by simp [pnd]
  | [a] => by simp [pnd]
  | a :: b :: t => by simp only [pnd, List.length_cons]; rw [pnd_len F t]; omega
theorem pnd_app {F X : List Nd} : ∀ {l : List Nat}, (∀ k ∈ l, k < F.length) → pnd (F ++ X) l = pnd F l
  | [], _ => rfl
  | [a], _ => by simp [pnd]
  | a :: b :: t, h => by
    simp only [pnd]
    rw [pnd_app (fun k hk => h k (by simp [hk]))]
    unfold jnd
    rw [get_app (h a (by simp)), get_app (h b (by simp))]
theorem pnd_get (F : List Nd) : ∀ (l : List Nat) (q : Nat), 2 * q + 1 < l.length → (pnd F l).getD q nd0 = jnd F (l.getD (2 * q) 0) (l.getD (2 * q + 1) 0)
  | [], q, h => by simp at h
  | [a], q, h => by simp at h
  | a :: b :: t, 0, h => rfl
  | a :: b :: t, q + 1, h => by
    have := pnd_get F t q (by simp at h; omega)
    rw [show 2 * (q + 1) = 2 * q + 2 by omega]
    simpa [pnd] using this
theorem prs_eq : ∀ (j : Nat) (F : List Nd) (K N : List Nat), 2 * j ≤ K.length → (∀ k ∈ K, k < F.length) → (prs j (F, K, N)).1 = F ++ pnd F (pks F (2 * j) K) ∧ (prs j (F, K, N)).2.2 = N ++ (List.range j).map (fun i => F.length + i)
  | 0, F, K, N, _, _ => by simp [prs, pks, pnd]
  | j + 1, F, K, N, hj, hK => by
    have h1 := (mn_mem F (K := K) (fun e => by rw [e] at hj; simp at hj)).1
    have l1 := List.length_erase_of_mem h1
    have h2 := (mn_mem F (K := K.erase (mn F K)) (fun e => by rw [e] at l1; simp at l1; omega)).1
    have l2 := List.length_erase_of_mem h2
    have ih := prs_eq j (F ++ [jnd F (mn F K) (mn F (K.erase (mn F K)))]) ((K.erase (mn F K)).erase (mn F (K.erase (mn F K)))) (N ++ [F.length]) (by omega) (fun k hk => by
      have := hK k (List.mem_of_mem_erase (List.mem_of_mem_erase hk))
      simp only [List.length_append, List.length_singleton]
      omega)
    have hK2 : ∀ k ∈ (K.erase (mn F K)).erase (mn F (K.erase (mn F K))), k < F.length := fun k hk => hK k (List.mem_of_mem_erase (List.mem_of_mem_erase hk))
    refine ⟨?_, ?_⟩
    · show (prs j (pr1 (F, K, N))).1 = _
      unfold pr1
      rw [ih.1, show 2 * (j + 1) = 2 * j + 1 + 1 by omega]
      simp only [pks, pnd]
      rw [pks_app _ hK2, pnd_app (fun k hk => hK2 k (pks_mem _ _ (by omega) k hk)), List.append_assoc]
      rfl
    · show (prs j (pr1 (F, K, N))).2.2 = _
      unfold pr1
      rw [ih.2, List.range_succ_eq_map, List.map_cons, List.map_map, List.append_assoc, List.length_append]
      congr 1
      rw [List.singleton_append]
      congr 1
      refine List.map_congr_left (fun i _ => ?_)
      simp
      omega
theorem lvd_app {F : List Nd} (h : Wf F) (X : List Nd) : ∀ n k d, k < F.length → lvd (F ++ X) n k d = lvd F n k d
  | 0, k, d, _ => rfl
  | n + 1, k, d, hk => by
    unfold lvd
    rw [get_app hk]
    cases e : (F.getD k nd0).2.2 with
    | none => rfl
    | some p =>
      obtain ⟨_, h3, h4⟩ := wf_kid h e
      simp only
      rw [lvd_app h X n p.1 (d + 1) (by omega), lvd_app h X n p.2 (d + 1) (by omega)]
/-- How often a symbol is in a tree. -/
def tl (F : List Nd) (k s : Nat) : Nat := ((lvs F k 0).filter (fun x => decide (x.1 = s))).length
theorem tl_app {F : List Nd} (h : Wf F) (X : List Nd) {k : Nat} (s : Nat) (hk : k < F.length) : tl (F ++ X) k s = tl F k s := by
  unfold tl lvs
  rw [lvd_app h X _ _ _ hk]
theorem tl_leaf {F : List Nd} {k : Nat} (s : Nat) (e : (F.getD k nd0).2.2 = none) : tl F k s = if sy F k = s then 1 else 0 := by
  unfold tl
  rw [lvs_leaf 0 e]
  unfold sy
  split
  · rename_i h; rw [List.filter_cons_of_pos (by simpa using h)]; rfl
  · rename_i h; rw [List.filter_cons_of_neg (by simpa using h)]; rfl
theorem tl_up (l : List (Nat × Nat)) (s : Nat) : ((l.map (fun x => (x.1, x.2 + 1))).filter (fun x => decide (x.1 = s))).length = (l.filter (fun x => decide (x.1 = s))).length := by
  rw [List.filter_map, List.length_map]
  rfl
theorem tl_node {F : List Nd} (h : Wf F) {k : Nat} {p : Nat × Nat} (s : Nat) (e : (F.getD k nd0).2.2 = some p) : tl F k s = tl F p.1 s + tl F p.2 s := by
  unfold tl
  rw [lvs_node h 0 e, lvs_up, lvs_up, List.filter_append, List.length_append, tl_up, tl_up]
end Go.Proofs.Ythpocbpleffdpaa.Pm
