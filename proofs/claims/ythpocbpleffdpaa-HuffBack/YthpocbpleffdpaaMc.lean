/- Mathematics of Huffman's trees: leaves with their depths, what they cost, how they weigh, how many parts there are at each depth. -/
import Derived.Test.YthpocbpleffdpaaMb
import Derived.Test.YthpocbpleffdpaaXdX
namespace Go.Proofs.Ythpocbpleffdpaa.Pm
set_option linter.unusedVariables false
/-- The leaves of a tree, with their depths. -/
def lvd (F : List Nd) : Nat → Nat → Nat → List (Nat × Nat)
  | 0, _, _ => []
  | n + 1, k, d => match (F.getD k nd0).2.2 with
    | none => [((F.getD k nd0).2.1, d)]
    | some p => lvd F n p.1 (d + 1) ++ lvd F n p.2 (d + 1)
/-- What a tree is made of was there ahead of it. -/
def Wf (F : List Nd) : Prop := ∀ k, k < F.length → ∀ p, (F.getD k nd0).2.2 = some p → p.1 < k ∧ p.2 < k
def lvs (F : List Nd) (k d : Nat) : List (Nat × Nat) := lvd F (k + 1) k d
theorem wf_kid {F : List Nd} (h : Wf F) {k : Nat} {p : Nat × Nat} (e : (F.getD k nd0).2.2 = some p) : k < F.length ∧ p.1 < k ∧ p.2 < k := by
  by_cases hk : k < F.length
  · exact ⟨hk, h k hk p e⟩
  · rw [List.getD_eq_getElem?_getD, List.getElem?_eq_none (by omega)] at e
    cases e
theorem lvd_fuel {F : List Nd} (h : Wf F) : ∀ n m k d, k < n → k < m → lvd F n k d = lvd F m k d
  | 0, m, k, d, h1, _ => by omega
  | n + 1, 0, k, d, _, h2 => by omega
  | n + 1, m + 1, k, d, h1, h2 => by
    unfold lvd
    cases e : (F.getD k nd0).2.2 with
    | none => rfl
    | some p =>
      obtain ⟨_, h3, h4⟩ := wf_kid h e
      simp only
      rw [lvd_fuel h n m p.1 (d + 1) (by omega) (by omega), lvd_fuel h n m p.2 (d + 1) (by omega) (by omega)]
theorem lvs_leaf {F : List Nd} {k : Nat} (d : Nat) (e : (F.getD k nd0).2.2 = none) : lvs F k d = [((F.getD k nd0).2.1, d)] := by
  unfold lvs lvd
  rw [e]
theorem lvs_node {F : List Nd} (h : Wf F) {k : Nat} {p : Nat × Nat} (d : Nat) (e : (F.getD k nd0).2.2 = some p) : lvs F k d = lvs F p.1 (d + 1) ++ lvs F p.2 (d + 1) := by
  obtain ⟨_, h3, h4⟩ := wf_kid h e
  unfold lvs
  rw [lvd, e]
  simp only
  rw [lvd_fuel h k (p.1 + 1) p.1 (d + 1) h3 (by omega), lvd_fuel h k (p.2 + 1) p.2 (d + 1) h4 (by omega)]
theorem lvd_more {F : List Nd} (h : Wf F) (x : Nd) : ∀ n k d, k < F.length → lvd (F ++ [x]) n k d = lvd F n k d
  | 0, k, d, _ => rfl
  | n + 1, k, d, hk => by
    unfold lvd
    rw [getD_front hk]
    cases e : (F.getD k nd0).2.2 with
    | none => rfl
    | some p =>
      obtain ⟨_, h3, h4⟩ := wf_kid h e
      simp only
      rw [lvd_more h x n p.1 (d + 1) (by omega), lvd_more h x n p.2 (d + 1) (by omega)]
theorem lvs_more {F : List Nd} (h : Wf F) (x : Nd) {k : Nat} (d : Nat) (hk : k < F.length) : lvs (F ++ [x]) k d = lvs F k d := lvd_more h x _ _ _ hk
theorem lvd_up (F : List Nd) : ∀ n k d, lvd F n k (d + 1) = (lvd F n k d).map (fun x => (x.1, x.2 + 1))
  | 0, k, d => rfl
  | n + 1, k, d => by
    unfold lvd
    cases e : (F.getD k nd0).2.2 with
    | none => rfl
    | some p =>
      simp only [List.map_append]
      rw [lvd_up F n p.1 (d + 1), lvd_up F n p.2 (d + 1)]
theorem lvs_up (F : List Nd) (k d : Nat) : lvs F k (d + 1) = (lvs F k d).map (fun x => (x.1, x.2 + 1)) := lvd_up F _ _ _
theorem wf_more {F : List Nd} (h : Wf F) {a b : Nat} (ha : a < F.length) (hb : b < F.length) : Wf (F ++ [jnd F a b]) := by
  intro k hk p e
  by_cases h1 : k < F.length
  · rw [getD_front h1] at e
    exact h k h1 p e
  · have : k = F.length := by simp at hk; omega
    subst this
    have e2 : (F ++ [jnd F a b]).getD F.length nd0 = jnd F a b := by simp [List.getD]
    rw [e2] at e
    cases e
    exact ⟨ha, hb⟩
/-- A tree has a leaf, and is no deeper than it has leaves. -/
theorem lvs_depth {F : List Nd} (h : Wf F) : ∀ n k, k < n → 0 < (lvs F k 0).length ∧ ∀ x ∈ lvs F k 0, x.2 + 1 ≤ (lvs F k 0).length
  | 0, k, hk => by omega
  | n + 1, k, hk => by
    cases e : (F.getD k nd0).2.2 with
    | none => rw [lvs_leaf 0 e]; simp
    | some p =>
      obtain ⟨_, h3, h4⟩ := wf_kid h e
      obtain ⟨a1, a2⟩ := lvs_depth h n p.1 (by omega)
      obtain ⟨b1, b2⟩ := lvs_depth h n p.2 (by omega)
      rw [lvs_node h 0 e, lvs_up, lvs_up]
      refine ⟨by simp; omega, fun x hx => ?_⟩
      simp only [List.length_append, List.length_map]
      rcases List.mem_append.1 hx with hx | hx
      · obtain ⟨y, hy, rfl⟩ := List.mem_map.1 hx
        have := a2 y hy
        simp only
        omega
      · obtain ⟨y, hy, rfl⟩ := List.mem_map.1 hx
        have := b2 y hy
        simp only
        omega
theorem lvs_ge (F : List Nd) : ∀ n k d, ∀ x ∈ lvd F n k d, d ≤ x.2
  | 0, k, d, x, hx => by simp [lvd] at hx
  | n + 1, k, d, x, hx => by
    unfold lvd at hx
    cases e : (F.getD k nd0).2.2 with
    | none => rw [e] at hx; simp at hx; rw [hx]; exact Nat.le_refl _
    | some p =>
      rw [e] at hx
      rcases List.mem_append.1 hx with hx | hx
      · have := lvs_ge F n p.1 (d + 1) x hx; omega
      · have := lvs_ge F n p.2 (d + 1) x hx; omega
/-- Leaves weigh as much as their tree. -/
theorem lvs_kraft {F : List Nd} (h : Wf F) (D : Nat) : ∀ n k d, k < n → (∀ x ∈ lvs F k d, x.2 ≤ D) → ((lvs F k d).map (fun x => 2 ^ (D - x.2))).sum = 2 ^ (D - d)
  | 0, k, d, hk, _ => by omega
  | n + 1, k, d, hk, hD => by
    cases e : (F.getD k nd0).2.2 with
    | none => rw [lvs_leaf d e]; simp
    | some p =>
      obtain ⟨_, h3, h4⟩ := wf_kid h e
      rw [lvs_node h d e] at hD ⊢
      have a := lvs_kraft h D n p.1 (d + 1) (by omega) (fun x hx => hD x (List.mem_append.2 (.inl hx)))
      have b := lvs_kraft h D n p.2 (d + 1) (by omega) (fun x hx => hD x (List.mem_append.2 (.inr hx)))
      rw [List.map_append, List.sum_append, a, b]
      have h5 : d + 1 ≤ D := by
        have h6 := (lvs_depth h (p.1 + 1) p.1 (by omega)).1
        have h7 : 0 < (lvs F p.1 (d + 1)).length := by
          have : ∀ q, (lvs F p.1 q).length = (lvs F p.1 0).length := by
            intro q
            induction q with
            | zero => rfl
            | succ q ih => rw [lvs_up, List.length_map, ih]
          rw [this]; exact h6
        obtain ⟨x, hx⟩ := List.exists_mem_of_length_pos h7
        have h8 := lvs_ge F _ _ _ x hx
        have h9 := hD x (List.mem_append.2 (.inl hx))
        omega
      rw [show D - d = D - (d + 1) + 1 by omega, Nat.pow_succ]
      omega
/-- How many parts a tree has at a depth. -/
def nct (F : List Nd) : Nat → Nat → Nat → Nat
  | 0, _, _ => 0
  | n + 1, k, 0 => 1
  | n + 1, k, d + 1 => match (F.getD k nd0).2.2 with
    | none => 0
    | some p => nct F n p.1 d + nct F n p.2 d
theorem nct_none {F : List Nd} {k : Nat} (n d : Nat) (e : (F.getD k nd0).2.2 = none) : nct F (n + 1) k (d + 1) = 0 := by rw [nct, e]
theorem nct_some {F : List Nd} {k : Nat} {p : Nat × Nat} (n d : Nat) (e : (F.getD k nd0).2.2 = some p) : nct F (n + 1) k (d + 1) = nct F n p.1 d + nct F n p.2 d := by rw [nct, e]
theorem nct_top (F : List Nd) (n k : Nat) : nct F (n + 1) k 0 = 1 := rfl
theorem cnt_up (l : List (Nat × Nat)) (d : Nat) : ((l.map (fun x => (x.1, x.2 + 1))).filter (fun x => decide (x.2 = d + 1))).length = (l.filter (fun x => decide (x.2 = d))).length := by
  rw [List.filter_map, List.length_map]
  congr 2
  funext x
  simp
theorem cnt_up0 (l : List (Nat × Nat)) : ((l.map (fun x => (x.1, x.2 + 1))).filter (fun x => decide (x.2 = 0))).length = 0 := by
  rw [List.filter_map, List.length_map]
  simp
theorem nct_step {F : List Nd} (h : Wf F) : ∀ n k d, k < n → nct F n k (d + 1) + 2 * ((lvs F k 0).filter (fun x => decide (x.2 = d))).length = 2 * nct F n k d
  | 0, k, d, hk => by omega
  | n + 1, k, 0, hk => by
    cases e : (F.getD k nd0).2.2 with
    | none => rw [lvs_leaf 0 e, nct_none n 0 e, nct_top]; simp
    | some p =>
      obtain ⟨_, h3, h4⟩ := wf_kid h e
      rw [lvs_node h 0 e, nct_some n 0 e, lvs_up, lvs_up, List.filter_append, List.length_append, cnt_up0, cnt_up0, nct_top]
      obtain ⟨m, rfl⟩ : ∃ m, n = m + 1 := ⟨n - 1, by omega⟩
      rw [nct_top, nct_top]
  | n + 1, k, d + 1, hk => by
    cases e : (F.getD k nd0).2.2 with
    | none => rw [lvs_leaf 0 e, nct_none n _ e, nct_none n _ e]; simp
    | some p =>
      obtain ⟨_, h3, h4⟩ := wf_kid h e
      have a := nct_step h n p.1 d (by omega)
      have b := nct_step h n p.2 d (by omega)
      rw [lvs_node h 0 e, nct_some n _ e, nct_some n _ e, lvs_up, lvs_up, List.filter_append, List.length_append, cnt_up, cnt_up]
      omega
theorem nct_deep {F : List Nd} (h : Wf F) : ∀ n k d, k < n → (lvs F k 0).length ≤ d → nct F n k d = 0
  | 0, k, d, hk, _ => by omega
  | n + 1, k, 0, hk, hd => by
    have := (lvs_depth h (k + 1) k (by omega)).1
    omega
  | n + 1, k, d + 1, hk, hd => by
    cases e : (F.getD k nd0).2.2 with
    | none => exact nct_none n d e
    | some p =>
      obtain ⟨_, h3, h4⟩ := wf_kid h e
      rw [nct_some n d e]
      rw [lvs_node h 0 e, lvs_up, lvs_up, List.length_append, List.length_map, List.length_map] at hd
      have a := (lvs_depth h (p.1 + 1) p.1 (by omega)).1
      have b := (lvs_depth h (p.2 + 1) p.2 (by omega)).1
      rw [nct_deep h n p.1 d (by omega) (by omega), nct_deep h n p.2 d (by omega) (by omega)]
/-- What is written down is each leaf's depth. -/
theorem snk_lvd (F : List Nd) : ∀ n k (d : Nat) Z, snk F n k d Z = (lvd F n k d).foldl (fun Z x => Z.set x.1 (x.2 : Int)) Z
  | 0, k, d, Z => rfl
  | n + 1, k, d, Z => by
    unfold snk lvd
    cases e : (F.getD k nd0).2.2 with
    | none => rfl
    | some p =>
      simp only [List.foldl_append]
      rw [snk_lvd F n p.1 (d + 1) Z, snk_lvd F n p.2 (d + 1)]
theorem fset_len : ∀ (l : List (Nat × Nat)) (Z : List Int), (l.foldl (fun Z x => Z.set x.1 (x.2 : Int)) Z).length = Z.length
  | [], Z => rfl
  | x :: l, Z => by rw [List.foldl_cons, fset_len l, List.length_set]
theorem fset_not : ∀ (l : List (Nat × Nat)) (Z : List Int) (i : Nat), i ∉ l.map (·.1) → (l.foldl (fun Z x => Z.set x.1 (x.2 : Int)) Z).getD i 0 = Z.getD i 0
  | [], Z, i, _ => rfl
  | x :: l, Z, i, h => by
    simp only [List.map_cons, List.mem_cons, not_or] at h
    rw [List.foldl_cons, fset_not l _ i h.2, List.getD_eq_getElem?_getD, List.getD_eq_getElem?_getD, List.getElem?_set_ne (fun e => h.1 e.symm)]
theorem fset_in : ∀ (l : List (Nat × Nat)) (Z : List Int), (l.map (·.1)).Nodup → (∀ x ∈ l, x.1 < Z.length) → ∀ x ∈ l, (l.foldl (fun Z x => Z.set x.1 (x.2 : Int)) Z).getD x.1 0 = (x.2 : Int)
  | [], Z, _, _, x, hx => by simp at hx
  | y :: l, Z, hn, hl, x, hx => by
    simp only [List.map_cons, List.nodup_cons] at hn
    rw [List.foldl_cons]
    rcases List.mem_cons.1 hx with rfl | hx
    · rw [fset_not l _ _ hn.1, List.getD_eq_getElem?_getD, List.getElem?_set_self (hl x (by simp))]
      rfl
    · exact fset_in l _ hn.2 (fun z hz => by rw [List.length_set]; exact hl z (by simp [hz])) x hx
end Go.Proofs.Ythpocbpleffdpaa.Pm
