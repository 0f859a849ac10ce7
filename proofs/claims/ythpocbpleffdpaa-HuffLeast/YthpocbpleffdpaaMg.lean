/- Mathematics of coins: how often each symbol is among the first ones, and that these are lengths that weigh as much as the whole. It names no program. -/
import Derived.Test.YthpocbpleffdpaaMf
namespace Go.Proofs.Ythpocbpleffdpaa.Pm
set_option linter.unusedVariables false
theorem mem_pr : ∀ (l : List Nat) (p v : Nat), 2 * p ≤ l.length → (∀ x ∈ l, 0 < x) → v ∈ l.take (2 * p) → ∃ y ∈ (pr l).take p, v < y
  | l, 0, v, _, _, h => by simp at h
  | [], p + 1, v, h, _, _ => by simp at h
  | [a], p + 1, v, h, _, _ => by simp at h; omega
  | a :: b :: l, p + 1, v, hl, h0, h => by
    rw [show 2 * (p + 1) = 2 * p + 1 + 1 by omega, List.take_succ_cons, List.take_succ_cons] at h
    have ha := h0 a (by simp)
    have hb := h0 b (by simp)
    simp only [Pm.pr, List.take_succ_cons]
    rcases List.mem_cons.1 h with rfl | h
    · exact ⟨_, List.mem_cons_self .., by omega⟩
    · rcases List.mem_cons.1 h with rfl | h
      · exact ⟨_, List.mem_cons_self .., by omega⟩
      · obtain ⟨y, hy, hv⟩ := mem_pr l p v (by simp at hl; omega) (fun x hx => h0 x (by simp [hx])) h
        exact ⟨y, List.mem_cons_of_mem _ hy, hv⟩
theorem row_pos {W : List Nat} (h : ∀ x ∈ W, 0 < x) : ∀ t, ∀ x ∈ row W t, 0 < x
  | 0 => h
  | t + 1 => fun x hx => by
    rcases List.mem_append.1 ((row_perm W t).mem_iff.1 hx) with hx | hx
    · exact h x hx
    · have := pr_mem (m := 1) (fun y hy => row_pos h t y hy) x hx
      omega
theorem en_le {W : List Nat} (hW : Srt W) : ∀ {t k : Nat}, k ≤ (Ar W t).length → en W t k ≤ W.length ∧ en W t k ≤ k
  | 0, k, hk => by
    have : k ≤ W.length := by simpa [Ar] using hk
    rw [en_zero this]
    exact ⟨this, Nat.le_refl _⟩
  | t + 1, k, hk => ⟨(en_succ hW hk).1, (en_succ hW hk).2.1⟩
/-- Whose own coin is among the first ones of a row is known by its place. -/
theorem own_in {W : List Nat} (hW : Srt W) {t k e : Nat} (hk : k ≤ (Ar W t).length) (he : e < en W t k) (hel : e < W.length) : W[e] ∈ (row W t).take k := by
  match t, hk, he with
  | 0, hk, he =>
    have hk2 : k ≤ W.length := by simpa [Ar] using hk
    rw [en_zero hk2] at he
    exact List.mem_take_iff_getElem.2 ⟨e, by show _ < _; simp only [row]; omega, rfl⟩
  | t + 1, hk, he =>
    obtain ⟨h1, h2, h3, h4, h5⟩ := en_succ hW hk
    have h6 : (W[e], true) ∈ (Ar W (t + 1)).take k := by
      refine h5.mem_iff.2 (List.mem_append.2 (.inl (List.mem_map.2 ⟨W[e], ?_, rfl⟩)))
      exact List.mem_take_iff_getElem.2 ⟨e, by omega, rfl⟩
    rw [← ar_row, ← List.map_take]
    exact List.mem_map.2 ⟨_, h6, rfl⟩
theorem nested {W : List Nat} (hW : Srt W) (h0 : ∀ x ∈ W, 0 < x) {t k : Nat} (hk : k ≤ (Ar W (t + 1)).length) : en W t (2 * (k - en W (t + 1) k)) ≤ en W (t + 1) k := by
  obtain ⟨h1, h2, h3, h4, h5⟩ := en_succ hW hk
  have hl : 2 * (k - en W (t + 1) k) ≤ (Ar W t).length := by rw [ar_len]; exact h3
  by_cases hc : en W t (2 * (k - en W (t + 1) k)) ≤ en W (t + 1) k
  · exact hc
  · exfalso
    have hlt : en W (t + 1) k < en W t (2 * (k - en W (t + 1) k)) := by omega
    have hel : en W (t + 1) k < W.length := Nat.lt_of_lt_of_le hlt (en_le hW hl).1
    have hm := own_in hW hl hlt hel
    obtain ⟨y, hy, hv⟩ := mem_pr _ _ _ h3 (row_pos h0 t) hm
    have := h4 y hy W[en W (t + 1) k] (by
      rw [List.mem_drop_iff_getElem]
      exact ⟨0, by omega, by simp⟩)
    omega
/-- How often the r-th symbol is among the first k of a row. -/
def lev (W : List Nat) : Nat → Nat → Nat → Nat
  | 0, k, r => if r < k then 1 else 0
  | t + 1, k, r => (if r < en W (t + 1) k then 1 else 0) + lev W t (2 * (k - en W (t + 1) k)) r
theorem lev_succ (W : List Nat) (t k r : Nat) : lev W (t + 1) k r = (if r < en W (t + 1) k then 1 else 0) + lev W t (2 * (k - en W (t + 1) k)) r := rfl
theorem lev_le (W : List Nat) : ∀ t k r, lev W t k r ≤ t + 1
  | 0, k, r => by unfold lev; split <;> omega
  | t + 1, k, r => by
    have := lev_le W t (2 * (k - en W (t + 1) k)) r
    unfold lev
    split <;> omega
theorem lev_mono (W : List Nat) : ∀ t k r s, r ≤ s → lev W t k s ≤ lev W t k r
  | 0, k, r, s, h => by unfold lev; split <;> split <;> omega
  | t + 1, k, r, s, h => by
    have := lev_mono W t (2 * (k - en W (t + 1) k)) r s h
    unfold lev
    split <;> split <;> omega
theorem lev_zero {W : List Nat} (hW : Srt W) (h0 : ∀ x ∈ W, 0 < x) : ∀ t k r, k ≤ (Ar W t).length → en W t k ≤ r → lev W t k r = 0
  | 0, k, r, hk, hr => by
    rw [en_zero (by simpa [Ar] using hk)] at hr
    unfold lev
    rw [if_neg (by omega)]
  | t + 1, k, r, hk, hr => by
    have h3 := (en_succ hW hk).2.2.1
    have hn := nested hW h0 hk
    unfold lev
    rw [if_neg (by omega), lev_zero hW h0 t _ r (by rw [ar_len]; exact h3) (by omega)]
theorem sum_ite (n e c : Nat) (h : e ≤ n) : ((List.range n).map (fun r => if r < e then c else 0)).sum = e * c := by
  induction n generalizing e with
  | zero => simp at h; subst h; simp
  | succ n ih =>
    rw [List.range_succ, List.map_append, List.sum_append]
    by_cases he : e = n + 1
    · subst he
      have h1 := ih n (Nat.le_refl _)
      have h2 : (List.range n).map (fun r => if r < n + 1 then c else 0) = (List.range n).map (fun r => if r < n then c else 0) := List.map_congr_left (fun r hr => by
        have := List.mem_range.1 hr
        rw [if_pos (by omega), if_pos this])
      rw [h2, h1]
      simp [Nat.add_mul]
    · have h1 := ih e (by omega)
      rw [h1]
      simp
      omega
theorem sum_add (f g : Nat → Nat) : ∀ l : List Nat, (l.map (fun r => f r + g r)).sum = (l.map f).sum + (l.map g).sum
  | [] => rfl
  | a :: l => by
    have := sum_add f g l
    simp only [List.map_cons, List.sum_cons]
    omega
/-- What the first k coins are worth. -/
theorem lev_sum {W : List Nat} (hW : Srt W) (h0 : ∀ x ∈ W, 0 < x) : ∀ t k, k ≤ (Ar W t).length → ((List.range W.length).map (fun r => 2 ^ (t + 1) - 2 ^ (t + 1 - lev W t k r))).sum = k * 2 ^ t
  | 0, k, hk => by
    have hk2 : k ≤ W.length := by simpa [Ar] using hk
    have : (List.range W.length).map (fun r => 2 ^ (0 + 1) - 2 ^ (0 + 1 - lev W 0 k r)) = (List.range W.length).map (fun r => if r < k then 1 else 0) := List.map_congr_left (fun r _ => by
      unfold lev
      split <;> rfl)
    rw [this, sum_ite _ _ _ hk2]
  | t + 1, k, hk => by
    obtain ⟨h1, h2, h3, h4, h5⟩ := en_succ hW hk
    have ih := lev_sum hW h0 t (2 * (k - en W (t + 1) k)) (by rw [ar_len]; exact h3)
    have hn := nested hW h0 hk
    have e : (List.range W.length).map (fun r => 2 ^ (t + 1 + 1) - 2 ^ (t + 1 + 1 - lev W (t + 1) k r)) = (List.range W.length).map (fun r => (if r < en W (t + 1) k then 2 ^ (t + 1) else 0) + (2 ^ (t + 1) - 2 ^ (t + 1 - lev W t (2 * (k - en W (t + 1) k)) r))) := List.map_congr_left (fun r _ => by
      have hle := lev_le W t (2 * (k - en W (t + 1) k)) r
      have hp : 2 ^ (t + 1 - lev W t (2 * (k - en W (t + 1) k)) r) ≤ 2 ^ (t + 1) := Nat.pow_le_pow_right (by decide) (by omega)
      have hp2 : 2 ^ (t + 1 + 1) = 2 ^ (t + 1) + 2 ^ (t + 1) := by rw [Nat.pow_succ]; omega
      rw [lev_succ]
      split
      · rw [show t + 1 + 1 - (1 + lev W t (2 * (k - en W (t + 1) k)) r) = t + 1 - lev W t (2 * (k - en W (t + 1) k)) r by omega, hp2]
        generalize 2 ^ (t + 1 - lev W t (2 * (k - en W (t + 1) k)) r) = X at *
        generalize 2 ^ (t + 1) = P at *
        omega
      · rename_i hr
        rw [lev_zero hW h0 t _ r (by rw [ar_len]; exact h3) (by omega)]
        simp)
    rw [e, sum_add, ih, sum_ite _ _ _ h1, Nat.pow_succ]
    have : 2 * (k - en W (t + 1) k) * 2 ^ t = (k - en W (t + 1) k) * (2 ^ t * 2) := by
      rw [Nat.mul_comm 2 (k - en W (t + 1) k), Nat.mul_assoc, Nat.mul_comm 2 (2 ^ t)]
    rw [this, ← Nat.add_mul]
    congr 1
    omega
/-- The coins of the least cost make lengths that weigh as much as the whole. -/
theorem lev_kraft {W : List Nat} (hW : Srt W) (h0 : ∀ x ∈ W, 0 < x) (h2 : 2 ≤ W.length) {t : Nat} (hk : 2 * W.length - 2 ≤ (row W t).length) :
    ((List.range W.length).map (fun r => 2 ^ (t + 1 - lev W t (2 * W.length - 2) r))).sum = 2 ^ (t + 1) ∧ ∀ r, r < W.length → 1 ≤ lev W t (2 * W.length - 2) r := by
  have h1 := lev_sum hW h0 t (2 * W.length - 2) (by rw [ar_len]; exact hk)
  have hsum : ((List.range W.length).map (fun r => 2 ^ (t + 1) - 2 ^ (t + 1 - lev W t (2 * W.length - 2) r))).sum + ((List.range W.length).map (fun r => 2 ^ (t + 1 - lev W t (2 * W.length - 2) r))).sum = W.length * 2 ^ (t + 1) := by
    rw [← sum_add]
    have : (List.range W.length).map (fun r => 2 ^ (t + 1) - 2 ^ (t + 1 - lev W t (2 * W.length - 2) r) + 2 ^ (t + 1 - lev W t (2 * W.length - 2) r)) = (List.range W.length).map (fun r => if r < W.length then 2 ^ (t + 1) else 0) := List.map_congr_left (fun r hr => by
      have : 2 ^ (t + 1 - lev W t (2 * W.length - 2) r) ≤ 2 ^ (t + 1) := Nat.pow_le_pow_right (by decide) (by omega)
      rw [if_pos (List.mem_range.1 hr)]
      omega)
    rw [this, sum_ite _ _ _ (Nat.le_refl _)]
  have hv : (2 * W.length - 2) * 2 ^ t + 2 ^ (t + 1) = W.length * 2 ^ (t + 1) := by
    rw [Nat.pow_succ]
    generalize 2 ^ t = P
    obtain ⟨m, hm⟩ : ∃ m, W.length = m + 2 := ⟨W.length - 2, by omega⟩
    rw [hm, show 2 * (m + 2) - 2 = 2 * m + 2 by omega, Nat.add_mul, Nat.add_mul, Nat.mul_comm P 2, ← Nat.mul_assoc, Nat.mul_comm m 2]
    omega
  have hK : ((List.range W.length).map (fun r => 2 ^ (t + 1 - lev W t (2 * W.length - 2) r))).sum = 2 ^ (t + 1) := by omega
  refine ⟨hK, fun r hr => ?_⟩
  by_cases hz : lev W t (2 * W.length - 2) r = 0
  · exfalso
    obtain ⟨s, hs, hne⟩ : ∃ s, s < W.length ∧ s ≠ r := by
      by_cases h : r = 0
      · exact ⟨1, by omega, by omega⟩
      · exact ⟨0, by omega, fun e => h e.symm⟩
    have key : ∀ (f : Nat → Nat) (n a b : Nat), a < n → b < n → a ≠ b → f a + f b ≤ ((List.range n).map f).sum := by
      intro f n
      have one : ∀ n a, a < n → f a ≤ ((List.range n).map f).sum := by
        intro n
        induction n with
        | zero => intro a h; omega
        | succ n ih =>
          intro a h
          rw [List.range_succ, List.map_append, List.sum_append]
          by_cases e : a = n
          · subst e; simp
          · have := ih a (by omega); simp; omega
      induction n with
      | zero => intro a b h; omega
      | succ n ih =>
        intro a b ha hb hab
        rw [List.range_succ, List.map_append, List.sum_append]
        simp only [List.map_cons, List.map_nil, List.sum_cons, List.sum_nil]
        by_cases e : a = n
        · subst e
          have := one a b (by omega)
          omega
        · by_cases e2 : b = n
          · subst e2
            have := one b a (by omega)
            omega
          · have := ih a b (by omega) (by omega) hab
            omega
    have h3 := key (fun r => 2 ^ (t + 1 - lev W t (2 * W.length - 2) r)) W.length r s hr hs (fun e => hne e.symm)
    have h4 : 0 < 2 ^ (t + 1 - lev W t (2 * W.length - 2) s) := Nat.two_pow_pos _
    simp only [hz, Nat.sub_zero] at h3
    omega
  · omega
theorem sum_take (W : List Nat) : ∀ e, e ≤ W.length → ((List.range W.length).map (fun r => if r < e then W.getD r 0 else 0)).sum = ps W e := by
  intro e he
  have key : ∀ n, n ≤ W.length → ((List.range n).map (fun r => if r < e then W.getD r 0 else 0)).sum = ps W (min n e) := by
    intro n
    induction n with
    | zero => intro _; simp [ps]
    | succ n ih =>
      intro hn
      rw [List.range_succ, List.map_append, List.sum_append, ih (by omega)]
      simp only [List.map_cons, List.map_nil, List.sum_cons, List.sum_nil]
      split
      · rename_i h
        rw [Nat.min_eq_left (by omega), Nat.min_eq_left (by omega)]
        unfold ps
        rw [List.take_add_one, List.sum_append, List.getElem?_eq_getElem (by omega), List.getD_eq_getElem?_getD, List.getElem?_eq_getElem (by omega)]
        simp
      · rename_i h
        rw [Nat.min_eq_right (by omega), Nat.min_eq_right (by omega)]
        simp
  have := key W.length (Nat.le_refl _)
  rwa [Nat.min_eq_right he] at this
/-- What the symbols cost so is what the first k coins cost. -/
theorem lev_cost {W : List Nat} (hW : Srt W) : ∀ t k, k ≤ (Ar W t).length → ((List.range W.length).map (fun r => W.getD r 0 * lev W t k r)).sum = ps (row W t) k
  | 0, k, hk => by
    have hk2 : k ≤ W.length := by simpa [Ar] using hk
    rw [show row W 0 = W from rfl, ← sum_take W k hk2]
    congr 1
    refine List.map_congr_left (fun r _ => ?_)
    unfold lev
    split <;> simp
  | t + 1, k, hk => by
    obtain ⟨h1, h2, h3, h4, h5⟩ := en_succ hW hk
    have ih := lev_cost hW t (2 * (k - en W (t + 1) k)) (by rw [ar_len]; exact h3)
    have e : (List.range W.length).map (fun r => W.getD r 0 * lev W (t + 1) k r) = (List.range W.length).map (fun r => (if r < en W (t + 1) k then W.getD r 0 else 0) + W.getD r 0 * lev W t (2 * (k - en W (t + 1) k)) r) := List.map_congr_left (fun r _ => by
      rw [lev_succ, Nat.mul_add]
      split <;> simp)
    rw [e, sum_add, ih, sum_take W _ h1, ← ps_pr _ _ h3]
    have h6 := (h5.map (·.1)).sum_nat
    rw [List.map_append, tag_fst, tag_fst, List.sum_append, List.map_take, ar_row] at h6
    unfold ps
    omega
end Go.Proofs.Ythpocbpleffdpaa.Pm
