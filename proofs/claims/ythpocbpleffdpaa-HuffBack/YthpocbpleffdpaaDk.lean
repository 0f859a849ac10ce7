/- Symbols found by their codes: mathematics. -/
import Derived.Test.YthpocbpleffdpaaCo
namespace Go.Proofs.Ythpocbpleffdpaa
open Go.RowKit
set_option linter.unusedVariables false
/-- Behind the last code of the length n. -/
def fn (zs : List Int) (n : Nat) : Nat := fc zs n + (if n = 0 then 0 else cnt zs n zs.length)
theorem fn_zero (zs : List Int) : fn zs 0 = 0 := rfl
theorem fc_succ (zs : List Int) (n : Nat) : fc zs (n + 1) = 2 * fn zs n := rfl
theorem fn_succ (zs : List Int) (n : Nat) : fn zs (n + 1) = 2 * fn zs n + cnt zs (n + 1) zs.length := by
  unfold fn
  rw [fc_succ, if_neg (by omega)]
  rfl
/-- How many symbols have a code of at most n bits. -/
def ac (zs : List Int) : Nat → Nat
  | 0 => 0
  | n + 1 => ac zs n + cnt zs (n + 1) zs.length
theorem cnt_mono (zs : List Int) (n : Nat) {i j : Nat} (h : i ≤ j) : cnt zs n i ≤ cnt zs n j := by
  induction j with
  | zero => obtain rfl : i = 0 := by omega
            exact Nat.le_refl _
  | succ j ih =>
    by_cases e : i = j + 1
    · subst e; exact Nat.le_refl _
    · have := ih (by omega)
      simp only [cnt]
      split <;> omega
theorem cnt_lt (zs : List Int) {n k m : Nat} (hk : k < m) (e : zs.getD k 0 = (n : Int)) : cnt zs n k < cnt zs n m := by
  have h1 : cnt zs n (k + 1) = cnt zs n k + 1 := by simp only [cnt]; rw [if_pos e]
  have h2 := cnt_mono zs n (show k + 1 ≤ m by omega)
  omega
theorem rank_ex (zs : List Int) (n : Nat) : ∀ m r, r < cnt zs n m → ∃ k, k < m ∧ zs.getD k 0 = (n : Int) ∧ cnt zs n k = r
  | 0, r, h => by simp [cnt] at h
  | m + 1, r, h => by
    by_cases h2 : r < cnt zs n m
    · obtain ⟨k, a, b, c⟩ := rank_ex zs n m r h2
      exact ⟨k, by omega, b, c⟩
    · simp only [cnt] at h
      by_cases e : zs.getD m 0 = (n : Int)
      · rw [if_pos e] at h
        exact ⟨m, by omega, e, by omega⟩
      · rw [if_neg e] at h
        omega
theorem rank_inj (zs : List Int) {n k j : Nat} (hk : zs.getD k 0 = (n : Int)) (hj : zs.getD j 0 = (n : Int)) (e : cnt zs n k = cnt zs n j) : k = j := by
  by_cases h : k < j
  · have := cnt_lt zs h hk; omega
  · by_cases h2 : j < k
    · have := cnt_lt zs h2 hj; omega
    · omega
theorem lt_len {zs : List Int} {k n : Nat} (hn : 1 ≤ n) (e : zs.getD k 0 = (n : Int)) : k < zs.length := by
  by_cases h : k < zs.length
  · exact h
  · rw [List.getD_eq_getElem?_getD, List.getElem?_eq_none (by omega)] at e
    simp at e
    omega
theorem cd_is {zs : List Int} {k n : Nat} (e : zs.getD k 0 = (n : Int)) : cd zs k = ((fc zs n + cnt zs n k : Nat) : Int) := by unfold cd; rw [e, Int.toNat_natCast]
theorem cd_lt {zs : List Int} {k n : Nat} (hn : 1 ≤ n) (e : zs.getD k 0 = (n : Int)) : fc zs n + cnt zs n k < fn zs n := by
  have h1 := cnt_lt zs (lt_len hn e) e
  unfold fn
  rw [if_neg (by omega)]
  omega
/-- The weight of the codes of at most n bits. -/
def pwi (zs : List Int) (i : Nat) : Nat → Nat
  | 0 => 0
  | n + 1 => pwi zs i n + cnt zs (n + 1) i * 2 ^ (15 - (n + 1))
theorem fn_pwi (zs : List Int) : ∀ n, n ≤ 15 → fn zs n * 2 ^ (15 - n) = pwi zs zs.length n
  | 0, _ => by simp [fn_zero, pwi]
  | n + 1, h => by
    have ih := fn_pwi zs n (by omega)
    simp only [pwi]
    rw [fn_succ, Nat.add_mul, ← ih, show 15 - n = (15 - (n + 1)) + 1 by omega, Nat.pow_succ]
    congr 1
    rw [Nat.mul_comm 2 (fn zs n), Nat.mul_assoc, Nat.mul_comm 2]
theorem pwi_step (zs : List Int) (i : Nat) : ∀ n, pwi zs (i + 1) n = pwi zs i n + (if 1 ≤ zs.getD i 0 ∧ zs.getD i 0 ≤ (n : Int) then 2 ^ (15 - (zs.getD i 0).toNat) else 0)
  | 0 => by simp only [pwi]; rw [if_neg (by omega)]
  | n + 1 => by
    have ih := pwi_step zs i n
    simp only [pwi]
    rw [ih]
    simp only [cnt]
    by_cases e : zs.getD i 0 = ((n + 1 : Nat) : Int)
    · rw [if_pos e, if_neg (by rw [e]; omega), if_pos (by rw [e]; omega), e, Int.toNat_natCast, Nat.add_mul]
      omega
    · rw [if_neg e]
      by_cases h : 1 ≤ zs.getD i 0 ∧ zs.getD i 0 ≤ (n : Int)
      · rw [if_pos h, if_pos ⟨h.1, by omega⟩]
        simp only [Nat.add_zero]
        omega
      · rw [if_neg h, if_neg (by omega)]
        simp only [Nat.add_zero]
theorem pwi_zero (zs : List Int) : ∀ n, pwi zs 0 n = 0
  | 0 => rfl
  | n + 1 => by simp only [pwi, cnt, pwi_zero zs n]; omega
theorem wgt_pwi (zs : List Int) (hw : Wi 15 zs) : ∀ i, i ≤ zs.length → wgt (zs.take i) = pwi zs i 15
  | 0, _ => by rw [pwi_zero]; simp [wgt]
  | i + 1, h => by
    rw [wgt_snoc zs i (by omega), wgt_pwi zs hw i (by omega), pwi_step]
    congr 1
    have hz : zs.getD i 0 ≤ 15 := (hw (zs.getD i 0) (by rw [List.getD_eq_getElem?_getD, List.getElem?_eq_getElem (show i < zs.length by omega)]; exact List.getElem_mem _)).2
    by_cases h0 : 0 < zs.getD i 0
    · rw [if_pos h0, if_pos ⟨by omega, hz⟩]
      obtain ⟨m, hm⟩ := Int.eq_ofNat_of_zero_le (show 0 ≤ zs.getD i 0 by omega)
      rw [hm] at hz ⊢
      rw [Int.toNat_natCast, show (32768 : Nat) = 2 ^ (15 - m) * 2 ^ m by rw [← Nat.pow_add, show 15 - m + m = 15 by omega]]
      exact Nat.mul_div_cancel _ (Nat.two_pow_pos m)
    · rw [if_neg h0, if_neg (by omega)]
theorem wgt_fn (zs : List Int) (hw : Wi 15 zs) : wgt zs = fn zs 15 := by
  have h1 := wgt_pwi zs hw zs.length (Nat.le_refl _)
  have h2 := fn_pwi zs 15 (Nat.le_refl _)
  rw [List.take_length] at h1
  simp only [Nat.sub_self, Nat.pow_zero, Nat.mul_one] at h2
  omega
theorem pwi_mono (zs : List Int) (i : Nat) {m n : Nat} (h : m ≤ n) : pwi zs i m ≤ pwi zs i n := by
  induction n with
  | zero => obtain rfl : m = 0 := by omega
            exact Nat.le_refl _
  | succ n ih =>
    by_cases e : m = n + 1
    · subst e; exact Nat.le_refl _
    · have := ih (by omega)
      simp only [pwi]
      omega
/-- The first n bits as a number, the first one on top. -/
def xv (b : Nat → Nat) : Nat → Nat
  | 0 => 0
  | n + 1 => 2 * xv b n + b n
/-- No code of at most n bits is there. -/
def Nm (zs : List Int) (b : Nat → Nat) (n : Nat) : Prop := ∀ m, m ≤ n → fn zs m ≤ xv b m
theorem Nm.zero (zs : List Int) (b : Nat → Nat) : Nm zs b 0 := fun m hm => by
  obtain rfl : m = 0 := by omega
  rw [fn_zero]
  exact Nat.zero_le _
theorem Nm.step {zs : List Int} {b : Nat → Nat} {n : Nat} (h : Nm zs b n) (h2 : fn zs (n + 1) ≤ xv b (n + 1)) : Nm zs b (n + 1) := fun m hm => by
  by_cases e : m = n + 1
  · subst e; exact h2
  · exact h m (by omega)

theorem Nm.fc {zs : List Int} {b : Nat → Nat} {n : Nat} (h : Nm zs b n) : Go.Proofs.Ythpocbpleffdpaa.fc zs (n + 1) ≤ xv b (n + 1) := by
  have := h n (Nat.le_refl _)
  rw [fc_succ]
  simp only [xv]
  omega
def Dec (zs : List Int) (b : Nat → Nat) (there : Nat) (s n e : Int) : Prop :=
  (∃ k m, s = ((k : Nat) : Int) ∧ n = ((m + 1 : Nat) : Int) ∧ e = 0 ∧ m + 1 ≤ there ∧ zs.getD k 0 = ((m + 1 : Nat) : Int) ∧ Go.Proofs.Ythpocbpleffdpaa.fc zs (m + 1) + cnt zs (m + 1) k = xv b (m + 1) ∧ Nm zs b m) ∨
  (s = 0 ∧ n = 0 ∧ e = 131 ∧ ∃ m, m ≤ there ∧ Nm zs b m ∧ wgt zs ≤ xv b m * 2 ^ (15 - m)) ∨
  (s = 0 ∧ n = 0 ∧ e = 120 ∧ Nm zs b there ∧ xv b there * 2 ^ (15 - there) < wgt zs)
theorem xv_up (b : Nat → Nat) {m n : Nat} (h : m ≤ n) : xv b m * 2 ^ (n - m) ≤ xv b n := by
  induction n with
  | zero => obtain rfl : m = 0 := by omega
            simp [xv]
  | succ n ih =>
    by_cases e : m = n + 1
    · subst e; simp
    · have := ih (by omega)
      simp only [xv]
      rw [show n + 1 - m = (n - m) + 1 by omega, Nat.pow_succ, ← Nat.mul_assoc]
      omega
theorem xv_pad (b : Nat → Nat) {m n : Nat} (h : m ≤ n) (h15 : n ≤ 15) : xv b m * 2 ^ (15 - m) ≤ xv b n * 2 ^ (15 - n) := by
  have h1 := Nat.mul_le_mul_right (2 ^ (15 - n)) (xv_up b h)
  rw [Nat.mul_assoc, ← Nat.pow_add, show n - m + (15 - n) = 15 - m by omega] at h1
  exact h1
theorem fn_wgt {zs : List Int} (hw : Wi 15 zs) {n : Nat} (h : n ≤ 15) : fn zs n * 2 ^ (15 - n) ≤ wgt zs := by
  have h2 := fn_pwi zs 15 (Nat.le_refl _)
  simp only [Nat.sub_self, Nat.pow_zero, Nat.mul_one] at h2
  rw [wgt_fn zs hw, fn_pwi zs n h, h2]
  exact pwi_mono zs _ h
theorem found_lt {zs : List Int} {b : Nat → Nat} {k m : Nat} (h5 : zs.getD k 0 = ((m + 1 : Nat) : Int)) (h6 : Go.Proofs.Ythpocbpleffdpaa.fc zs (m + 1) + cnt zs (m + 1) k = xv b (m + 1)) : xv b (m + 1) < fn zs (m + 1) := by
  have := cd_lt (by omega) h5
  omega
theorem Dec.uniq {zs : List Int} (hw : Wi 15 zs) {b : Nat → Nat} {there : Nat} (ht : there ≤ 15) {s n e s' n' e' : Int} (h : Dec zs b there s n e) (h' : Dec zs b there s' n' e') : s = s' ∧ n = n' ∧ e = e' := by
  have f2 : ∀ {k m : Nat}, m + 1 ≤ there → zs.getD k 0 = ((m + 1 : Nat) : Int) → Go.Proofs.Ythpocbpleffdpaa.fc zs (m + 1) + cnt zs (m + 1) k = xv b (m + 1) → ∀ q, q ≤ there → Nm zs b q → wgt zs ≤ xv b q * 2 ^ (15 - q) → False := fun {k m} h1 h2 h3 q hq h4 h5 => by
    have h6 := found_lt h2 h3
    by_cases hm : m + 1 ≤ q
    · have := h4 (m + 1) hm
      omega
    · have h7 := xv_pad b (show q ≤ m + 1 by omega) (by omega)
      have h8 := fn_wgt hw (show m + 1 ≤ 15 by omega)
      have h9 := Nat.mul_lt_mul_of_pos_right h6 (Nat.two_pow_pos (15 - (m + 1)))
      omega
  have f3 : ∀ {k m : Nat}, m + 1 ≤ there → zs.getD k 0 = ((m + 1 : Nat) : Int) → Go.Proofs.Ythpocbpleffdpaa.fc zs (m + 1) + cnt zs (m + 1) k = xv b (m + 1) → Nm zs b there → False := fun {k m} h1 h2 h3 h4 => by
    have h6 := found_lt h2 h3
    have := h4 (m + 1) h1
    omega
  have g2 : ∀ q, q ≤ there → wgt zs ≤ xv b q * 2 ^ (15 - q) → xv b there * 2 ^ (15 - there) < wgt zs → False := fun q hq h1 h2 => by
    have := xv_pad b hq ht
    omega
  rcases h with ⟨k, m, rfl, rfl, rfl, h4, h5, h6, h7⟩ | ⟨rfl, rfl, rfl, q, hq, h4, h5⟩ | ⟨rfl, rfl, rfl, h4, h5⟩
  · rcases h' with ⟨k', m', rfl, rfl, rfl, a4, a5, a6, a7⟩ | ⟨rfl, rfl, rfl, q, hq, a4, a5⟩ | ⟨rfl, rfl, rfl, a4, a5⟩
    · have e1 : m = m' := by
        by_cases h : m < m'
        · have := a7 (m + 1) (by omega); have := found_lt h5 h6; omega
        · by_cases h2 : m' < m
          · have := h7 (m' + 1) (by omega); have := found_lt a5 a6; omega
          · omega
      subst e1
      obtain rfl := rank_inj zs h5 a5 (by omega)
      exact ⟨rfl, rfl, rfl⟩
    · exact (f2 h4 h5 h6 q hq a4 a5).elim
    · exact (f3 h4 h5 h6 a4).elim
  · rcases h' with ⟨k', m', rfl, rfl, rfl, a4, a5, a6, a7⟩ | ⟨rfl, rfl, rfl, q', hq', a4, a5⟩ | ⟨rfl, rfl, rfl, a4, a5⟩
    · exact (f2 a4 a5 a6 q hq h4 h5).elim
    · exact ⟨rfl, rfl, rfl⟩
    · exact (g2 q hq h5 a5).elim
  · rcases h' with ⟨k', m', rfl, rfl, rfl, a4, a5, a6, a7⟩ | ⟨rfl, rfl, rfl, q', hq', a4, a5⟩ | ⟨rfl, rfl, rfl, a4, a5⟩
    · exact (f3 a4 a5 a6 h4).elim
    · exact (g2 q' hq' a5 h5).elim
    · exact ⟨rfl, rfl, rfl⟩
/-- A number that is a code of the length n is a symbol's. -/
theorem code_sym {zs : List Int} {n c : Nat} (hn : 1 ≤ n) (h1 : Go.Proofs.Ythpocbpleffdpaa.fc zs n ≤ c) (h2 : c < fn zs n) : ∃ k, k < zs.length ∧ zs.getD k 0 = (n : Int) ∧ Go.Proofs.Ythpocbpleffdpaa.fc zs n + cnt zs n k = c := by
  unfold fn at h2
  rw [if_neg (by omega)] at h2
  obtain ⟨k, a, e, r⟩ := rank_ex zs n zs.length (c - Go.Proofs.Ythpocbpleffdpaa.fc zs n) (by omega)
  exact ⟨k, a, e, by omega⟩
/-- The document's way: no symbol of the length n + 1 has that code. -/
theorem Nm.none {zs : List Int} {b : Nat → Nat} {n : Nat} (h : Nm zs b n) (h2 : ∀ k, k < zs.length → zs.getD k 0 = ((n + 1 : Nat) : Int) → Go.Proofs.Ythpocbpleffdpaa.fc zs (n + 1) + cnt zs (n + 1) k ≠ xv b (n + 1)) : Nm zs b (n + 1) := h.step (by
  have h3 := h.fc
  by_cases h4 : fn zs (n + 1) ≤ xv b (n + 1)
  · exact h4
  · obtain ⟨k, a, e, r⟩ := code_sym (by omega) h3 (by omega)
    exact absurd r (h2 k a e))
theorem ref_bits {zs : List Int} (hw : Wi 15 zs) {b : Nat → Nat} {there k n : Nat} (e : zs.getD k 0 = (n : Int)) (hn : there < n) (h15 : n ≤ 15) (h : (Go.Proofs.Ythpocbpleffdpaa.fc zs n + cnt zs n k) / 2 ^ (n - there) = xv b there) : xv b there * 2 ^ (15 - there) < wgt zs := by
  have h1 := cd_lt (by omega) e
  have h2 := fn_wgt hw h15
  have h3 : xv b there * 2 ^ (n - there) ≤ Go.Proofs.Ythpocbpleffdpaa.fc zs n + cnt zs n k := by rw [← h]; exact Nat.div_mul_le_self _ _
  have h4 := Nat.mul_lt_mul_of_pos_right (Nat.lt_of_le_of_lt h3 h1) (Nat.two_pow_pos (15 - n))
  rw [Nat.mul_assoc, ← Nat.pow_add, show n - there + (15 - n) = 15 - there by omega] at h4
  omega
theorem ref_code {zs : List Int} (hw : Wi 15 zs) {b : Nat → Nat} {there : Nat} (ht : there ≤ 15) (hm : Nm zs b there) (h : ∀ k n, k < zs.length → zs.getD k 0 = ((n : Nat) : Int) → there < n → (Go.Proofs.Ythpocbpleffdpaa.fc zs n + cnt zs n k) / 2 ^ (n - there) ≠ xv b there) : wgt zs ≤ xv b there * 2 ^ (15 - there) := by
  by_cases hc : wgt zs ≤ xv b there * 2 ^ (15 - there)
  · exact hc
  · exfalso
    have hP : ∀ n, there ≤ n → n ≤ 15 → fn zs n * 2 ^ (15 - n) ≤ xv b there * 2 ^ (15 - there) := fun n => by
      induction n with
      | zero => intro h1 _
                obtain rfl : there = 0 := by omega
                exact Nat.mul_le_mul_right _ (hm 0 (Nat.le_refl _))
      | succ n ih =>
        intro h1 h2
        by_cases e : there = n + 1
        · subst e
          exact Nat.mul_le_mul_right _ (hm _ (Nat.le_refl _))
        · have h3 := ih (by omega) (by omega)
          by_cases h4 : fn zs (n + 1) * 2 ^ (15 - (n + 1)) ≤ xv b there * 2 ^ (15 - there)
          · exact h4
          · exfalso
            have e1 : xv b there * 2 ^ (15 - there) = xv b there * 2 ^ (n + 1 - there) * 2 ^ (15 - (n + 1)) := by
              rw [Nat.mul_assoc, ← Nat.pow_add, show n + 1 - there + (15 - (n + 1)) = 15 - there by omega]
            have e2 : fn zs n * 2 ^ (15 - n) = Go.Proofs.Ythpocbpleffdpaa.fc zs (n + 1) * 2 ^ (15 - (n + 1)) := by
              rw [fc_succ, show 15 - n = (15 - (n + 1)) + 1 by omega, Nat.pow_succ, Nat.mul_comm 2 (fn zs n), Nat.mul_assoc, Nat.mul_comm 2]
            rw [e1] at h3 h4
            rw [e2] at h3
            have p := Nat.two_pow_pos (15 - (n + 1))
            have a1 : Go.Proofs.Ythpocbpleffdpaa.fc zs (n + 1) ≤ xv b there * 2 ^ (n + 1 - there) := Nat.le_of_mul_le_mul_right h3 p
            have a2 : xv b there * 2 ^ (n + 1 - there) < fn zs (n + 1) := Nat.lt_of_mul_lt_mul_right (Nat.lt_of_not_le h4)
            obtain ⟨k, hk, e3, e4⟩ := code_sym (by omega) a1 a2
            refine h k (n + 1) hk e3 (by omega) ?_
            rw [e4]
            exact Nat.mul_div_cancel _ (Nat.two_pow_pos _)
    have := hP 15 ht (Nat.le_refl _)
    simp only [Nat.sub_self, Nat.pow_zero, Nat.mul_one] at this
    rw [← wgt_fn zs hw] at this
    exact hc this
/-- At 15 bits nothing is left. -/
theorem Nm.full {zs : List Int} (hw : Wi 15 zs) {b : Nat → Nat} (h : Nm zs b 15) : wgt zs ≤ xv b 15 * 2 ^ (15 - 15) := by
  have := h 15 (Nat.le_refl _)
  rw [wgt_fn zs hw]
  simpa using this
theorem xv_lt (b : Nat → Nat) (hb : ∀ k, b k ≤ 1) : ∀ n, xv b n < 2 ^ n
  | 0 => by simp [xv]
  | n + 1 => by
    have := xv_lt b hb n
    have := hb n
    simp only [xv, Nat.pow_succ]
    omega
/-- The symbols in the order of their codes. -/
structure Byc (zs S : List Int) : Prop where
  len : S.length = ac zs 15
  at_ : ∀ k n : Nat, 1 ≤ n → n ≤ 15 → zs.getD k 0 = (n : Int) → S.getD (ac zs (n - 1) + cnt zs n k) 0 = (k : Int)
theorem ac_mono (zs : List Int) {m n : Nat} (h : m ≤ n) : ac zs m ≤ ac zs n := by
  induction n with
  | zero => obtain rfl : m = 0 := by omega
            exact Nat.le_refl _
  | succ n ih =>
    by_cases e : m = n + 1
    · subst e; exact Nat.le_refl _
    · have := ih (by omega)
      simp only [ac]
      omega
theorem ac_lt {zs : List Int} {k n : Nat} (h1 : 1 ≤ n) (h2 : n ≤ 15) (e : zs.getD k 0 = (n : Int)) : ac zs (n - 1) + cnt zs n k < ac zs 15 := by
  have h3 := cnt_lt zs (lt_len h1 e) e
  have h4 := ac_mono zs h2
  have h5 : ac zs n = ac zs (n - 1) + cnt zs n zs.length := by
    obtain ⟨m, rfl⟩ : ∃ m, n = m + 1 := ⟨n - 1, by omega⟩
    rfl
  omega
end Go.Proofs.Ythpocbpleffdpaa
