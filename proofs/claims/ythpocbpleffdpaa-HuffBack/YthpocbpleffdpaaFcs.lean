/- The arrays of numbers and of first codes are what the reference reckons. -/
import Derived.Test.YthpocbpleffdpaaFst
namespace Go.Proofs.Ythpocbpleffdpaa
open Go.RowKit
theorem cn_append (a b : List (Nat × Int)) (k : Nat) : cn (a ++ b) k = cn a k + cn b k := by simp [cn]
theorem cn_cds (zs : List Int) (k : Nat) (hk : 0 < k) (i : Nat) : cn (cds zs i) k = cnt zs k i := by
  induction i with
  | zero => rfl
  | succ i ih =>
    have e : zs[i]?.getD 0 = zs.getD i 0 := by simp [List.getD]
    unfold cnt
    rw [← ih]
    by_cases h : 0 < zs[i]?.getD 0
    · rw [cds_yes h, cn_append, e]
      by_cases h2 : zs.getD i 0 = (k : Int)
      · rw [if_pos h2]
        have : (zs.getD i 0 == (k : Int)) = true := beq_iff_eq.2 h2
        simp only [cn, List.filter_cons, this]
        simp
      · rw [if_neg h2]
        have : (zs.getD i 0 == (k : Int)) = false := beq_eq_false_iff_ne.2 h2
        simp only [cn, List.filter_cons, this]
        simp
    · rw [cds_no h, if_neg (by rw [← e]; omega)]; rfl
theorem cn_cds_0 (zs : List Int) (i : Nat) : cn (cds zs i) 0 = 0 := by
  induction i with
  | zero => rfl
  | succ i ih =>
    by_cases h : 0 < zs[i]?.getD 0
    · rw [cds_yes h, cn_append, ih]
      have : (zs[i]?.getD 0 == ((0 : Nat) : Int)) = false := beq_eq_false_iff_ne.2 (by omega)
      simp only [cn, List.filter_cons, this]
      simp
    · rw [cds_no h, ih]
theorem cl_cds (zs : List Int) (k : Nat) (hk : k ≤ 15) : (cl (cds zs zs.length)).getD k 0 = ((if k = 0 then 0 else cnt zs k zs.length : Nat) : Int) := by
  rw [cl_get _ k hk]
  by_cases h : k = 0
  · subst h; rw [cn_cds_0]; rfl
  · rw [if_neg h, cn_cds zs k (by omega)]
theorem wrap_small {n : Int} (h0 : 0 ≤ n) (h1 : n < 9223372036854775808) : wrap64 n = n := by unfold wrap64; omega
/-- The first codes, as the reference reckons them. -/
theorem fL_fc (zs : List Int) (hl : zs.length ≤ 320) : ∀ k, 1 ≤ k → k ≤ 16 → ∀ n, n < k → (fL (cl (cds zs zs.length)) k).getD n 0 = (fc zs n : Int)
  | 0, h, _, _, _ => by omega
  | 1, _, _, n, hn => by
    obtain rfl : n = 0 := by omega
    rfl
  | k + 2, _, hk, n, hn => by
    have ih := fL_fc zs hl (k + 1) (by omega) (by omega)
    show ((fL (cl (cds zs zs.length)) (k + 1)).set (k + 1) (wrap64 (wrap64 ((fL (cl (cds zs zs.length)) (k + 1)).getD k 0 + (cl (cds zs zs.length)).getD k 0) * 2))).getD n 0 = _
    by_cases e : n = k + 1
    · subst e
      have hlen := fL_len (cl (cds zs zs.length)) (k + 1)
      rw [ih k (by omega), cl_cds zs k (by omega)]
      have h1 := fc_small zs k (by omega) hl
      have h2 := cnt_le zs k zs.length
      have h3 : (if k = 0 then 0 else cnt zs k zs.length) ≤ 320 := by split <;> omega
      rw [wrap_small (n := (fc zs k : Int) + _) (by omega) (by omega), wrap_small (by omega) (by omega)]
      have h4 : (k + 1) < (fL (cl (cds zs zs.length)) (k + 1)).length := by omega
      simp only [List.getD, List.getElem?_set_self h4, Option.getD_some]
      show _ = ((2 * (fc zs k + (if k = 0 then 0 else cnt zs k zs.length)) : Nat) : Int)
      omega
    · rw [← ih n (by omega)]
      simp only [List.getD]
      rw [List.getElem?_set_ne (by omega)]
end Go.Proofs.Ythpocbpleffdpaa
