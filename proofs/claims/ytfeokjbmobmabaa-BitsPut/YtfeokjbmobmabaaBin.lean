/- Plain mathematics of bits: a number's digits (dig), the number that digits say (und), bits in the other order (turn), and 64 bits turned by masks and shifts (rev). -/
import Derived.Test.YtfeokjbmobmabaaNums
namespace Go.Proofs.Ytfeokjbmobmabaa
open Go.RowKit

/-- The lowest n digits of x, base b, the lowest first. -/
def dig (b x n : Nat) : List Int := (List.range n).map fun i => ((x / b ^ i % b : Nat) : Int)
/-- The number that digits say, the lowest first. -/
def und (b : Nat) : List Int → Nat
  | [] => 0
  | z :: r => z.toNat + b * und b r

theorem dig_length (b x n : Nat) : (dig b x n).length = n := by simp [dig]
theorem dig_zero (b x : Nat) : dig b x 0 = [] := rfl
theorem dig_get (b x n i : Nat) (h : i < n) : (dig b x n).getD i 0 = ((x / b ^ i % b : Nat) : Int) := by simp [dig, List.getD, h]
theorem dig_add (b x m n : Nat) : dig b x (m + n) = dig b x m ++ dig b (x / b ^ m) n := by
  unfold dig
  rw [List.range_add, List.map_append, List.map_map]
  congr 1
  apply List.map_congr_left
  intro i _
  simp only [Function.comp, Nat.pow_add, Nat.div_div_eq_div_mul]
theorem dig_snoc (b x n : Nat) : dig b x (n + 1) = dig b x n ++ [((x / b ^ n % b : Nat) : Int)] := by
  rw [dig_add]; simp [dig]
theorem dig_cons (b x n : Nat) : dig b x (n + 1) = ((x % b : Nat) : Int) :: dig b (x / b) n := by
  rw [Nat.add_comm, dig_add]; simp [dig]
theorem dig_take (b x n m : Nat) (h : m ≤ n) : (dig b x n).take m = dig b x m := by
  obtain ⟨k, rfl⟩ := Nat.exists_eq_add_of_le h
  rw [dig_add, List.take_append_of_le_length (by rw [dig_length]; omega), List.take_of_length_le (by rw [dig_length]; omega)]
theorem dig_drop (b x n m : Nat) (h : m ≤ n) : (dig b x n).drop m = dig b (x / b ^ m) (n - m) := by
  obtain ⟨k, rfl⟩ := Nat.exists_eq_add_of_le h
  rw [dig_add, List.drop_append_of_le_length (by rw [dig_length]; omega), List.drop_of_length_le (by rw [dig_length]; omega), List.nil_append, Nat.add_sub_cancel_left]
theorem div_mod_pow (b x m i : Nat) (h : i < m) : x % b ^ m / b ^ i % b = x / b ^ i % b := by
  obtain ⟨k, rfl⟩ : ∃ k, m = i + (k + 1) := ⟨m - i - 1, by omega⟩
  rw [Nat.pow_add, Nat.mod_mul_right_div_self, Nat.pow_succ', Nat.mod_mul_right_mod]
theorem dig_mod (b x m n : Nat) (h : n ≤ m) : dig b (x % b ^ m) n = dig b x n := by
  unfold dig
  apply List.map_congr_left
  intro i hi
  rw [div_mod_pow b x m i (by have := List.mem_range.1 hi; omega)]
theorem dig_join (b x y m n : Nat) (hb : 0 < b) (h : x < b ^ m) : dig b (x + y * b ^ m) (m + n) = dig b x m ++ dig b y n := by
  have hp : 0 < b ^ m := Nat.pow_pos hb
  rw [dig_add]
  congr 1
  · rw [← dig_mod b (x + y * b ^ m) m m (Nat.le_refl _), Nat.add_mul_mod_self_right, dig_mod b x m m (Nat.le_refl _)]
  · rw [Nat.add_mul_div_right _ _ hp, Nat.div_eq_of_lt h, Nat.zero_add]
theorem und_append (b : Nat) (l r : List Int) : und b (l ++ r) = und b l + b ^ l.length * und b r := by
  induction l with
  | nil => simp [und]
  | cons z l ih => simp only [List.cons_append, und, ih, List.length_cons, Nat.pow_succ, Nat.mul_add]; rw [← Nat.mul_assoc, Nat.mul_comm b (b ^ l.length)]; omega
theorem und_dig (b x n : Nat) : und b (dig b x n) = x % b ^ n := by
  induction n generalizing x with
  | zero => simp [dig, und, Nat.mod_one]
  | succ n ih =>
    rw [dig_cons, und, ih, Int.toNat_natCast, Nat.pow_succ', Nat.mod_mul]
theorem und_lt (b : Nat) (l : List Int) (h : ∀ z ∈ l, 0 ≤ z ∧ z < (b : Int)) : und b l < b ^ l.length := by
  induction l with
  | nil => simp [und]
  | cons z l ih =>
    have h1 := h z (by simp)
    have h2 := ih (fun y hy => h y (by simp [hy]))
    simp only [und, List.length_cons, Nat.pow_succ']
    have h3 : b * und b l + b ≤ b * b ^ l.length := by
      rw [← Nat.mul_succ]; exact Nat.mul_le_mul_left b h2
    omega
theorem dig_und (b : Nat) (l : List Int) (h : ∀ z ∈ l, 0 ≤ z ∧ z < (b : Int)) : dig b (und b l) l.length = l := by
  induction l with
  | nil => rfl
  | cons z l ih =>
    have h1 := h z (by simp)
    have hb : 0 < b := by omega
    have h2 := ih (fun y hy => h y (by simp [hy]))
    rw [List.length_cons, dig_cons, und]
    have e1 : (z.toNat + b * und b l) % b = z.toNat := by rw [Nat.add_mul_mod_self_left]; exact Nat.mod_eq_of_lt (by omega)
    have e2 : (z.toNat + b * und b l) / b = und b l := by rw [Nat.add_mul_div_left _ _ hb, Nat.div_eq_of_lt (by omega), Nat.zero_add]
    rw [e1, e2, h2, Int.toNat_of_nonneg h1.1]
theorem dig_range (b x n : Nat) (hb : 0 < b) : ∀ z ∈ dig b x n, 0 ≤ z ∧ z < (b : Int) := by
  intro z hz
  obtain ⟨i, _, rfl⟩ := List.mem_map.1 hz
  have := Nat.mod_lt (x / b ^ i) hb
  omega
theorem dig_byt (x n : Nat) : Byt (dig 256 x n) := by
  intro z hz
  have := dig_range 256 x n (by omega) z hz
  omega
theorem byt_range {l : List Int} (h : Byt l) : ∀ z ∈ l, 0 ≤ z ∧ z < ((256 : Nat) : Int) := by
  intro z hz
  have := h z hz
  omega
theorem pow_256 (k : Nat) : 256 ^ k = 2 ^ (8 * k) := by rw [Nat.pow_mul]

/-- The lowest n bits in the other order. -/
def turn (x : Nat) : Nat → Nat
  | 0 => 0
  | n + 1 => x / 2 ^ n % 2 + 2 * turn x n
theorem turn_lt (x n : Nat) : turn x n < 2 ^ n := by
  induction n with
  | zero => simp [turn]
  | succ n ih => simp only [turn, Nat.pow_succ]; omega
theorem turn_bit (x n i : Nat) : (turn x n).testBit i = (decide (i < n) && x.testBit (n - 1 - i)) := by
  induction n generalizing i with
  | zero => simp [turn]
  | succ n ih =>
    cases i with
    | zero =>
      rw [Nat.testBit_zero]
      simp only [turn, Nat.add_mul_mod_self_left, Nat.mod_mod, Nat.testBit_eq_decide_div_mod_eq]
      simp
    | succ i =>
      rw [Nat.testBit_succ, show turn x (n + 1) / 2 = turn x n by simp only [turn]; omega, ih]
      rw [show n + 1 - 1 - (i + 1) = n - 1 - i by omega]
      simp
theorem turn_und (x n : Nat) : und 2 (dig 2 x n).reverse = turn x n := by
  induction n with
  | zero => rfl
  | succ n ih =>
    rw [dig_snoc, List.reverse_append, List.reverse_singleton, List.singleton_append, und, ih, turn, Int.toNat_natCast]
theorem turn_turn (x n : Nat) : turn (turn x n) n = x % 2 ^ n := by
  apply Nat.eq_of_testBit_eq
  intro i
  rw [turn_bit, turn_bit, Nat.testBit_mod_two_pow]
  by_cases h : i < n
  · simp [h, show n - 1 - i < n by omega, show n - 1 - (n - 1 - i) = i by omega]
  · simp [h]

/-- Neighbours of s bits exchanged, by a mask. -/
def sw (s m x : Nat) : Nat := ((x >>> s) &&& m) ||| ((x &&& m) <<< s)
def pl (s m i : Nat) : Nat := if m.testBit i then s + i else i - s
theorem sw_bit (s m x : Nat) (hA : ∀ i < 64, m.testBit i = true → s ≤ i → m.testBit (i - s) = false) (hB : ∀ i < 64, m.testBit i = false → s ≤ i ∧ m.testBit (i - s) = true) (i : Nat) (hi : i < 64) :
    (sw s m x).testBit i = x.testBit (pl s m i) := by
  unfold sw pl
  rw [Nat.testBit_or, Nat.testBit_and, Nat.testBit_shiftRight, Nat.testBit_shiftLeft, Nat.testBit_and]
  by_cases h : m.testBit i = true
  · rw [if_pos h, h]
    by_cases hs : s ≤ i
    · rw [hA i hi h hs]; simp
    · simp [hs]
  · have h' : m.testBit i = false := by simpa using h
    obtain ⟨h1, h2⟩ := hB i hi h'
    rw [if_neg h, h', h2]; simp [h1]
theorem sw_lt (s m x : Nat) (h : m <<< s < 2 ^ 64) : sw s m x < 2 ^ 64 := by
  unfold sw
  rw [Nat.shiftLeft_eq] at h
  have hm : m < 2 ^ 64 := Nat.lt_of_le_of_lt (Nat.le_mul_of_pos_right _ (Nat.pow_pos (by omega))) h
  apply Nat.or_lt_two_pow
  · exact Nat.and_lt_two_pow _ hm
  · rw [Nat.shiftLeft_eq]
    exact Nat.lt_of_le_of_lt (Nat.mul_le_mul_right _ Nat.and_le_right) h

def rev (x : Nat) : Nat :=
  let y := sw 16 281470681808895 (sw 8 71777214294589695 (sw 4 1085102592571150095 (sw 2 3689348814741910323 (sw 1 6148914691236517205 x))))
  (y >>> 32) ||| (y * 2 ^ 32 % 2 ^ 64)
theorem end_bit (y : Nat) (hy : y < 2 ^ 64) (i : Nat) (hi : i < 64) : ((y >>> 32) ||| (y * 2 ^ 32 % 2 ^ 64)).testBit i = y.testBit (if i < 32 then 32 + i else i - 32) := by
  rw [Nat.testBit_or, Nat.testBit_shiftRight, Nat.testBit_mod_two_pow, ← Nat.shiftLeft_eq, Nat.testBit_shiftLeft]
  by_cases h : i < 32
  · simp [h, show ¬ 32 ≤ i by omega]
  · have : y.testBit (32 + i) = false := Nat.testBit_lt_two_pow (Nat.lt_of_lt_of_le hy (Nat.pow_le_pow_right (by omega) (by omega)))
    simp [h, this, hi, show 32 ≤ i by omega]
theorem rev_bit (x i : Nat) (hi : i < 64) : (rev x).testBit i = x.testBit (63 - i) := by
  unfold rev
  simp only []
  have p0 : ∀ i < 64, (if i < 32 then 32 + i else i - 32) < 64 := by intro i h; split <;> omega
  have q16 : ∀ i < 64, pl 16 281470681808895 i < 64 := by decide +kernel
  have q8 : ∀ i < 64, pl 8 71777214294589695 i < 64 := by decide +kernel
  have q4 : ∀ i < 64, pl 4 1085102592571150095 i < 64 := by decide +kernel
  have q2 : ∀ i < 64, pl 2 3689348814741910323 i < 64 := by decide +kernel
  have all : ∀ i < 64, pl 1 6148914691236517205 (pl 2 3689348814741910323 (pl 4 1085102592571150095 (pl 8 71777214294589695 (pl 16 281470681808895 (if i < 32 then 32 + i else i - 32))))) = 63 - i := by decide +kernel
  rw [end_bit _ (sw_lt _ _ _ (by decide)) i hi]
  rw [sw_bit 16 _ _ (by decide +kernel) (by decide +kernel) _ (p0 i hi)]
  rw [sw_bit 8 _ _ (by decide +kernel) (by decide +kernel) _ (q16 _ (p0 i hi))]
  rw [sw_bit 4 _ _ (by decide +kernel) (by decide +kernel) _ (q8 _ (q16 _ (p0 i hi)))]
  rw [sw_bit 2 _ _ (by decide +kernel) (by decide +kernel) _ (q4 _ (q8 _ (q16 _ (p0 i hi))))]
  rw [sw_bit 1 _ _ (by decide +kernel) (by decide +kernel) _ (q2 _ (q4 _ (q8 _ (q16 _ (p0 i hi)))))]
  rw [all i hi]
theorem rev_lt (x : Nat) : rev x < 2 ^ 64 := by
  unfold rev
  simp only []
  apply Nat.or_lt_two_pow
  · rw [Nat.shiftRight_eq_div_pow]
    exact Nat.lt_of_le_of_lt (Nat.div_le_self _ _) (sw_lt _ _ _ (by decide))
  · exact Nat.mod_lt _ (by decide)
theorem rev_turn (x n : Nat) (h : n ≤ 64) : rev x / 2 ^ (64 - n) = turn x n := by
  apply Nat.eq_of_testBit_eq
  intro i
  rw [← Nat.shiftRight_eq_div_pow, Nat.testBit_shiftRight, turn_bit]
  by_cases hi : i < n
  · rw [rev_bit x _ (by omega)]
    simp [hi, show 63 - (64 - n + i) = n - 1 - i by omega]
  · have : (rev x).testBit (64 - n + i) = false := Nat.testBit_lt_two_pow (Nat.lt_of_lt_of_le (rev_lt x) (Nat.pow_le_pow_right (by omega) (by omega)))
    simp [hi, this]

end Go.Proofs.Ytfeokjbmobmabaa
