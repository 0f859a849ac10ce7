/- granules: how many bits of a word are set. -/
import Derived.Test.YteenlifdamhffaaDoorMa
import Derived.Test.YteenlifdamhffaaDoorKb
namespace Go.Proofs.YteenlifdamhffaaDoor
open Go.RowKit
set_option linter.unusedVariables false
set_option linter.unusedSimpArgs false
/-- How many of n from a on are so. -/
def cnt (p : Nat → Bool) (a : Nat) : Nat → Nat
  | 0 => 0
  | n + 1 => cnt p a n + (if p (a + n) then 1 else 0)
theorem cnt_le (p : Nat → Bool) (a n : Nat) : cnt p a n ≤ n := by
  induction n with
  | zero => exact Nat.le_refl _
  | succ n ih => unfold cnt; split <;> omega
theorem cnt_ext {p q : Nat → Bool} {a b n : Nat} (h : ∀ j, j < n → p (a + j) = q (b + j)) : cnt p a n = cnt q b n := by
  induction n with
  | zero => rfl
  | succ n ih => unfold cnt; rw [ih (fun j hj => h j (by omega)), h n (by omega)]
theorem cnt_add (p : Nat → Bool) (a m n : Nat) : cnt p a (m + n) = cnt p a m + cnt p (a + m) n := by
  induction n with
  | zero => rfl
  | succ n ih =>
    show cnt p a (m + n) + (if p (a + (m + n)) then 1 else 0) = cnt p a m + (cnt p (a + m) n + (if p (a + m + n) then 1 else 0))
    rw [ih, Nat.add_assoc, ← Nat.add_assoc a m n]
theorem cnt_none {p : Nat → Bool} {a n : Nat} (h : ∀ j, j < n → p (a + j) = false) : cnt p a n = 0 := by
  induction n with
  | zero => rfl
  | succ n ih => unfold cnt; rw [ih (fun j hj => h j (by omega)), h n (by omega)]; rfl
/-- How many bits of a word are set. -/
def pc (x : Nat) : Nat := cnt x.testBit 0 64
theorem pc_le (x : Nat) : pc x ≤ 64 := cnt_le _ _ _
theorem pc_cut {x f k : Nat} {p : Nat → Bool} {a : Nat} (hfk : f + k ≤ 64) (h : ∀ j, j < 64 → x.testBit j = (decide (f ≤ j ∧ j < f + k) && p (a + j - f))) : pc x = cnt p a k := by
  unfold pc
  rw [show 64 = f + k + (64 - (f + k)) by omega, cnt_add, cnt_add, cnt_none (p := x.testBit) (a := 0) (n := f), cnt_none (p := x.testBit) (a := 0 + (f + k))]
  · rw [Nat.zero_add, Nat.add_zero]
    refine cnt_ext (fun j hj => ?_)
    rw [Nat.zero_add, h (f + j) (by omega)]
    have e1 : decide (f ≤ f + j ∧ f + j < f + k) = true := decide_eq_true (by omega)
    rw [e1, Bool.true_and]
    congr 1
    omega
  · intro j hj
    rw [Nat.zero_add, h _ (by omega)]
    have e1 : decide (f ≤ f + k + j ∧ f + k + j < f + k) = false := decide_eq_false (by omega)
    rw [e1]; rfl
  · intro j hj
    rw [Nat.zero_add, h _ (by omega)]
    have e1 : decide (f ≤ j ∧ j < f + k) = false := decide_eq_false (by omega)
    rw [e1]; rfl
/-- A byte ahead of others. -/
def cb (y r : Nat) : Nat := 2 ^ 8 * r + y
theorem tb (y r j : Nat) (hy : y < 256) : (cb y r).testBit j = if j < 8 then y.testBit j else r.testBit (j - 8) := Nat.testBit_two_pow_mul_add r hy j
theorem byte_hi {y j : Nat} (hy : y < 256) (hj : 8 ≤ j) : y.testBit j = false := Nat.testBit_lt_two_pow (Nat.lt_of_lt_of_le hy (by
  show 2 ^ 8 ≤ 2 ^ j
  exact Nat.pow_le_pow_right (by omega) hj))
theorem cb_add (a b r s : Nat) : cb a r + cb b s = cb (a + b) (r + s) := by unfold cb; omega
/-- Bits of bytes, moved down and cut. -/
theorem shr_and (s y r c m : Nat) (hs : s < 8) (hy : y < 256) (hc : c < 2 ^ (8 - s)) : (cb y r >>> s) &&& cb c m = cb ((y >>> s) &&& c) ((r >>> s) &&& m) := by
  have hc8 : c < 256 := Nat.lt_of_lt_of_le hc (by
    show _ ≤ 2 ^ 8
    exact Nat.pow_le_pow_right (by omega) (by omega))
  have hyc : (y >>> s) &&& c < 256 := Nat.lt_of_le_of_lt Nat.and_le_right hc8
  apply Nat.eq_of_testBit_eq
  intro j
  rw [Nat.testBit_and, Nat.testBit_shiftRight, tb _ _ _ hy, tb _ _ _ hc8, tb _ _ _ hyc]
  by_cases hj : j < 8
  · rw [if_pos hj, if_pos hj, Nat.testBit_and, Nat.testBit_shiftRight]
    by_cases h2 : s + j < 8
    · rw [if_pos h2]
    · have : c.testBit j = false := Nat.testBit_lt_two_pow (Nat.lt_of_lt_of_le hc (Nat.pow_le_pow_right (by omega) (by omega)))
      rw [this, Bool.and_false, Bool.and_false]
  · rw [if_neg hj, if_neg hj, if_neg (by omega), Nat.testBit_and, Nat.testBit_shiftRight]
    congr 2
    omega
theorem nib (y r m : Nat) (h1 : y % 16 ≤ 4) (h2 : y / 16 ≤ 4) (h3 : r % 16 ≤ 4) : ((cb y r >>> 4) + cb y r) &&& cb 15 m = cb (y / 16 + y % 16) (((r >>> 4) + r) &&& m) := by
  have e : (cb y r >>> 4) + cb y r = cb (y / 16 + y + 16 * (r % 16)) ((r >>> 4) + r) := by
    rw [Nat.shiftRight_eq_div_pow, Nat.shiftRight_eq_div_pow]
    unfold cb
    omega
  rw [e]
  have h4 := shr_and 0 (y / 16 + y + 16 * (r % 16)) ((r >>> 4) + r) 15 m (by omega) (by omega) (by decide)
  rw [Nat.shiftRight_zero, Nat.shiftRight_zero, Nat.shiftRight_zero] at h4
  rw [h4]
  congr 1
  have h5 : ∀ z, z &&& 15 = z % 16 := fun z => Nat.and_two_pow_sub_one_eq_mod z 4
  rw [h5]
  omega
theorem cb_mod (y r : Nat) : cb y r % 16 = y % 16 := by unfold cb; omega
def f1 (y : Nat) : Nat := ((y >>> 1) &&& 85) + (y &&& 85)
def f2 (y : Nat) : Nat := ((y >>> 2) &&& 51) + (y &&& 51)
def f3 (y : Nat) : Nat := y / 16 + y % 16
theorem fs_all : ∀ y : Fin 256, f1 y < 256 ∧ f2 (f1 y) < 256 ∧ f2 (f1 y) % 16 ≤ 4 ∧ f2 (f1 y) / 16 ≤ 4 ∧ f3 (f2 (f1 y)) = cnt (Nat.testBit y) 0 8 := by decide +kernel
theorem fs {y : Nat} (h : y < 256) : f1 y < 256 ∧ f2 (f1 y) < 256 ∧ f2 (f1 y) % 16 ≤ 4 ∧ f2 (f1 y) / 16 ≤ 4 ∧ f3 (f2 (f1 y)) = cnt (Nat.testBit y) 0 8 := fs_all ⟨y, h⟩
theorem pc_cons (y r n : Nat) (hy : y < 256) : cnt (cb y r).testBit 0 (8 + n) = cnt y.testBit 0 8 + cnt r.testBit 0 n := by
  rw [cnt_add]
  congr 1
  · refine cnt_ext (fun j hj => ?_)
    rw [Nat.zero_add, tb _ _ _ hy, if_pos hj]
  · refine cnt_ext (fun j hj => ?_)
    rw [tb _ _ _ hy, if_neg (by omega)]
    congr 1
    omega
def s1 (x : Nat) : Nat := ((x >>> 1) &&& 6148914691236517205) + (x &&& 6148914691236517205)
def s2 (x : Nat) : Nat := ((x >>> 2) &&& 3689348814741910323) + (x &&& 3689348814741910323)
def s3 (x : Nat) : Nat := ((x >>> 4) + x) &&& 1085102592571150095
def s4 (x : Nat) : Nat := x + x / 256
def s5 (x : Nat) : Nat := x + x / 65536
def s6 (x : Nat) : Nat := x + x / 4294967296
theorem split8 {x : Nat} (hx : x < T64) : ∃ a b c d e f g h, a < 256 ∧ b < 256 ∧ c < 256 ∧ d < 256 ∧ e < 256 ∧ f < 256 ∧ g < 256 ∧ h < 256 ∧ x = cb a (cb b (cb c (cb d (cb e (cb f (cb g (cb h 0))))))) := by
  have hx' : x < 18446744073709551616 := hx
  refine ⟨x % 256, x / 256 % 256, x / 65536 % 256, x / 16777216 % 256, x / 4294967296 % 256, x / 1099511627776 % 256, x / 281474976710656 % 256, x / 72057594037927936 % 256, by omega, by omega, by omega, by omega, by omega, by omega, by omega, by omega, ?_⟩
  unfold cb
  omega
theorem and_cb (y r c m : Nat) (hy : y < 256) (hc : c < 256) : cb y r &&& cb c m = cb (y &&& c) (r &&& m) := by
  have h4 := shr_and 0 y r c m (by omega) hy hc
  rw [Nat.shiftRight_zero, Nat.shiftRight_zero, Nat.shiftRight_zero] at h4
  exact h4
theorem s1_cb (y r m : Nat) (hy : y < 256) : ((cb y r >>> 1) &&& cb 85 m) + (cb y r &&& cb 85 m) = cb (f1 y) (((r >>> 1) &&& m) + (r &&& m)) := by
  rw [shr_and 1 y r 85 m (by omega) hy (by decide), and_cb y r 85 m hy (by decide), cb_add]
  rfl
theorem s2_cb (y r m : Nat) (hy : y < 256) : ((cb y r >>> 2) &&& cb 51 m) + (cb y r &&& cb 51 m) = cb (f2 y) (((r >>> 2) &&& m) + (r &&& m)) := by
  rw [shr_and 2 y r 51 m (by omega) hy (by decide), and_cb y r 51 m hy (by decide), cb_add]
  rfl
theorem cb8_lt {a b c d e f g h : Nat} (ha : a < 256) (hb : b < 256) (hc : c < 256) (hd : d < 256) (he : e < 256) (hf : f < 256) (hg : g < 256) (hh : h < 256) : cb a (cb b (cb c (cb d (cb e (cb f (cb g (cb h 0))))))) < T64 := by
  show _ < 18446744073709551616
  unfold cb
  omega
theorem cb8_half {a b c d e f g h : Nat} (ha : a < 256) (hb : b < 256) (hc : c < 256) (hd : d < 256) (he : e < 256) (hf : f < 256) (hg : g < 256) (hh : h < 128) : cb a (cb b (cb c (cb d (cb e (cb f (cb g (cb h 0))))))) < 9223372036854775808 := by
  unfold cb
  omega
theorem half_byte {y : Nat} (h3 : y % 16 ≤ 4) (h4 : y / 16 ≤ 4) : y < 128 := by omega
theorem quarter_more {x : Nat} (h : x < 9223372036854775808) : x / 2 ^ 4 + x < 18446744073709551616 := by omega
theorem s4_cb (a r : Nat) (ha : a < 256) : s4 (cb a r) = cb a r + r := by
  unfold s4 cb
  omega
theorem s5_cb (a b r : Nat) (ha : a < 256) (hb : b < 256) : s5 (cb a (cb b r)) = cb a (cb b r) + r := by
  unfold s5 cb
  omega
theorem s6_cb (a b c d r : Nat) (ha : a < 256) (hb : b < 256) (hc : c < 256) (hd : d < 256) : s6 (cb a (cb b (cb c (cb d r)))) = cb a (cb b (cb c (cb d r))) + r := by
  unfold s6 cb
  omega
theorem cb_128 (a r : Nat) (ha : a < 128) : cb a r % 128 = a := by unfold cb; omega
theorem swar_end {A3 B3 C3 D3 E3 F3 G3 H3 : Nat} (a6 : A3 ≤ 8) (b6 : B3 ≤ 8) (c6 : C3 ≤ 8) (d6 : D3 ≤ 8) (e6 : E3 ≤ 8) (f6 : F3 ≤ 8) (g6 : G3 ≤ 8) (h6 : H3 ≤ 8) :
    s4 (cb A3 (cb B3 (cb C3 (cb D3 (cb E3 (cb F3 (cb G3 (cb H3 0)))))))) < T64 ∧ s5 (s4 (cb A3 (cb B3 (cb C3 (cb D3 (cb E3 (cb F3 (cb G3 (cb H3 0))))))))) < T64 ∧ s6 (s5 (s4 (cb A3 (cb B3 (cb C3 (cb D3 (cb E3 (cb F3 (cb G3 (cb H3 0)))))))))) < 9223372036854775808 ∧ s6 (s5 (s4 (cb A3 (cb B3 (cb C3 (cb D3 (cb E3 (cb F3 (cb G3 (cb H3 0)))))))))) % 128 = A3 + (B3 + (C3 + (D3 + (E3 + (F3 + (G3 + H3)))))) := by
  have k4 : s4 (cb (A3) (cb (B3) (cb (C3) (cb (D3) (cb (E3) (cb (F3) (cb (G3) (cb (H3) 0)))))))) = cb (A3 + B3) (cb (B3 + C3) (cb (C3 + D3) (cb (D3 + E3) (cb (E3 + F3) (cb (F3 + G3) (cb (G3 + H3) (cb (H3) 0))))))) := by
    rw [s4_cb _ _ (by omega)]
    simp only [cb_add, Nat.add_zero]
  have k5 : s5 (cb (A3 + B3) (cb (B3 + C3) (cb (C3 + D3) (cb (D3 + E3) (cb (E3 + F3) (cb (F3 + G3) (cb (G3 + H3) (cb (H3) 0)))))))) = cb (A3 + B3 + (C3 + D3)) (cb (B3 + C3 + (D3 + E3)) (cb (C3 + D3 + (E3 + F3)) (cb (D3 + E3 + (F3 + G3)) (cb (E3 + F3 + (G3 + H3)) (cb (F3 + G3 + (H3)) (cb (G3 + H3) (cb (H3) 0))))))) := by
    rw [s5_cb _ _ _ (by omega) (by omega)]
    simp only [cb_add, Nat.add_zero]
  have k6 : s6 (cb (A3 + B3 + (C3 + D3)) (cb (B3 + C3 + (D3 + E3)) (cb (C3 + D3 + (E3 + F3)) (cb (D3 + E3 + (F3 + G3)) (cb (E3 + F3 + (G3 + H3)) (cb (F3 + G3 + (H3)) (cb (G3 + H3) (cb (H3) 0)))))))) = cb (A3 + B3 + (C3 + D3) + (E3 + F3 + (G3 + H3))) (cb (B3 + C3 + (D3 + E3) + (F3 + G3 + (H3))) (cb (C3 + D3 + (E3 + F3) + (G3 + H3)) (cb (D3 + E3 + (F3 + G3) + (H3)) (cb (E3 + F3 + (G3 + H3)) (cb (F3 + G3 + (H3)) (cb (G3 + H3) (cb (H3) 0))))))) := by
    rw [s6_cb _ _ _ _ _ (by omega) (by omega) (by omega) (by omega)]
    simp only [cb_add, Nat.add_zero]
  rw [k4, k5, k6]
  refine ⟨cb8_lt (by omega) (by omega) (by omega) (by omega) (by omega) (by omega) (by omega) (by omega), cb8_lt (by omega) (by omega) (by omega) (by omega) (by omega) (by omega) (by omega) (by omega), cb8_half (by omega) (by omega) (by omega) (by omega) (by omega) (by omega) (by omega) (by omega), ?_⟩
  rw [cb_128 _ _ (by omega)]
  omega
theorem swar {x : Nat} (hx : x < T64) : s1 x < T64 ∧ s2 (s1 x) < T64 ∧ (s2 (s1 x) >>> 4) + s2 (s1 x) < T64 ∧ s4 (s3 (s2 (s1 x))) < T64 ∧ s5 (s4 (s3 (s2 (s1 x)))) < T64 ∧ s6 (s5 (s4 (s3 (s2 (s1 x))))) < 9223372036854775808 ∧ s6 (s5 (s4 (s3 (s2 (s1 x))))) % 128 = pc x := by
  obtain ⟨a, b, c, d, e, f, g, h, ha, hb, hc, hd, he, hf, hg, hh, rfl⟩ := split8 hx
  have m1 : (6148914691236517205 : Nat) = cb 85 (cb 85 (cb 85 (cb 85 (cb 85 (cb 85 (cb 85 (cb 85 0))))))) := by decide
  have m2 : (3689348814741910323 : Nat) = cb 51 (cb 51 (cb 51 (cb 51 (cb 51 (cb 51 (cb 51 (cb 51 0))))))) := by decide
  have m3 : (1085102592571150095 : Nat) = cb 15 (cb 15 (cb 15 (cb 15 (cb 15 (cb 15 (cb 15 (cb 15 0))))))) := by decide
  have e1 : s1 (cb a (cb b (cb c (cb d (cb e (cb f (cb g (cb h 0)))))))) = cb (f1 a) (cb (f1 b) (cb (f1 c) (cb (f1 d) (cb (f1 e) (cb (f1 f) (cb (f1 g) (cb (f1 h) 0))))))) := by
    unfold s1
    rw [m1, s1_cb _ _ _ ha, s1_cb _ _ _ hb, s1_cb _ _ _ hc, s1_cb _ _ _ hd, s1_cb _ _ _ he, s1_cb _ _ _ hf, s1_cb _ _ _ hg, s1_cb _ _ _ hh]
    rfl
  obtain ⟨a1, a2, a3, a4, a5⟩ := fs ha
  obtain ⟨b1, b2, b3, b4, b5⟩ := fs hb
  obtain ⟨c1, c2, c3, c4, c5⟩ := fs hc
  obtain ⟨d1, d2, d3, d4, d5⟩ := fs hd
  obtain ⟨e1', e2', e3', e4', e5'⟩ := fs he
  obtain ⟨f1', f2', f3', f4', f5'⟩ := fs hf
  obtain ⟨g1, g2, g3, g4, g5⟩ := fs hg
  obtain ⟨h1, h2, h3, h4, h5⟩ := fs hh
  have e2 : s2 (s1 (cb a (cb b (cb c (cb d (cb e (cb f (cb g (cb h 0))))))))) = cb (f2 (f1 a)) (cb (f2 (f1 b)) (cb (f2 (f1 c)) (cb (f2 (f1 d)) (cb (f2 (f1 e)) (cb (f2 (f1 f)) (cb (f2 (f1 g)) (cb (f2 (f1 h)) 0))))))) := by
    rw [e1]
    unfold s2
    rw [m2, s2_cb _ _ _ a1, s2_cb _ _ _ b1, s2_cb _ _ _ c1, s2_cb _ _ _ d1, s2_cb _ _ _ e1', s2_cb _ _ _ f1', s2_cb _ _ _ g1, s2_cb _ _ _ h1]
    rfl
  have e3 : s3 (s2 (s1 (cb a (cb b (cb c (cb d (cb e (cb f (cb g (cb h 0)))))))))) = cb (f3 (f2 (f1 a))) (cb (f3 (f2 (f1 b))) (cb (f3 (f2 (f1 c))) (cb (f3 (f2 (f1 d))) (cb (f3 (f2 (f1 e))) (cb (f3 (f2 (f1 f))) (cb (f3 (f2 (f1 g))) (cb (f3 (f2 (f1 h))) 0))))))) := by
    rw [e2]
    unfold s3
    rw [m3, nib _ _ _ a3 a4 (by rw [cb_mod]; exact b3), nib _ _ _ b3 b4 (by rw [cb_mod]; exact c3), nib _ _ _ c3 c4 (by rw [cb_mod]; exact d3), nib _ _ _ d3 d4 (by rw [cb_mod]; exact e3'), nib _ _ _ e3' e4' (by rw [cb_mod]; exact f3'), nib _ _ _ f3' f4' (by rw [cb_mod]; exact g3), nib _ _ _ g3 g4 (by rw [cb_mod]; exact h3), nib _ _ _ h3 h4 (by decide)]
    rfl
  have hpc : pc (cb a (cb b (cb c (cb d (cb e (cb f (cb g (cb h 0)))))))) = f3 (f2 (f1 a)) + (f3 (f2 (f1 b)) + (f3 (f2 (f1 c)) + (f3 (f2 (f1 d)) + (f3 (f2 (f1 e)) + (f3 (f2 (f1 f)) + (f3 (f2 (f1 g)) + f3 (f2 (f1 h)))))))) := by
    rw [a5, b5, c5, d5, e5', f5', g5, h5]
    unfold pc
    rw [show 64 = 8 + (8 + (8 + (8 + (8 + (8 + (8 + (8 + 0))))))) from rfl, pc_cons _ _ _ ha, pc_cons _ _ _ hb, pc_cons _ _ _ hc, pc_cons _ _ _ hd, pc_cons _ _ _ he, pc_cons _ _ _ hf, pc_cons _ _ _ hg, pc_cons _ _ _ hh]
    rfl
  rw [hpc, e3, e2, e1]
  rw [Nat.shiftRight_eq_div_pow]
  have bnd : ∀ y, y % 16 ≤ 4 → y / 16 ≤ 4 → f3 y ≤ 8 := fun y p q => by unfold f3; omega
  have h8 : f2 (f1 h) < 128 := half_byte h3 h4
  have x63 := cb8_half a2 b2 c2 d2 e2' f2' g2 h8
  refine ⟨cb8_lt a1 b1 c1 d1 e1' f1' g1 h1, cb8_lt a2 b2 c2 d2 e2' f2' g2 h2, ?_, swar_end (bnd _ a3 a4) (bnd _ b3 b4) (bnd _ c3 c4) (bnd _ d3 d4) (bnd _ e3' e4') (bnd _ f3' f4') (bnd _ g3 g4) (bnd _ h3 h4)⟩
  show _ < 18446744073709551616
  generalize cb (f2 (f1 a)) (cb (f2 (f1 b)) (cb (f2 (f1 c)) (cb (f2 (f1 d)) (cb (f2 (f1 e)) (cb (f2 (f1 f)) (cb (f2 (f1 g)) (cb (f2 (f1 h)) 0))))))) = X at x63
  exact quarter_more x63
theorem wr_nat {k : Nat} (h : k < T64) : IntKind.u64.wrap (k : Int) = (k : Int) := by
  rw [IntKind.wrap_u64]
  have h2 : k < 18446744073709551616 := h
  omega
theorem and_m (x m : Nat) (hx : x < T64) (hm : m < T64) : bits .and .u64 (x : Int) (m : Int) = ((x &&& m : Nat) : Int) := bits_and_u64_nat x m hx hm
theorem st1 (x : Nat) (hx : x < T64) (h : s1 x < T64) : IntKind.u64.wrap (bits .and .u64 ((x : Int) / 2) 6148914691236517205 + bits .and .u64 (x : Int) 6148914691236517205) = ((s1 x : Nat) : Int) := by
  have e : Int.ofNat x / (2 : Int) = Int.ofNat (x >>> 1) := by rw [Nat.shiftRight_eq_div_pow]; rfl
  change (x : Int) / (2 : Int) = ((x >>> 1 : Nat) : Int) at e
  have h1 := and_m (x >>> 1) 6148914691236517205 (Nat.lt_of_le_of_lt (Nat.shiftRight_le x 1) hx) (by decide)
  have h2 := and_m x 6148914691236517205 hx (by decide)
  rw [e]
  refine Eq.trans (congrArg IntKind.u64.wrap (congr (congrArg HAdd.hAdd h1) h2)) ?_
  exact wr_nat h
theorem st2 (x : Nat) (hx : x < T64) (h : s2 x < T64) : IntKind.u64.wrap (bits .and .u64 ((x : Int) / 4) 3689348814741910323 + bits .and .u64 (x : Int) 3689348814741910323) = ((s2 x : Nat) : Int) := by
  have e : Int.ofNat x / (4 : Int) = Int.ofNat (x >>> 2) := by rw [Nat.shiftRight_eq_div_pow]; rfl
  change (x : Int) / (4 : Int) = ((x >>> 2 : Nat) : Int) at e
  have h1 := and_m (x >>> 2) 3689348814741910323 (Nat.lt_of_le_of_lt (Nat.shiftRight_le x 2) hx) (by decide)
  have h2 := and_m x 3689348814741910323 hx (by decide)
  rw [e]
  refine Eq.trans (congrArg IntKind.u64.wrap (congr (congrArg HAdd.hAdd h1) h2)) ?_
  exact wr_nat h
theorem st3 (x : Nat) (h : (x >>> 4) + x < T64) : bits .and .u64 (IntKind.u64.wrap ((x : Int) / 16 + (x : Int))) 1085102592571150095 = ((s3 x : Nat) : Int) := by
  have e : Int.ofNat x / (16 : Int) + Int.ofNat x = Int.ofNat ((x >>> 4) + x) := by rw [Nat.shiftRight_eq_div_pow]; rfl
  change (x : Int) / (16 : Int) + (x : Int) = (((x >>> 4) + x : Nat) : Int) at e
  rw [e, wr_nat h]
  exact and_m _ _ h (by decide)
theorem st4 (x : Nat) (h : s4 x < T64) : IntKind.u64.wrap ((x : Int) + (x : Int) / 256) = ((s4 x : Nat) : Int) := wr_nat h
theorem st5 (x : Nat) (h : s5 x < T64) : IntKind.u64.wrap ((x : Int) + (x : Int) / 65536) = ((s5 x : Nat) : Int) := wr_nat h
theorem st6 (x : Nat) (h : s6 x < 9223372036854775808) : IntKind.u64.wrap ((x : Int) + (x : Int) / 4294967296) = ((s6 x : Nat) : Int) := wr_nat (Nat.lt_trans h (by decide))
theorem and127 (k : Nat) (h : k < 9223372036854775808) : bits .and .i64 (k : Int) 127 = ((k % 128 : Nat) : Int) := by
  have e : bits .and .i64 (k : Int) 127 = IntKind.i64.wrap ((BitVec.ofInt 64 (k : Int) &&& BitVec.ofInt 64 127).toNat : Int) := rfl
  rw [e, BitVec.toNat_and, BitVec.ofInt_natCast, BitVec.toNat_ofNat]
  have e2 : (BitVec.ofInt 64 127).toNat = 127 := by decide
  rw [e2, Nat.mod_eq_of_lt (Nat.lt_trans h (by decide)), show k &&& 127 = k % 128 from Nat.and_two_pow_sub_one_eq_mod k 7]
  have : k % 128 < 128 := Nat.mod_lt _ (by decide)
  generalize k % 128 = m at this
  simp only [IntKind.wrap, IntKind.bits, IntKind.signed]
  simp
  omega
set_option maxRecDepth 100000 in
theorem oc_any (x : Nat) (hx : x < T64) (w : World) : Calls Tryd.prog 79 #[.int .u64 x] w fun e w' => e = .returned (.int .i64 (pc x)) ∧ w' = w := by
  obtain ⟨b1, b2, b3, b4, b5, b6, b7⟩ := swar hx
  have h1 := st1 x hx b1
  have h2 := st2 (s1 x) b1 b2
  have h3 := st3 (s2 (s1 x)) b3
  have h4 := st4 (s3 (s2 (s1 x))) b4
  have h5 := st5 _ b5
  have h6 := st6 _ b6
  have h7 := and127 _ b6
  rw [b7] at h7
  generalize s6 (s5 (s4 (s3 (s2 (s1 x))))) = y6 at *
  generalize s5 (s4 (s3 (s2 (s1 x)))) = y5 at *
  generalize s4 (s3 (s2 (s1 x))) = y4 at *
  generalize s3 (s2 (s1 x)) = y3 at *
  generalize s2 (s1 x) = y2 at *
  generalize s1 x = y1 at *
  generalize pc x = y7 at *
  have hc : IntKind.i64.wrap (y6 : Int) = (y6 : Int) := by
    simp only [IntKind.wrap, IntKind.bits, IntKind.signed]
    simp
    omega
  clear b1 b2 b3 b4 b5 b7
  go_enter Tryd.func79, Tryd.ntmps79
  go_wp2_with fail
  go_ret
  exact ⟨rfl, rfl⟩
end Go.Proofs.YteenlifdamhffaaDoor
