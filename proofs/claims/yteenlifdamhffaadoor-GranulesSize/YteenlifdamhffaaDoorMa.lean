/- granules: words of bits; plain mathematics. -/
import Derived.Test.YteenlifdamhffaaDoorGen
import Derived.Laws.Bits64
import Derived.Laws.Bits64b
import Derived.WalkKit
namespace Go.Proofs.YteenlifdamhffaaDoor
open Go.RowKit
set_option linter.unusedVariables false
set_option linter.unusedSimpArgs false
abbrev T64 : Nat := 18446744073709551616
/-- Words as they stand in memory. -/
def up (ws : List Nat) : List Int := ws.map (fun x : Nat => (x : Int))
theorem up_len (ws : List Nat) : (up ws).length = ws.length := by simp [up]
theorem up_get (ws : List Nat) (i : Nat) : (up ws).getD i 0 = ((ws.getD i 0 : Nat) : Int) := by
  unfold up
  simp only [List.getD_eq_getElem?_getD, List.getElem?_map]
  cases ws[i]? <;> simp
theorem up_set (ws : List Nat) (i x : Nat) : (up ws).set i ((x : Nat) : Int) = up (ws.set i x) := by
  unfold up
  rw [List.map_set]
theorem up_rep (n : Nat) : List.replicate n (0 : Int) = up (List.replicate n 0) := by
  unfold up
  simp
theorem up_inj {a b : List Nat} : up a = up b ↔ a = b := by
  constructor
  · intro h
    unfold up at h
    exact (List.map_inj_right (fun x y e => by omega)).1 h
  · intro h; rw [h]
def W64 (ws : List Nat) : Prop := ∀ x ∈ ws, x < T64
theorem W64.get {ws : List Nat} (h : W64 ws) (i : Nat) : ws.getD i 0 < T64 := by
  rw [List.getD_eq_getElem?_getD]
  cases e : ws[i]? with
  | none => show 0 < T64; decide
  | some x => exact h x (List.mem_of_getElem? e)
theorem W64.set {ws : List Nat} (h : W64 ws) (i : Nat) {x : Nat} (hx : x < T64) : W64 (ws.set i x) := by
  intro y hy
  rcases List.mem_or_eq_of_mem_set hy with h1 | h1
  · exact h y h1
  · rw [h1]; exact hx
theorem W64.rep (n : Nat) : W64 (List.replicate n 0) := by
  intro x hx
  rw [(List.mem_replicate.1 hx).2]
  decide
/-- Is a granule dirty? -/
def dty (ws : List Nat) (g : Nat) : Bool := (ws.getD (g / 64) 0).testBit (g % 64)
theorem dty_rep (n g : Nat) : dty (List.replicate n 0) g = false := by
  unfold dty
  rw [List.getD_eq_getElem?_getD, List.getElem?_replicate]
  split <;> simp
theorem dty_far {ws : List Nat} {g : Nat} (h : 64 * ws.length ≤ g) : dty ws g = false := by
  unfold dty
  rw [List.getD_eq_getElem?_getD, List.getElem?_eq_none (by omega)]
  simp
theorem dty_ext {a b : List Nat} (hl : a.length = b.length) (ha : W64 a) (hb : W64 b) (h : ∀ g, g < 64 * a.length → dty a g = dty b g) : a = b := by
  apply List.ext_getElem hl
  intro i h1 h2
  apply Nat.eq_of_testBit_eq
  intro j
  by_cases hj : j < 64
  · have h3 := h (64 * i + j) (by omega)
    unfold dty at h3
    rw [show (64 * i + j) / 64 = i by omega, show (64 * i + j) % 64 = j by omega] at h3
    rw [List.getD_eq_getElem?_getD, List.getD_eq_getElem?_getD, List.getElem?_eq_getElem h1, List.getElem?_eq_getElem h2] at h3
    exact h3
  · have e : ∀ x, x < T64 → x.testBit j = false := fun x hx => Nat.testBit_lt_two_pow (Nat.lt_of_lt_of_le hx (by
      show 2 ^ 64 ≤ 2 ^ j
      exact Nat.pow_le_pow_right (by omega) (by omega)))
    rw [e _ (ha _ (List.getElem_mem h1)), e _ (hb _ (List.getElem_mem h2))]
/-- Bits of a word, from one on, so many. -/
def msk (f k : Nat) : Nat := (2 ^ k - 1) <<< f
theorem msk_bit (f k b : Nat) : (msk f k).testBit b = decide (f ≤ b ∧ b < f + k) := by
  unfold msk
  rw [Nat.testBit_shiftLeft, Nat.testBit_two_pow_sub_one]
  by_cases h : f ≤ b
  · simp [h]
    omega
  · simp [h]
theorem msk_lt {f k : Nat} (h : f + k ≤ 64) : msk f k < T64 := by
  unfold msk
  rw [Nat.shiftLeft_eq]
  have h1 : 2 ^ k * 2 ^ f ≤ 2 ^ 64 := by rw [← Nat.pow_add]; exact Nat.pow_le_pow_right (by omega) (by omega)
  have h2 := Nat.two_pow_pos f
  have h3 := Nat.two_pow_pos k
  have h4 : (2 ^ k - 1) * 2 ^ f + 2 ^ f = 2 ^ k * 2 ^ f := by
    have : (2 ^ k - 1 + 1) * 2 ^ f = 2 ^ k * 2 ^ f := by rw [Nat.sub_add_cancel h3]
    rw [← this, Nat.add_mul, Nat.one_mul]
  show _ < 2 ^ 64
  omega
/-- The mask as the program reckons it. -/
theorem msk_eq {f k : Nat} (hk : k ≤ 64) (h : f + k ≤ 64) : IntKind.u64.wrap ((18446744073709551615 : Int) / 2 ^ (64 - k) * 2 ^ f) = ((msk f k : Nat) : Int) := by
  have e1 : (18446744073709551615 : Nat) / 2 ^ (64 - k) = 2 ^ k - 1 := by
    have h1 : 2 ^ 64 = 2 ^ k * 2 ^ (64 - k) := by rw [← Nat.pow_add]; congr 1; omega
    have h2 := Nat.two_pow_pos (64 - k)
    have h3 := Nat.two_pow_pos k
    apply Nat.div_eq_of_lt_le
    · have : (2 ^ k - 1) * 2 ^ (64 - k) + 2 ^ (64 - k) = 2 ^ k * 2 ^ (64 - k) := by
        have : (2 ^ k - 1 + 1) * 2 ^ (64 - k) = 2 ^ k * 2 ^ (64 - k) := by rw [Nat.sub_add_cancel h3]
        rw [← this, Nat.add_mul, Nat.one_mul]
      have h4 : (2 : Nat) ^ 64 = 18446744073709551616 := by decide
      omega
    · rw [Nat.sub_add_cancel h3, ← h1]; decide
  have e2 : ((18446744073709551615 : Int) / 2 ^ (64 - k) * 2 ^ f) = (((18446744073709551615 / 2 ^ (64 - k) * 2 ^ f : Nat)) : Int) := by rw [Int.natCast_mul, Int.natCast_ediv, Int.natCast_pow, Int.natCast_pow]; rfl
  rw [e2, e1]
  have hm := msk_lt h
  have e3 : (2 ^ k - 1) * 2 ^ f = msk f k := by unfold msk; rw [Nat.shiftLeft_eq]
  rw [e3, IntKind.wrap_u64]
  have h9 : msk f k < 18446744073709551616 := hm
  omega
/-- Bits that are taken away. -/
def anN (a b : Nat) : Nat := (BitVec.ofNat 64 a &&& ~~~ BitVec.ofNat 64 b).toNat
theorem anN_lt (a b : Nat) : anN a b < T64 := (BitVec.ofNat 64 a &&& ~~~ BitVec.ofNat 64 b).isLt
theorem anN_bit (a b i : Nat) (hi : i < 64) : (anN a b).testBit i = (a.testBit i && !b.testBit i) := by
  unfold anN
  rw [BitVec.testBit_toNat, BitVec.getLsbD_and, BitVec.getLsbD_not, BitVec.getLsbD_ofNat, BitVec.getLsbD_ofNat]
  simp [hi]
theorem an_u64 (a b : Nat) (ha : a < T64) (hb : b < T64) : bits .andNot .u64 (a : Int) (b : Int) = ((anN a b : Nat) : Int) := by
  have h : bits .andNot .u64 (a : Int) (b : Int) = IntKind.u64.wrap ((BitVec.ofInt 64 (a : Int) &&& ~~~ BitVec.ofInt 64 (b : Int)).toNat : Int) := rfl
  rw [h, BitVec.ofInt_natCast, BitVec.ofInt_natCast, IntKind.wrap_u64]
  have h1 := anN_lt a b
  unfold anN at *
  omega
theorem or_lt {a b : Nat} (ha : a < T64) (hb : b < T64) : a ||| b < T64 := Nat.or_lt_two_pow (n := 64) ha hb
/-- One word is changed. -/
theorem dty_set {ws : List Nat} {i x : Nat} (hi : i < ws.length) (g : Nat) : dty (ws.set i x) g = if g / 64 = i then x.testBit (g % 64) else dty ws g := by
  unfold dty
  by_cases h : g / 64 = i
  · rw [if_pos h, h]
    simp [List.getD, hi]
  · rw [if_neg h]
    have : i ≠ g / 64 := fun e => h e.symm
    simp [List.getD, List.getElem?_set_ne this]
/-- Where the next word's bits begin, or the end. -/
def nxt (x to : Nat) : Nat := min to ((x / 64 + 1) * 64)
/-- The beginning of each word's bits. -/
def pos (fr to : Nat) : Nat → Nat
  | 0 => fr
  | j + 1 => nxt (pos fr to j) to
def cw (x to : Nat) : Nat := min (to - x) (64 - x % 64)
theorem cw_fact {x to : Nat} (h : x < to) : 1 ≤ cw x to ∧ cw x to ≤ 64 ∧ x % 64 + cw x to ≤ 64 ∧ x + cw x to = nxt x to ∧ x < nxt x to ∧ nxt x to ≤ to := by
  unfold cw nxt
  omega
theorem set_word {ws : List Nat} (hW : W64 ws) {x to : Nat} (hx : x < to) (hl : to ≤ 64 * ws.length) (g : Nat) :
    dty (ws.set (x / 64) (ws.getD (x / 64) 0 ||| msk (x % 64) (cw x to))) g = (dty ws g || decide (x ≤ g ∧ g < nxt x to)) := by
  have hc := cw_fact hx
  rw [dty_set (by omega)]
  split
  · rename_i h
    rw [Nat.testBit_or, msk_bit]
    unfold dty
    rw [h]
    congr 1
    apply decide_eq_decide.2
    omega
  · rename_i h
    have : ¬ (x ≤ g ∧ g < nxt x to) := by unfold nxt at *; omega
    simp [this]
theorem reset_word {ws : List Nat} (hW : W64 ws) {x to : Nat} (hx : x < to) (hl : to ≤ 64 * ws.length) (g : Nat) :
    dty (ws.set (x / 64) (anN (ws.getD (x / 64) 0) (msk (x % 64) (cw x to)))) g = (dty ws g && !decide (x ≤ g ∧ g < nxt x to)) := by
  have hc := cw_fact hx
  rw [dty_set (by omega)]
  split
  · rename_i h
    rw [anN_bit _ _ _ (Nat.mod_lt _ (by omega)), msk_bit]
    unfold dty
    rw [h]
    congr 2
    apply decide_eq_decide.2
    omega
  · rename_i h
    have : ¬ (x ≤ g ∧ g < nxt x to) := by unfold nxt at *; omega
    simp [this]
end Go.Proofs.YteenlifdamhffaaDoor
