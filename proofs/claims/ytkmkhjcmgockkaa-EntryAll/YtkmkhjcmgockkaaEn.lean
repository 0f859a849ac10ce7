/- Plain mathematics of entries: which may be, their words, what a word says. -/
import Derived.Test.YtkmkhjcmgockkaaKb
import Derived.Laws.BitsAllLaws
import Derived.Laws.Bits128
import Derived.Deep.MidRow
namespace Go.Proofs.Ytkmkhjcmgockkaa
open Go.RowKit
set_option linter.unusedVariables false
theorem hid {p : Prop} (h : p) : Hid p := h
/-- What a call tells. -/
def Tells (e : Ending) (p : Prop) : Prop := (p ∧ e = .returned (.bool true)) ∨ (¬ p ∧ e = .returned (.bool false))
structure En where
  kind : Int
  place : Int
  len : Int
def En.cs (e : En) : Array Value := #[.int .i64 e.kind, .int .i64 e.place, .int .i64 e.len]
def I6 (x : Int) : Prop := -9223372036854775808 ≤ x ∧ x ≤ 9223372036854775807
structure En.Wf (e : En) : Prop where
  kind : I6 e.kind
  place : I6 e.place
  len : I6 e.len
def zE : En := ⟨0, 0, 0⟩
theorem En.ext' {a b : En} (h1 : a.kind = b.kind) (h2 : a.place = b.place) (h3 : a.len = b.len) : a = b := by cases a; cases b; simp_all
def clu (b : Int) : Int := 2 ^ b.toNat
def Plc (c x : Int) : Prop := 0 < x ∧ x ≤ 268435456 ∧ x % c = 0
def Bt (b : Int) : Prop := 9 ≤ b ∧ b ≤ 16
/-- Packed bytes, as the program looks at them first. -/
def Pcs (e : En) (c : Int) : Prop := 1 ≤ e.len ∧ e.len < c ∧ e.len ≤ 16383 ∧ e.place % c ≤ c - e.len ∧ e.place ≤ 268435456 - e.len
def Pkd (e : En) (c : Int) : Prop := 1 ≤ e.len ∧ e.len ≤ 16383 ∧ e.len < c ∧ c ≤ e.place ∧ e.place ≤ 268435456 - e.len ∧ e.place % c + e.len ≤ c
/-- An entry that may be. -/
def MayE (e : En) (b : Int) : Prop := ((e.kind = 0 ∨ e.kind = 1) ∧ e.place = 0 ∧ e.len = 0) ∨ (e.kind = 2 ∧ e.len = 0 ∧ Plc (clu b) e.place) ∨ (e.kind = 3 ∧ Pkd e (clu b))
theorem clu_cases {b : Int} (h : Bt b) : clu b = 512 ∨ clu b = 1024 ∨ clu b = 2048 ∨ clu b = 4096 ∨ clu b = 8192 ∨ clu b = 16384 ∨ clu b = 32768 ∨ clu b = 65536 := by
  have : b = 9 ∨ b = 10 ∨ b = 11 ∨ b = 12 ∨ b = 13 ∨ b = 14 ∨ b = 15 ∨ b = 16 := by unfold Bt at h; omega
  rcases this with rfl | rfl | rfl | rfl | rfl | rfl | rfl | rfl <;> simp [clu]
theorem clu_bd {b : Int} (h : Bt b) : 512 ≤ clu b ∧ clu b ≤ 65536 := by
  rcases clu_cases h with h | h | h | h | h | h | h | h <;> omega
theorem clu_wrap {b : Int} (h : Bt b) : wrap64 (2 ^ b.toNat) = clu b := by
  have h := clu_cases h
  show wrap64 (clu b) = clu b
  rcases h with h | h | h | h | h | h | h | h <;> rw [h] <;> unfold wrap64 <;> omega
theorem and_low (k : Nat) (hk : k ≤ 16) (n m : Int) (hm : m = 2 ^ k - 1) : bits .and .i64 n m = n % 2 ^ k := by
  have h127 : (BitVec.ofInt 64 m).toNat = 2 ^ k - 1 := by
    subst hm
    have : ∀ k : Fin 17, (BitVec.ofInt 64 (2 ^ k.val - 1)).toNat = 2 ^ k.val - 1 := by decide
    exact this ⟨k, by omega⟩
  have key : (BitVec.ofInt 64 n &&& BitVec.ofInt 64 m).toNat = (n % ((2 ^ 64 : Nat) : Int)).toNat % 2 ^ k := by
    rw [BitVec.toNat_and, BitVec.toNat_ofInt, h127, Nat.and_two_pow_sub_one_eq_mod]
  show IntKind.i64.wrap ((BitVec.ofInt 64 n &&& BitVec.ofInt 64 m).toNat : Nat) = n % 2 ^ k
  rw [key, IntKind.wrap_i64]
  have hk : k = 0 ∨ k = 1 ∨ k = 2 ∨ k = 3 ∨ k = 4 ∨ k = 5 ∨ k = 6 ∨ k = 7 ∨ k = 8 ∨ k = 9 ∨ k = 10 ∨ k = 11 ∨ k = 12 ∨ k = 13 ∨ k = 14 ∨ k = 15 ∨ k = 16 := by omega
  rcases hk with rfl | rfl | rfl | rfl | rfl | rfl | rfl | rfl | rfl | rfl | rfl | rfl | rfl | rfl | rfl | rfl | rfl <;> omega
theorem andNot_low (k : Nat) (hk : k ≤ 16) (n m : Int) (hm : m = 2 ^ k - 1) (hn : I6 n) : bits .andNot .i64 n m = n - n % 2 ^ k := by
  have h127 : (~~~ BitVec.ofInt 64 m).toNat = 2 ^ 64 - 2 ^ k := by
    subst hm
    have : ∀ k : Fin 17, (~~~ BitVec.ofInt 64 (2 ^ k.val - 1)).toNat = 2 ^ 64 - 2 ^ k.val := by decide
    exact this ⟨k, by omega⟩
  have key : (BitVec.ofInt 64 n &&& ~~~ BitVec.ofInt 64 m).toNat = (n % ((2 ^ 64 : Nat) : Int)).toNat % 2 ^ 64 / 2 ^ k * 2 ^ k := by
    rw [BitVec.toNat_and, BitVec.toNat_ofInt, h127]
    exact nat_midmask 64 k _ (by omega)
  show IntKind.i64.wrap ((BitVec.ofInt 64 n &&& ~~~ BitVec.ofInt 64 m).toNat : Nat) = n - n % 2 ^ k
  rw [key, IntKind.wrap_i64]
  unfold I6 at hn
  have hk : k = 0 ∨ k = 1 ∨ k = 2 ∨ k = 3 ∨ k = 4 ∨ k = 5 ∨ k = 6 ∨ k = 7 ∨ k = 8 ∨ k = 9 ∨ k = 10 ∨ k = 11 ∨ k = 12 ∨ k = 13 ∨ k = 14 ∨ k = 15 ∨ k = 16 := by omega
  rcases hk with rfl | rfl | rfl | rfl | rfl | rfl | rfl | rfl | rfl | rfl | rfl | rfl | rfl | rfl | rfl | rfl | rfl <;> omega
theorem and_clu {b : Int} (h : Bt b) (n : Int) : bits .and .i64 n (clu b - 1) = n % clu b := and_low b.toNat (by unfold Bt at h; omega) n _ rfl
theorem andNot_clu {b : Int} (h : Bt b) (n : Int) (hn : I6 n) : bits .andNot .i64 n (clu b - 1) = n - n % clu b := andNot_low b.toNat (by unfold Bt at h; omega) n _ rfl hn
/-- What is left of packed bytes is held against data's rule. -/
theorem pkd_iff (e : En) {b : Int} (h : Bt b) : Pkd e (clu b) ↔ Pcs e (clu b) ∧ Plc (clu b) (e.place - e.place % clu b) := by
  have hb := clu_bd h
  have h1 := Int.emod_add_mul_ediv e.place (clu b)
  have h2 := Int.emod_nonneg e.place (show clu b ≠ 0 by omega)
  have h3 := Int.emod_lt_of_pos e.place (show 0 < clu b by omega)
  have h4 : (e.place - e.place % clu b) % clu b = 0 := by
    rw [show e.place - e.place % clu b = clu b * (e.place / clu b) by omega]
    exact Int.mul_emod_right _ _
  unfold Pkd Pcs Plc
  constructor
  · rintro ⟨a1, a2, a3, a4, a5, a6⟩
    exact ⟨⟨a1, a3, a2, by omega, a5⟩, by omega, by omega, h4⟩
  · rintro ⟨⟨a1, a2, a3, a4, a5⟩, a6, a7, _⟩
    refine ⟨a1, a3, a2, ?_, a5, by omega⟩
    rcases Int.lt_or_le e.place (clu b) with h | h
    · exfalso
      rcases Int.lt_or_le e.place 0 with h5 | h5
      · have := Int.ediv_neg_of_neg_of_pos h5 (show 0 < clu b by omega)
        have h6 : clu b * (e.place / clu b) ≤ clu b * (-1) := Int.mul_le_mul_of_nonneg_left (by omega) (by omega)
        omega
      · rw [Int.emod_eq_of_lt h5 h] at a6
        omega
    · exact h
/-! Words. -/
def wrd (e : En) : Int := if e.kind = 2 then e.place + 2 else e.place * 65536 + 4 * e.len + e.kind
/-- What a word says. -/
def prt (x : Int) : En := if x % 4 = 3 then ⟨3, x / 65536, x / 4 % 16384⟩ else ⟨x % 4, IntKind.i64.wrap (x - x % 4), 0⟩
def U6 (x : Int) : Prop := 0 ≤ x ∧ x < 18446744073709551616
theorem prt_wf {x : Int} (h : U6 x) : (prt x).Wf := by
  unfold U6 at h
  unfold prt
  split
  · constructor <;> simp [I6] <;> omega
  · constructor <;> simp only [I6, IntKind.wrap_i64] <;> omega
theorem may_small {e : En} {b : Int} (hb : Bt b) (m : MayE e b) : 0 ≤ e.kind ∧ e.kind ≤ 3 ∧ 0 ≤ e.place ∧ e.place ≤ 268435456 ∧ 0 ≤ e.len ∧ e.len ≤ 16383 := by
  have := clu_bd hb
  rcases m with ⟨h1, h2, h3⟩ | ⟨h1, h2, h3, h4, _⟩ | ⟨h1, h2, h3, h4, h5, h6, h7⟩ <;> omega
theorem wrd_u6 {e : En} {b : Int} (hb : Bt b) (m : MayE e b) : U6 (wrd e) := by
  have := may_small hb m
  unfold U6 wrd
  split <;> omega
theorem plc_4 {b x : Int} (hb : Bt b) (h : Plc (clu b) x) : x % 4 = 0 := by
  have h2 := h.2.2
  rcases clu_cases hb with e | e | e | e | e | e | e | e <;> rw [e] at h2 <;> omega
/-- An entry's word is read as it. -/
theorem prt_wrd {e : En} {b : Int} (hb : Bt b) (m : MayE e b) : prt (wrd e) = e := by
  have hs := may_small hb m
  rcases m with ⟨h1, h2, h3⟩ | ⟨h1, h2, h3⟩ | ⟨h1, h2, h3, h4, h5, h6, h7⟩
  · unfold wrd; rw [if_neg (by omega), h2, h3]
    unfold prt; rw [if_neg (by omega)]
    apply En.ext'
    · show (0 * 65536 + 4 * 0 + e.kind) % 4 = e.kind; omega
    · show IntKind.i64.wrap _ = e.place; rw [IntKind.wrap_i64]; omega
    · exact h3.symm
  · have h4 := plc_4 hb h3
    unfold wrd; rw [if_pos h1]
    unfold prt; rw [if_neg (by omega)]
    apply En.ext'
    · show (e.place + 2) % 4 = e.kind; omega
    · show IntKind.i64.wrap _ = e.place; rw [IntKind.wrap_i64]; omega
    · exact h2.symm
  · unfold wrd; rw [if_neg (by omega), h1]
    unfold prt; rw [if_pos (by omega)]
    apply En.ext'
    · exact h1.symm
    · show (e.place * 65536 + 4 * e.len + 3) / 65536 = e.place; omega
    · show (e.place * 65536 + 4 * e.len + 3) / 4 % 16384 = e.len; omega
/-- What a word says has that word, if it may be. -/
theorem wrd_prt {x : Int} {b : Int} (hx : U6 x) (hb : Bt b) (m : MayE (prt x) b) : wrd (prt x) = x := by
  unfold U6 at hx
  unfold prt at m ⊢
  split at m <;> rename_i h
  · rw [if_pos h]
    unfold wrd
    rw [if_neg (by show ¬ (3 : Int) = 2; decide)]
    show x / 65536 * 65536 + 4 * (x / 4 % 16384) + 3 = x
    omega
  · rw [if_neg h]
    rcases m with ⟨h1, h2, h3⟩ | ⟨h1, h2, h3⟩ | ⟨h1, _⟩
    · have h1 : x % 4 = 0 ∨ x % 4 = 1 := h1
      have h2 : IntKind.i64.wrap (x - x % 4) = 0 := h2
      unfold wrd
      rw [if_neg (by show ¬ x % 4 = 2; omega)]
      show IntKind.i64.wrap (x - x % 4) * 65536 + 4 * 0 + x % 4 = x
      rw [h2]
      rw [IntKind.wrap_i64] at h2
      omega
    · have h1 : x % 4 = 2 := h1
      have h3 : Plc (clu b) (IntKind.i64.wrap (x - x % 4)) := h3
      unfold wrd
      rw [if_pos (by exact h1)]
      show IntKind.i64.wrap (x - x % 4) + 2 = x
      have h4 := h3.1
      rw [IntKind.wrap_i64] at h4 ⊢
      omega
    · exact absurd h1 h
/-! The document's reading. -/
def rpt (x : Int) : En := if x % 4 = 2 then ⟨2, (x - 2) % 9223372036854775808, 0⟩ else if x % 4 = 3 then ⟨3, x / 65536, x % 65536 / 4⟩ else ⟨x % 4, 0, 0⟩
theorem rpt_iff {x : Int} {b : Int} (hx : U6 x) (hb : Bt b) : (MayE (rpt x) b ∧ wrd (rpt x) = x) ↔ MayE (prt x) b := by
  constructor
  · rintro ⟨m, e⟩
    have := prt_wrd hb m
    rw [e] at this
    rw [this]
    exact m
  · intro m
    have e := wrd_prt hx hb m
    have hr : rpt x = prt x := by
      unfold U6 at hx
      unfold rpt
      unfold prt at m ⊢
      split
      · rename_i h2
        rw [if_neg (by omega)] at m ⊢
        rcases m with ⟨h1, _⟩ | ⟨h1, _, h3⟩ | ⟨h1, _⟩
        · have h1 : x % 4 = 0 ∨ x % 4 = 1 := h1
          omega
        · have h4 : 0 < IntKind.i64.wrap (x - x % 4) := h3.1
          apply En.ext'
          · exact h2.symm
          · show (x - 2) % 9223372036854775808 = IntKind.i64.wrap (x - x % 4)
            rw [IntKind.wrap_i64] at h4 ⊢
            omega
          · rfl
        · have h1 : x % 4 = 3 := h1
          omega
      · rename_i h2
        split
        · apply En.ext'
          · rfl
          · rfl
          · show x % 65536 / 4 = x / 4 % 16384
            omega
        · rename_i h3
          rw [if_neg h3] at m
          rcases m with ⟨h1, h4, _⟩ | ⟨h1, _⟩ | ⟨h1, _⟩
          · apply En.ext'
            · rfl
            · exact h4.symm
            · rfl
          · exact absurd h1 h2
          · exact absurd h1 h3
    rw [hr]
    exact ⟨m, e⟩
theorem rpt_prt {x : Int} {b : Int} (hx : U6 x) (hb : Bt b) (m : MayE (prt x) b) : rpt x = prt x := by
  obtain ⟨m2, e⟩ := (rpt_iff hx hb).2 m
  have := prt_wrd hb m2
  rw [e] at this
  exact this.symm
theorem rpt_wf {x : Int} (h : U6 x) : (rpt x).Wf := by
  unfold U6 at h
  unfold rpt
  split
  · constructor <;> simp [I6] <;> omega
  · split <;> constructor <;> simp [I6] <;> omega
end Go.Proofs.Ytkmkhjcmgockkaa
