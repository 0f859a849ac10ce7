/- regions: small functions. -/
import Derived.Test.YtopnfjgkgoeleaaSb
namespace Go.Proofs.Ytopnfjgkgoeleaa
open Go.RowKit
set_option linter.unusedVariables false
set_option linter.unusedSimpArgs false
/-- 64 bits. -/
def I6 (x : Int) : Prop := -9223372036854775808 ≤ x ∧ x ≤ 9223372036854775807
set_option maxRecDepth 100000 in
set_option maxHeartbeats 4000000 in
theorem num_any (e : Int) (w : World) : Calls Try.prog 22 #[.int .i64 e] w fun x w' => x = .returned (.int .i64 e) ∧ w = w' := by
  go_enter Try.func22, Try.ntmps22
  go_wp2
  go_ret
  exact ⟨rfl, rfl⟩
def mkb (k : Int) : Bool := decide (1 ≤ k) && decide (k ≤ 16)
set_option maxRecDepth 100000 in
set_option maxHeartbeats 4000000 in
theorem mayKind_any (k : Int) (w : World) : Calls Try.prog 58 #[.int .i64 k] w fun x w' => x = .returned (.bool (mkb k)) ∧ w = w' := by
  unfold mkb
  by_cases h1 : 1 ≤ k
  · go_enter Try.func58, Try.ntmps58
    go_wp2
    go_ret
    exact ⟨ret_bool (by simp [h1]), rfl⟩
  · go_enter Try.func58, Try.ntmps58
    go_wp2
    go_ret
    exact ⟨ret_bool (by simp; omega), rfl⟩
def lieb (p n : Int) : Bool := decide (0 ≤ p) && (decide (0 ≤ n) && decide (p + n ≤ 72057594037927936))
set_option maxRecDepth 100000 in
set_option maxHeartbeats 4000000 in
theorem lie_any (p n : Int) (w : World) (hp : I6 p) (hn : I6 n) : Calls Try.prog 45 #[.int .i64 p, .int .i64 n] w fun x w' => x = .returned (.bool (lieb p n)) ∧ w = w' := by
  unfold lieb
  unfold I6 at hp hn
  by_cases h1 : 0 ≤ p
  · by_cases h2 : 0 ≤ n
    · go_enter Try.func45, Try.ntmps45
      go_wp2
      go_ret
      refine ⟨ret_bool ?_, rfl⟩
      have hw : IntKind.i64.wrap (72057594037927936 - p) = 72057594037927936 - p := by rw [IntKind.wrap_i64]; omega
      first | (simp [h1, h2]; omega) | (simp [h1, h2, hw]; omega)
    · go_enter Try.func45, Try.ntmps45
      go_wp2
      go_ret
      exact ⟨ret_bool (by simp; omega), rfl⟩
  · go_enter Try.func45, Try.ntmps45
    go_wp2
    go_ret
    exact ⟨ret_bool (by simp; omega), rfl⟩
set_option maxRecDepth 100000 in
set_option maxHeartbeats 4000000 in
theorem end_any (x : Rn) (w : World) (h : Mayr x) : Calls Try.prog 42 #[.agg x.cs] w fun e w' => e = .returned (.int .i64 x.e) ∧ Below w.heap.size w w' := by
  unfold Mayr at h
  obtain ⟨k, a, n⟩ := x
  unfold Rn.cs Rn.e
  dsimp only at *
  go_enter Try.func42, Try.ntmps42
  go_wp2
  go_ret
  exact ⟨ret_int (by first | rfl | (simp; done) | (rw [IntKind.wrap_i64]; omega) | go_num), (Below.refl _ _).alloc (Nat.le_refl _) _⟩
set_option maxRecDepth 100000 in
set_option maxHeartbeats 4000000 in
theorem multiple_any (p s : Int) (w : World) (hp : 0 ≤ p ∧ p ≤ 72057594037927936) (hs : 1 ≤ s ∧ s ≤ 9223372036854775807) : Calls Try.prog 63 #[.int .i64 p, .int .i64 s] w fun x w' => x = .returned (.int .i64 (mul p s)) ∧ w = w' := by
  have h1 := Int.emod_nonneg p (show s ≠ 0 by omega)
  have h2 := Int.emod_lt_of_pos p (show 0 < s by omega)
  have h4 : p % s ≤ p := by
    have e := Int.emod_add_mul_ediv p s
    have g : 0 ≤ s * (p / s) := Int.mul_nonneg (by omega) (Int.ediv_nonneg hp.1 (by omega))
    omega
  have ht : Int.tmod p s = p % s := Int.tmod_eq_emod_of_nonneg hp.1
  have hsp : p % s + s ≤ p + s := by omega
  have hover : p - p % s + s ≤ 9223372036854775807 := by
    by_cases hlt : p < s
    · rw [Int.emod_eq_of_lt hp.1 hlt]; omega
    · omega
  have hs0 : ¬ s = 0 := by omega
  unfold mul
  by_cases h3 : 0 < p % s
  · rw [if_pos h3]
    generalize p % s = q at *
    go_enter Try.func63, Try.ntmps63
    go_wp2
    go_ret
    exact ⟨ret_int (by first | rfl | (simp; done) | (rw [IntKind.wrap_i64]; omega) | go_num), rfl⟩
  · rw [if_neg h3]
    generalize p % s = q at *
    go_enter Try.func63, Try.ntmps63
    go_wp2
    go_ret
    exact ⟨rfl, rfl⟩
set_option maxRecDepth 100000 in
set_option maxHeartbeats 4000000 in
theorem may_any (x : Rn) (w : World) (hx : x.i6) : Calls Try.prog 47 #[.agg x.cs] w fun e w' => e = .returned (.bool (mayb x)) ∧ Below w.heap.size w w' := by
  obtain ⟨k, a, n⟩ := x
  obtain ⟨hk, ha, hn⟩ := hx
  unfold Rn.cs mayb
  dsimp only at *
  have HL : Hid (∀ W, Calls Try.prog 45 #[.int .i64 a, .int .i64 n] W fun x w' => x = .returned (.bool (lieb a n)) ∧ W = w') := fun W => lie_any a n W ha hn
  cases h0 : mkb k with
  | false =>
    go_enter Try.func47, Try.ntmps47
    go_wp2_with (first | (go_at_call 58; refine (mayKind_any _ _).mono ?_; rw [h0]; rintro e w9 ⟨rfl, rfl⟩))
    go_ret
    refine ⟨ret_bool ?_, (Below.refl _ _).alloc (Nat.le_refl _) _⟩
    unfold mkb at h0
    simp at h0 ⊢
    omega
  | true =>
    by_cases h1 : 0 < n
    · go_enter Try.func47, Try.ntmps47
      go_wp2_with (first | (go_at_call 58; refine (mayKind_any _ _).mono ?_; rw [h0]; rintro e w9 ⟨rfl, rfl⟩) | (go_at_call 45; refine (HL.out _).mono ?_; rintro e w9 ⟨rfl, rfl⟩))
      go_ret
      refine ⟨ret_bool ?_, (Below.refl _ _).alloc (Nat.le_refl _) _⟩
      unfold mkb at h0
      unfold lieb
      rw [Bool.eq_iff_iff]
      simp at h0 ⊢
      omega
    · go_enter Try.func47, Try.ntmps47
      go_wp2_with (first | (go_at_call 58; refine (mayKind_any _ _).mono ?_; rw [h0]; rintro e w9 ⟨rfl, rfl⟩))
      go_ret
      refine ⟨ret_bool ?_, (Below.refl _ _).alloc (Nat.le_refl _) _⟩
      simp
      omega
set_option maxRecDepth 100000 in
set_option maxHeartbeats 4000000 in
theorem rmay_any (x : Rn) (w : World) (hx : x.i6) : Calls Try.prog 19 #[.agg x.cs] w fun e w' => e = .returned (.bool (mayb x)) ∧ Below w.heap.size w w' := by
  obtain ⟨k, a, n⟩ := x
  obtain ⟨hk, ha, hn⟩ := hx
  unfold Rn.cs mayb
  dsimp only at *
  by_cases g0 : 1 ≤ k
  · by_cases g1 : k ≤ 16
    · by_cases g2 : 0 ≤ a
      · by_cases g3 : 1 ≤ n
        · by_cases g4 : a ≤ 72057594037927936
          · go_enter Try.func19, Try.ntmps19
            go_wp2
            go_ret
            refine ⟨ret_bool ?_, (Below.refl _ _).alloc (Nat.le_refl _) _⟩
            rw [Bool.eq_iff_iff]
            first | (simp; omega) | (rw [IntKind.wrap_i64]; simp; omega)
          · go_enter Try.func19, Try.ntmps19
            go_wp2
            go_ret
            refine ⟨ret_bool ?_, (Below.refl _ _).alloc (Nat.le_refl _) _⟩
            rw [Bool.eq_iff_iff]
            simp
            try omega
        · go_enter Try.func19, Try.ntmps19
          go_wp2
          go_ret
          refine ⟨ret_bool ?_, (Below.refl _ _).alloc (Nat.le_refl _) _⟩
          rw [Bool.eq_iff_iff]
          simp
          try omega
      · go_enter Try.func19, Try.ntmps19
        go_wp2
        go_ret
        refine ⟨ret_bool ?_, (Below.refl _ _).alloc (Nat.le_refl _) _⟩
        rw [Bool.eq_iff_iff]
        simp
        try omega
    · go_enter Try.func19, Try.ntmps19
      go_wp2
      go_ret
      refine ⟨ret_bool ?_, (Below.refl _ _).alloc (Nat.le_refl _) _⟩
      rw [Bool.eq_iff_iff]
      simp
      try omega
  · go_enter Try.func19, Try.ntmps19
    go_wp2
    go_ret
    refine ⟨ret_bool ?_, (Below.refl _ _).alloc (Nat.le_refl _) _⟩
    rw [Bool.eq_iff_iff]
    simp
    try omega
/-- A block that holds regions. -/
def Rb (w : World) (g : Nat) (v : Value) : Prop := St 75 w g #[.bool true, v]
set_option maxRecDepth 100000 in
set_option maxHeartbeats 4000000 in
theorem new_any (w : World) : Calls Try.prog 9 #[] w fun e w' => e = .returned (.pointer (some ⟨w.heap.size, 0, none⟩)) ∧ Rb w' w.heap.size (.slice none 0 0) ∧ Below w.heap.size w w' ∧ w'.heap.size = w.heap.size + 1 := by
  go_enter Try.func9, Try.ntmps9
  go_wp2
  go_ret
  exact ⟨rfl, St.new 75 w _, (Below.refl _ _).alloc (Nat.le_refl _) _, by simp⟩
set_option maxRecDepth 100000 in
set_option maxHeartbeats 4000000 in
theorem none_yes (g : Nat) (v : Value) (w : World) (h : Rb w g v) : Calls Try.prog 30 #[.pointer (some ⟨g, 0, none⟩)] w fun e w' => e = .returned (.bool false) ∧ w = w' := by
  have c0 := h.cell 0
  change w.cell? _ = some (.bool true) at c0
  go_enter Try.func30, Try.ntmps30
  go_wp2
  go_ret
  exact ⟨rfl, rfl⟩
set_option maxRecDepth 100000 in
set_option maxHeartbeats 4000000 in
theorem now_yes (g : Nat) (v : Value) (w : World) (h : Rb w g v) : Calls Try.prog 33 #[.pointer (some ⟨g, 0, none⟩)] w fun e w' => e = .returned v ∧ w = w' := by
  have c0 := h.cell 1
  change w.cell? _ = some v at c0
  go_enter Try.func33, Try.ntmps33
  go_wp2
  go_ret
  exact ⟨rfl, rfl⟩
set_option maxRecDepth 100000 in
set_option maxHeartbeats 4000000 in
theorem cut_any (ao : Option Addr) (n c i : Nat) (w : World) (hi : i ≤ n) (hc : n ≤ c) (h63 : c ≤ 9223372036854775807) (hno : ao = none → c = 0) : Calls Try.prog 31 #[.slice ao n c, .int .i64 (i : Int)] w fun e w' => (e = .returned (.slice ao i i)) ∧ w = w' := by
  cases ao with
  | none =>
    obtain rfl := hno rfl
    obtain rfl : n = 0 := by omega
    obtain rfl : i = 0 := by omega
    go_enter Try.func31, Try.ntmps31
    go_wp2
    go_ret
    exact ⟨rfl, rfl⟩
  | some ad =>
    go_enter Try.func31, Try.ntmps31
    go_wp2
    go_ret
    exact ⟨rfl, rfl⟩
end Go.Proofs.Ytopnfjgkgoeleaa
