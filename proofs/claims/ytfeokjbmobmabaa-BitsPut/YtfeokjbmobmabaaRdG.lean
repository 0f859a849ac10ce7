/- Contracts of the reader's Peek and Take. -/
import Derived.Test.YtfeokjbmobmabaaRdF
namespace Go.Proofs.Ytfeokjbmobmabaa
open Go.RowKit

theorem peek_val {w : World} {g : Nat} {ao : Option Addr} {cap : Nat} {B : List Int} {p next wait : Nat} (n : Nat) (h : RdX w g ao cap B p next wait) (hn : n ≤ wait ∨ next = B.length) :
    und 256 B / 2 ^ p % 2 ^ wait % 2 ^ n = und 256 B / 2 ^ p % 2 ^ n ∧ min n wait = min n (8 * B.length - p) := by
  have h1 := h.pos
  have h2 := h.nle
  by_cases hw : n ≤ wait
  · refine ⟨?_, by omega⟩
    obtain ⟨k, rfl⟩ := Nat.exists_eq_add_of_le hw
    rw [Nat.pow_add, Nat.mod_mul_right_mod]
  · have hl := hn.resolve_left hw
    have hs := und_small B h.byt p (by omega)
    rw [show 8 * B.length - p = wait by omega] at hs ⊢
    refine ⟨?_, rfl⟩
    rw [Nat.mod_eq_of_lt hs]
theorem and_mask (y n : Nat) (hy : y < 18446744073709551616) (hn : n ≤ 57) (m : Int) (hm : m = 2 ^ n - 1) : bits .and .u64 (y : Int) m = ((y % 2 ^ n : Nat) : Int) := by
  have hp : 2 ^ n ≤ 144115188075855872 := Nat.pow_le_pow_right (n := 2) (j := 57) (by omega) hn
  have hp0 : 0 < 2 ^ n := Nat.pow_pos (by omega)
  have e : m = ((2 ^ n - 1 : Nat) : Int) := by
    rw [hm]
    have : ((2 ^ n : Nat) : Int) = 2 ^ n := Int.natCast_pow 2 n
    omega
  rw [e, u64_and_nat _ _ hy (by omega), Nat.and_two_pow_sub_one_eq_mod]

theorem and_mask' (y n : Nat) (hy : y < 18446744073709551616) (hn : n ≤ 57) : bits .and .u64 (y : Int) (IntKind.u64.wrap (IntKind.u64.wrap (2 ^ n) - 1)) = ((y % 2 ^ n : Nat) : Int) := by
  have hp : 2 ^ n ≤ 144115188075855872 := Nat.pow_le_pow_right (n := 2) (j := 57) (by omega) hn
  have hp0 : 0 < 2 ^ n := Nat.pow_pos (by omega)
  have e : ((2 ^ n : Nat) : Int) = 2 ^ n := Int.natCast_pow 2 n
  refine and_mask y n hy hn _ ?_
  rw [IntKind.wrap_u64, IntKind.wrap_u64]
  omega
theorem word_64 (V p wait : Nat) (h : wait ≤ 64) : V / 2 ^ p % 2 ^ wait < 18446744073709551616 :=
  Nat.lt_of_lt_of_le (Nat.mod_lt _ (Nat.pow_pos (by omega))) (Nat.pow_le_pow_right (n := 2) (j := 64) (by omega) h)
theorem ret_three {k l m : IntKind} {a b c a' b' c' : Int} (h : a = a') (h' : b = b') (h'' : c = c') : Ending.returned (.tuple #[.int k a, .int l b, .int m c]) = .returned (.tuple #[.int k a', .int l b', .int m c']) := by rw [h, h', h'']

set_option maxHeartbeats 400000 in
theorem peek_x (g : Nat) (ao : Option Addr) (cap : Nat) (B : List Int) (p n X M : Nat) (w : World) (hn : n ≤ 57) (h : Rd w g ao cap B p) (HX : Hid (X = und 256 B / 2 ^ p % 2 ^ n ∧ M = min n (8 * B.length - p))) :
    Calls Try.prog 27 #[.pointer (some ⟨g, 0, none⟩), .int .i64 n] w fun e w' =>
      e = .returned (.tuple #[.int .u64 (X : Int), .int .i64 (M : Int), .int .i64 0]) ∧
        ∃ next wait, RdX w' g ao cap B p next wait ∧ M ≤ wait ∧ Kp (fun i => i = g) w w' := by
  obtain ⟨next, wait, h⟩ := h
  have hd : decide (0 ≤ (n : Int) ∧ (n : Int) ≤ 57) = true := by simp; omega
  have c3 : w.cell? ⟨g, 3, none⟩ = some (.int .i64 wait) := h.st.cell 3
  have hwl := h.wle
  by_cases hw : wait < n
  · go_enter Try.func27, Try.ntmps27
    go_wp2_with (first | (go_at_call 46; refine (wide_any _ _).mono ?_; rintro e w' ⟨rfl, rfl⟩; rw [hd]) | (go_at_call 47; refine (fill_walk g ao cap B p next wait _ h).mono ?_; rintro e w1 ⟨rfl, next1, wait1, h1, hor, K1⟩; obtain ⟨y, hy⟩ : ∃ y, y = und 256 B / 2 ^ p % 2 ^ wait1 := ⟨_, rfl⟩; have HS := h1.st; rw [← hy] at HS; have d2 : w1.cell? ⟨g, 2, none⟩ = some (.int .u64 y) := HS.cell 2; have d3 : w1.cell? ⟨g, 3, none⟩ = some (.int .i64 wait1) := HS.cell 3; have hw1 := h1.wle; have HH : Hid (y = und 256 B / 2 ^ p % 2 ^ wait1 ∧ (57 ≤ wait1 ∨ next1 = B.length)) := ⟨hy, hor⟩; clear hy HS hor))
    have HN : n ≤ wait1 ∨ next1 = B.length := by
      rcases HH.out.2 with h | h
      · exact .inl (by omega)
      · exact .inr h
    have HN2 : Hid (n ≤ wait1 ∨ next1 = B.length) := HN
    clear HN
    go_quiet (fail)
    go_wp2
    all_goals
      go_ret3
      obtain ⟨e1, e2⟩ := peek_val n h1 HN2.out
      refine ⟨ret_three ((and_mask' y n (HH.out.1 ▸ word_64 _ _ _ h1.wle) hn).trans ?_) ?_ rfl, next1, wait1, h1.ok (drewN_kp _ w1 _), ?_, K1.trans (drewN_kp _ w1 _) (fun _ _ x => x)⟩
      · rw [HX.out.1, ← e1, ← HH.out.1]
      · rw [HX.out.2, ← e2]; omega
      · rw [HX.out.2, ← e2]; omega
  · obtain ⟨w1, hw1⟩ : ∃ w1, w1 = w := ⟨_, rfl⟩
    obtain ⟨next1, hn1⟩ : ∃ w1, w1 = next := ⟨_, rfl⟩
    obtain ⟨wait1, hwt1⟩ : ∃ w1, w1 = wait := ⟨_, rfl⟩
    have K1 : Kp (fun i => i = g) w w1 := by rw [hw1]; exact Kp.refl _ _
    have h1 : RdX w1 g ao cap B p next1 wait1 := by rw [hw1, hn1, hwt1]; exact h
    have HN2 : Hid (n ≤ wait1 ∨ next1 = B.length) := .inl (by omega)
    rw [← hw1, ← hwt1] at c3
    rw [← hwt1] at hw hwl
    obtain ⟨y, hy⟩ : ∃ y, y = und 256 B / 2 ^ p % 2 ^ wait1 := ⟨_, rfl⟩
    have HS := h1.st
    rw [← hy] at HS
    have d2 : w1.cell? ⟨g, 2, none⟩ = some (.int .u64 y) := HS.cell 2
    have HH : Hid (y = und 256 B / 2 ^ p % 2 ^ wait1 ∧ True) := ⟨hy, trivial⟩
    subst hw1
    clear hy HS hn1 hwt1 h
    go_enter Try.func27, Try.ntmps27
    go_wp2_with (go_at_call 46; refine (wide_any _ _).mono ?_; rintro e w' ⟨rfl, rfl⟩; rw [hd])
    go_quiet (fail)
    go_wp2
    all_goals
      go_ret3
      obtain ⟨e1, e2⟩ := peek_val n h1 HN2.out
      refine ⟨ret_three ((and_mask' y n (HH.out.1 ▸ word_64 _ _ _ h1.wle) hn).trans ?_) ?_ rfl, next1, wait1, h1.ok (drewN_kp _ w1 _), ?_, K1.trans (drewN_kp _ w1 _) (fun _ _ x => x)⟩
      · rw [HX.out.1, ← e1, ← HH.out.1]
      · rw [HX.out.2, ← e2]; omega
      · rw [HX.out.2, ← e2]; omega
theorem peek_ok (g : Nat) (ao : Option Addr) (cap : Nat) (B : List Int) (p n : Nat) (w : World) (hn : n ≤ 57) (h : Rd w g ao cap B p) :
    Calls Try.prog 27 #[.pointer (some ⟨g, 0, none⟩), .int .i64 n] w fun e w' =>
      e = .returned (.tuple #[.int .u64 ((und 256 B / 2 ^ p % 2 ^ n : Nat) : Int), .int .i64 ((min n (8 * B.length - p) : Nat) : Int), .int .i64 0]) ∧ Rd w' g ao cap B p ∧ Kp (fun i => i = g) w w' := by
  refine (peek_x g ao cap B p n _ _ w hn h ⟨rfl, rfl⟩).mono ?_
  rintro e w' ⟨rfl, next, wait, h1, _, k⟩
  exact ⟨rfl, ⟨next, wait, h1⟩, k⟩
set_option maxHeartbeats 400000 in
theorem peek_bad (g : Nat) (n : Int) (w : World) (hn : ¬ (0 ≤ n ∧ n ≤ 57)) :
    Calls Try.prog 27 #[.pointer (some ⟨g, 0, none⟩), .int .i64 n] w fun e w' => e = .returned (.tuple #[.int .u64 0, .int .i64 0, .int .i64 2]) ∧ w = w' := by
  have hd : decide (0 ≤ n ∧ n ≤ 57) = false := by simpa using hn
  clear hn
  go_enter Try.func27, Try.ntmps27
  go_wp2_with (go_at_call 46; refine (wide_any _ _).mono ?_; rintro e w' ⟨rfl, rfl⟩; rw [hd])
  go_ret3
  exact ⟨rfl, rfl⟩
set_option maxHeartbeats 400000 in
theorem peek_nil (n : Int) (w : World) :
    Calls Try.prog 27 #[.pointer none, .int .i64 n] w fun e w' => e = .returned (.tuple #[.int .u64 0, .int .i64 0, .int .i64 1]) ∧ w = w' := by
  go_enter Try.func27, Try.ntmps27
  go_wp2
  go_ret3
  exact ⟨rfl, rfl⟩

set_option maxHeartbeats 400000 in
theorem take_x (g : Nat) (ao : Option Addr) (cap : Nat) (B : List Int) (p n X M : Nat) (w : World) (hn : n ≤ 57) (h : Rd w g ao cap B p) (HX : Hid (X = und 256 B / 2 ^ p % 2 ^ n ∧ M = min n (8 * B.length - p))) (hM : n ≤ M) :
    Calls Try.prog 32 #[.pointer (some ⟨g, 0, none⟩), .int .i64 n] w fun e w' => e = .returned (.tuple #[.int .u64 (X : Int), .int .i64 0]) ∧ Rd w' g ao cap B (p + n) ∧ Kp (fun i => i = g) w w' := by
  have hM2 : ¬ (M < n) := by omega
  go_enter Try.func32, Try.ntmps32
  go_wp2_with (first | (go_at_call 27; refine (peek_x g ao cap B p n X M _ hn h HX).mono ?_; rintro e w1 ⟨rfl, next, wait, h1, hw, K1⟩) | (go_at_call 49; refine (drop_any g ao cap B p next wait n _ h1 (by omega)).mono ?_; rintro e w2 ⟨rfl, h2, K2⟩))
  go_ret2
  exact ⟨rfl, ⟨_, _, h2⟩, K1.trans K2 (fun _ _ x => x)⟩
/-- Take, of bits that are there. -/
theorem take_ok (g : Nat) (ao : Option Addr) (cap : Nat) (B : List Int) (p n : Nat) (w : World) (hn : n ≤ 57) (h : Rd w g ao cap B p) (hl : p + n ≤ 8 * B.length) :
    Calls Try.prog 32 #[.pointer (some ⟨g, 0, none⟩), .int .i64 n] w fun e w' => e = .returned (.tuple #[.int .u64 ((und 256 B / 2 ^ p % 2 ^ n : Nat) : Int), .int .i64 0]) ∧ Rd w' g ao cap B (p + n) ∧ Kp (fun i => i = g) w w' :=
  take_x g ao cap B p n _ _ w hn h ⟨rfl, rfl⟩ (by omega)
set_option maxHeartbeats 400000 in
theorem take_short (g : Nat) (ao : Option Addr) (cap : Nat) (B : List Int) (p n : Nat) (w : World) (hn : n ≤ 57) (h : Rd w g ao cap B p) (hl : 8 * B.length < p + n) :
    Calls Try.prog 32 #[.pointer (some ⟨g, 0, none⟩), .int .i64 n] w fun e w' => e = .returned (.tuple #[.int .u64 0, .int .i64 120]) ∧ Rd w' g ao cap B p ∧ Kp (fun i => i = g) w w' := by
  obtain ⟨X, hX⟩ : ∃ X, X = und 256 B / 2 ^ p % 2 ^ n := ⟨_, rfl⟩
  obtain ⟨M, hM⟩ : ∃ M, M = min n (8 * B.length - p) := ⟨_, rfl⟩
  have hM2 : M < n := by have := h.le; omega
  have HX : Hid (X = und 256 B / 2 ^ p % 2 ^ n ∧ M = min n (8 * B.length - p)) := ⟨hX, hM⟩
  clear hX hM
  go_enter Try.func32, Try.ntmps32
  go_wp2_with (go_at_call 27; refine (peek_x g ao cap B p n X M _ hn h HX).mono ?_; rintro e w1 ⟨rfl, next, wait, h1, hw, K1⟩)
  go_ret2
  exact ⟨rfl, ⟨_, _, h1⟩, K1⟩
set_option maxHeartbeats 400000 in
theorem take_bad (g : Nat) (n : Int) (w : World) (hn : ¬ (0 ≤ n ∧ n ≤ 57)) :
    Calls Try.prog 32 #[.pointer (some ⟨g, 0, none⟩), .int .i64 n] w fun e w' => e = .returned (.tuple #[.int .u64 0, .int .i64 2]) ∧ w = w' := by
  go_enter Try.func32, Try.ntmps32
  go_wp2_with (go_at_call 27; refine (peek_bad g n _ hn).mono ?_; rintro e w1 ⟨rfl, rfl⟩)
  go_ret2
  exact ⟨rfl, rfl⟩
set_option maxHeartbeats 400000 in
theorem take_nil (n : Int) (w : World) :
    Calls Try.prog 32 #[.pointer none, .int .i64 n] w fun e w' => e = .returned (.tuple #[.int .u64 0, .int .i64 1]) ∧ w = w' := by
  go_enter Try.func32, Try.ntmps32
  go_wp2_with (go_at_call 27; refine (peek_nil n _).mono ?_; rintro e w1 ⟨rfl, rfl⟩)
  go_ret2
  exact ⟨rfl, rfl⟩

end Go.Proofs.Ytfeokjbmobmabaa
