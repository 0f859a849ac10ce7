/- LzSymbols: symbols of lengths and distances, there and back. -/
import Derived.Test.YtofmoggejfopiaaRsy
import Derived.Test.YtofmoggejfopiaaWks
namespace Go.Proofs.Ytofmoggejfopiaa
open Go.RowKit
theorem ch_ex (fs : Nat → Int) (n : Int) (h0 : fs 0 ≤ n) (M : Nat) : ∃ i, Ch fs (M + 1) n i := by
  induction M with
  | zero => exact ⟨0, by omega, h0, fun j h1 h2 => by omega⟩
  | succ M ih =>
    by_cases h : fs (M + 1) ≤ n
    · exact ⟨M + 1, by omega, h, fun j h1 h2 => by omega⟩
    · obtain ⟨i, h1, h2, h3⟩ := ih
      refine ⟨i, by omega, h2, fun j h4 h5 => ?_⟩
      by_cases e : j = M + 1
      · rw [e]; omega
      · exact h3 j h4 (by omega)
/-- What Length answers, and the reference. -/
def LP (n a b c e : Int) : Prop := (∀ w, Calls Try.prog 23 #[.int .i64 n] w fun r w' => r = .returned (.tuple #[.int .i64 a, .int .u64 b, .int .i64 c, .int .i64 e]) ∧ Below w.heap.size w w') ∧
  (¬ (3 ≤ n ∧ n ≤ 258) → a = 0 ∧ b = 0 ∧ c = 0 ∧ e = 2) ∧ (3 ≤ n ∧ n ≤ 258 → e = 0 ∧ ∀ w, Calls Try.prog 27 #[.int .i64 n] w fun r w' => r = .returned (.tuple #[.int .i64 a, .int .u64 b, .int .i64 c]) ∧ w' = w)
theorem lp_ex (n : Int) : ∃ a b c e, LP n a b c e := by
  by_cases h : 3 ≤ n ∧ n ≤ 258
  · obtain ⟨i, hi⟩ := ch_ex lfs n (by rw [lfs_0]; omega) 28
    refine ⟨257 + (i : Int), n - lfs i, lws i, 0, fun w => (length_ok n w h).mono ?_, fun h' => absurd h h', fun _ => ⟨rfl, fun w => (rlength_any n w h.1 h.2).mono ?_⟩⟩
    · rintro r w' ⟨j, rfl, hj, b⟩
      obtain rfl := hj.uniq hi
      exact ⟨rfl, b⟩
    · rintro r w' ⟨j, rfl, hj, b⟩
      obtain rfl := hj.uniq hi
      exact ⟨rfl, b⟩
  · exact ⟨0, 0, 0, 2, fun w => length_bad n w h, fun _ => ⟨rfl, rfl, rfl, rfl⟩, fun h' => absurd h' h⟩
def DP (n a b c e : Int) : Prop := (∀ w, Calls Try.prog 24 #[.int .i64 n] w fun r w' => r = .returned (.tuple #[.int .i64 a, .int .u64 b, .int .i64 c, .int .i64 e]) ∧ Below w.heap.size w w') ∧
  (¬ (1 ≤ n ∧ n ≤ 32768) → a = 0 ∧ b = 0 ∧ c = 0 ∧ e = 2) ∧ (1 ≤ n ∧ n ≤ 32768 → e = 0 ∧ ∀ w, Calls Try.prog 28 #[.int .i64 n] w fun r w' => r = .returned (.tuple #[.int .i64 a, .int .u64 b, .int .i64 c]) ∧ w' = w)
theorem dp_ex (n : Int) : ∃ a b c e, DP n a b c e := by
  by_cases h : 1 ≤ n ∧ n ≤ 32768
  · obtain ⟨i, hi⟩ := ch_ex dfs n (by rw [dfs_0]; omega) 29
    refine ⟨(i : Int), n - dfs i, dws i, 0, fun w => (distance_ok n w h).mono ?_, fun h' => absurd h h', fun _ => ⟨rfl, fun w => (rdistance_any n w h.1 h.2).mono ?_⟩⟩
    · rintro r w' ⟨j, rfl, hj, b⟩
      obtain rfl := hj.uniq hi
      exact ⟨rfl, b⟩
    · rintro r w' ⟨j, rfl, hj, b⟩
      obtain rfl := hj.uniq hi
      exact ⟨rfl, b⟩
  · exact ⟨0, 0, 0, 2, fun w => distance_bad n w h, fun _ => ⟨rfl, rfl, rfl, rfl⟩, fun h' => absurd h' h⟩
def OL (s p q g : Int) : Prop := (∀ w, Calls Try.prog 25 #[.int .i64 s] w fun r w' => r = .returned (.tuple #[.int .i64 p, .int .i64 q, .int .i64 g]) ∧ Below w.heap.size w w') ∧
  (¬ (257 ≤ s ∧ s ≤ 285) → p = 0 ∧ q = 0 ∧ g = 2) ∧ (257 ≤ s ∧ s ≤ 285 → g = 0 ∧ ∀ w, Calls Try.prog 29 #[.int .i64 s] w fun r w' => r = .returned (.tuple #[.int .i64 p, .int .i64 q]) ∧ w' = w)
theorem ol_ex (s : Int) : ∃ p q g, OL s p q g := by
  by_cases h : 257 ≤ s ∧ s ≤ 285
  · obtain ⟨i, hi⟩ := Int.eq_ofNat_of_zero_le (show 0 ≤ s - 257 by omega)
    exact ⟨lfs i, lws i, 0, fun w => oflength_ok i s w (by omega) (by omega), fun h' => absurd h h', fun _ => ⟨rfl, fun w => first_any s i (by omega) (by omega) w⟩⟩
  · exact ⟨0, 0, 2, fun w => oflength_bad s w (by omega), fun _ => ⟨rfl, rfl, rfl⟩, fun h' => absurd h' h⟩
def OD (s p q g : Int) : Prop := (∀ w, Calls Try.prog 26 #[.int .i64 s] w fun r w' => r = .returned (.tuple #[.int .i64 p, .int .i64 q, .int .i64 g]) ∧ Below w.heap.size w w') ∧
  (¬ (0 ≤ s ∧ s ≤ 29) → p = 0 ∧ q = 0 ∧ g = 2) ∧ (0 ≤ s ∧ s ≤ 29 → g = 0 ∧ ∀ w, Calls Try.prog 30 #[.int .i64 s] w fun r w' => r = .returned (.tuple #[.int .i64 p, .int .i64 q]) ∧ w' = w)
theorem od_ex (s : Int) : ∃ p q g, OD s p q g := by
  by_cases h : 0 ≤ s ∧ s ≤ 29
  · obtain ⟨i, hi⟩ := Int.eq_ofNat_of_zero_le (show 0 ≤ s by omega)
    exact ⟨dfs i, dws i, 0, fun w => ofdistance_ok i s w (by omega) (by omega), fun h' => absurd h h', fun _ => ⟨rfl, fun w => firstd_any s i (by omega) (by omega) w⟩⟩
  · exact ⟨0, 0, 2, fun w => ofdistance_bad s w (by omega), fun _ => ⟨rfl, rfl, rfl⟩, fun h' => absurd h' h⟩
set_option maxRecDepth 100000 in
set_option maxHeartbeats 16000000 in
theorem symbols_walk (n s : Int) (w : World) : Calls Try.prog 5 #[.int .i64 n, .int .i64 s] w fun e w' => e = .returned (.bool true) ∧ Below w.heap.size w w' := by
  obtain ⟨a, b, c, e, hl⟩ := lp_ex n
  obtain ⟨x, y, z, f, hd⟩ := dp_ex n
  obtain ⟨p, q, g, hol⟩ := ol_ex s
  obtain ⟨r, t, h, hod⟩ := od_ex s
  have HL : Hid (LP n a b c e) := hl
  have HD : Hid (DP n x y z f) := hd
  have HOL : Hid (OL s p q g) := hol
  have HOD : Hid (OD s r t h) := hod
  clear hl hd hol hod
  go_enter Try.func5, Try.ntmps5
  go_wp2_with fail
  refine (HL.out.1 w).mono ?_
  rintro r1 w1 ⟨rfl, b1⟩
  have B1 : Hid (Below w.heap.size w w1) := b1
  clear b1
  go_wp2_with fail
  refine (HD.out.1 w1).mono ?_
  rintro r2 w2 ⟨rfl, b2⟩
  have B2 : Hid (Below w.heap.size w w2) := B1.out.trans (b2.mono B1.out.size)
  clear b2 B1
  go_wp2_with fail
  refine (HOL.out.1 w2).mono ?_
  rintro r3 w3 ⟨rfl, b3⟩
  have B3 : Hid (Below w.heap.size w w3) := B2.out.trans (b3.mono B2.out.size)
  clear b3 B2
  go_wp2_with fail
  refine (HOD.out.1 w3).mono ?_
  rintro r4 w4 ⟨rfl, b4⟩
  have B4 : Hid (Below w.heap.size w w4) := B3.out.trans (b4.mono B3.out.size)
  clear b4 B3
  have hn : n < 1 ∨ (1 ≤ n ∧ n < 3) ∨ (3 ≤ n ∧ n ≤ 258) ∨ (258 < n ∧ n ≤ 32768) ∨ 32768 < n := by omega
  have hs : s < 0 ∨ (0 ≤ s ∧ s ≤ 29) ∨ (29 < s ∧ s < 257) ∨ (257 ≤ s ∧ s ≤ 285) ∨ 285 < s := by omega
  rcases hn with hn | hn | hn | hn | hn
  · rcases hs with hs | hs | hs | hs | hs
    · obtain ⟨rfl, rfl, rfl, rfl⟩ := HL.out.2.1 (by omega)
      obtain ⟨rfl, rfl, rfl, rfl⟩ := HD.out.2.1 (by omega)
      obtain ⟨rfl, rfl, rfl⟩ := HOL.out.2.1 (by omega)
      obtain ⟨rfl, rfl, rfl⟩ := HOD.out.2.1 (by omega)
      have n1 : n < 3 := by omega
      have n3 : n < 1 := by omega
      have s1 : s < 257 := by omega
      have s3 : s < 0 := by omega
      clear hn hs
      go_wp2_with (first | (go_at_call 14; refine (num_any _ _).mono ?_; rintro e w' ⟨rfl, h⟩; replace h := h.symm; subst h) | (go_at_call 9; refine (works_any _).mono ?_; rintro e w9 ⟨rfl, b9⟩))
      go_ret
      exact ⟨rfl, B4.out.trans (b9.mono B4.out.size)⟩
    · obtain ⟨rfl, rfl, rfl, rfl⟩ := HL.out.2.1 (by omega)
      obtain ⟨rfl, rfl, rfl, rfl⟩ := HD.out.2.1 (by omega)
      obtain ⟨rfl, rfl, rfl⟩ := HOL.out.2.1 (by omega)
      obtain ⟨rfl, h30⟩ := HOD.out.2.2 (by omega)
      have H30 : Hid (∀ w, Calls Try.prog 30 #[.int .i64 s] w fun r1 w' => r1 = .returned (.tuple #[.int .i64 r, .int .i64 t]) ∧ w' = w) := h30
      have n1 : n < 3 := by omega
      have n3 : n < 1 := by omega
      have s1 : s < 257 := by omega
      have s3 : ¬ s < 0 := by omega
      have s4 : ¬ 29 < s := by omega
      clear hn hs h30
      go_wp2_with (first | (go_at_call 14; refine (num_any _ _).mono ?_; rintro e w' ⟨rfl, h⟩; replace h := h.symm; subst h) | (go_at_call 30; refine (H30.out _).mono ?_; rintro e w' ⟨rfl, h⟩; replace h := h.symm; subst h) | (go_at_call 9; refine (works_any _).mono ?_; rintro e w9 ⟨rfl, b9⟩))
      go_ret
      exact ⟨rfl, B4.out.trans (b9.mono B4.out.size)⟩
    · obtain ⟨rfl, rfl, rfl, rfl⟩ := HL.out.2.1 (by omega)
      obtain ⟨rfl, rfl, rfl, rfl⟩ := HD.out.2.1 (by omega)
      obtain ⟨rfl, rfl, rfl⟩ := HOL.out.2.1 (by omega)
      obtain ⟨rfl, rfl, rfl⟩ := HOD.out.2.1 (by omega)
      have n1 : n < 3 := by omega
      have n3 : n < 1 := by omega
      have s1 : s < 257 := by omega
      have s3 : ¬ s < 0 := by omega
      have s4 : 29 < s := by omega
      clear hn hs
      go_wp2_with (first | (go_at_call 14; refine (num_any _ _).mono ?_; rintro e w' ⟨rfl, h⟩; replace h := h.symm; subst h) | (go_at_call 9; refine (works_any _).mono ?_; rintro e w9 ⟨rfl, b9⟩))
      go_ret
      exact ⟨rfl, B4.out.trans (b9.mono B4.out.size)⟩
    · obtain ⟨rfl, rfl, rfl, rfl⟩ := HL.out.2.1 (by omega)
      obtain ⟨rfl, rfl, rfl, rfl⟩ := HD.out.2.1 (by omega)
      obtain ⟨rfl, h29⟩ := HOL.out.2.2 (by omega)
      have H29 : Hid (∀ w, Calls Try.prog 29 #[.int .i64 s] w fun r w' => r = .returned (.tuple #[.int .i64 p, .int .i64 q]) ∧ w' = w) := h29
      obtain ⟨rfl, rfl, rfl⟩ := HOD.out.2.1 (by omega)
      have n1 : n < 3 := by omega
      have n3 : n < 1 := by omega
      have s1 : ¬ s < 257 := by omega
      have s2 : ¬ 285 < s := by omega
      have s3 : ¬ s < 0 := by omega
      have s4 : 29 < s := by omega
      clear hn hs h29
      go_wp2_with (first | (go_at_call 14; refine (num_any _ _).mono ?_; rintro e w' ⟨rfl, h⟩; replace h := h.symm; subst h) | (go_at_call 29; refine (H29.out _).mono ?_; rintro e w' ⟨rfl, h⟩; replace h := h.symm; subst h) | (go_at_call 9; refine (works_any _).mono ?_; rintro e w9 ⟨rfl, b9⟩))
      go_ret
      exact ⟨rfl, B4.out.trans (b9.mono B4.out.size)⟩
    · obtain ⟨rfl, rfl, rfl, rfl⟩ := HL.out.2.1 (by omega)
      obtain ⟨rfl, rfl, rfl, rfl⟩ := HD.out.2.1 (by omega)
      obtain ⟨rfl, rfl, rfl⟩ := HOL.out.2.1 (by omega)
      obtain ⟨rfl, rfl, rfl⟩ := HOD.out.2.1 (by omega)
      have n1 : n < 3 := by omega
      have n3 : n < 1 := by omega
      have s1 : ¬ s < 257 := by omega
      have s2 : 285 < s := by omega
      have s3 : ¬ s < 0 := by omega
      have s4 : 29 < s := by omega
      clear hn hs
      go_wp2_with (first | (go_at_call 14; refine (num_any _ _).mono ?_; rintro e w' ⟨rfl, h⟩; replace h := h.symm; subst h) | (go_at_call 9; refine (works_any _).mono ?_; rintro e w9 ⟨rfl, b9⟩))
      go_ret
      exact ⟨rfl, B4.out.trans (b9.mono B4.out.size)⟩
  · rcases hs with hs | hs | hs | hs | hs
    · obtain ⟨rfl, rfl, rfl, rfl⟩ := HL.out.2.1 (by omega)
      obtain ⟨rfl, h28⟩ := HD.out.2.2 (by omega)
      have H28 : Hid (∀ w, Calls Try.prog 28 #[.int .i64 n] w fun r w' => r = .returned (.tuple #[.int .i64 x, .int .u64 y, .int .i64 z]) ∧ w' = w) := h28
      obtain ⟨rfl, rfl, rfl⟩ := HOL.out.2.1 (by omega)
      obtain ⟨rfl, rfl, rfl⟩ := HOD.out.2.1 (by omega)
      have n1 : n < 3 := by omega
      have n3 : ¬ n < 1 := by omega
      have n4 : ¬ 32768 < n := by omega
      have s1 : s < 257 := by omega
      have s3 : s < 0 := by omega
      clear hn hs h28
      go_wp2_with (first | (go_at_call 14; refine (num_any _ _).mono ?_; rintro e w' ⟨rfl, h⟩; replace h := h.symm; subst h) | (go_at_call 28; refine (H28.out _).mono ?_; rintro e w' ⟨rfl, h⟩; replace h := h.symm; subst h) | (go_at_call 9; refine (works_any _).mono ?_; rintro e w9 ⟨rfl, b9⟩))
      go_ret
      exact ⟨rfl, B4.out.trans (b9.mono B4.out.size)⟩
    · obtain ⟨rfl, rfl, rfl, rfl⟩ := HL.out.2.1 (by omega)
      obtain ⟨rfl, h28⟩ := HD.out.2.2 (by omega)
      have H28 : Hid (∀ w, Calls Try.prog 28 #[.int .i64 n] w fun r w' => r = .returned (.tuple #[.int .i64 x, .int .u64 y, .int .i64 z]) ∧ w' = w) := h28
      obtain ⟨rfl, rfl, rfl⟩ := HOL.out.2.1 (by omega)
      obtain ⟨rfl, h30⟩ := HOD.out.2.2 (by omega)
      have H30 : Hid (∀ w, Calls Try.prog 30 #[.int .i64 s] w fun r1 w' => r1 = .returned (.tuple #[.int .i64 r, .int .i64 t]) ∧ w' = w) := h30
      have n1 : n < 3 := by omega
      have n3 : ¬ n < 1 := by omega
      have n4 : ¬ 32768 < n := by omega
      have s1 : s < 257 := by omega
      have s3 : ¬ s < 0 := by omega
      have s4 : ¬ 29 < s := by omega
      clear hn hs h28 h30
      go_wp2_with (first | (go_at_call 14; refine (num_any _ _).mono ?_; rintro e w' ⟨rfl, h⟩; replace h := h.symm; subst h) | (go_at_call 28; refine (H28.out _).mono ?_; rintro e w' ⟨rfl, h⟩; replace h := h.symm; subst h) | (go_at_call 30; refine (H30.out _).mono ?_; rintro e w' ⟨rfl, h⟩; replace h := h.symm; subst h) | (go_at_call 9; refine (works_any _).mono ?_; rintro e w9 ⟨rfl, b9⟩))
      go_ret
      exact ⟨rfl, B4.out.trans (b9.mono B4.out.size)⟩
    · obtain ⟨rfl, rfl, rfl, rfl⟩ := HL.out.2.1 (by omega)
      obtain ⟨rfl, h28⟩ := HD.out.2.2 (by omega)
      have H28 : Hid (∀ w, Calls Try.prog 28 #[.int .i64 n] w fun r w' => r = .returned (.tuple #[.int .i64 x, .int .u64 y, .int .i64 z]) ∧ w' = w) := h28
      obtain ⟨rfl, rfl, rfl⟩ := HOL.out.2.1 (by omega)
      obtain ⟨rfl, rfl, rfl⟩ := HOD.out.2.1 (by omega)
      have n1 : n < 3 := by omega
      have n3 : ¬ n < 1 := by omega
      have n4 : ¬ 32768 < n := by omega
      have s1 : s < 257 := by omega
      have s3 : ¬ s < 0 := by omega
      have s4 : 29 < s := by omega
      clear hn hs h28
      go_wp2_with (first | (go_at_call 14; refine (num_any _ _).mono ?_; rintro e w' ⟨rfl, h⟩; replace h := h.symm; subst h) | (go_at_call 28; refine (H28.out _).mono ?_; rintro e w' ⟨rfl, h⟩; replace h := h.symm; subst h) | (go_at_call 9; refine (works_any _).mono ?_; rintro e w9 ⟨rfl, b9⟩))
      go_ret
      exact ⟨rfl, B4.out.trans (b9.mono B4.out.size)⟩
    · obtain ⟨rfl, rfl, rfl, rfl⟩ := HL.out.2.1 (by omega)
      obtain ⟨rfl, h28⟩ := HD.out.2.2 (by omega)
      have H28 : Hid (∀ w, Calls Try.prog 28 #[.int .i64 n] w fun r w' => r = .returned (.tuple #[.int .i64 x, .int .u64 y, .int .i64 z]) ∧ w' = w) := h28
      obtain ⟨rfl, h29⟩ := HOL.out.2.2 (by omega)
      have H29 : Hid (∀ w, Calls Try.prog 29 #[.int .i64 s] w fun r w' => r = .returned (.tuple #[.int .i64 p, .int .i64 q]) ∧ w' = w) := h29
      obtain ⟨rfl, rfl, rfl⟩ := HOD.out.2.1 (by omega)
      have n1 : n < 3 := by omega
      have n3 : ¬ n < 1 := by omega
      have n4 : ¬ 32768 < n := by omega
      have s1 : ¬ s < 257 := by omega
      have s2 : ¬ 285 < s := by omega
      have s3 : ¬ s < 0 := by omega
      have s4 : 29 < s := by omega
      clear hn hs h28 h29
      go_wp2_with (first | (go_at_call 14; refine (num_any _ _).mono ?_; rintro e w' ⟨rfl, h⟩; replace h := h.symm; subst h) | (go_at_call 28; refine (H28.out _).mono ?_; rintro e w' ⟨rfl, h⟩; replace h := h.symm; subst h) | (go_at_call 29; refine (H29.out _).mono ?_; rintro e w' ⟨rfl, h⟩; replace h := h.symm; subst h) | (go_at_call 9; refine (works_any _).mono ?_; rintro e w9 ⟨rfl, b9⟩))
      go_ret
      exact ⟨rfl, B4.out.trans (b9.mono B4.out.size)⟩
    · obtain ⟨rfl, rfl, rfl, rfl⟩ := HL.out.2.1 (by omega)
      obtain ⟨rfl, h28⟩ := HD.out.2.2 (by omega)
      have H28 : Hid (∀ w, Calls Try.prog 28 #[.int .i64 n] w fun r w' => r = .returned (.tuple #[.int .i64 x, .int .u64 y, .int .i64 z]) ∧ w' = w) := h28
      obtain ⟨rfl, rfl, rfl⟩ := HOL.out.2.1 (by omega)
      obtain ⟨rfl, rfl, rfl⟩ := HOD.out.2.1 (by omega)
      have n1 : n < 3 := by omega
      have n3 : ¬ n < 1 := by omega
      have n4 : ¬ 32768 < n := by omega
      have s1 : ¬ s < 257 := by omega
      have s2 : 285 < s := by omega
      have s3 : ¬ s < 0 := by omega
      have s4 : 29 < s := by omega
      clear hn hs h28
      go_wp2_with (first | (go_at_call 14; refine (num_any _ _).mono ?_; rintro e w' ⟨rfl, h⟩; replace h := h.symm; subst h) | (go_at_call 28; refine (H28.out _).mono ?_; rintro e w' ⟨rfl, h⟩; replace h := h.symm; subst h) | (go_at_call 9; refine (works_any _).mono ?_; rintro e w9 ⟨rfl, b9⟩))
      go_ret
      exact ⟨rfl, B4.out.trans (b9.mono B4.out.size)⟩
  · rcases hs with hs | hs | hs | hs | hs
    · obtain ⟨rfl, h27⟩ := HL.out.2.2 (by omega)
      have H27 : Hid (∀ w, Calls Try.prog 27 #[.int .i64 n] w fun r w' => r = .returned (.tuple #[.int .i64 a, .int .u64 b, .int .i64 c]) ∧ w' = w) := h27
      obtain ⟨rfl, h28⟩ := HD.out.2.2 (by omega)
      have H28 : Hid (∀ w, Calls Try.prog 28 #[.int .i64 n] w fun r w' => r = .returned (.tuple #[.int .i64 x, .int .u64 y, .int .i64 z]) ∧ w' = w) := h28
      obtain ⟨rfl, rfl, rfl⟩ := HOL.out.2.1 (by omega)
      obtain ⟨rfl, rfl, rfl⟩ := HOD.out.2.1 (by omega)
      have n1 : ¬ n < 3 := by omega
      have n2 : ¬ 258 < n := by omega
      have n3 : ¬ n < 1 := by omega
      have n4 : ¬ 32768 < n := by omega
      have s1 : s < 257 := by omega
      have s3 : s < 0 := by omega
      clear hn hs h27 h28
      go_wp2_with (first | (go_at_call 14; refine (num_any _ _).mono ?_; rintro e w' ⟨rfl, h⟩; replace h := h.symm; subst h) | (go_at_call 27; refine (H27.out _).mono ?_; rintro e w' ⟨rfl, h⟩; replace h := h.symm; subst h) | (go_at_call 28; refine (H28.out _).mono ?_; rintro e w' ⟨rfl, h⟩; replace h := h.symm; subst h) | (go_at_call 9; refine (works_any _).mono ?_; rintro e w9 ⟨rfl, b9⟩))
      go_ret
      exact ⟨rfl, B4.out.trans (b9.mono B4.out.size)⟩
    · obtain ⟨rfl, h27⟩ := HL.out.2.2 (by omega)
      have H27 : Hid (∀ w, Calls Try.prog 27 #[.int .i64 n] w fun r w' => r = .returned (.tuple #[.int .i64 a, .int .u64 b, .int .i64 c]) ∧ w' = w) := h27
      obtain ⟨rfl, h28⟩ := HD.out.2.2 (by omega)
      have H28 : Hid (∀ w, Calls Try.prog 28 #[.int .i64 n] w fun r w' => r = .returned (.tuple #[.int .i64 x, .int .u64 y, .int .i64 z]) ∧ w' = w) := h28
      obtain ⟨rfl, rfl, rfl⟩ := HOL.out.2.1 (by omega)
      obtain ⟨rfl, h30⟩ := HOD.out.2.2 (by omega)
      have H30 : Hid (∀ w, Calls Try.prog 30 #[.int .i64 s] w fun r1 w' => r1 = .returned (.tuple #[.int .i64 r, .int .i64 t]) ∧ w' = w) := h30
      have n1 : ¬ n < 3 := by omega
      have n2 : ¬ 258 < n := by omega
      have n3 : ¬ n < 1 := by omega
      have n4 : ¬ 32768 < n := by omega
      have s1 : s < 257 := by omega
      have s3 : ¬ s < 0 := by omega
      have s4 : ¬ 29 < s := by omega
      clear hn hs h27 h28 h30
      go_wp2_with (first | (go_at_call 14; refine (num_any _ _).mono ?_; rintro e w' ⟨rfl, h⟩; replace h := h.symm; subst h) | (go_at_call 27; refine (H27.out _).mono ?_; rintro e w' ⟨rfl, h⟩; replace h := h.symm; subst h) | (go_at_call 28; refine (H28.out _).mono ?_; rintro e w' ⟨rfl, h⟩; replace h := h.symm; subst h) | (go_at_call 30; refine (H30.out _).mono ?_; rintro e w' ⟨rfl, h⟩; replace h := h.symm; subst h) | (go_at_call 9; refine (works_any _).mono ?_; rintro e w9 ⟨rfl, b9⟩))
      go_ret
      exact ⟨rfl, B4.out.trans (b9.mono B4.out.size)⟩
    · obtain ⟨rfl, h27⟩ := HL.out.2.2 (by omega)
      have H27 : Hid (∀ w, Calls Try.prog 27 #[.int .i64 n] w fun r w' => r = .returned (.tuple #[.int .i64 a, .int .u64 b, .int .i64 c]) ∧ w' = w) := h27
      obtain ⟨rfl, h28⟩ := HD.out.2.2 (by omega)
      have H28 : Hid (∀ w, Calls Try.prog 28 #[.int .i64 n] w fun r w' => r = .returned (.tuple #[.int .i64 x, .int .u64 y, .int .i64 z]) ∧ w' = w) := h28
      obtain ⟨rfl, rfl, rfl⟩ := HOL.out.2.1 (by omega)
      obtain ⟨rfl, rfl, rfl⟩ := HOD.out.2.1 (by omega)
      have n1 : ¬ n < 3 := by omega
      have n2 : ¬ 258 < n := by omega
      have n3 : ¬ n < 1 := by omega
      have n4 : ¬ 32768 < n := by omega
      have s1 : s < 257 := by omega
      have s3 : ¬ s < 0 := by omega
      have s4 : 29 < s := by omega
      clear hn hs h27 h28
      go_wp2_with (first | (go_at_call 14; refine (num_any _ _).mono ?_; rintro e w' ⟨rfl, h⟩; replace h := h.symm; subst h) | (go_at_call 27; refine (H27.out _).mono ?_; rintro e w' ⟨rfl, h⟩; replace h := h.symm; subst h) | (go_at_call 28; refine (H28.out _).mono ?_; rintro e w' ⟨rfl, h⟩; replace h := h.symm; subst h) | (go_at_call 9; refine (works_any _).mono ?_; rintro e w9 ⟨rfl, b9⟩))
      go_ret
      exact ⟨rfl, B4.out.trans (b9.mono B4.out.size)⟩
    · obtain ⟨rfl, h27⟩ := HL.out.2.2 (by omega)
      have H27 : Hid (∀ w, Calls Try.prog 27 #[.int .i64 n] w fun r w' => r = .returned (.tuple #[.int .i64 a, .int .u64 b, .int .i64 c]) ∧ w' = w) := h27
      obtain ⟨rfl, h28⟩ := HD.out.2.2 (by omega)
      have H28 : Hid (∀ w, Calls Try.prog 28 #[.int .i64 n] w fun r w' => r = .returned (.tuple #[.int .i64 x, .int .u64 y, .int .i64 z]) ∧ w' = w) := h28
      obtain ⟨rfl, h29⟩ := HOL.out.2.2 (by omega)
      have H29 : Hid (∀ w, Calls Try.prog 29 #[.int .i64 s] w fun r w' => r = .returned (.tuple #[.int .i64 p, .int .i64 q]) ∧ w' = w) := h29
      obtain ⟨rfl, rfl, rfl⟩ := HOD.out.2.1 (by omega)
      have n1 : ¬ n < 3 := by omega
      have n2 : ¬ 258 < n := by omega
      have n3 : ¬ n < 1 := by omega
      have n4 : ¬ 32768 < n := by omega
      have s1 : ¬ s < 257 := by omega
      have s2 : ¬ 285 < s := by omega
      have s3 : ¬ s < 0 := by omega
      have s4 : 29 < s := by omega
      clear hn hs h27 h28 h29
      go_wp2_with (first | (go_at_call 14; refine (num_any _ _).mono ?_; rintro e w' ⟨rfl, h⟩; replace h := h.symm; subst h) | (go_at_call 27; refine (H27.out _).mono ?_; rintro e w' ⟨rfl, h⟩; replace h := h.symm; subst h) | (go_at_call 28; refine (H28.out _).mono ?_; rintro e w' ⟨rfl, h⟩; replace h := h.symm; subst h) | (go_at_call 29; refine (H29.out _).mono ?_; rintro e w' ⟨rfl, h⟩; replace h := h.symm; subst h) | (go_at_call 9; refine (works_any _).mono ?_; rintro e w9 ⟨rfl, b9⟩))
      go_ret
      exact ⟨rfl, B4.out.trans (b9.mono B4.out.size)⟩
    · obtain ⟨rfl, h27⟩ := HL.out.2.2 (by omega)
      have H27 : Hid (∀ w, Calls Try.prog 27 #[.int .i64 n] w fun r w' => r = .returned (.tuple #[.int .i64 a, .int .u64 b, .int .i64 c]) ∧ w' = w) := h27
      obtain ⟨rfl, h28⟩ := HD.out.2.2 (by omega)
      have H28 : Hid (∀ w, Calls Try.prog 28 #[.int .i64 n] w fun r w' => r = .returned (.tuple #[.int .i64 x, .int .u64 y, .int .i64 z]) ∧ w' = w) := h28
      obtain ⟨rfl, rfl, rfl⟩ := HOL.out.2.1 (by omega)
      obtain ⟨rfl, rfl, rfl⟩ := HOD.out.2.1 (by omega)
      have n1 : ¬ n < 3 := by omega
      have n2 : ¬ 258 < n := by omega
      have n3 : ¬ n < 1 := by omega
      have n4 : ¬ 32768 < n := by omega
      have s1 : ¬ s < 257 := by omega
      have s2 : 285 < s := by omega
      have s3 : ¬ s < 0 := by omega
      have s4 : 29 < s := by omega
      clear hn hs h27 h28
      go_wp2_with (first | (go_at_call 14; refine (num_any _ _).mono ?_; rintro e w' ⟨rfl, h⟩; replace h := h.symm; subst h) | (go_at_call 27; refine (H27.out _).mono ?_; rintro e w' ⟨rfl, h⟩; replace h := h.symm; subst h) | (go_at_call 28; refine (H28.out _).mono ?_; rintro e w' ⟨rfl, h⟩; replace h := h.symm; subst h) | (go_at_call 9; refine (works_any _).mono ?_; rintro e w9 ⟨rfl, b9⟩))
      go_ret
      exact ⟨rfl, B4.out.trans (b9.mono B4.out.size)⟩
  · rcases hs with hs | hs | hs | hs | hs
    · obtain ⟨rfl, rfl, rfl, rfl⟩ := HL.out.2.1 (by omega)
      obtain ⟨rfl, h28⟩ := HD.out.2.2 (by omega)
      have H28 : Hid (∀ w, Calls Try.prog 28 #[.int .i64 n] w fun r w' => r = .returned (.tuple #[.int .i64 x, .int .u64 y, .int .i64 z]) ∧ w' = w) := h28
      obtain ⟨rfl, rfl, rfl⟩ := HOL.out.2.1 (by omega)
      obtain ⟨rfl, rfl, rfl⟩ := HOD.out.2.1 (by omega)
      have n1 : ¬ n < 3 := by omega
      have n2 : 258 < n := by omega
      have n3 : ¬ n < 1 := by omega
      have n4 : ¬ 32768 < n := by omega
      have s1 : s < 257 := by omega
      have s3 : s < 0 := by omega
      clear hn hs h28
      go_wp2_with (first | (go_at_call 14; refine (num_any _ _).mono ?_; rintro e w' ⟨rfl, h⟩; replace h := h.symm; subst h) | (go_at_call 28; refine (H28.out _).mono ?_; rintro e w' ⟨rfl, h⟩; replace h := h.symm; subst h) | (go_at_call 9; refine (works_any _).mono ?_; rintro e w9 ⟨rfl, b9⟩))
      go_ret
      exact ⟨rfl, B4.out.trans (b9.mono B4.out.size)⟩
    · obtain ⟨rfl, rfl, rfl, rfl⟩ := HL.out.2.1 (by omega)
      obtain ⟨rfl, h28⟩ := HD.out.2.2 (by omega)
      have H28 : Hid (∀ w, Calls Try.prog 28 #[.int .i64 n] w fun r w' => r = .returned (.tuple #[.int .i64 x, .int .u64 y, .int .i64 z]) ∧ w' = w) := h28
      obtain ⟨rfl, rfl, rfl⟩ := HOL.out.2.1 (by omega)
      obtain ⟨rfl, h30⟩ := HOD.out.2.2 (by omega)
      have H30 : Hid (∀ w, Calls Try.prog 30 #[.int .i64 s] w fun r1 w' => r1 = .returned (.tuple #[.int .i64 r, .int .i64 t]) ∧ w' = w) := h30
      have n1 : ¬ n < 3 := by omega
      have n2 : 258 < n := by omega
      have n3 : ¬ n < 1 := by omega
      have n4 : ¬ 32768 < n := by omega
      have s1 : s < 257 := by omega
      have s3 : ¬ s < 0 := by omega
      have s4 : ¬ 29 < s := by omega
      clear hn hs h28 h30
      go_wp2_with (first | (go_at_call 14; refine (num_any _ _).mono ?_; rintro e w' ⟨rfl, h⟩; replace h := h.symm; subst h) | (go_at_call 28; refine (H28.out _).mono ?_; rintro e w' ⟨rfl, h⟩; replace h := h.symm; subst h) | (go_at_call 30; refine (H30.out _).mono ?_; rintro e w' ⟨rfl, h⟩; replace h := h.symm; subst h) | (go_at_call 9; refine (works_any _).mono ?_; rintro e w9 ⟨rfl, b9⟩))
      go_ret
      exact ⟨rfl, B4.out.trans (b9.mono B4.out.size)⟩
    · obtain ⟨rfl, rfl, rfl, rfl⟩ := HL.out.2.1 (by omega)
      obtain ⟨rfl, h28⟩ := HD.out.2.2 (by omega)
      have H28 : Hid (∀ w, Calls Try.prog 28 #[.int .i64 n] w fun r w' => r = .returned (.tuple #[.int .i64 x, .int .u64 y, .int .i64 z]) ∧ w' = w) := h28
      obtain ⟨rfl, rfl, rfl⟩ := HOL.out.2.1 (by omega)
      obtain ⟨rfl, rfl, rfl⟩ := HOD.out.2.1 (by omega)
      have n1 : ¬ n < 3 := by omega
      have n2 : 258 < n := by omega
      have n3 : ¬ n < 1 := by omega
      have n4 : ¬ 32768 < n := by omega
      have s1 : s < 257 := by omega
      have s3 : ¬ s < 0 := by omega
      have s4 : 29 < s := by omega
      clear hn hs h28
      go_wp2_with (first | (go_at_call 14; refine (num_any _ _).mono ?_; rintro e w' ⟨rfl, h⟩; replace h := h.symm; subst h) | (go_at_call 28; refine (H28.out _).mono ?_; rintro e w' ⟨rfl, h⟩; replace h := h.symm; subst h) | (go_at_call 9; refine (works_any _).mono ?_; rintro e w9 ⟨rfl, b9⟩))
      go_ret
      exact ⟨rfl, B4.out.trans (b9.mono B4.out.size)⟩
    · obtain ⟨rfl, rfl, rfl, rfl⟩ := HL.out.2.1 (by omega)
      obtain ⟨rfl, h28⟩ := HD.out.2.2 (by omega)
      have H28 : Hid (∀ w, Calls Try.prog 28 #[.int .i64 n] w fun r w' => r = .returned (.tuple #[.int .i64 x, .int .u64 y, .int .i64 z]) ∧ w' = w) := h28
      obtain ⟨rfl, h29⟩ := HOL.out.2.2 (by omega)
      have H29 : Hid (∀ w, Calls Try.prog 29 #[.int .i64 s] w fun r w' => r = .returned (.tuple #[.int .i64 p, .int .i64 q]) ∧ w' = w) := h29
      obtain ⟨rfl, rfl, rfl⟩ := HOD.out.2.1 (by omega)
      have n1 : ¬ n < 3 := by omega
      have n2 : 258 < n := by omega
      have n3 : ¬ n < 1 := by omega
      have n4 : ¬ 32768 < n := by omega
      have s1 : ¬ s < 257 := by omega
      have s2 : ¬ 285 < s := by omega
      have s3 : ¬ s < 0 := by omega
      have s4 : 29 < s := by omega
      clear hn hs h28 h29
      go_wp2_with (first | (go_at_call 14; refine (num_any _ _).mono ?_; rintro e w' ⟨rfl, h⟩; replace h := h.symm; subst h) | (go_at_call 28; refine (H28.out _).mono ?_; rintro e w' ⟨rfl, h⟩; replace h := h.symm; subst h) | (go_at_call 29; refine (H29.out _).mono ?_; rintro e w' ⟨rfl, h⟩; replace h := h.symm; subst h) | (go_at_call 9; refine (works_any _).mono ?_; rintro e w9 ⟨rfl, b9⟩))
      go_ret
      exact ⟨rfl, B4.out.trans (b9.mono B4.out.size)⟩
    · obtain ⟨rfl, rfl, rfl, rfl⟩ := HL.out.2.1 (by omega)
      obtain ⟨rfl, h28⟩ := HD.out.2.2 (by omega)
      have H28 : Hid (∀ w, Calls Try.prog 28 #[.int .i64 n] w fun r w' => r = .returned (.tuple #[.int .i64 x, .int .u64 y, .int .i64 z]) ∧ w' = w) := h28
      obtain ⟨rfl, rfl, rfl⟩ := HOL.out.2.1 (by omega)
      obtain ⟨rfl, rfl, rfl⟩ := HOD.out.2.1 (by omega)
      have n1 : ¬ n < 3 := by omega
      have n2 : 258 < n := by omega
      have n3 : ¬ n < 1 := by omega
      have n4 : ¬ 32768 < n := by omega
      have s1 : ¬ s < 257 := by omega
      have s2 : 285 < s := by omega
      have s3 : ¬ s < 0 := by omega
      have s4 : 29 < s := by omega
      clear hn hs h28
      go_wp2_with (first | (go_at_call 14; refine (num_any _ _).mono ?_; rintro e w' ⟨rfl, h⟩; replace h := h.symm; subst h) | (go_at_call 28; refine (H28.out _).mono ?_; rintro e w' ⟨rfl, h⟩; replace h := h.symm; subst h) | (go_at_call 9; refine (works_any _).mono ?_; rintro e w9 ⟨rfl, b9⟩))
      go_ret
      exact ⟨rfl, B4.out.trans (b9.mono B4.out.size)⟩
  · rcases hs with hs | hs | hs | hs | hs
    · obtain ⟨rfl, rfl, rfl, rfl⟩ := HL.out.2.1 (by omega)
      obtain ⟨rfl, rfl, rfl, rfl⟩ := HD.out.2.1 (by omega)
      obtain ⟨rfl, rfl, rfl⟩ := HOL.out.2.1 (by omega)
      obtain ⟨rfl, rfl, rfl⟩ := HOD.out.2.1 (by omega)
      have n1 : ¬ n < 3 := by omega
      have n2 : 258 < n := by omega
      have n3 : ¬ n < 1 := by omega
      have n4 : 32768 < n := by omega
      have s1 : s < 257 := by omega
      have s3 : s < 0 := by omega
      clear hn hs
      go_wp2_with (first | (go_at_call 14; refine (num_any _ _).mono ?_; rintro e w' ⟨rfl, h⟩; replace h := h.symm; subst h) | (go_at_call 9; refine (works_any _).mono ?_; rintro e w9 ⟨rfl, b9⟩))
      go_ret
      exact ⟨rfl, B4.out.trans (b9.mono B4.out.size)⟩
    · obtain ⟨rfl, rfl, rfl, rfl⟩ := HL.out.2.1 (by omega)
      obtain ⟨rfl, rfl, rfl, rfl⟩ := HD.out.2.1 (by omega)
      obtain ⟨rfl, rfl, rfl⟩ := HOL.out.2.1 (by omega)
      obtain ⟨rfl, h30⟩ := HOD.out.2.2 (by omega)
      have H30 : Hid (∀ w, Calls Try.prog 30 #[.int .i64 s] w fun r1 w' => r1 = .returned (.tuple #[.int .i64 r, .int .i64 t]) ∧ w' = w) := h30
      have n1 : ¬ n < 3 := by omega
      have n2 : 258 < n := by omega
      have n3 : ¬ n < 1 := by omega
      have n4 : 32768 < n := by omega
      have s1 : s < 257 := by omega
      have s3 : ¬ s < 0 := by omega
      have s4 : ¬ 29 < s := by omega
      clear hn hs h30
      go_wp2_with (first | (go_at_call 14; refine (num_any _ _).mono ?_; rintro e w' ⟨rfl, h⟩; replace h := h.symm; subst h) | (go_at_call 30; refine (H30.out _).mono ?_; rintro e w' ⟨rfl, h⟩; replace h := h.symm; subst h) | (go_at_call 9; refine (works_any _).mono ?_; rintro e w9 ⟨rfl, b9⟩))
      go_ret
      exact ⟨rfl, B4.out.trans (b9.mono B4.out.size)⟩
    · obtain ⟨rfl, rfl, rfl, rfl⟩ := HL.out.2.1 (by omega)
      obtain ⟨rfl, rfl, rfl, rfl⟩ := HD.out.2.1 (by omega)
      obtain ⟨rfl, rfl, rfl⟩ := HOL.out.2.1 (by omega)
      obtain ⟨rfl, rfl, rfl⟩ := HOD.out.2.1 (by omega)
      have n1 : ¬ n < 3 := by omega
      have n2 : 258 < n := by omega
      have n3 : ¬ n < 1 := by omega
      have n4 : 32768 < n := by omega
      have s1 : s < 257 := by omega
      have s3 : ¬ s < 0 := by omega
      have s4 : 29 < s := by omega
      clear hn hs
      go_wp2_with (first | (go_at_call 14; refine (num_any _ _).mono ?_; rintro e w' ⟨rfl, h⟩; replace h := h.symm; subst h) | (go_at_call 9; refine (works_any _).mono ?_; rintro e w9 ⟨rfl, b9⟩))
      go_ret
      exact ⟨rfl, B4.out.trans (b9.mono B4.out.size)⟩
    · obtain ⟨rfl, rfl, rfl, rfl⟩ := HL.out.2.1 (by omega)
      obtain ⟨rfl, rfl, rfl, rfl⟩ := HD.out.2.1 (by omega)
      obtain ⟨rfl, h29⟩ := HOL.out.2.2 (by omega)
      have H29 : Hid (∀ w, Calls Try.prog 29 #[.int .i64 s] w fun r w' => r = .returned (.tuple #[.int .i64 p, .int .i64 q]) ∧ w' = w) := h29
      obtain ⟨rfl, rfl, rfl⟩ := HOD.out.2.1 (by omega)
      have n1 : ¬ n < 3 := by omega
      have n2 : 258 < n := by omega
      have n3 : ¬ n < 1 := by omega
      have n4 : 32768 < n := by omega
      have s1 : ¬ s < 257 := by omega
      have s2 : ¬ 285 < s := by omega
      have s3 : ¬ s < 0 := by omega
      have s4 : 29 < s := by omega
      clear hn hs h29
      go_wp2_with (first | (go_at_call 14; refine (num_any _ _).mono ?_; rintro e w' ⟨rfl, h⟩; replace h := h.symm; subst h) | (go_at_call 29; refine (H29.out _).mono ?_; rintro e w' ⟨rfl, h⟩; replace h := h.symm; subst h) | (go_at_call 9; refine (works_any _).mono ?_; rintro e w9 ⟨rfl, b9⟩))
      go_ret
      exact ⟨rfl, B4.out.trans (b9.mono B4.out.size)⟩
    · obtain ⟨rfl, rfl, rfl, rfl⟩ := HL.out.2.1 (by omega)
      obtain ⟨rfl, rfl, rfl, rfl⟩ := HD.out.2.1 (by omega)
      obtain ⟨rfl, rfl, rfl⟩ := HOL.out.2.1 (by omega)
      obtain ⟨rfl, rfl, rfl⟩ := HOD.out.2.1 (by omega)
      have n1 : ¬ n < 3 := by omega
      have n2 : 258 < n := by omega
      have n3 : ¬ n < 1 := by omega
      have n4 : 32768 < n := by omega
      have s1 : ¬ s < 257 := by omega
      have s2 : 285 < s := by omega
      have s3 : ¬ s < 0 := by omega
      have s4 : 29 < s := by omega
      clear hn hs
      go_wp2_with (first | (go_at_call 14; refine (num_any _ _).mono ?_; rintro e w' ⟨rfl, h⟩; replace h := h.symm; subst h) | (go_at_call 9; refine (works_any _).mono ?_; rintro e w9 ⟨rfl, b9⟩))
      go_ret
      exact ⟨rfl, B4.out.trans (b9.mono B4.out.size)⟩
end Go.Proofs.Ytofmoggejfopiaa
