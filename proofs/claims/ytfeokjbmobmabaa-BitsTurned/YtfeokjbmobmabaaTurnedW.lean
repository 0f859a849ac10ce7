/- The walk of BitsTurned: it answers true, and nothing that was there has turned. -/
import Derived.Test.YtfeokjbmobmabaaRefB
namespace Go.Proofs.Ytfeokjbmobmabaa
open Go.RowKit

theorem and_mask63 (y n : Nat) (hy : y < 18446744073709551616) (hn : n ≤ 63) : bits .and .u64 (y : Int) (IntKind.u64.wrap (IntKind.u64.wrap (2 ^ n) - 1)) = ((y % 2 ^ n : Nat) : Int) := by
  have hp : 2 ^ n ≤ 9223372036854775808 := Nat.pow_le_pow_right (n := 2) (j := 63) (by omega) hn
  have hp0 : 0 < 2 ^ n := Nat.pow_pos (by omega)
  have e : ((2 ^ n : Nat) : Int) = 2 ^ n := Int.natCast_pow 2 n
  have e2 : IntKind.u64.wrap (IntKind.u64.wrap (2 ^ n) - 1) = ((2 ^ n - 1 : Nat) : Int) := by
    rw [IntKind.wrap_u64, IntKind.wrap_u64]; omega
  rw [e2, u64_and_nat _ _ hy (by omega), Nat.and_two_pow_sub_one_eq_mod]
theorem turn_64 (x n : Nat) (h : n ≤ 64) : turn x n < 18446744073709551616 := Nat.lt_of_lt_of_le (turn_lt x n) (Nat.pow_le_pow_right (n := 2) (j := 64) (by omega) h)
theorem ok_below {w w' : World} (h : Ok' w w') : Below w.heap.size w w' := h.below (Nat.le_refl _) (fun _ x => x.elim)
theorem below_ok {w w' : World} (h : Below w.heap.size w w') : Ok' w w' := Kp.of_below h

set_option maxHeartbeats 1000000 in
theorem turnedW (x : Nat) (n : Int) (w : World) (hx : x < 18446744073709551616) :
    Calls Try.prog 5 #[.int .u64 x, .int .i64 n] w fun e w' => e = .returned (.bool true) ∧ Below w.heap.size w w' := by
  by_cases h0 : n < 0 ∨ 64 < n
  · obtain ⟨T, hT⟩ : ∃ T, T = turn x (min n.toNat 64) := ⟨_, rfl⟩
    have t1 := turned_any x n w hx
    have t2 := rturned_any x n w hx
    rw [← hT] at t1 t2
    clear hT
    by_cases h1 : n < 0
    · clear h0
      go_enter Try.func5, Try.ntmps5
      go_wp2_with (first | (go_at_call 30; refine t1.mono ?_; rintro e w' ⟨rfl, rfl⟩) | (go_at_call 31; refine t2.mono ?_; rintro e w2 ⟨rfl, b2⟩) | (go_at_call 8; refine (works_any _).mono ?_; rintro e w3 ⟨rfl, k3⟩))
      go_ret
      exact ⟨rfl, b2.trans ((ok_below k3).mono b2.size)⟩
    · have h2 : 64 < n := by omega
      clear h0
      go_enter Try.func5, Try.ntmps5
      go_wp2_with (first | (go_at_call 30; refine t1.mono ?_; rintro e w' ⟨rfl, rfl⟩) | (go_at_call 31; refine t2.mono ?_; rintro e w2 ⟨rfl, b2⟩) | (go_at_call 8; refine (works_any _).mono ?_; rintro e w3 ⟨rfl, k3⟩))
      go_ret
      exact ⟨rfl, b2.trans ((ok_below k3).mono b2.size)⟩
  · obtain ⟨m, rfl⟩ := Int.eq_ofNat_of_zero_le (show 0 ≤ n by omega)
    have hm : m ≤ 64 := by omega
    have t1 := turned_any x m w hx
    have t2 := rturned_any x m w hx
    rw [Int.toNat_natCast, show min m 64 = m by omega] at t1 t2
    have t3 : Hid (∀ w, Calls Try.prog 30 #[.int .u64 (turn x m), .int .i64 m] w fun e w' => e = .returned (.int .u64 ((x % 2 ^ m : Nat) : Int)) ∧ w = w') := by
      intro w
      have := turned_any (turn x m) m w (turn_64 x m hm)
      rw [Int.toNat_natCast, show min m 64 = m by omega, turn_turn] at this
      exact this
    obtain ⟨T, hT⟩ : ∃ T, T = turn x m := ⟨_, rfl⟩
    rw [← hT] at t1 t2 t3
    clear hT h0
    by_cases h1 : m < 64
    · have hz := and_mask63 x m hx (by omega)
      obtain ⟨Z, hZ⟩ : ∃ Z, Z = x % 2 ^ m := ⟨_, rfl⟩
      rw [← hZ] at hz t3
      clear hZ
      go_enter Try.func5, Try.ntmps5
      go_wp2_with fail
      refine t1.mono ?_
      rintro e w' ⟨rfl, rfl⟩
      go_wp2_with fail
      refine t2.mono ?_
      rintro e w2 ⟨rfl, b2⟩
      go_wp2_with fail
      refine (t3.out _).mono ?_
      rintro e w' ⟨rfl, rfl⟩
      go_wp2_with fail
      refine (works_any _).mono ?_
      rintro e w3 ⟨rfl, k3⟩
      go_wp2_with fail
      go_ret
      exact ⟨rfl, b2.trans ((ok_below k3).mono b2.size)⟩
    · obtain rfl : m = 64 := by omega
      have hz : x % 2 ^ 64 = x := Nat.mod_eq_of_lt (Nat.lt_of_lt_of_le hx (by decide))
      rw [hz] at t3
      clear hz
      go_enter Try.func5, Try.ntmps5
      go_wp2_with fail
      refine t1.mono ?_
      rintro e w' ⟨rfl, rfl⟩
      go_wp2_with fail
      refine t2.mono ?_
      rintro e w2 ⟨rfl, b2⟩
      go_wp2_with fail
      refine (t3.out _).mono ?_
      rintro e w' ⟨rfl, rfl⟩
      go_wp2_with fail
      refine (works_any _).mono ?_
      rintro e w3 ⟨rfl, k3⟩
      go_wp2_with fail
      go_ret
      exact ⟨rfl, b2.trans ((ok_below k3).mono b2.size)⟩

end Go.Proofs.Ytfeokjbmobmabaa
