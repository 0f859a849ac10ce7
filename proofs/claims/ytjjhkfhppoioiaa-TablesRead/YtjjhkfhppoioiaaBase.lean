/- Contracts of wire's small tests of a field (within, number, text) and of the reference's (Lies, Field): which error, and that nothing in memory turns. -/
import Derived.Test.YtjjhkfhppoioiaaRows
import Derived.Test.YtjjhkfhppoioiaaNums
import Derived.WalkKit
import Derived.WalkSpells
import Derived.WalkLawsBesides
namespace Go.Proofs.Ytjjhkfhppoioiaa
open Go.RowKit

theorem ret_bool {a b : Bool} (h : a = b) : Ending.returned (.bool a) = .returned (.bool b) := by rw [h]
theorem ret_int {k : IntKind} {a b : Int} (h : a = b) : Ending.returned (.int k a) = .returned (.int k b) := by rw [h]

set_option maxHeartbeats 400000 in
theorem within_any (ao : Option Addr) (len cap : Nat) (at_ n : Int) (w : World) (hl : len ≤ 9223372036854775807) (h0 : 0 ≤ n) (h1 : n ≤ 9223372036854775807) :
    Calls Try.prog 72 #[.slice ao len cap, .int .i64 at_, .int .i64 n] w fun e w' => e = .returned (.int .i64 (inE len at_ n)) ∧ w = w' := by
  by_cases ha : at_ < 0
  · have e : inE len at_ n = 4 := by simp [inE, ha]
    rw [e]; clear e
    go_enter Try.func72, Try.ntmps72
    go_wp2
    go_ret
    exact ⟨rfl, rfl⟩
  · by_cases hb : (len : Int) - n < at_
    · have e : inE len at_ n = 4 := by simp [inE, hb]
      rw [e]; clear e
      go_enter Try.func72, Try.ntmps72
      go_wp2
      go_ret
      exact ⟨rfl, rfl⟩
    · have e : inE len at_ n = 0 := by simp [inE, ha, hb]
      rw [e]; clear e
      go_enter Try.func72, Try.ntmps72
      go_wp2
      go_ret
      exact ⟨rfl, rfl⟩

set_option maxHeartbeats 400000 in
theorem number_any (ao : Option Addr) (len cap : Nat) (at_ n : Int) (w : World) (hl : len ≤ 9223372036854775807) :
    Calls Try.prog 69 #[.slice ao len cap, .int .i64 at_, .int .i64 n] w fun e w' => e = .returned (.int .i64 (numE len at_ n)) ∧ w = w' := by
  by_cases ha : n < 1
  · have e : numE len at_ n = 2 := by simp [numE, ha]
    rw [e]; clear e
    go_enter Try.func69, Try.ntmps69
    go_wp2
    go_ret
    exact ⟨rfl, rfl⟩
  · by_cases hb : 8 < n
    · have e : numE len at_ n = 2 := by simp [numE, hb]
      rw [e]; clear e
      go_enter Try.func69, Try.ntmps69
      go_wp2
      go_ret
      exact ⟨rfl, rfl⟩
    · have e : numE len at_ n = inE len at_ n := by simp [numE, ha, hb]
      rw [e]; clear e
      go_enter Try.func69, Try.ntmps69
      go_wp2_with (go_at_call 72; refine (within_any _ _ _ _ _ _ hl (by omega) (by omega)).mono ?_; rintro e w' ⟨rfl, rfl⟩)
      go_ret
      exact ⟨rfl, rfl⟩

end Go.Proofs.Ytjjhkfhppoioiaa
