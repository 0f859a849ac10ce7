/- later: small functions. -/
import Derived.Test.YtgfondgejimkkaaLb
import Derived.Laws.EntriesVeiled
namespace Go.Proofs.Ytgfondgejimkkaa
open Go.RowKit
set_option linter.unusedVariables false
def I6 (x : Int) : Prop := -9223372036854775808 ≤ x ∧ x ≤ 9223372036854775807
set_option maxRecDepth 100000 in
set_option maxHeartbeats 4000000 in
theorem end_any (x : Rn) (w : World) (h : Mayr x) : Calls Try.prog 48 #[.agg x.cs] w fun e w' => e = .returned (.int .i64 x.e) ∧ Below w.heap.size w w' := by
  unfold Mayr Rn.e at h
  unfold Rn.e
  obtain ⟨xa, xn⟩ := x
  unfold Rn.cs
  dsimp only at *
  go_enter Try.func48, Try.ntmps48
  go_wp2
  go_ret
  exact ⟨ret_int (by first | rfl | (simp; done) | (rw [IntKind.wrap_i64]; omega) | go_num), (Below.refl _ _).alloc (Nat.le_refl _) _⟩
set_option maxRecDepth 100000 in
set_option maxHeartbeats 4000000 in
theorem may_any (x : Rn) (w : World) (hx : x.i6) : Calls Try.prog 44 #[.agg x.cs] w fun e w' => e = .returned (.bool (mayb x)) ∧ Below w.heap.size w w' := by
  unfold Rn.i6 at hx
  obtain ⟨xa, xn⟩ := x
  unfold Rn.cs mayb
  dsimp only at *
  by_cases h1 : 0 ≤ xa
  · by_cases h2 : 1 ≤ xn
    · have hw : IntKind.i64.wrap (72057594037927936 - xn) = 72057594037927936 - xn := by rw [IntKind.wrap_i64]; omega
      have d1 : decide (0 ≤ xa) = true := by simpa using h1
      have d2 : decide (1 ≤ xn) = true := by simpa using h2
      rw [d1, d2]
      go_enter Try.func44, Try.ntmps44
      go_wp2
      go_ret
      exact ⟨by simp, (Below.refl _ _).alloc (Nat.le_refl _) _⟩
    · have d1 : decide (0 ≤ xa) = true := by simpa using h1
      have d2 : decide (1 ≤ xn) = false := by simpa using h2
      rw [d1, d2]
      go_enter Try.func44, Try.ntmps44
      go_wp2
      go_ret
      exact ⟨by simp, (Below.refl _ _).alloc (Nat.le_refl _) _⟩
  · have d1 : decide (0 ≤ xa) = false := by simpa using h1
    rw [d1]
    go_enter Try.func44, Try.ntmps44
    go_wp2
    go_ret
    exact ⟨by simp, (Below.refl _ _).alloc (Nat.le_refl _) _⟩
set_option maxRecDepth 100000 in
set_option maxHeartbeats 4000000 in
theorem none_yes (Q B : Nat) (m1 m2 n : Value) (w : World) (h : St 73 w Q #[ptr B, m1, m2, n]) : Calls Try.prog 32 #[ptr Q] w fun e w' => e = .returned (.bool false) ∧ w = w' := by
  have c0 : w.cell? ⟨Q, 0, none⟩ = some (.pointer (some ⟨B, 0, none⟩)) := h.cell 0
  unfold ptr
  go_enter Try.func32, Try.ntmps32
  go_wp2
  go_ret
  exact ⟨rfl, rfl⟩
set_option maxRecDepth 100000 in
set_option maxHeartbeats 4000000 in
theorem num_any (e : Int) (w : World) : Calls Try.prog 11 #[.int .i64 e] w fun x w' => x = .returned (.int .i64 e) ∧ w = w' := by
  go_enter Try.func11, Try.ntmps11
  go_wp2
  go_ret
  exact ⟨rfl, rfl⟩
set_option maxRecDepth 100000 in
set_option maxHeartbeats 4000000 in
theorem newLine_any (c : Nat → Rn) (w : World) : Calls Try.prog 53 #[] w fun e w' => e = .returned (ptr w.heap.size) ∧ Ln c w' 0 w.heap.size (.slice none 0 0) [] ∧ Below w.heap.size w w' ∧ w'.heap.size = w.heap.size + 1 := by
  have s0 := St.new 69 w #[.slice none 0 0, .nilFunc]
  have hz : (w.alloc (.cells #[.slice none 0 0, .nilFunc] 69)).heap.size = w.heap.size + 1 := World.size_alloc _ _
  have c1 : (w.alloc (.cells #[.slice none 0 0, .nilFunc] 69)).cell? ⟨w.heap.size, 1, none⟩ = some .nilFunc := s0.cell 1
  have f1 : (w.alloc (.cells #[.slice none 0 0, .nilFunc] 69)).frozen? ⟨w.heap.size, 1, none⟩ = false := s0.frozen 1
  have S0 := hid s0
  clear s0
  unfold ptr
  go_enter Try.func53, Try.ntmps53
  go_wp2
  go_ret
  refine ⟨rfl, ⟨by first | exact St.new 69 w _ | simpa using S0.out.set 1 (fvo w.heap.size), World.ownsRow_nil _ _ _ _, fun i hi => absurd hi (by simp), fun b hb => by simp at hb⟩, ?_, by simp⟩
  first
  | exact (Below.refl _ _).alloc (Nat.le_refl _) _
  | exact ((Below.refl _ _).alloc (Nat.le_refl _) _).trans ((kp_setCell _ _ _ _ (fun k => k = w.heap.size) rfl).below (by rw [World.size_alloc]; omega) (fun i e => by omega))
end Go.Proofs.Ytgfondgejimkkaa
