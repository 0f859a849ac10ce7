/- The document: Place, list. -/
import Derived.Test.YtejdmnhdjeogaaaRf
namespace Go.Proofs.Ytejdmnhdjeogaaa
open Go.RowKit
set_option linter.unusedVariables false
set_option maxHeartbeats 2000000 in
theorem rplace (x b : Int) (w : World) (hx : I6 x) (h9 : 9 ≤ b) (h16 : b ≤ 16) : Calls Try.prog 23 #[.int .i64 x, .int .i64 b] w fun e w' => Tells e (Plc (clu b) x) ∧ w' = w := by
  have hbd := clu_bd h9 h16
  unfold I6 at hx
  go_enter Try.func23, Try.ntmps23
  by_cases c1 : 0 < x
  · by_cases c2 : x ≤ 268435456
    · have e1 : x.tmod (clu b) = x % clu b := Int.tmod_eq_emod_of_nonneg (by omega)
      have m0 := Int.emod_nonneg x (show clu b ≠ 0 by omega)
      have m1 := Int.emod_lt_of_pos x (show 0 < clu b by omega)
      have HP : Hid (x % clu b = 0 → Plc (clu b) x) := fun e => ⟨c1, c2, e⟩
      have HN : Hid (x % clu b ≠ 0 → ¬ Plc (clu b) x) := fun e p => e p.2.2
      have RC : Hid (∀ w, Calls Try.prog 16 #[.int .i64 b] w fun e w' => e = .returned (.int .i64 (clu b)) ∧ w' = w) := fun w => rcluster b w h9 h16
      generalize hm : x % clu b = m at *
      generalize hc : clu b = c at *
      by_cases hz : m = 0
      · subst hz
        go_wp2_with (go_at_call 16; refine (RC.out _).mono ?_; rintro e w' ⟨rfl, ew⟩)
        go_ret
        exact ⟨Or.inl ⟨HP.out (by trivial), rfl⟩, by first | rfl | exact ew⟩
      · go_wp2_with (go_at_call 16; refine (RC.out _).mono ?_; rintro e w' ⟨rfl, ew⟩)
        go_ret
        exact ⟨Or.inr ⟨HN.out hz, by simp [hz]⟩, by first | rfl | exact ew⟩
    · go_wp2_with fail
      go_ret
      exact ⟨Or.inr ⟨fun p => by have := p.2.1; omega, rfl⟩, rfl⟩
  · go_wp2_with fail
    go_ret
    exact ⟨Or.inr ⟨fun p => by have := p.1; omega, rfl⟩, rfl⟩
theorem rplace_yes {x b : Int} {w : World} (hx : I6 x) (h9 : 9 ≤ b) (h16 : b ≤ 16) (p : Plc (clu b) x) : Calls Try.prog 23 #[.int .i64 x, .int .i64 b] w fun e w' => e = .returned (.bool true) ∧ w' = w := by
  refine (rplace x b w hx h9 h16).mono ?_
  rintro e w' ⟨⟨_, rfl⟩ | ⟨q, _⟩, ew⟩
  · exact ⟨rfl, ew⟩
  · exact absurd p q
theorem rplace_no {x b : Int} {w : World} (hx : I6 x) (h9 : 9 ≤ b) (h16 : b ≤ 16) (p : ¬ Plc (clu b) x) : Calls Try.prog 23 #[.int .i64 x, .int .i64 b] w fun e w' => e = .returned (.bool false) ∧ w' = w := by
  refine (rplace x b w hx h9 h16).mono ?_
  rintro e w' ⟨⟨q, _⟩ | ⟨_, rfl⟩, ew⟩
  · exact absurd q p
  · exact ⟨rfl, ew⟩
set_option maxHeartbeats 2000000 in
theorem rlist (n x l b : Int) (w : World) (hx : I6 x) (h9 : 9 ≤ b) (h16 : b ≤ 16) : Calls Try.prog 24 #[.int .i64 n, .int .i64 x, .int .i64 l, .int .i64 b] w fun e w' => Tells e (Lst (clu b) n x l) ∧ w' = w := by
  have HX := hid hx
  clear hx
  have PY : Hid (Plc (clu b) x → ∀ w, Calls Try.prog 23 #[.int .i64 x, .int .i64 b] w fun e w' => e = .returned (.bool true) ∧ w' = w) := fun p w => rplace_yes HX.out h9 h16 p
  have PN : Hid (¬ Plc (clu b) x → ∀ w, Calls Try.prog 23 #[.int .i64 x, .int .i64 b] w fun e w' => e = .returned (.bool false) ∧ w' = w) := fun p w => rplace_no HX.out h9 h16 p
  have HL : Hid (Lst (clu b) n x l ↔ (n = 0 ∧ x = 0 ∧ l = 0) ∨ (0 < n ∧ n ≤ 64 ∧ Plc (clu b) x ∧ 1 ≤ l ∧ l ≤ 65536)) := Iff.rfl
  generalize Plc (clu b) x = P at *
  generalize Lst (clu b) n x l = L at *
  go_enter Try.func24, Try.ntmps24
  by_cases c0 : n = 0
  · subst c0
    by_cases c1 : x = 0
    · subst c1
      by_cases c2 : l = 0
      · subst c2
        go_wp2_with fail
        go_ret
        exact ⟨Or.inl ⟨HL.out.2 (Or.inl (by simp)), rfl⟩, rfl⟩
      · go_wp2_with fail
        go_ret
        exact ⟨Or.inr ⟨fun p => by rcases HL.out.1 p with ⟨_, _, e⟩ | ⟨e, _⟩ <;> omega, by first | rfl | (simp; omega)⟩, rfl⟩
    · go_wp2_with fail
      go_ret
      exact ⟨Or.inr ⟨fun p => by rcases HL.out.1 p with ⟨_, e, _⟩ | ⟨e, _⟩ <;> omega, by first | rfl | (simp; omega)⟩, rfl⟩
  · by_cases c1 : 0 < n
    · by_cases c2 : n ≤ 64
      · by_cases c3 : P
        · by_cases c4 : 1 ≤ l
          · by_cases c5 : l ≤ 65536
            · go_wp2_with (go_at_call 23; refine (PY.out c3 _).mono ?_; rintro e w' ⟨rfl, ew⟩)
              go_ret
              exact ⟨Or.inl ⟨HL.out.2 (Or.inr ⟨c1, c2, c3, c4, c5⟩), by first | rfl | (simp; omega) | simp [c5] | simp [c4]⟩, by first | rfl | exact ew⟩
            · go_wp2_with (go_at_call 23; refine (PY.out c3 _).mono ?_; rintro e w' ⟨rfl, ew⟩)
              go_ret
              exact ⟨Or.inr ⟨fun p => by rcases HL.out.1 p with ⟨e, _⟩ | ⟨_, _, _, _, e⟩ <;> omega, by first | rfl | (simp; omega) | simp [c5] | simp [c4]⟩, by first | rfl | exact ew⟩
          · go_wp2_with (go_at_call 23; refine (PY.out c3 _).mono ?_; rintro e w' ⟨rfl, ew⟩)
            go_ret
            exact ⟨Or.inr ⟨fun p => by rcases HL.out.1 p with ⟨e, _⟩ | ⟨_, _, _, e, _⟩ <;> omega, by first | rfl | (simp; omega) | simp [c5] | simp [c4]⟩, by first | rfl | exact ew⟩
        · go_wp2_with (go_at_call 23; refine (PN.out c3 _).mono ?_; rintro e w' ⟨rfl, ew⟩)
          go_ret
          exact ⟨Or.inr ⟨fun p => by rcases HL.out.1 p with ⟨e, _⟩ | ⟨_, _, e, _⟩; omega; exact absurd e c3, by first | rfl | (simp; omega) | simp [c5] | simp [c4]⟩, by first | rfl | exact ew⟩
      · go_wp2_with fail
        go_ret
        exact ⟨Or.inr ⟨fun p => by rcases HL.out.1 p with ⟨e, _⟩ | ⟨_, e, _⟩ <;> omega, by first | rfl | (simp; omega)⟩, rfl⟩
    · go_wp2_with fail
      go_ret
      exact ⟨Or.inr ⟨fun p => by rcases HL.out.1 p with ⟨e, _⟩ | ⟨e, _⟩ <;> omega, by first | rfl | (simp; omega)⟩, rfl⟩
end Go.Proofs.Ytejdmnhdjeogaaa
