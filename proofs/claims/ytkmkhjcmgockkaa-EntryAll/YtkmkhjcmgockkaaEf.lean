/- entry: the document's May. -/
import Derived.Test.YtkmkhjcmgockkaaEe
namespace Go.Proofs.Ytkmkhjcmgockkaa
open Go.RowKit
set_option linter.unusedVariables false
set_option maxHeartbeats 400000 in
theorem rmay_nob (e : En) (b : Int) (w : World) (hb : ¬ Bt b) : Calls Try.prog 6 #[.agg e.cs, .int .i64 b] w fun r w' => r = .returned (.bool false) ∧ Kp (fun _ => False) w w' := by
  have HK : Hid (Kp (fun _ => False) w (w.alloc (.cells e.cs 24))) := (Kp.refl _ _).alloc _
  go_enter Try.func6, Try.ntmps6
  go_wp2_with (go_at_call 11; refine (rbits_no b _ hb).mono ?_; rintro r w' ⟨rfl, rfl⟩)
  go_ret
  exact ⟨rfl, HK.out⟩
set_option maxHeartbeats 2000000 in
theorem rmay_0 (kd pl ln b : Int) (w : World) (hb : Bt b) (hk : kd = 0 ∨ kd = 1) : Calls Try.prog 6 #[.agg (En.mk kd pl ln).cs, .int .i64 b] w fun r w' => Tells r (pl = 0 ∧ ln = 0) ∧ Kp (fun _ => False) w w' := by
  have HB := hid (Eb.new w (En.mk kd pl ln))
  have HK : Hid (Kp (fun _ => False) w (w.alloc (.cells (En.mk kd pl ln).cs 24))) := (Kp.refl _ _).alloc _
  have e0 : (w.alloc (.cells (En.mk kd pl ln).cs 24)).cell? ⟨w.heap.size, 0, none⟩ = some (.int .i64 kd) := HB.out.cell 0
  have e1 : (w.alloc (.cells (En.mk kd pl ln).cs 24)).cell? ⟨w.heap.size, 1, none⟩ = some (.int .i64 pl) := HB.out.cell 1
  have e2 : (w.alloc (.cells (En.mk kd pl ln).cs 24)).cell? ⟨w.heap.size, 2, none⟩ = some (.int .i64 ln) := HB.out.cell 2
  have RB := hid (fun w => rbits_yes b w hb)
  have RC := hid (fun w => rcluster b w hb)
  generalize clu b = c at *
  obtain ⟨T, hT⟩ : ∃ T : Prop, T = (pl = 0 ∧ ln = 0) := ⟨_, rfl⟩
  have HY : Hid (pl = 0 → ln = 0 → T) := fun h1 h2 => by rw [hT]; exact ⟨h1, h2⟩
  have HN1 : Hid (pl ≠ 0 → ¬ T) := fun h1 h2 => by rw [hT] at h2; exact h1 h2.1
  have HN2 : Hid (ln ≠ 0 → ¬ T) := fun h1 h2 => by rw [hT] at h2; exact h1 h2.2
  rw [← hT]
  clear hT
  rcases hk with rfl | rfl
  all_goals
    by_cases h1 : pl = 0
    · have t1 := hid (HY.out h1)
      subst h1
      by_cases h2 : ln = 0
      · have t2 := hid (t1.out h2)
        subst h2
        go_enter Try.func6, Try.ntmps6
        go_wp2_with (first | (go_at_call 11; refine (RB.out _).mono ?_; rintro r w' ⟨rfl, rfl⟩) | (go_at_call 21; refine (RC.out _).mono ?_; rintro r w' ⟨rfl, rfl⟩))
        go_ret
        exact ⟨Or.inl ⟨t2.out, rfl⟩, HK.out⟩
      · have t2 := hid (HN2.out h2)
        go_enter Try.func6, Try.ntmps6
        go_wp2_with (first | (go_at_call 11; refine (RB.out _).mono ?_; rintro r w' ⟨rfl, rfl⟩) | (go_at_call 21; refine (RC.out _).mono ?_; rintro r w' ⟨rfl, rfl⟩))
        go_ret
        exact ⟨Or.inr ⟨t2.out, by first | rfl | simp [h2]⟩, HK.out⟩
    · have t2 := hid (HN1.out h1)
      go_enter Try.func6, Try.ntmps6
      go_wp2_with (first | (go_at_call 11; refine (RB.out _).mono ?_; rintro r w' ⟨rfl, rfl⟩) | (go_at_call 21; refine (RC.out _).mono ?_; rintro r w' ⟨rfl, rfl⟩))
      go_ret
      exact ⟨Or.inr ⟨t2.out, by first | rfl | simp [h1]⟩, HK.out⟩
set_option maxHeartbeats 2000000 in
theorem rmay_2 (pl ln b : Int) (w : World) (wf : (En.mk 2 pl ln).Wf) (hb : Bt b) : Calls Try.prog 6 #[.agg (En.mk 2 pl ln).cs, .int .i64 b] w fun r w' => Tells r (ln = 0 ∧ Plc (clu b) pl) ∧ Kp (fun _ => False) w w' := by
  have HB := hid (Eb.new w (En.mk 2 pl ln))
  have HK : Hid (Kp (fun _ => False) w (w.alloc (.cells (En.mk 2 pl ln).cs 24))) := (Kp.refl _ _).alloc _
  have e0 : (w.alloc (.cells (En.mk 2 pl ln).cs 24)).cell? ⟨w.heap.size, 0, none⟩ = some (.int .i64 2) := HB.out.cell 0
  have e1 : (w.alloc (.cells (En.mk 2 pl ln).cs 24)).cell? ⟨w.heap.size, 1, none⟩ = some (.int .i64 pl) := HB.out.cell 1
  have e2 : (w.alloc (.cells (En.mk 2 pl ln).cs 24)).cell? ⟨w.heap.size, 2, none⟩ = some (.int .i64 ln) := HB.out.cell 2
  have RB := hid (fun w => rbits_yes b w hb)
  have RC := hid (fun w => rcluster b w hb)
  have RY : Hid (Plc (clu b) pl → ∀ w, Calls Try.prog 22 #[.int .i64 pl, .int .i64 b] w fun e w' => e = .returned (.bool true) ∧ w = w') := fun p w => rplace_yes wf.place hb p
  have RN : Hid (¬ Plc (clu b) pl → ∀ w, Calls Try.prog 22 #[.int .i64 pl, .int .i64 b] w fun e w' => e = .returned (.bool false) ∧ w = w') := fun p w => rplace_no wf.place hb p
  by_cases hp : Plc (clu b) pl
  · have R := hid (RY.out hp)
    by_cases h2 : ln = 0
    · have t2 : Hid (ln = 0 ∧ Plc (clu b) pl) := ⟨h2, hp⟩
      obtain ⟨T, hT⟩ : ∃ T : Prop, T = (ln = 0 ∧ Plc (clu b) pl) := ⟨_, rfl⟩
      rw [← hT] at t2 ⊢
      clear hT RY RN hp
      generalize clu b = c at *
      subst h2
      go_enter Try.func6, Try.ntmps6
      go_wp2_with (first | (go_at_call 11; refine (RB.out _).mono ?_; rintro r w' ⟨rfl, rfl⟩) | (go_at_call 21; refine (RC.out _).mono ?_; rintro r w' ⟨rfl, rfl⟩) | (go_at_call 22; refine (R.out _).mono ?_; rintro r w' ⟨rfl, rfl⟩))
      go_ret
      exact ⟨Or.inl ⟨t2.out, rfl⟩, HK.out⟩
    · have t2 : Hid (¬ (ln = 0 ∧ Plc (clu b) pl)) := fun h => h2 h.1
      obtain ⟨T, hT⟩ : ∃ T : Prop, T = (ln = 0 ∧ Plc (clu b) pl) := ⟨_, rfl⟩
      rw [← hT] at t2 ⊢
      clear hT RY RN hp
      generalize clu b = c at *
      go_enter Try.func6, Try.ntmps6
      go_wp2_with (first | (go_at_call 11; refine (RB.out _).mono ?_; rintro r w' ⟨rfl, rfl⟩) | (go_at_call 21; refine (RC.out _).mono ?_; rintro r w' ⟨rfl, rfl⟩))
      go_ret
      exact ⟨Or.inr ⟨t2.out, by first | rfl | simp [h2]⟩, HK.out⟩
  · have R := hid (RN.out hp)
    have t2 : Hid (¬ (ln = 0 ∧ Plc (clu b) pl)) := fun h => hp h.2
    obtain ⟨T, hT⟩ : ∃ T : Prop, T = (ln = 0 ∧ Plc (clu b) pl) := ⟨_, rfl⟩
    rw [← hT] at t2 ⊢
    clear hT RY RN hp
    generalize clu b = c at *
    by_cases h2 : ln = 0
    · subst h2
      go_enter Try.func6, Try.ntmps6
      go_wp2_with (first | (go_at_call 11; refine (RB.out _).mono ?_; rintro r w' ⟨rfl, rfl⟩) | (go_at_call 21; refine (RC.out _).mono ?_; rintro r w' ⟨rfl, rfl⟩) | (go_at_call 22; refine (R.out _).mono ?_; rintro r w' ⟨rfl, rfl⟩))
      go_ret
      exact ⟨Or.inr ⟨t2.out, rfl⟩, HK.out⟩
    · go_enter Try.func6, Try.ntmps6
      go_wp2_with (first | (go_at_call 11; refine (RB.out _).mono ?_; rintro r w' ⟨rfl, rfl⟩) | (go_at_call 21; refine (RC.out _).mono ?_; rintro r w' ⟨rfl, rfl⟩))
      go_ret
      exact ⟨Or.inr ⟨t2.out, by first | rfl | simp [h2]⟩, HK.out⟩
set_option maxHeartbeats 2000000 in
theorem rmay_none (kd pl ln b : Int) (w : World) (hb : Bt b) (h0 : kd ≠ 0) (h1 : kd ≠ 1) (h2 : kd ≠ 2) (h3 : kd ≠ 3) : Calls Try.prog 6 #[.agg (En.mk kd pl ln).cs, .int .i64 b] w fun r w' => r = .returned (.bool false) ∧ Kp (fun _ => False) w w' := by
  have HB := hid (Eb.new w (En.mk kd pl ln))
  have HK : Hid (Kp (fun _ => False) w (w.alloc (.cells (En.mk kd pl ln).cs 24))) := (Kp.refl _ _).alloc _
  have e0 : (w.alloc (.cells (En.mk kd pl ln).cs 24)).cell? ⟨w.heap.size, 0, none⟩ = some (.int .i64 kd) := HB.out.cell 0
  have RB := hid (fun w => rbits_yes b w hb)
  have RC := hid (fun w => rcluster b w hb)
  generalize clu b = c at *
  go_enter Try.func6, Try.ntmps6
  go_wp2_with (first | (go_at_call 11; refine (RB.out _).mono ?_; rintro r w' ⟨rfl, rfl⟩) | (go_at_call 21; refine (RC.out _).mono ?_; rintro r w' ⟨rfl, rfl⟩))
  go_ret
  exact ⟨rfl, HK.out⟩
end Go.Proofs.Ytkmkhjcmgockkaa
