/- entry: the document's May, packed bytes. -/
import Derived.Test.YtkmkhjcmgockkaaEf
namespace Go.Proofs.Ytkmkhjcmgockkaa
open Go.RowKit
set_option linter.unusedVariables false
set_option maxHeartbeats 4000000 in
theorem rmay_3 (pl ln b : Int) (w : World) (wf : (En.mk 3 pl ln).Wf) (hb : Bt b) : Calls Try.prog 6 #[.agg (En.mk 3 pl ln).cs, .int .i64 b] w fun r w' => Tells r (Pkd ⟨3, pl, ln⟩ (clu b)) ∧ Kp (fun _ => False) w w' := by
  have HB := hid (Eb.new w (En.mk 3 pl ln))
  have HK : Hid (Kp (fun _ => False) w (w.alloc (.cells (En.mk 3 pl ln).cs 24))) := (Kp.refl _ _).alloc _
  have e0 : (w.alloc (.cells (En.mk 3 pl ln).cs 24)).cell? ⟨w.heap.size, 0, none⟩ = some (.int .i64 3) := HB.out.cell 0
  have e1 : (w.alloc (.cells (En.mk 3 pl ln).cs 24)).cell? ⟨w.heap.size, 1, none⟩ = some (.int .i64 pl) := HB.out.cell 1
  have e2 : (w.alloc (.cells (En.mk 3 pl ln).cs 24)).cell? ⟨w.heap.size, 2, none⟩ = some (.int .i64 ln) := HB.out.cell 2
  have RB := hid (fun w => rbits_yes b w hb)
  have RC := hid (fun w => rcluster b w hb)
  have hbd := clu_bd hb
  have h2 : I6 pl := wf.place
  have h3 : I6 ln := wf.len
  unfold I6 at h2 h3
  have HT : Hid (Pkd ⟨3, pl, ln⟩ (clu b) ↔ (1 ≤ ln ∧ ln ≤ 16383 ∧ ln < clu b ∧ clu b ≤ pl ∧ pl ≤ 268435456 - ln ∧ pl % clu b + ln ≤ clu b)) := Iff.rfl
  generalize Pkd ⟨3, pl, ln⟩ (clu b) = T at *
  have hmx : Try.prog.follows .mixedOrders = true := hmix
  by_cases c0 : 1 ≤ ln
  case neg =>
    have d0 := decide_eq_false c0
    generalize hcc : clu b = c at *
    go_enter Try.func6, Try.ntmps6
    go_wp2_with (first | (go_at_call 11; refine (RB.out _).mono ?_; rintro r w' ⟨rfl, rfl⟩) | (go_at_call 21; refine (RC.out _).mono ?_; rintro r w' ⟨rfl, rfl⟩))
    go_quiet (fail)
    go_wp2_with fail
    go_ret
    exact ⟨Or.inr ⟨fun p => by have := HT.out.1 p; omega, by first | rfl | (simp; done) | (simp; omega)⟩, HK.out.trans (drewN_kp _ _ _) (fun _ _ x => x)⟩
  by_cases c1 : ln ≤ 16383
  case neg =>
    have d1 := decide_eq_false c1
    generalize hcc : clu b = c at *
    go_enter Try.func6, Try.ntmps6
    go_wp2_with (first | (go_at_call 11; refine (RB.out _).mono ?_; rintro r w' ⟨rfl, rfl⟩) | (go_at_call 21; refine (RC.out _).mono ?_; rintro r w' ⟨rfl, rfl⟩))
    go_quiet (fail)
    go_wp2_with fail
    go_ret
    exact ⟨Or.inr ⟨fun p => by have := HT.out.1 p; omega, by first | rfl | (simp; done) | (simp; omega)⟩, HK.out.trans (drewN_kp _ _ _) (fun _ _ x => x)⟩
  by_cases c2 : ln < clu b
  case neg =>
    have d2 := decide_eq_false c2
    generalize hcc : clu b = c at *
    go_enter Try.func6, Try.ntmps6
    go_wp2_with (first | (go_at_call 11; refine (RB.out _).mono ?_; rintro r w' ⟨rfl, rfl⟩) | (go_at_call 21; refine (RC.out _).mono ?_; rintro r w' ⟨rfl, rfl⟩))
    go_quiet (fail)
    go_wp2_with fail
    go_ret
    exact ⟨Or.inr ⟨fun p => by have := HT.out.1 p; omega, by first | rfl | (simp; done) | (simp; omega)⟩, HK.out.trans (drewN_kp _ _ _) (fun _ _ x => x)⟩
  by_cases c3 : clu b ≤ pl
  case neg =>
    have d3 := decide_eq_false c3
    generalize hcc : clu b = c at *
    go_enter Try.func6, Try.ntmps6
    go_wp2_with (first | (go_at_call 11; refine (RB.out _).mono ?_; rintro r w' ⟨rfl, rfl⟩) | (go_at_call 21; refine (RC.out _).mono ?_; rintro r w' ⟨rfl, rfl⟩))
    go_quiet (fail)
    go_wp2_with fail
    go_ret
    exact ⟨Or.inr ⟨fun p => by have := HT.out.1 p; omega, by first | rfl | (simp; done) | (simp; omega)⟩, HK.out.trans (drewN_kp _ _ _) (fun _ _ x => x)⟩
  by_cases c4 : pl ≤ 268435456 - ln
  case neg =>
    have d4 := decide_eq_false c4
    have hw3 : IntKind.i64.wrap (268435456 - ln) = 268435456 - ln := by rw [IntKind.wrap_i64]; omega
    generalize hcc : clu b = c at *
    go_enter Try.func6, Try.ntmps6
    go_wp2_with (first | (go_at_call 11; refine (RB.out _).mono ?_; rintro r w' ⟨rfl, rfl⟩) | (go_at_call 21; refine (RC.out _).mono ?_; rintro r w' ⟨rfl, rfl⟩))
    go_quiet (fail)
    go_wp2_with fail
    go_ret
    exact ⟨Or.inr ⟨fun p => by have := HT.out.1 p; omega, by first | rfl | (simp; done) | (simp; omega)⟩, HK.out.trans (drewN_kp _ _ _) (fun _ _ x => x)⟩
  have hw3 : IntKind.i64.wrap (268435456 - ln) = 268435456 - ln := by rw [IntKind.wrap_i64]; omega
  have m1 := Int.emod_lt_of_pos pl (show 0 < clu b by omega)
  have m0 := Int.emod_nonneg pl (show clu b ≠ 0 by omega)
  have mt : pl.tmod (clu b) = pl % clu b := Int.tmod_eq_emod_of_nonneg (by omega)
  generalize pl % clu b = P at *
  generalize hcc : clu b = c at *
  have hw4 : IntKind.i64.wrap (P + ln) = P + ln := by rw [IntKind.wrap_i64]; omega
  by_cases c5 : P + ln ≤ c
  case neg =>
    have d5 := decide_eq_false c5
    go_enter Try.func6, Try.ntmps6
    go_wp2_with (first | (go_at_call 11; refine (RB.out _).mono ?_; rintro r w' ⟨rfl, rfl⟩) | (go_at_call 21; refine (RC.out _).mono ?_; rintro r w' ⟨rfl, rfl⟩))
    go_quiet (fail)
    go_wp2_with fail
    go_ret
    exact ⟨Or.inr ⟨fun p => by have := HT.out.1 p; omega, by first | rfl | (simp; done) | (simp; omega)⟩, HK.out.trans (drewN_kp _ _ _) (fun _ _ x => x)⟩
  go_enter Try.func6, Try.ntmps6
  go_wp2_with (first | (go_at_call 11; refine (RB.out _).mono ?_; rintro r w' ⟨rfl, rfl⟩) | (go_at_call 21; refine (RC.out _).mono ?_; rintro r w' ⟨rfl, rfl⟩))
  go_quiet (fail)
  go_wp2_with fail
  go_ret
  exact ⟨Or.inl ⟨HT.out.2 (by omega), by first | rfl | (simp; done) | (simp; omega)⟩, HK.out.trans (drewN_kp _ _ _) (fun _ _ x => x)⟩
end Go.Proofs.Ytkmkhjcmgockkaa
