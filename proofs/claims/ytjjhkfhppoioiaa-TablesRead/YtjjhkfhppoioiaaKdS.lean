/- tables: what a list is of (kind), a name, may it be? (Sn). -/
import Derived.Test.YtjjhkfhppoioiaaSbS
import Derived.Test.YtjjhkfhppoioiaaNc
import Derived.Laws.EntriesVeiled
namespace Go.Proofs.Ytjjhkfhppoioiaa
open Go.RowKit
set_option linter.unusedVariables false
def kcs : Array Value := #[.int .i64 64, .func (.func 38) #[] #[], .func (.func 39) #[] #[], .func (.func 40) #[] #[], .func (.func 44) #[] #[]]
theorem Try.isz61 : (Try.prog.info? 61).map (·.size) = some 5 := by kernel_rfl
theorem kloads {w : World} {g : Nat} (s : St 61 w g kcs) : (loadVar 61 ⟨g, 0, none⟩).run Try.prog w = .ok (.agg kcs) w :=
  run_loadVar_row w g 61 61 _ (0, 0) _ s Try.underlying61 rfl (by rw [Try.isz61]; rfl)
set_option maxRecDepth 100000 in
set_option maxHeartbeats 4000000 in
theorem kind_s (w : World) : Calls Try.prog 22 #[] w fun e w' => e = .returned (.agg kcs) ∧ Below w.heap.size w w' := by
  go_enter Try.func22, Try.ntmps22
  go_wp2
  refine bodyPost_ret (results_cell1 Try.results22 _ _ _ rfl (kloads ?_)) rfl ?_
  · exact St.new 61 w kcs
  · exact ⟨rfl, (Below.refl _ _).alloc (Nat.le_refl _) _⟩
set_option maxRecDepth 100000 in
set_option maxHeartbeats 4000000 in
theorem name_s (e : Sn) (w : World) : Calls Try.prog 38 #[.agg e.cs] w fun x w' => x = .returned (.string e.nm) ∧ Below w.heap.size w w' := by
  unfold Sn.cs
  go_enter Try.func38, Try.ntmps38
  go_wp2
  go_ret
  exact ⟨rfl, (Below.refl _ _).alloc (Nat.le_refl _) _⟩
set_option maxRecDepth 100000 in
set_option maxHeartbeats 4000000 in
theorem may_s_ok (b : Int) (e : Sn) (w : World) (hb : Bt b) (hi : e.i6) (hn : Hid (Nm e.nm)) (hl : Hid (Lie (clu b) 1048576 e.a e.b)) (s1 : 0 ≤ e.c) (s2 : e.c ≤ 67108864) (s3 : e.c % 512 = 0) : Calls Try.prog 39 #[.agg e.cs, .int .i64 (clu b)] w fun x w' => x = .returned (.bool true) ∧ Below w.heap.size w w' := by
  obtain ⟨nm, a, b1, c⟩ := e
  obtain ⟨ia, ib, ic, inm⟩ := hi
  dsimp only at *
  have hc := hid (clu_bd hb)
  generalize clu b = C at *
  have e1 : c.tmod 512 = c % 512 := Int.tmod_eq_emod_of_nonneg s1
  rw [s3] at e1
  unfold Sn.cs
  dsimp only
  go_enter Try.func39, Try.ntmps39
  go_wp2_with (first | (go_at_call 62; refine (named_yes hn.out inm _).mono ?_; rintro e w9 ⟨rfl, rfl⟩) | (go_at_call 63; refine (lies_yes hl.out ia hc.out _).mono ?_; rintro e w9 ⟨rfl, rfl⟩))
  go_ret
  exact ⟨ret_bool (by first | rfl | (simp; done) | (simp; omega) | omega), (Below.refl _ _).alloc (Nat.le_refl _) _⟩
set_option maxRecDepth 100000 in
set_option maxHeartbeats 4000000 in
theorem may_s_nl (b : Int) (e : Sn) (w : World) (hb : Bt b) (hi : e.i6) (hn : Hid (Nm e.nm)) (hl : Hid (¬ Lie (clu b) 1048576 e.a e.b)) (s1 : 0 ≤ e.c) (s2 : e.c ≤ 67108864) (s3 : e.c % 512 = 0) : Calls Try.prog 39 #[.agg e.cs, .int .i64 (clu b)] w fun x w' => x = .returned (.bool false) ∧ Below w.heap.size w w' := by
  obtain ⟨nm, a, b1, c⟩ := e
  obtain ⟨ia, ib, ic, inm⟩ := hi
  dsimp only at *
  have hc := hid (clu_bd hb)
  generalize clu b = C at *
  have e1 : c.tmod 512 = c % 512 := Int.tmod_eq_emod_of_nonneg s1
  rw [s3] at e1
  unfold Sn.cs
  dsimp only
  go_enter Try.func39, Try.ntmps39
  go_wp2_with (first | (go_at_call 62; refine (named_yes hn.out inm _).mono ?_; rintro e w9 ⟨rfl, rfl⟩) | (go_at_call 63; refine (lies_no hl.out ia hc.out _).mono ?_; rintro e w9 ⟨rfl, rfl⟩))
  go_ret
  exact ⟨ret_bool (by first | rfl | (simp; done) | (simp; omega) | omega), (Below.refl _ _).alloc (Nat.le_refl _) _⟩
set_option maxRecDepth 100000 in
set_option maxHeartbeats 4000000 in
theorem may_s_nn (b : Int) (e : Sn) (w : World) (hb : Bt b) (hi : e.i6) (hn : Hid (¬ Nm e.nm)) (s1 : 0 ≤ e.c) (s2 : e.c ≤ 67108864) (s3 : e.c % 512 = 0) : Calls Try.prog 39 #[.agg e.cs, .int .i64 (clu b)] w fun x w' => x = .returned (.bool false) ∧ Below w.heap.size w w' := by
  obtain ⟨nm, a, b1, c⟩ := e
  obtain ⟨ia, ib, ic, inm⟩ := hi
  dsimp only at *
  have hc := hid (clu_bd hb)
  generalize clu b = C at *
  have e1 : c.tmod 512 = c % 512 := Int.tmod_eq_emod_of_nonneg s1
  rw [s3] at e1
  unfold Sn.cs
  dsimp only
  go_enter Try.func39, Try.ntmps39
  go_wp2_with (first | (go_at_call 62; refine (named_no hn.out inm _).mono ?_; rintro e w9 ⟨rfl, rfl⟩))
  go_ret
  exact ⟨ret_bool (by first | rfl | (simp; done) | (simp; omega) | omega), (Below.refl _ _).alloc (Nat.le_refl _) _⟩
set_option maxRecDepth 100000 in
set_option maxHeartbeats 4000000 in
theorem may_s_a (b : Int) (e : Sn) (w : World) (hb : Bt b) (hi : e.i6) (hn : Hid (Nm e.nm)) (s1 : ¬ 0 ≤ e.c) : Calls Try.prog 39 #[.agg e.cs, .int .i64 (clu b)] w fun x w' => x = .returned (.bool false) ∧ Below w.heap.size w w' := by
  obtain ⟨nm, a, b1, c⟩ := e
  obtain ⟨ia, ib, ic, inm⟩ := hi
  dsimp only at *
  have hc := hid (clu_bd hb)
  generalize clu b = C at *
  have d1 : decide (0 ≤ c) = false := by simpa using s1
  unfold Sn.cs
  dsimp only
  go_enter Try.func39, Try.ntmps39
  go_wp2_with (first | (go_at_call 62; refine (named_yes hn.out inm _).mono ?_; rintro e w9 ⟨rfl, rfl⟩))
  go_ret
  exact ⟨ret_bool (by first | rfl | (simp; done) | (simp; omega) | omega), (Below.refl _ _).alloc (Nat.le_refl _) _⟩
set_option maxRecDepth 100000 in
set_option maxHeartbeats 4000000 in
theorem may_s_an (b : Int) (e : Sn) (w : World) (hb : Bt b) (hi : e.i6) (hn : Hid (¬ Nm e.nm)) (s1 : ¬ 0 ≤ e.c) : Calls Try.prog 39 #[.agg e.cs, .int .i64 (clu b)] w fun x w' => x = .returned (.bool false) ∧ Below w.heap.size w w' := by
  obtain ⟨nm, a, b1, c⟩ := e
  obtain ⟨ia, ib, ic, inm⟩ := hi
  dsimp only at *
  have hc := hid (clu_bd hb)
  generalize clu b = C at *
  have d1 : decide (0 ≤ c) = false := by simpa using s1
  unfold Sn.cs
  dsimp only
  go_enter Try.func39, Try.ntmps39
  go_wp2_with (first | (go_at_call 62; refine (named_no hn.out inm _).mono ?_; rintro e w9 ⟨rfl, rfl⟩))
  go_ret
  exact ⟨ret_bool (by first | rfl | (simp; done) | (simp; omega) | omega), (Below.refl _ _).alloc (Nat.le_refl _) _⟩
set_option maxRecDepth 100000 in
set_option maxHeartbeats 4000000 in
theorem may_s_b (b : Int) (e : Sn) (w : World) (hb : Bt b) (hi : e.i6) (hn : Hid (Nm e.nm)) (s1 : 0 ≤ e.c) (s2 : ¬ e.c ≤ 67108864) : Calls Try.prog 39 #[.agg e.cs, .int .i64 (clu b)] w fun x w' => x = .returned (.bool false) ∧ Below w.heap.size w w' := by
  obtain ⟨nm, a, b1, c⟩ := e
  obtain ⟨ia, ib, ic, inm⟩ := hi
  dsimp only at *
  have hc := hid (clu_bd hb)
  generalize clu b = C at *
  have d1 : decide (c ≤ 67108864) = false := by simpa using s2
  unfold Sn.cs
  dsimp only
  go_enter Try.func39, Try.ntmps39
  go_wp2_with (first | (go_at_call 62; refine (named_yes hn.out inm _).mono ?_; rintro e w9 ⟨rfl, rfl⟩))
  go_ret
  exact ⟨ret_bool (by first | rfl | (simp; done) | (simp; omega) | omega), (Below.refl _ _).alloc (Nat.le_refl _) _⟩
set_option maxRecDepth 100000 in
set_option maxHeartbeats 4000000 in
theorem may_s_bn (b : Int) (e : Sn) (w : World) (hb : Bt b) (hi : e.i6) (hn : Hid (¬ Nm e.nm)) (s1 : 0 ≤ e.c) (s2 : ¬ e.c ≤ 67108864) : Calls Try.prog 39 #[.agg e.cs, .int .i64 (clu b)] w fun x w' => x = .returned (.bool false) ∧ Below w.heap.size w w' := by
  obtain ⟨nm, a, b1, c⟩ := e
  obtain ⟨ia, ib, ic, inm⟩ := hi
  dsimp only at *
  have hc := hid (clu_bd hb)
  generalize clu b = C at *
  have d1 : decide (c ≤ 67108864) = false := by simpa using s2
  unfold Sn.cs
  dsimp only
  go_enter Try.func39, Try.ntmps39
  go_wp2_with (first | (go_at_call 62; refine (named_no hn.out inm _).mono ?_; rintro e w9 ⟨rfl, rfl⟩))
  go_ret
  exact ⟨ret_bool (by first | rfl | (simp; done) | (simp; omega) | omega), (Below.refl _ _).alloc (Nat.le_refl _) _⟩
set_option maxRecDepth 100000 in
set_option maxHeartbeats 4000000 in
theorem may_s_c (b : Int) (e : Sn) (w : World) (hb : Bt b) (hi : e.i6) (hn : Hid (Nm e.nm)) (s1 : 0 ≤ e.c) (s2 : e.c ≤ 67108864) (s3 : ¬ e.c % 512 = 0) : Calls Try.prog 39 #[.agg e.cs, .int .i64 (clu b)] w fun x w' => x = .returned (.bool false) ∧ Below w.heap.size w w' := by
  obtain ⟨nm, a, b1, c⟩ := e
  obtain ⟨ia, ib, ic, inm⟩ := hi
  dsimp only at *
  have hc := hid (clu_bd hb)
  generalize clu b = C at *
  have e1 : c.tmod 512 = c % 512 := Int.tmod_eq_emod_of_nonneg s1
  have m0 := Int.emod_nonneg c (show (512 : Int) ≠ 0 by omega)
  have m1 := Int.emod_lt_of_pos c (show (0 : Int) < 512 by omega)
  generalize c % 512 = m at *
  have d1 : (m == 0) = false := by simpa using s3
  unfold Sn.cs
  dsimp only
  go_enter Try.func39, Try.ntmps39
  go_wp2_with (first | (go_at_call 62; refine (named_yes hn.out inm _).mono ?_; rintro e w9 ⟨rfl, rfl⟩))
  go_ret
  exact ⟨ret_bool (by first | rfl | (simp; done) | (simp; omega) | omega), (Below.refl _ _).alloc (Nat.le_refl _) _⟩
set_option maxRecDepth 100000 in
set_option maxHeartbeats 4000000 in
theorem may_s_cn (b : Int) (e : Sn) (w : World) (hb : Bt b) (hi : e.i6) (hn : Hid (¬ Nm e.nm)) (s1 : 0 ≤ e.c) (s2 : e.c ≤ 67108864) (s3 : ¬ e.c % 512 = 0) : Calls Try.prog 39 #[.agg e.cs, .int .i64 (clu b)] w fun x w' => x = .returned (.bool false) ∧ Below w.heap.size w w' := by
  obtain ⟨nm, a, b1, c⟩ := e
  obtain ⟨ia, ib, ic, inm⟩ := hi
  dsimp only at *
  have hc := hid (clu_bd hb)
  generalize clu b = C at *
  have e1 : c.tmod 512 = c % 512 := Int.tmod_eq_emod_of_nonneg s1
  have m0 := Int.emod_nonneg c (show (512 : Int) ≠ 0 by omega)
  have m1 := Int.emod_lt_of_pos c (show (0 : Int) < 512 by omega)
  generalize c % 512 = m at *
  have d1 : (m == 0) = false := by simpa using s3
  unfold Sn.cs
  dsimp only
  go_enter Try.func39, Try.ntmps39
  go_wp2_with (first | (go_at_call 62; refine (named_no hn.out inm _).mono ?_; rintro e w9 ⟨rfl, rfl⟩))
  go_ret
  exact ⟨ret_bool (by first | rfl | (simp; done) | (simp; omega) | omega), (Below.refl _ _).alloc (Nat.le_refl _) _⟩
theorem may_s (b : Int) (e : Sn) (w : World) (hb : Bt b) (hi : e.i6) : Calls Try.prog 39 #[.agg e.cs, .int .i64 (clu b)] w fun x w' => Tells x (e.May b) ∧ Below w.heap.size w w' := by
  by_cases hn : Nm e.nm
  · by_cases s1 : 0 ≤ e.c
    · by_cases s2 : e.c ≤ 67108864
      · by_cases s3 : e.c % 512 = 0
        · by_cases hl : Lie (clu b) 1048576 e.a e.b
          · exact (may_s_ok b e w hb hi (hid hn) (hid hl) s1 s2 s3).mono (fun _ _ h => ⟨.inl ⟨⟨hn, hl, s1, s2, s3⟩, h.1⟩, h.2⟩)
          · exact (may_s_nl b e w hb hi (hid hn) (hid hl) s1 s2 s3).mono (fun _ _ h => ⟨.inr ⟨fun m => hl m.2.1, h.1⟩, h.2⟩)
        · exact (may_s_c b e w hb hi (hid hn) s1 s2 s3).mono (fun _ _ h => ⟨.inr ⟨fun m => s3 m.2.2.2.2, h.1⟩, h.2⟩)
      · exact (may_s_b b e w hb hi (hid hn) s1 s2).mono (fun _ _ h => ⟨.inr ⟨fun m => s2 m.2.2.2.1, h.1⟩, h.2⟩)
    · exact (may_s_a b e w hb hi (hid hn) s1).mono (fun _ _ h => ⟨.inr ⟨fun m => s1 m.2.2.1, h.1⟩, h.2⟩)
  · by_cases s1 : 0 ≤ e.c
    · by_cases s2 : e.c ≤ 67108864
      · by_cases s3 : e.c % 512 = 0
        · exact (may_s_nn b e w hb hi (hid hn) s1 s2 s3).mono (fun _ _ h => ⟨.inr ⟨fun m => hn m.1, h.1⟩, h.2⟩)
        · exact (may_s_cn b e w hb hi (hid hn) s1 s2 s3).mono (fun _ _ h => ⟨.inr ⟨fun m => s3 m.2.2.2.2, h.1⟩, h.2⟩)
      · exact (may_s_bn b e w hb hi (hid hn) s1 s2).mono (fun _ _ h => ⟨.inr ⟨fun m => s2 m.2.2.2.1, h.1⟩, h.2⟩)
    · exact (may_s_an b e w hb hi (hid hn) s1).mono (fun _ _ h => ⟨.inr ⟨fun m => s1 m.2.2.1, h.1⟩, h.2⟩)
end Go.Proofs.Ytjjhkfhppoioiaa
