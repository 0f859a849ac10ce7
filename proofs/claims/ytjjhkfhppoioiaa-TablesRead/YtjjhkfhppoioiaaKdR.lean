/- tables: what a list is of (kind), a name, may it be? (Rn). -/
import Derived.Test.YtjjhkfhppoioiaaSbR
import Derived.Test.YtjjhkfhppoioiaaNc
import Derived.Laws.EntriesVeiled
namespace Go.Proofs.Ytjjhkfhppoioiaa
open Go.RowKit
set_option linter.unusedVariables false
def kcr : Array Value := #[.int .i64 64, .func (.func 52) #[] #[], .func (.func 53) #[] #[], .func (.func 54) #[] #[], .func (.func 55) #[] #[]]
theorem Try.isz74 : (Try.prog.info? 74).map (·.size) = some 5 := by kernel_rfl
theorem kloadr {w : World} {g : Nat} (s : St 74 w g kcr) : (loadVar 74 ⟨g, 0, none⟩).run Try.prog w = .ok (.agg kcr) w :=
  run_loadVar_row w g 74 74 _ (0, 0) _ s Try.underlying74 rfl (by rw [Try.isz74]; rfl)
set_option maxRecDepth 100000 in
set_option maxHeartbeats 4000000 in
theorem kind_r (w : World) : Calls Try.prog 28 #[] w fun e w' => e = .returned (.agg kcr) ∧ Below w.heap.size w w' := by
  go_enter Try.func28, Try.ntmps28
  go_wp2
  refine bodyPost_ret (results_cell1 Try.results28 _ _ _ rfl (kloadr ?_)) rfl ?_
  · exact St.new 74 w kcr
  · exact ⟨rfl, (Below.refl _ _).alloc (Nat.le_refl _) _⟩
set_option maxRecDepth 100000 in
set_option maxHeartbeats 4000000 in
theorem name_r (e : Rn) (w : World) : Calls Try.prog 52 #[.agg e.cs] w fun x w' => x = .returned (.string e.nm) ∧ Below w.heap.size w w' := by
  unfold Rn.cs
  go_enter Try.func52, Try.ntmps52
  go_wp2
  go_ret
  exact ⟨rfl, (Below.refl _ _).alloc (Nat.le_refl _) _⟩
set_option maxRecDepth 100000 in
set_option maxHeartbeats 4000000 in
theorem may_r_ok (b : Int) (e : Rn) (w : World) (hb : Bt b) (hi : e.i6) (hn : Hid (Nm e.nm)) (hl : Hid (Lie (clu b) 16777216 e.c e.d)) (s1 : 9 ≤ e.a) (s2 : e.a ≤ 31) (s3 : 0 ≤ e.b) (s4 : e.b ≤ 3) : Calls Try.prog 53 #[.agg e.cs, .int .i64 (clu b)] w fun x w' => x = .returned (.bool true) ∧ Below w.heap.size w w' := by
  obtain ⟨nm, a, b1, c, d⟩ := e
  obtain ⟨ia, ib, ic, id, inm⟩ := hi
  dsimp only at *
  have hc := hid (clu_bd hb)
  generalize clu b = C at *
  unfold Rn.cs
  dsimp only
  go_enter Try.func53, Try.ntmps53
  go_wp2_with (first | (go_at_call 62; refine (named_yes hn.out inm _).mono ?_; rintro e w9 ⟨rfl, rfl⟩) | (go_at_call 63; refine (lies_yes hl.out ic hc.out _).mono ?_; rintro e w9 ⟨rfl, rfl⟩))
  go_ret
  exact ⟨ret_bool (by first | rfl | (simp; done) | (simp; omega) | omega), (Below.refl _ _).alloc (Nat.le_refl _) _⟩
set_option maxRecDepth 100000 in
set_option maxHeartbeats 4000000 in
theorem may_r_nl (b : Int) (e : Rn) (w : World) (hb : Bt b) (hi : e.i6) (hn : Hid (Nm e.nm)) (hl : Hid (¬ Lie (clu b) 16777216 e.c e.d)) (s1 : 9 ≤ e.a) (s2 : e.a ≤ 31) (s3 : 0 ≤ e.b) (s4 : e.b ≤ 3) : Calls Try.prog 53 #[.agg e.cs, .int .i64 (clu b)] w fun x w' => x = .returned (.bool false) ∧ Below w.heap.size w w' := by
  obtain ⟨nm, a, b1, c, d⟩ := e
  obtain ⟨ia, ib, ic, id, inm⟩ := hi
  dsimp only at *
  have hc := hid (clu_bd hb)
  generalize clu b = C at *
  unfold Rn.cs
  dsimp only
  go_enter Try.func53, Try.ntmps53
  go_wp2_with (first | (go_at_call 62; refine (named_yes hn.out inm _).mono ?_; rintro e w9 ⟨rfl, rfl⟩) | (go_at_call 63; refine (lies_no hl.out ic hc.out _).mono ?_; rintro e w9 ⟨rfl, rfl⟩))
  go_ret
  exact ⟨ret_bool (by first | rfl | (simp; done) | (simp; omega) | omega), (Below.refl _ _).alloc (Nat.le_refl _) _⟩
set_option maxRecDepth 100000 in
set_option maxHeartbeats 4000000 in
theorem may_r_nn (b : Int) (e : Rn) (w : World) (hb : Bt b) (hi : e.i6) (hn : Hid (¬ Nm e.nm)) (s1 : 9 ≤ e.a) (s2 : e.a ≤ 31) (s3 : 0 ≤ e.b) (s4 : e.b ≤ 3) : Calls Try.prog 53 #[.agg e.cs, .int .i64 (clu b)] w fun x w' => x = .returned (.bool false) ∧ Below w.heap.size w w' := by
  obtain ⟨nm, a, b1, c, d⟩ := e
  obtain ⟨ia, ib, ic, id, inm⟩ := hi
  dsimp only at *
  have hc := hid (clu_bd hb)
  generalize clu b = C at *
  unfold Rn.cs
  dsimp only
  go_enter Try.func53, Try.ntmps53
  go_wp2_with (first | (go_at_call 62; refine (named_no hn.out inm _).mono ?_; rintro e w9 ⟨rfl, rfl⟩))
  go_ret
  exact ⟨ret_bool (by first | rfl | (simp; done) | (simp; omega) | omega), (Below.refl _ _).alloc (Nat.le_refl _) _⟩
set_option maxRecDepth 100000 in
set_option maxHeartbeats 4000000 in
theorem may_r_ax (b : Int) (e : Rn) (w : World) (hb : Bt b) (hi : e.i6) (hn : Hid (Nm e.nm)) (s1 : ¬ 9 ≤ e.a) (s3 : ¬ 0 ≤ e.b) : Calls Try.prog 53 #[.agg e.cs, .int .i64 (clu b)] w fun x w' => x = .returned (.bool false) ∧ Below w.heap.size w w' := by
  obtain ⟨nm, a, b1, c, d⟩ := e
  obtain ⟨ia, ib, ic, id, inm⟩ := hi
  dsimp only at *
  have hc := hid (clu_bd hb)
  generalize clu b = C at *
  unfold Rn.cs
  dsimp only
  go_enter Try.func53, Try.ntmps53
  go_wp2_with (first | (go_at_call 62; refine (named_yes hn.out inm _).mono ?_; rintro e w9 ⟨rfl, rfl⟩))
  go_ret
  exact ⟨ret_bool (by first | rfl | (simp; done) | (simp; omega) | omega), (Below.refl _ _).alloc (Nat.le_refl _) _⟩
set_option maxRecDepth 100000 in
set_option maxHeartbeats 4000000 in
theorem may_r_axn (b : Int) (e : Rn) (w : World) (hb : Bt b) (hi : e.i6) (hn : Hid (¬ Nm e.nm)) (s1 : ¬ 9 ≤ e.a) (s3 : ¬ 0 ≤ e.b) : Calls Try.prog 53 #[.agg e.cs, .int .i64 (clu b)] w fun x w' => x = .returned (.bool false) ∧ Below w.heap.size w w' := by
  obtain ⟨nm, a, b1, c, d⟩ := e
  obtain ⟨ia, ib, ic, id, inm⟩ := hi
  dsimp only at *
  have hc := hid (clu_bd hb)
  generalize clu b = C at *
  unfold Rn.cs
  dsimp only
  go_enter Try.func53, Try.ntmps53
  go_wp2_with (first | (go_at_call 62; refine (named_no hn.out inm _).mono ?_; rintro e w9 ⟨rfl, rfl⟩))
  go_ret
  exact ⟨ret_bool (by first | rfl | (simp; done) | (simp; omega) | omega), (Below.refl _ _).alloc (Nat.le_refl _) _⟩
set_option maxRecDepth 100000 in
set_option maxHeartbeats 4000000 in
theorem may_r_ay (b : Int) (e : Rn) (w : World) (hb : Bt b) (hi : e.i6) (hn : Hid (Nm e.nm)) (s1 : ¬ 9 ≤ e.a) (s3 : 0 ≤ e.b) (s4 : ¬ e.b ≤ 3) : Calls Try.prog 53 #[.agg e.cs, .int .i64 (clu b)] w fun x w' => x = .returned (.bool false) ∧ Below w.heap.size w w' := by
  obtain ⟨nm, a, b1, c, d⟩ := e
  obtain ⟨ia, ib, ic, id, inm⟩ := hi
  dsimp only at *
  have hc := hid (clu_bd hb)
  generalize clu b = C at *
  unfold Rn.cs
  dsimp only
  go_enter Try.func53, Try.ntmps53
  go_wp2_with (first | (go_at_call 62; refine (named_yes hn.out inm _).mono ?_; rintro e w9 ⟨rfl, rfl⟩))
  go_ret
  exact ⟨ret_bool (by first | rfl | (simp; done) | (simp; omega) | omega), (Below.refl _ _).alloc (Nat.le_refl _) _⟩
set_option maxRecDepth 100000 in
set_option maxHeartbeats 4000000 in
theorem may_r_ayn (b : Int) (e : Rn) (w : World) (hb : Bt b) (hi : e.i6) (hn : Hid (¬ Nm e.nm)) (s1 : ¬ 9 ≤ e.a) (s3 : 0 ≤ e.b) (s4 : ¬ e.b ≤ 3) : Calls Try.prog 53 #[.agg e.cs, .int .i64 (clu b)] w fun x w' => x = .returned (.bool false) ∧ Below w.heap.size w w' := by
  obtain ⟨nm, a, b1, c, d⟩ := e
  obtain ⟨ia, ib, ic, id, inm⟩ := hi
  dsimp only at *
  have hc := hid (clu_bd hb)
  generalize clu b = C at *
  unfold Rn.cs
  dsimp only
  go_enter Try.func53, Try.ntmps53
  go_wp2_with (first | (go_at_call 62; refine (named_no hn.out inm _).mono ?_; rintro e w9 ⟨rfl, rfl⟩))
  go_ret
  exact ⟨ret_bool (by first | rfl | (simp; done) | (simp; omega) | omega), (Below.refl _ _).alloc (Nat.le_refl _) _⟩
set_option maxRecDepth 100000 in
set_option maxHeartbeats 4000000 in
theorem may_r_az (b : Int) (e : Rn) (w : World) (hb : Bt b) (hi : e.i6) (hn : Hid (Nm e.nm)) (s1 : ¬ 9 ≤ e.a) (s3 : 0 ≤ e.b) (s4 : e.b ≤ 3) : Calls Try.prog 53 #[.agg e.cs, .int .i64 (clu b)] w fun x w' => x = .returned (.bool false) ∧ Below w.heap.size w w' := by
  obtain ⟨nm, a, b1, c, d⟩ := e
  obtain ⟨ia, ib, ic, id, inm⟩ := hi
  dsimp only at *
  have hc := hid (clu_bd hb)
  generalize clu b = C at *
  unfold Rn.cs
  dsimp only
  go_enter Try.func53, Try.ntmps53
  go_wp2_with (first | (go_at_call 62; refine (named_yes hn.out inm _).mono ?_; rintro e w9 ⟨rfl, rfl⟩))
  go_ret
  exact ⟨ret_bool (by first | rfl | (simp; done) | (simp; omega) | omega), (Below.refl _ _).alloc (Nat.le_refl _) _⟩
set_option maxRecDepth 100000 in
set_option maxHeartbeats 4000000 in
theorem may_r_azn (b : Int) (e : Rn) (w : World) (hb : Bt b) (hi : e.i6) (hn : Hid (¬ Nm e.nm)) (s1 : ¬ 9 ≤ e.a) (s3 : 0 ≤ e.b) (s4 : e.b ≤ 3) : Calls Try.prog 53 #[.agg e.cs, .int .i64 (clu b)] w fun x w' => x = .returned (.bool false) ∧ Below w.heap.size w w' := by
  obtain ⟨nm, a, b1, c, d⟩ := e
  obtain ⟨ia, ib, ic, id, inm⟩ := hi
  dsimp only at *
  have hc := hid (clu_bd hb)
  generalize clu b = C at *
  unfold Rn.cs
  dsimp only
  go_enter Try.func53, Try.ntmps53
  go_wp2_with (first | (go_at_call 62; refine (named_no hn.out inm _).mono ?_; rintro e w9 ⟨rfl, rfl⟩))
  go_ret
  exact ⟨ret_bool (by first | rfl | (simp; done) | (simp; omega) | omega), (Below.refl _ _).alloc (Nat.le_refl _) _⟩
set_option maxRecDepth 100000 in
set_option maxHeartbeats 4000000 in
theorem may_r_bx (b : Int) (e : Rn) (w : World) (hb : Bt b) (hi : e.i6) (hn : Hid (Nm e.nm)) (s1 : 9 ≤ e.a) (s2 : ¬ e.a ≤ 31) (s3 : ¬ 0 ≤ e.b) : Calls Try.prog 53 #[.agg e.cs, .int .i64 (clu b)] w fun x w' => x = .returned (.bool false) ∧ Below w.heap.size w w' := by
  obtain ⟨nm, a, b1, c, d⟩ := e
  obtain ⟨ia, ib, ic, id, inm⟩ := hi
  dsimp only at *
  have hc := hid (clu_bd hb)
  generalize clu b = C at *
  unfold Rn.cs
  dsimp only
  go_enter Try.func53, Try.ntmps53
  go_wp2_with (first | (go_at_call 62; refine (named_yes hn.out inm _).mono ?_; rintro e w9 ⟨rfl, rfl⟩))
  go_ret
  exact ⟨ret_bool (by first | rfl | (simp; done) | (simp; omega) | omega), (Below.refl _ _).alloc (Nat.le_refl _) _⟩
set_option maxRecDepth 100000 in
set_option maxHeartbeats 4000000 in
theorem may_r_bxn (b : Int) (e : Rn) (w : World) (hb : Bt b) (hi : e.i6) (hn : Hid (¬ Nm e.nm)) (s1 : 9 ≤ e.a) (s2 : ¬ e.a ≤ 31) (s3 : ¬ 0 ≤ e.b) : Calls Try.prog 53 #[.agg e.cs, .int .i64 (clu b)] w fun x w' => x = .returned (.bool false) ∧ Below w.heap.size w w' := by
  obtain ⟨nm, a, b1, c, d⟩ := e
  obtain ⟨ia, ib, ic, id, inm⟩ := hi
  dsimp only at *
  have hc := hid (clu_bd hb)
  generalize clu b = C at *
  unfold Rn.cs
  dsimp only
  go_enter Try.func53, Try.ntmps53
  go_wp2_with (first | (go_at_call 62; refine (named_no hn.out inm _).mono ?_; rintro e w9 ⟨rfl, rfl⟩))
  go_ret
  exact ⟨ret_bool (by first | rfl | (simp; done) | (simp; omega) | omega), (Below.refl _ _).alloc (Nat.le_refl _) _⟩
set_option maxRecDepth 100000 in
set_option maxHeartbeats 4000000 in
theorem may_r_by (b : Int) (e : Rn) (w : World) (hb : Bt b) (hi : e.i6) (hn : Hid (Nm e.nm)) (s1 : 9 ≤ e.a) (s2 : ¬ e.a ≤ 31) (s3 : 0 ≤ e.b) (s4 : ¬ e.b ≤ 3) : Calls Try.prog 53 #[.agg e.cs, .int .i64 (clu b)] w fun x w' => x = .returned (.bool false) ∧ Below w.heap.size w w' := by
  obtain ⟨nm, a, b1, c, d⟩ := e
  obtain ⟨ia, ib, ic, id, inm⟩ := hi
  dsimp only at *
  have hc := hid (clu_bd hb)
  generalize clu b = C at *
  unfold Rn.cs
  dsimp only
  go_enter Try.func53, Try.ntmps53
  go_wp2_with (first | (go_at_call 62; refine (named_yes hn.out inm _).mono ?_; rintro e w9 ⟨rfl, rfl⟩))
  go_ret
  exact ⟨ret_bool (by first | rfl | (simp; done) | (simp; omega) | omega), (Below.refl _ _).alloc (Nat.le_refl _) _⟩
set_option maxRecDepth 100000 in
set_option maxHeartbeats 4000000 in
theorem may_r_byn (b : Int) (e : Rn) (w : World) (hb : Bt b) (hi : e.i6) (hn : Hid (¬ Nm e.nm)) (s1 : 9 ≤ e.a) (s2 : ¬ e.a ≤ 31) (s3 : 0 ≤ e.b) (s4 : ¬ e.b ≤ 3) : Calls Try.prog 53 #[.agg e.cs, .int .i64 (clu b)] w fun x w' => x = .returned (.bool false) ∧ Below w.heap.size w w' := by
  obtain ⟨nm, a, b1, c, d⟩ := e
  obtain ⟨ia, ib, ic, id, inm⟩ := hi
  dsimp only at *
  have hc := hid (clu_bd hb)
  generalize clu b = C at *
  unfold Rn.cs
  dsimp only
  go_enter Try.func53, Try.ntmps53
  go_wp2_with (first | (go_at_call 62; refine (named_no hn.out inm _).mono ?_; rintro e w9 ⟨rfl, rfl⟩))
  go_ret
  exact ⟨ret_bool (by first | rfl | (simp; done) | (simp; omega) | omega), (Below.refl _ _).alloc (Nat.le_refl _) _⟩
set_option maxRecDepth 100000 in
set_option maxHeartbeats 4000000 in
theorem may_r_bz (b : Int) (e : Rn) (w : World) (hb : Bt b) (hi : e.i6) (hn : Hid (Nm e.nm)) (s1 : 9 ≤ e.a) (s2 : ¬ e.a ≤ 31) (s3 : 0 ≤ e.b) (s4 : e.b ≤ 3) : Calls Try.prog 53 #[.agg e.cs, .int .i64 (clu b)] w fun x w' => x = .returned (.bool false) ∧ Below w.heap.size w w' := by
  obtain ⟨nm, a, b1, c, d⟩ := e
  obtain ⟨ia, ib, ic, id, inm⟩ := hi
  dsimp only at *
  have hc := hid (clu_bd hb)
  generalize clu b = C at *
  unfold Rn.cs
  dsimp only
  go_enter Try.func53, Try.ntmps53
  go_wp2_with (first | (go_at_call 62; refine (named_yes hn.out inm _).mono ?_; rintro e w9 ⟨rfl, rfl⟩))
  go_ret
  exact ⟨ret_bool (by first | rfl | (simp; done) | (simp; omega) | omega), (Below.refl _ _).alloc (Nat.le_refl _) _⟩
set_option maxRecDepth 100000 in
set_option maxHeartbeats 4000000 in
theorem may_r_bzn (b : Int) (e : Rn) (w : World) (hb : Bt b) (hi : e.i6) (hn : Hid (¬ Nm e.nm)) (s1 : 9 ≤ e.a) (s2 : ¬ e.a ≤ 31) (s3 : 0 ≤ e.b) (s4 : e.b ≤ 3) : Calls Try.prog 53 #[.agg e.cs, .int .i64 (clu b)] w fun x w' => x = .returned (.bool false) ∧ Below w.heap.size w w' := by
  obtain ⟨nm, a, b1, c, d⟩ := e
  obtain ⟨ia, ib, ic, id, inm⟩ := hi
  dsimp only at *
  have hc := hid (clu_bd hb)
  generalize clu b = C at *
  unfold Rn.cs
  dsimp only
  go_enter Try.func53, Try.ntmps53
  go_wp2_with (first | (go_at_call 62; refine (named_no hn.out inm _).mono ?_; rintro e w9 ⟨rfl, rfl⟩))
  go_ret
  exact ⟨ret_bool (by first | rfl | (simp; done) | (simp; omega) | omega), (Below.refl _ _).alloc (Nat.le_refl _) _⟩
set_option maxRecDepth 100000 in
set_option maxHeartbeats 4000000 in
theorem may_r_gx (b : Int) (e : Rn) (w : World) (hb : Bt b) (hi : e.i6) (hn : Hid (Nm e.nm)) (s1 : 9 ≤ e.a) (s2 : e.a ≤ 31) (s3 : ¬ 0 ≤ e.b) : Calls Try.prog 53 #[.agg e.cs, .int .i64 (clu b)] w fun x w' => x = .returned (.bool false) ∧ Below w.heap.size w w' := by
  obtain ⟨nm, a, b1, c, d⟩ := e
  obtain ⟨ia, ib, ic, id, inm⟩ := hi
  dsimp only at *
  have hc := hid (clu_bd hb)
  generalize clu b = C at *
  unfold Rn.cs
  dsimp only
  go_enter Try.func53, Try.ntmps53
  go_wp2_with (first | (go_at_call 62; refine (named_yes hn.out inm _).mono ?_; rintro e w9 ⟨rfl, rfl⟩))
  go_ret
  exact ⟨ret_bool (by first | rfl | (simp; done) | (simp; omega) | omega), (Below.refl _ _).alloc (Nat.le_refl _) _⟩
set_option maxRecDepth 100000 in
set_option maxHeartbeats 4000000 in
theorem may_r_gxn (b : Int) (e : Rn) (w : World) (hb : Bt b) (hi : e.i6) (hn : Hid (¬ Nm e.nm)) (s1 : 9 ≤ e.a) (s2 : e.a ≤ 31) (s3 : ¬ 0 ≤ e.b) : Calls Try.prog 53 #[.agg e.cs, .int .i64 (clu b)] w fun x w' => x = .returned (.bool false) ∧ Below w.heap.size w w' := by
  obtain ⟨nm, a, b1, c, d⟩ := e
  obtain ⟨ia, ib, ic, id, inm⟩ := hi
  dsimp only at *
  have hc := hid (clu_bd hb)
  generalize clu b = C at *
  unfold Rn.cs
  dsimp only
  go_enter Try.func53, Try.ntmps53
  go_wp2_with (first | (go_at_call 62; refine (named_no hn.out inm _).mono ?_; rintro e w9 ⟨rfl, rfl⟩))
  go_ret
  exact ⟨ret_bool (by first | rfl | (simp; done) | (simp; omega) | omega), (Below.refl _ _).alloc (Nat.le_refl _) _⟩
set_option maxRecDepth 100000 in
set_option maxHeartbeats 4000000 in
theorem may_r_gy (b : Int) (e : Rn) (w : World) (hb : Bt b) (hi : e.i6) (hn : Hid (Nm e.nm)) (s1 : 9 ≤ e.a) (s2 : e.a ≤ 31) (s3 : 0 ≤ e.b) (s4 : ¬ e.b ≤ 3) : Calls Try.prog 53 #[.agg e.cs, .int .i64 (clu b)] w fun x w' => x = .returned (.bool false) ∧ Below w.heap.size w w' := by
  obtain ⟨nm, a, b1, c, d⟩ := e
  obtain ⟨ia, ib, ic, id, inm⟩ := hi
  dsimp only at *
  have hc := hid (clu_bd hb)
  generalize clu b = C at *
  unfold Rn.cs
  dsimp only
  go_enter Try.func53, Try.ntmps53
  go_wp2_with (first | (go_at_call 62; refine (named_yes hn.out inm _).mono ?_; rintro e w9 ⟨rfl, rfl⟩))
  go_ret
  exact ⟨ret_bool (by first | rfl | (simp; done) | (simp; omega) | omega), (Below.refl _ _).alloc (Nat.le_refl _) _⟩
set_option maxRecDepth 100000 in
set_option maxHeartbeats 4000000 in
theorem may_r_gyn (b : Int) (e : Rn) (w : World) (hb : Bt b) (hi : e.i6) (hn : Hid (¬ Nm e.nm)) (s1 : 9 ≤ e.a) (s2 : e.a ≤ 31) (s3 : 0 ≤ e.b) (s4 : ¬ e.b ≤ 3) : Calls Try.prog 53 #[.agg e.cs, .int .i64 (clu b)] w fun x w' => x = .returned (.bool false) ∧ Below w.heap.size w w' := by
  obtain ⟨nm, a, b1, c, d⟩ := e
  obtain ⟨ia, ib, ic, id, inm⟩ := hi
  dsimp only at *
  have hc := hid (clu_bd hb)
  generalize clu b = C at *
  unfold Rn.cs
  dsimp only
  go_enter Try.func53, Try.ntmps53
  go_wp2_with (first | (go_at_call 62; refine (named_no hn.out inm _).mono ?_; rintro e w9 ⟨rfl, rfl⟩))
  go_ret
  exact ⟨ret_bool (by first | rfl | (simp; done) | (simp; omega) | omega), (Below.refl _ _).alloc (Nat.le_refl _) _⟩
theorem may_r (b : Int) (e : Rn) (w : World) (hb : Bt b) (hi : e.i6) : Calls Try.prog 53 #[.agg e.cs, .int .i64 (clu b)] w fun x w' => Tells x (e.May b) ∧ Below w.heap.size w w' := by
  by_cases hn : Nm e.nm
  · by_cases s1 : 9 ≤ e.a
    · by_cases s2 : e.a ≤ 31
      · by_cases s3 : 0 ≤ e.b
        · by_cases s4 : e.b ≤ 3
          · by_cases hl : Lie (clu b) 16777216 e.c e.d
            · exact (may_r_ok b e w hb hi (hid hn) (hid hl) s1 s2 s3 s4).mono (fun _ _ h => ⟨.inl ⟨⟨hn, hl, s1, s2, s3, s4⟩, h.1⟩, h.2⟩)
            · exact (may_r_nl b e w hb hi (hid hn) (hid hl) s1 s2 s3 s4).mono (fun _ _ h => ⟨.inr ⟨fun m => hl m.2.1, h.1⟩, h.2⟩)
          · exact (may_r_gy b e w hb hi (hid hn) s1 s2 s3 s4).mono (fun _ _ h => ⟨.inr ⟨fun m => s4 m.2.2.2.2.2, h.1⟩, h.2⟩)
        · exact (may_r_gx b e w hb hi (hid hn) s1 s2 s3).mono (fun _ _ h => ⟨.inr ⟨fun m => s3 m.2.2.2.2.1, h.1⟩, h.2⟩)
      · by_cases s3 : 0 ≤ e.b
        · by_cases s4 : e.b ≤ 3
          · exact (may_r_bz b e w hb hi (hid hn) s1 s2 s3 s4).mono (fun _ _ h => ⟨.inr ⟨fun m => s2 m.2.2.2.1, h.1⟩, h.2⟩)
          · exact (may_r_by b e w hb hi (hid hn) s1 s2 s3 s4).mono (fun _ _ h => ⟨.inr ⟨fun m => s2 m.2.2.2.1, h.1⟩, h.2⟩)
        · exact (may_r_bx b e w hb hi (hid hn) s1 s2 s3).mono (fun _ _ h => ⟨.inr ⟨fun m => s2 m.2.2.2.1, h.1⟩, h.2⟩)
    · by_cases s3 : 0 ≤ e.b
      · by_cases s4 : e.b ≤ 3
        · exact (may_r_az b e w hb hi (hid hn) s1 s3 s4).mono (fun _ _ h => ⟨.inr ⟨fun m => s1 m.2.2.1, h.1⟩, h.2⟩)
        · exact (may_r_ay b e w hb hi (hid hn) s1 s3 s4).mono (fun _ _ h => ⟨.inr ⟨fun m => s1 m.2.2.1, h.1⟩, h.2⟩)
      · exact (may_r_ax b e w hb hi (hid hn) s1 s3).mono (fun _ _ h => ⟨.inr ⟨fun m => s1 m.2.2.1, h.1⟩, h.2⟩)
  · by_cases s1 : 9 ≤ e.a
    · by_cases s2 : e.a ≤ 31
      · by_cases s3 : 0 ≤ e.b
        · by_cases s4 : e.b ≤ 3
          · exact (may_r_nn b e w hb hi (hid hn) s1 s2 s3 s4).mono (fun _ _ h => ⟨.inr ⟨fun m => hn m.1, h.1⟩, h.2⟩)
          · exact (may_r_gyn b e w hb hi (hid hn) s1 s2 s3 s4).mono (fun _ _ h => ⟨.inr ⟨fun m => s4 m.2.2.2.2.2, h.1⟩, h.2⟩)
        · exact (may_r_gxn b e w hb hi (hid hn) s1 s2 s3).mono (fun _ _ h => ⟨.inr ⟨fun m => s3 m.2.2.2.2.1, h.1⟩, h.2⟩)
      · by_cases s3 : 0 ≤ e.b
        · by_cases s4 : e.b ≤ 3
          · exact (may_r_bzn b e w hb hi (hid hn) s1 s2 s3 s4).mono (fun _ _ h => ⟨.inr ⟨fun m => s2 m.2.2.2.1, h.1⟩, h.2⟩)
          · exact (may_r_byn b e w hb hi (hid hn) s1 s2 s3 s4).mono (fun _ _ h => ⟨.inr ⟨fun m => s2 m.2.2.2.1, h.1⟩, h.2⟩)
        · exact (may_r_bxn b e w hb hi (hid hn) s1 s2 s3).mono (fun _ _ h => ⟨.inr ⟨fun m => s2 m.2.2.2.1, h.1⟩, h.2⟩)
    · by_cases s3 : 0 ≤ e.b
      · by_cases s4 : e.b ≤ 3
        · exact (may_r_azn b e w hb hi (hid hn) s1 s3 s4).mono (fun _ _ h => ⟨.inr ⟨fun m => s1 m.2.2.1, h.1⟩, h.2⟩)
        · exact (may_r_ayn b e w hb hi (hid hn) s1 s3 s4).mono (fun _ _ h => ⟨.inr ⟨fun m => s1 m.2.2.1, h.1⟩, h.2⟩)
      · exact (may_r_axn b e w hb hi (hid hn) s1 s3).mono (fun _ _ h => ⟨.inr ⟨fun m => s1 m.2.2.1, h.1⟩, h.2⟩)
end Go.Proofs.Ytjjhkfhppoioiaa
