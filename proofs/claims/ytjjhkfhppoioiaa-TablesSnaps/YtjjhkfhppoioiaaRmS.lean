/- tables: the document's word on what may be (Sn). -/
import Derived.Test.YtjjhkfhppoioiaaSbS
import Derived.Test.YtjjhkfhppoioiaaNd
namespace Go.Proofs.Ytjjhkfhppoioiaa
open Go.RowKit
set_option linter.unusedVariables false
set_option maxRecDepth 100000 in
set_option maxHeartbeats 4000000 in
theorem rm_s_nA (b : Int) (e : Sn) (w : World) (hb : Bt b) (hi : e.i6) (hn : Hid (¬ Nm e.nm)) (l1 : e.b = 0) (l2 : e.a = 0) : Calls Try.prog 23 #[.agg e.cs, .int .i64 b] w fun x w' => x = .returned (.bool false) ∧ Below w.heap.size w w' := by
  obtain ⟨nm, a, b1, c⟩ := e
  obtain ⟨ia, ib, ic, inm⟩ := hi
  dsimp only at *
  subst l1
  subst l2
  unfold Sn.cs
  dsimp only
  go_enter Try.func23, Try.ntmps23
  go_wp2_with (first | (go_at_call 48; refine (rnamed_no hn.out inm _).mono ?_; rintro e w9 ⟨rfl, rfl⟩))
  go_ret
  exact ⟨ret_bool (by first | rfl | (simp; done) | (simp; omega) | omega), (Below.refl _ _).alloc (Nat.le_refl _) _⟩
set_option maxRecDepth 100000 in
set_option maxHeartbeats 4000000 in
theorem rm_s_yA1 (b : Int) (e : Sn) (w : World) (hb : Bt b) (hi : e.i6) (hn : Hid (Nm e.nm)) (l1 : e.b = 0) (l2 : e.a = 0) (s1 : ¬ 0 ≤ e.c) : Calls Try.prog 23 #[.agg e.cs, .int .i64 b] w fun x w' => x = .returned (.bool false) ∧ Below w.heap.size w w' := by
  obtain ⟨nm, a, b1, c⟩ := e
  obtain ⟨ia, ib, ic, inm⟩ := hi
  dsimp only at *
  subst l1
  subst l2
  unfold Sn.cs
  dsimp only
  go_enter Try.func23, Try.ntmps23
  go_wp2_with (first | (go_at_call 48; refine (rnamed_yes hn.out inm _).mono ?_; rintro e w9 ⟨rfl, rfl⟩))
  go_ret
  exact ⟨ret_bool (by first | rfl | (simp; done) | (simp; omega) | omega), (Below.refl _ _).alloc (Nat.le_refl _) _⟩
set_option maxRecDepth 100000 in
set_option maxHeartbeats 4000000 in
theorem rm_s_yA2 (b : Int) (e : Sn) (w : World) (hb : Bt b) (hi : e.i6) (hn : Hid (Nm e.nm)) (l1 : e.b = 0) (l2 : e.a = 0) (s1 : 0 ≤ e.c) (s2 : ¬ e.c ≤ 67108864) : Calls Try.prog 23 #[.agg e.cs, .int .i64 b] w fun x w' => x = .returned (.bool false) ∧ Below w.heap.size w w' := by
  obtain ⟨nm, a, b1, c⟩ := e
  obtain ⟨ia, ib, ic, inm⟩ := hi
  dsimp only at *
  subst l1
  subst l2
  unfold Sn.cs
  dsimp only
  go_enter Try.func23, Try.ntmps23
  go_wp2_with (first | (go_at_call 48; refine (rnamed_yes hn.out inm _).mono ?_; rintro e w9 ⟨rfl, rfl⟩))
  go_ret
  exact ⟨ret_bool (by first | rfl | (simp; done) | (simp; omega) | omega), (Below.refl _ _).alloc (Nat.le_refl _) _⟩
set_option maxRecDepth 100000 in
set_option maxHeartbeats 4000000 in
theorem rm_s_yA3 (b : Int) (e : Sn) (w : World) (hb : Bt b) (hi : e.i6) (hn : Hid (Nm e.nm)) (l1 : e.b = 0) (l2 : e.a = 0) (s1 : 0 ≤ e.c) (s2 : e.c ≤ 67108864) (s3 : ¬ e.c % 512 = 0) : Calls Try.prog 23 #[.agg e.cs, .int .i64 b] w fun x w' => x = .returned (.bool false) ∧ Below w.heap.size w w' := by
  obtain ⟨nm, a, b1, c⟩ := e
  obtain ⟨ia, ib, ic, inm⟩ := hi
  dsimp only at *
  subst l1
  subst l2
  have e1 : c.tmod 512 = c % 512 := Int.tmod_eq_emod_of_nonneg s1
  have m0 := Int.emod_nonneg c (show (512 : Int) ≠ 0 by omega)
  have m1 := Int.emod_lt_of_pos c (show (0 : Int) < 512 by omega)
  generalize c % 512 = m at *
  have d9 : (m == 0) = false := by simpa using s3
  unfold Sn.cs
  dsimp only
  go_enter Try.func23, Try.ntmps23
  go_wp2_with (first | (go_at_call 48; refine (rnamed_yes hn.out inm _).mono ?_; rintro e w9 ⟨rfl, rfl⟩))
  go_ret
  exact ⟨ret_bool (by first | rfl | (simp; done) | (simp; omega) | omega), (Below.refl _ _).alloc (Nat.le_refl _) _⟩
set_option maxRecDepth 100000 in
set_option maxHeartbeats 4000000 in
theorem rm_s_yA4 (b : Int) (e : Sn) (w : World) (hb : Bt b) (hi : e.i6) (hn : Hid (Nm e.nm)) (l1 : e.b = 0) (l2 : e.a = 0) (s1 : 0 ≤ e.c) (s2 : e.c ≤ 67108864) (s3 : e.c % 512 = 0) : Calls Try.prog 23 #[.agg e.cs, .int .i64 b] w fun x w' => x = .returned (.bool true) ∧ Below w.heap.size w w' := by
  obtain ⟨nm, a, b1, c⟩ := e
  obtain ⟨ia, ib, ic, inm⟩ := hi
  dsimp only at *
  subst l1
  subst l2
  have e1 : c.tmod 512 = c % 512 := Int.tmod_eq_emod_of_nonneg s1
  rw [s3] at e1
  unfold Sn.cs
  dsimp only
  go_enter Try.func23, Try.ntmps23
  go_wp2_with (first | (go_at_call 48; refine (rnamed_yes hn.out inm _).mono ?_; rintro e w9 ⟨rfl, rfl⟩))
  go_ret
  exact ⟨ret_bool (by first | rfl | (simp; done) | (simp; omega) | omega), (Below.refl _ _).alloc (Nat.le_refl _) _⟩
set_option maxRecDepth 100000 in
set_option maxHeartbeats 4000000 in
theorem rm_s_nB (b : Int) (e : Sn) (w : World) (hb : Bt b) (hi : e.i6) (hn : Hid (¬ Nm e.nm)) (l1 : e.b = 0) (l2 : ¬ e.a = 0) : Calls Try.prog 23 #[.agg e.cs, .int .i64 b] w fun x w' => x = .returned (.bool false) ∧ Below w.heap.size w w' := by
  obtain ⟨nm, a, b1, c⟩ := e
  obtain ⟨ia, ib, ic, inm⟩ := hi
  dsimp only at *
  subst l1
  have d2 : (a == 0) = false := by simpa using l2
  unfold Sn.cs
  dsimp only
  go_enter Try.func23, Try.ntmps23
  go_wp2_with (first | (go_at_call 48; refine (rnamed_no hn.out inm _).mono ?_; rintro e w9 ⟨rfl, rfl⟩))
  go_ret
  exact ⟨ret_bool (by first | rfl | (simp; done) | (simp; omega) | omega), (Below.refl _ _).alloc (Nat.le_refl _) _⟩
set_option maxRecDepth 100000 in
set_option maxHeartbeats 4000000 in
theorem rm_s_yB (b : Int) (e : Sn) (w : World) (hb : Bt b) (hi : e.i6) (hn : Hid (Nm e.nm)) (l1 : e.b = 0) (l2 : ¬ e.a = 0) : Calls Try.prog 23 #[.agg e.cs, .int .i64 b] w fun x w' => x = .returned (.bool false) ∧ Below w.heap.size w w' := by
  obtain ⟨nm, a, b1, c⟩ := e
  obtain ⟨ia, ib, ic, inm⟩ := hi
  dsimp only at *
  subst l1
  have d2 : (a == 0) = false := by simpa using l2
  unfold Sn.cs
  dsimp only
  go_enter Try.func23, Try.ntmps23
  go_wp2_with (first | (go_at_call 48; refine (rnamed_yes hn.out inm _).mono ?_; rintro e w9 ⟨rfl, rfl⟩))
  go_ret
  exact ⟨ret_bool (by first | rfl | (simp; done) | (simp; omega) | omega), (Below.refl _ _).alloc (Nat.le_refl _) _⟩
set_option maxRecDepth 100000 in
set_option maxHeartbeats 4000000 in
theorem rm_s_nC (b : Int) (e : Sn) (w : World) (hb : Bt b) (hi : e.i6) (hn : Hid (¬ Nm e.nm)) (l1 : 0 < e.b) (hp : Hid (Plc (clu b) e.a)) : Calls Try.prog 23 #[.agg e.cs, .int .i64 b] w fun x w' => x = .returned (.bool false) ∧ Below w.heap.size w w' := by
  obtain ⟨nm, a, b1, c⟩ := e
  obtain ⟨ia, ib, ic, inm⟩ := hi
  dsimp only at *
  have d1 : (b1 == 0) = false := by simp; omega
  unfold Sn.cs
  dsimp only
  go_enter Try.func23, Try.ntmps23
  go_wp2_with (first | (go_at_call 48; refine (rnamed_no hn.out inm _).mono ?_; rintro e w9 ⟨rfl, rfl⟩) | (go_at_call 47; refine (rplace_yes hp.out ia hb _).mono ?_; rintro e w9 ⟨rfl, rfl⟩))
  go_ret
  exact ⟨ret_bool (by first | rfl | (simp; done) | (simp; omega) | omega), (Below.refl _ _).alloc (Nat.le_refl _) _⟩
set_option maxRecDepth 100000 in
set_option maxHeartbeats 4000000 in
theorem rm_s_yC0 (b : Int) (e : Sn) (w : World) (hb : Bt b) (hi : e.i6) (hn : Hid (Nm e.nm)) (l1 : 0 < e.b) (hp : Hid (Plc (clu b) e.a)) (l3 : ¬ e.b ≤ 1048576) : Calls Try.prog 23 #[.agg e.cs, .int .i64 b] w fun x w' => x = .returned (.bool false) ∧ Below w.heap.size w w' := by
  obtain ⟨nm, a, b1, c⟩ := e
  obtain ⟨ia, ib, ic, inm⟩ := hi
  dsimp only at *
  have d1 : (b1 == 0) = false := by simp; omega
  unfold Sn.cs
  dsimp only
  go_enter Try.func23, Try.ntmps23
  go_wp2_with (first | (go_at_call 48; refine (rnamed_yes hn.out inm _).mono ?_; rintro e w9 ⟨rfl, rfl⟩) | (go_at_call 47; refine (rplace_yes hp.out ia hb _).mono ?_; rintro e w9 ⟨rfl, rfl⟩))
  go_ret
  exact ⟨ret_bool (by first | rfl | (simp; done) | (simp; omega) | omega), (Below.refl _ _).alloc (Nat.le_refl _) _⟩
set_option maxRecDepth 100000 in
set_option maxHeartbeats 4000000 in
theorem rm_s_yC1 (b : Int) (e : Sn) (w : World) (hb : Bt b) (hi : e.i6) (hn : Hid (Nm e.nm)) (l1 : 0 < e.b) (hp : Hid (Plc (clu b) e.a)) (l3 : e.b ≤ 1048576) (s1 : ¬ 0 ≤ e.c) : Calls Try.prog 23 #[.agg e.cs, .int .i64 b] w fun x w' => x = .returned (.bool false) ∧ Below w.heap.size w w' := by
  obtain ⟨nm, a, b1, c⟩ := e
  obtain ⟨ia, ib, ic, inm⟩ := hi
  dsimp only at *
  have d1 : (b1 == 0) = false := by simp; omega
  unfold Sn.cs
  dsimp only
  go_enter Try.func23, Try.ntmps23
  go_wp2_with (first | (go_at_call 48; refine (rnamed_yes hn.out inm _).mono ?_; rintro e w9 ⟨rfl, rfl⟩) | (go_at_call 47; refine (rplace_yes hp.out ia hb _).mono ?_; rintro e w9 ⟨rfl, rfl⟩))
  go_ret
  exact ⟨ret_bool (by first | rfl | (simp; done) | (simp; omega) | omega), (Below.refl _ _).alloc (Nat.le_refl _) _⟩
set_option maxRecDepth 100000 in
set_option maxHeartbeats 4000000 in
theorem rm_s_yC2 (b : Int) (e : Sn) (w : World) (hb : Bt b) (hi : e.i6) (hn : Hid (Nm e.nm)) (l1 : 0 < e.b) (hp : Hid (Plc (clu b) e.a)) (l3 : e.b ≤ 1048576) (s1 : 0 ≤ e.c) (s2 : ¬ e.c ≤ 67108864) : Calls Try.prog 23 #[.agg e.cs, .int .i64 b] w fun x w' => x = .returned (.bool false) ∧ Below w.heap.size w w' := by
  obtain ⟨nm, a, b1, c⟩ := e
  obtain ⟨ia, ib, ic, inm⟩ := hi
  dsimp only at *
  have d1 : (b1 == 0) = false := by simp; omega
  unfold Sn.cs
  dsimp only
  go_enter Try.func23, Try.ntmps23
  go_wp2_with (first | (go_at_call 48; refine (rnamed_yes hn.out inm _).mono ?_; rintro e w9 ⟨rfl, rfl⟩) | (go_at_call 47; refine (rplace_yes hp.out ia hb _).mono ?_; rintro e w9 ⟨rfl, rfl⟩))
  go_ret
  exact ⟨ret_bool (by first | rfl | (simp; done) | (simp; omega) | omega), (Below.refl _ _).alloc (Nat.le_refl _) _⟩
set_option maxRecDepth 100000 in
set_option maxHeartbeats 4000000 in
theorem rm_s_yC3 (b : Int) (e : Sn) (w : World) (hb : Bt b) (hi : e.i6) (hn : Hid (Nm e.nm)) (l1 : 0 < e.b) (hp : Hid (Plc (clu b) e.a)) (l3 : e.b ≤ 1048576) (s1 : 0 ≤ e.c) (s2 : e.c ≤ 67108864) (s3 : ¬ e.c % 512 = 0) : Calls Try.prog 23 #[.agg e.cs, .int .i64 b] w fun x w' => x = .returned (.bool false) ∧ Below w.heap.size w w' := by
  obtain ⟨nm, a, b1, c⟩ := e
  obtain ⟨ia, ib, ic, inm⟩ := hi
  dsimp only at *
  have d1 : (b1 == 0) = false := by simp; omega
  have e1 : c.tmod 512 = c % 512 := Int.tmod_eq_emod_of_nonneg s1
  have m0 := Int.emod_nonneg c (show (512 : Int) ≠ 0 by omega)
  have m1 := Int.emod_lt_of_pos c (show (0 : Int) < 512 by omega)
  generalize c % 512 = m at *
  have d9 : (m == 0) = false := by simpa using s3
  unfold Sn.cs
  dsimp only
  go_enter Try.func23, Try.ntmps23
  go_wp2_with (first | (go_at_call 48; refine (rnamed_yes hn.out inm _).mono ?_; rintro e w9 ⟨rfl, rfl⟩) | (go_at_call 47; refine (rplace_yes hp.out ia hb _).mono ?_; rintro e w9 ⟨rfl, rfl⟩))
  go_ret
  exact ⟨ret_bool (by first | rfl | (simp; done) | (simp; omega) | omega), (Below.refl _ _).alloc (Nat.le_refl _) _⟩
set_option maxRecDepth 100000 in
set_option maxHeartbeats 4000000 in
theorem rm_s_yC4 (b : Int) (e : Sn) (w : World) (hb : Bt b) (hi : e.i6) (hn : Hid (Nm e.nm)) (l1 : 0 < e.b) (hp : Hid (Plc (clu b) e.a)) (l3 : e.b ≤ 1048576) (s1 : 0 ≤ e.c) (s2 : e.c ≤ 67108864) (s3 : e.c % 512 = 0) : Calls Try.prog 23 #[.agg e.cs, .int .i64 b] w fun x w' => x = .returned (.bool true) ∧ Below w.heap.size w w' := by
  obtain ⟨nm, a, b1, c⟩ := e
  obtain ⟨ia, ib, ic, inm⟩ := hi
  dsimp only at *
  have d1 : (b1 == 0) = false := by simp; omega
  have e1 : c.tmod 512 = c % 512 := Int.tmod_eq_emod_of_nonneg s1
  rw [s3] at e1
  unfold Sn.cs
  dsimp only
  go_enter Try.func23, Try.ntmps23
  go_wp2_with (first | (go_at_call 48; refine (rnamed_yes hn.out inm _).mono ?_; rintro e w9 ⟨rfl, rfl⟩) | (go_at_call 47; refine (rplace_yes hp.out ia hb _).mono ?_; rintro e w9 ⟨rfl, rfl⟩))
  go_ret
  exact ⟨ret_bool (by first | rfl | (simp; done) | (simp; omega) | omega), (Below.refl _ _).alloc (Nat.le_refl _) _⟩
set_option maxRecDepth 100000 in
set_option maxHeartbeats 4000000 in
theorem rm_s_nD (b : Int) (e : Sn) (w : World) (hb : Bt b) (hi : e.i6) (hn : Hid (¬ Nm e.nm)) (l1 : 0 < e.b) (hp : Hid (¬ Plc (clu b) e.a)) : Calls Try.prog 23 #[.agg e.cs, .int .i64 b] w fun x w' => x = .returned (.bool false) ∧ Below w.heap.size w w' := by
  obtain ⟨nm, a, b1, c⟩ := e
  obtain ⟨ia, ib, ic, inm⟩ := hi
  dsimp only at *
  have d1 : (b1 == 0) = false := by simp; omega
  unfold Sn.cs
  dsimp only
  go_enter Try.func23, Try.ntmps23
  go_wp2_with (first | (go_at_call 48; refine (rnamed_no hn.out inm _).mono ?_; rintro e w9 ⟨rfl, rfl⟩) | (go_at_call 47; refine (rplace_no hp.out ia hb _).mono ?_; rintro e w9 ⟨rfl, rfl⟩))
  go_ret
  exact ⟨ret_bool (by first | rfl | (simp; done) | (simp; omega) | omega), (Below.refl _ _).alloc (Nat.le_refl _) _⟩
set_option maxRecDepth 100000 in
set_option maxHeartbeats 4000000 in
theorem rm_s_yD (b : Int) (e : Sn) (w : World) (hb : Bt b) (hi : e.i6) (hn : Hid (Nm e.nm)) (l1 : 0 < e.b) (hp : Hid (¬ Plc (clu b) e.a)) : Calls Try.prog 23 #[.agg e.cs, .int .i64 b] w fun x w' => x = .returned (.bool false) ∧ Below w.heap.size w w' := by
  obtain ⟨nm, a, b1, c⟩ := e
  obtain ⟨ia, ib, ic, inm⟩ := hi
  dsimp only at *
  have d1 : (b1 == 0) = false := by simp; omega
  unfold Sn.cs
  dsimp only
  go_enter Try.func23, Try.ntmps23
  go_wp2_with (first | (go_at_call 48; refine (rnamed_yes hn.out inm _).mono ?_; rintro e w9 ⟨rfl, rfl⟩) | (go_at_call 47; refine (rplace_no hp.out ia hb _).mono ?_; rintro e w9 ⟨rfl, rfl⟩))
  go_ret
  exact ⟨ret_bool (by first | rfl | (simp; done) | (simp; omega) | omega), (Below.refl _ _).alloc (Nat.le_refl _) _⟩
set_option maxRecDepth 100000 in
set_option maxHeartbeats 4000000 in
theorem rm_s_nE (b : Int) (e : Sn) (w : World) (hb : Bt b) (hi : e.i6) (hn : Hid (¬ Nm e.nm)) (l1 : e.b < 0) : Calls Try.prog 23 #[.agg e.cs, .int .i64 b] w fun x w' => x = .returned (.bool false) ∧ Below w.heap.size w w' := by
  obtain ⟨nm, a, b1, c⟩ := e
  obtain ⟨ia, ib, ic, inm⟩ := hi
  dsimp only at *
  have d1 : (b1 == 0) = false := by simp; omega
  unfold Sn.cs
  dsimp only
  go_enter Try.func23, Try.ntmps23
  go_wp2_with (first | (go_at_call 48; refine (rnamed_no hn.out inm _).mono ?_; rintro e w9 ⟨rfl, rfl⟩))
  go_ret
  exact ⟨ret_bool (by first | rfl | (simp; done) | (simp; omega) | omega), (Below.refl _ _).alloc (Nat.le_refl _) _⟩
set_option maxRecDepth 100000 in
set_option maxHeartbeats 4000000 in
theorem rm_s_yE (b : Int) (e : Sn) (w : World) (hb : Bt b) (hi : e.i6) (hn : Hid (Nm e.nm)) (l1 : e.b < 0) : Calls Try.prog 23 #[.agg e.cs, .int .i64 b] w fun x w' => x = .returned (.bool false) ∧ Below w.heap.size w w' := by
  obtain ⟨nm, a, b1, c⟩ := e
  obtain ⟨ia, ib, ic, inm⟩ := hi
  dsimp only at *
  have d1 : (b1 == 0) = false := by simp; omega
  unfold Sn.cs
  dsimp only
  go_enter Try.func23, Try.ntmps23
  go_wp2_with (first | (go_at_call 48; refine (rnamed_yes hn.out inm _).mono ?_; rintro e w9 ⟨rfl, rfl⟩))
  go_ret
  exact ⟨ret_bool (by first | rfl | (simp; done) | (simp; omega) | omega), (Below.refl _ _).alloc (Nat.le_refl _) _⟩
theorem rmay_s (b : Int) (e : Sn) (w : World) (hb : Bt b) (hi : e.i6) : Calls Try.prog 23 #[.agg e.cs, .int .i64 b] w fun x w' => Tells x (e.May b) ∧ Below w.heap.size w w' := by
  have no : ∀ {x : Ending} {w' : World}, ¬ e.May b → (x = .returned (.bool false) ∧ Below w.heap.size w w') → Tells x (e.May b) ∧ Below w.heap.size w w' := fun q h => ⟨.inr ⟨q, h.1⟩, h.2⟩
  have yes : ∀ {x : Ending} {w' : World}, e.May b → (x = .returned (.bool true) ∧ Below w.heap.size w w') → Tells x (e.May b) ∧ Below w.heap.size w w' := fun q h => ⟨.inl ⟨q, h.1⟩, h.2⟩
  by_cases hn : Nm e.nm
  · by_cases l1 : e.b = 0
    · by_cases l2 : e.a = 0
      · by_cases s1 : 0 ≤ e.c
        · by_cases s2 : e.c ≤ 67108864
          · by_cases s3 : e.c % 512 = 0
            · exact (rm_s_yA4 b e w hb hi (hid hn) l1 l2 s1 s2 s3).mono (fun _ _ h => yes ⟨hn, Or.inl ⟨l1, l2⟩, s1, s2, s3⟩ h)
            · exact (rm_s_yA3 b e w hb hi (hid hn) l1 l2 s1 s2 s3).mono (fun _ _ h => no (fun m => s3 m.2.2.2.2) h)
          · exact (rm_s_yA2 b e w hb hi (hid hn) l1 l2 s1 s2).mono (fun _ _ h => no (fun m => s2 m.2.2.2.1) h)
        · exact (rm_s_yA1 b e w hb hi (hid hn) l1 l2 s1).mono (fun _ _ h => no (fun m => s1 m.2.2.1) h)
      · exact (rm_s_yB b e w hb hi (hid hn) l1 l2).mono (fun _ _ h => no (fun m => by rcases m.2.1 with h | h; (· exact l2 h.2); (· have := h.1; omega)) h)
    · by_cases l3 : 0 < e.b
      · by_cases hp : Plc (clu b) e.a
        · by_cases l4 : e.b ≤ 1048576
          · by_cases s1 : 0 ≤ e.c
            · by_cases s2 : e.c ≤ 67108864
              · by_cases s3 : e.c % 512 = 0
                · exact (rm_s_yC4 b e w hb hi (hid hn) l3 (hid hp) l4 s1 s2 s3).mono (fun _ _ h => yes ⟨hn, Or.inr ⟨l3, l4, hp⟩, s1, s2, s3⟩ h)
                · exact (rm_s_yC3 b e w hb hi (hid hn) l3 (hid hp) l4 s1 s2 s3).mono (fun _ _ h => no (fun m => s3 m.2.2.2.2) h)
              · exact (rm_s_yC2 b e w hb hi (hid hn) l3 (hid hp) l4 s1 s2).mono (fun _ _ h => no (fun m => s2 m.2.2.2.1) h)
            · exact (rm_s_yC1 b e w hb hi (hid hn) l3 (hid hp) l4 s1).mono (fun _ _ h => no (fun m => s1 m.2.2.1) h)
          · exact (rm_s_yC0 b e w hb hi (hid hn) l3 (hid hp) l4).mono (fun _ _ h => no (fun m => by rcases m.2.1 with h | h; (· exact l1 h.1); (· exact l4 h.2.1)) h)
        · exact (rm_s_yD b e w hb hi (hid hn) l3 (hid hp)).mono (fun _ _ h => no (fun m => by rcases m.2.1 with h | h; (· exact l1 h.1); (· exact hp h.2.2)) h)
      · exact (rm_s_yE b e w hb hi (hid hn) (by omega)).mono (fun _ _ h => no (fun m => by rcases m.2.1 with h | h; (· exact l1 h.1); (· exact l3 h.1)) h)
  · by_cases l1 : e.b = 0
    · by_cases l2 : e.a = 0
      · exact (rm_s_nA b e w hb hi (hid hn) l1 l2).mono (fun _ _ h => no (fun m => hn m.1) h)
      · exact (rm_s_nB b e w hb hi (hid hn) l1 l2).mono (fun _ _ h => no (fun m => hn m.1) h)
    · by_cases l3 : 0 < e.b
      · by_cases hp : Plc (clu b) e.a
        · exact (rm_s_nC b e w hb hi (hid hn) l3 (hid hp)).mono (fun _ _ h => no (fun m => hn m.1) h)
        · exact (rm_s_nD b e w hb hi (hid hn) l3 (hid hp)).mono (fun _ _ h => no (fun m => hn m.1) h)
      · exact (rm_s_nE b e w hb hi (hid hn) (by omega)).mono (fun _ _ h => no (fun m => hn m.1) h)
end Go.Proofs.Ytjjhkfhppoioiaa
