/- tables: the document's list of Sn, as bytes. -/
import Derived.Test.YtjjhkfhppoioiaaSbS
import Derived.Test.YtjjhkfhppoioiaaNx
import Derived.Test.YtjjhkfhppoioiaaTpS
import Derived.Test.YtjjhkfhppoioiaaArX
import Derived.BigQuiet
namespace Go.Proofs.Ytjjhkfhppoioiaa
open Go.RowKit
set_option linter.unusedVariables false
set_option maxRecDepth 100000 in
set_option maxHeartbeats 4000000 in
theorem rm_s_nA (b : Int) (e : Sn) (w : World) (hb : Bt b) (hi : e.i6) (hn : Hid (¬ Nm e.nm)) (l1 : e.b = 0) (l2 : e.a = 0) : Calls Try.prog 23 #[.agg e.cs, .int .i64 b] w fun x w' => x = .returned (.bool false) ∧ Below w.heap.size w w' := by
  obtain ⟨nm, a, b1, c⟩ := e
  obtain ⟨ia, ib, ic, inm⟩ := hi
  dsimp only at *
  subst l1
  subst l2
  unfold Sn.cs
  dsimp only
  go_enter Try.func23, Try.ntmps23
  go_wp2_with (first | (go_at_call 48; refine (rnamed_no hn.out inm _).mono ?_; rintro e w9 ⟨rfl, rfl⟩))
  go_ret
  exact ⟨ret_bool (by first | rfl | (simp; done) | (simp; omega) | omega), (Below.refl _ _).alloc (Nat.le_refl _) _⟩
set_option maxRecDepth 100000 in
set_option maxHeartbeats 4000000 in
theorem rm_s_yA1 (b : Int) (e : Sn) (w : World) (hb : Bt b) (hi : e.i6) (hn : Hid (Nm e.nm)) (l1 : e.b = 0) (l2 : e.a = 0) (s1 : ¬ 0 ≤ e.c) : Calls Try.prog 23 #[.agg e.cs, .int .i64 b] w fun x w' => x = .returned (.bool false) ∧ Below w.heap.size w w' := by
  obtain ⟨nm, a, b1, c⟩ := e
  obtain ⟨ia, ib, ic, inm⟩ := hi
  dsimp only at *
  subst l1
  subst l2
  unfold Sn.cs
  dsimp only
  go_enter Try.func23, Try.ntmps23
  go_wp2_with (first | (go_at_call 48; refine (rnamed_yes hn.out inm _).mono ?_; rintro e w9 ⟨rfl, rfl⟩))
  go_ret
  exact ⟨ret_bool (by first | rfl | (simp; done) | (simp; omega) | omega), (Below.refl _ _).alloc (Nat.le_refl _) _⟩
set_option maxRecDepth 100000 in
set_option maxHeartbeats 4000000 in
theorem rm_s_yA2 (b : Int) (e : Sn) (w : World) (hb : Bt b) (hi : e.i6) (hn : Hid (Nm e.nm)) (l1 : e.b = 0) (l2 : e.a = 0) (s1 : 0 ≤ e.c) (s2 : ¬ e.c ≤ 67108864) : Calls Try.prog 23 #[.agg e.cs, .int .i64 b] w fun x w' => x = .returned (.bool false) ∧ Below w.heap.size w w' := by
  obtain ⟨nm, a, b1, c⟩ := e
  obtain ⟨ia, ib, ic, inm⟩ := hi
  dsimp only at *
  subst l1
  subst l2
  unfold Sn.cs
  dsimp only
  go_enter Try.func23, Try.ntmps23
  go_wp2_with (first | (go_at_call 48; refine (rnamed_yes hn.out inm _).mono ?_; rintro e w9 ⟨rfl, rfl⟩))
  go_ret
  exact ⟨ret_bool (by first | rfl | (simp; done) | (simp; omega) | omega), (Below.refl _ _).alloc (Nat.le_refl _) _⟩
set_option maxRecDepth 100000 in
set_option maxHeartbeats 4000000 in
theorem rm_s_yA3 (b : Int) (e : Sn) (w : World) (hb : Bt b) (hi : e.i6) (hn : Hid (Nm e.nm)) (l1 : e.b = 0) (l2 : e.a = 0) (s1 : 0 ≤ e.c) (s2 : e.c ≤ 67108864) (s3 : ¬ e.c % 512 = 0) : Calls Try.prog 23 #[.agg e.cs, .int .i64 b] w fun x w' => x = .returned (.bool false) ∧ Below w.heap.size w w' := by
  obtain ⟨nm, a, b1, c⟩ := e
  obtain ⟨ia, ib, ic, inm⟩ := hi
  dsimp only at *
  subst l1
  subst l2
  have e1 : c.tmod 512 = c % 512 := Int.tmod_eq_emod_of_nonneg s1
  have m0 := Int.emod_nonneg c (show (512 : Int) ≠ 0 by omega)
  have m1 := Int.emod_lt_of_pos c (show (0 : Int) < 512 by omega)
  generalize c % 512 = m at *
  have d9 : (m == 0) = false := by simpa using s3
  unfold Sn.cs
  dsimp only
  go_enter Try.func23, Try.ntmps23
  go_wp2_with (first | (go_at_call 48; refine (rnamed_yes hn.out inm _).mono ?_; rintro e w9 ⟨rfl, rfl⟩))
  go_ret
  exact ⟨ret_bool (by first | rfl | (simp; done) | (simp; omega) | omega), (Below.refl _ _).alloc (Nat.le_refl _) _⟩
set_option maxRecDepth 100000 in
set_option maxHeartbeats 4000000 in
theorem rm_s_yA4 (b : Int) (e : Sn) (w : World) (hb : Bt b) (hi : e.i6) (hn : Hid (Nm e.nm)) (l1 : e.b = 0) (l2 : e.a = 0) (s1 : 0 ≤ e.c) (s2 : e.c ≤ 67108864) (s3 : e.c % 512 = 0) : Calls Try.prog 23 #[.agg e.cs, .int .i64 b] w fun x w' => x = .returned (.bool true) ∧ Below w.heap.size w w' := by
  obtain ⟨nm, a, b1, c⟩ := e
  obtain ⟨ia, ib, ic, inm⟩ := hi
  dsimp only at *
  subst l1
  subst l2
  have e1 : c.tmod 512 = c % 512 := Int.tmod_eq_emod_of_nonneg s1
  rw [s3] at e1
  unfold Sn.cs
  dsimp only
  go_enter Try.func23, Try.ntmps23
  go_wp2_with (first | (go_at_call 48; refine (rnamed_yes hn.out inm _).mono ?_; rintro e w9 ⟨rfl, rfl⟩))
  go_ret
  exact ⟨ret_bool (by first | rfl | (simp; done) | (simp; omega) | omega), (Below.refl _ _).alloc (Nat.le_refl _) _⟩
set_option maxRecDepth 100000 in
set_option maxHeartbeats 4000000 in
theorem rm_s_nB (b : Int) (e : Sn) (w : World) (hb : Bt b) (hi : e.i6) (hn : Hid (¬ Nm e.nm)) (l1 : e.b = 0) (l2 : ¬ e.a = 0) : Calls Try.prog 23 #[.agg e.cs, .int .i64 b] w fun x w' => x = .returned (.bool false) ∧ Below w.heap.size w w' := by
  obtain ⟨nm, a, b1, c⟩ := e
  obtain ⟨ia, ib, ic, inm⟩ := hi
  dsimp only at *
  subst l1
  have d2 : (a == 0) = false := by simpa using l2
  unfold Sn.cs
  dsimp only
  go_enter Try.func23, Try.ntmps23
  go_wp2_with (first | (go_at_call 48; refine (rnamed_no hn.out inm _).mono ?_; rintro e w9 ⟨rfl, rfl⟩))
  go_ret
  exact ⟨ret_bool (by first | rfl | (simp; done) | (simp; omega) | omega), (Below.refl _ _).alloc (Nat.le_refl _) _⟩
set_option maxRecDepth 100000 in
set_option maxHeartbeats 4000000 in
theorem rm_s_yB (b : Int) (e : Sn) (w : World) (hb : Bt b) (hi : e.i6) (hn : Hid (Nm e.nm)) (l1 : e.b = 0) (l2 : ¬ e.a = 0) : Calls Try.prog 23 #[.agg e.cs, .int .i64 b] w fun x w' => x = .returned (.bool false) ∧ Below w.heap.size w w' := by
  obtain ⟨nm, a, b1, c⟩ := e
  obtain ⟨ia, ib, ic, inm⟩ := hi
  dsimp only at *
  subst l1
  have d2 : (a == 0) = false := by simpa using l2
  unfold Sn.cs
  dsimp only
  go_enter Try.func23, Try.ntmps23
  go_wp2_with (first | (go_at_call 48; refine (rnamed_yes hn.out inm _).mono ?_; rintro e w9 ⟨rfl, rfl⟩))
  go_ret
  exact ⟨ret_bool (by first | rfl | (simp; done) | (simp; omega) | omega), (Below.refl _ _).alloc (Nat.le_refl _) _⟩
set_option maxRecDepth 100000 in
set_option maxHeartbeats 4000000 in
theorem rm_s_nC (b : Int) (e : Sn) (w : World) (hb : Bt b) (hi : e.i6) (hn : Hid (¬ Nm e.nm)) (l1 : 0 < e.b) (hp : Hid (Plc (clu b) e.a)) : Calls Try.prog 23 #[.agg e.cs, .int .i64 b] w fun x w' => x = .returned (.bool false) ∧ Below w.heap.size w w' := by
  obtain ⟨nm, a, b1, c⟩ := e
  obtain ⟨ia, ib, ic, inm⟩ := hi
  dsimp only at *
  have d1 : (b1 == 0) = false := by simp; omega
  unfold Sn.cs
  dsimp only
  go_enter Try.func23, Try.ntmps23
  go_wp2_with (first | (go_at_call 48; refine (rnamed_no hn.out inm _).mono ?_; rintro e w9 ⟨rfl, rfl⟩) | (go_at_call 47; refine (rplace_yes hp.out ia hb _).mono ?_; rintro e w9 ⟨rfl, rfl⟩))
  go_ret
  exact ⟨ret_bool (by first | rfl | (simp; done) | (simp; omega) | omega), (Below.refl _ _).alloc (Nat.le_refl _) _⟩
set_option maxRecDepth 100000 in
set_option maxHeartbeats 4000000 in
theorem rm_s_yC0 (b : Int) (e : Sn) (w : World) (hb : Bt b) (hi : e.i6) (hn : Hid (Nm e.nm)) (l1 : 0 < e.b) (hp : Hid (Plc (clu b) e.a)) (l3 : ¬ e.b ≤ 1048576) : Calls Try.prog 23 #[.agg e.cs, .int .i64 b] w fun x w' => x = .returned (.bool false) ∧ Below w.heap.size w w' := by
  obtain ⟨nm, a, b1, c⟩ := e
  obtain ⟨ia, ib, ic, inm⟩ := hi
  dsimp only at *
  have d1 : (b1 == 0) = false := by simp; omega
  unfold Sn.cs
  dsimp only
  go_enter Try.func23, Try.ntmps23
  go_wp2_with (first | (go_at_call 48; refine (rnamed_yes hn.out inm _).mono ?_; rintro e w9 ⟨rfl, rfl⟩) | (go_at_call 47; refine (rplace_yes hp.out ia hb _).mono ?_; rintro e w9 ⟨rfl, rfl⟩))
  go_ret
  exact ⟨ret_bool (by first | rfl | (simp; done) | (simp; omega) | omega), (Below.refl _ _).alloc (Nat.le_refl _) _⟩
set_option maxRecDepth 100000 in
set_option maxHeartbeats 4000000 in
theorem rm_s_yC1 (b : Int) (e : Sn) (w : World) (hb : Bt b) (hi : e.i6) (hn : Hid (Nm e.nm)) (l1 : 0 < e.b) (hp : Hid (Plc (clu b) e.a)) (l3 : e.b ≤ 1048576) (s1 : ¬ 0 ≤ e.c) : Calls Try.prog 23 #[.agg e.cs, .int .i64 b] w fun x w' => x = .returned (.bool false) ∧ Below w.heap.size w w' := by
  obtain ⟨nm, a, b1, c⟩ := e
  obtain ⟨ia, ib, ic, inm⟩ := hi
  dsimp only at *
  have d1 : (b1 == 0) = false := by simp; omega
  unfold Sn.cs
  dsimp only
  go_enter Try.func23, Try.ntmps23
  go_wp2_with (first | (go_at_call 48; refine (rnamed_yes hn.out inm _).mono ?_; rintro e w9 ⟨rfl, rfl⟩) | (go_at_call 47; refine (rplace_yes hp.out ia hb _).mono ?_; rintro e w9 ⟨rfl, rfl⟩))
  go_ret
  exact ⟨ret_bool (by first | rfl | (simp; done) | (simp; omega) | omega), (Below.refl _ _).alloc (Nat.le_refl _) _⟩
set_option maxRecDepth 100000 in
set_option maxHeartbeats 4000000 in
theorem rm_s_yC2 (b : Int) (e : Sn) (w : World) (hb : Bt b) (hi : e.i6) (hn : Hid (Nm e.nm)) (l1 : 0 < e.b) (hp : Hid (Plc (clu b) e.a)) (l3 : e.b ≤ 1048576) (s1 : 0 ≤ e.c) (s2 : ¬ e.c ≤ 67108864) : Calls Try.prog 23 #[.agg e.cs, .int .i64 b] w fun x w' => x = .returned (.bool false) ∧ Below w.heap.size w w' := by
  obtain ⟨nm, a, b1, c⟩ := e
  obtain ⟨ia, ib, ic, inm⟩ := hi
  dsimp only at *
  have d1 : (b1 == 0) = false := by simp; omega
  unfold Sn.cs
  dsimp only
  go_enter Try.func23, Try.ntmps23
  go_wp2_with (first | (go_at_call 48; refine (rnamed_yes hn.out inm _).mono ?_; rintro e w9 ⟨rfl, rfl⟩) | (go_at_call 47; refine (rplace_yes hp.out ia hb _).mono ?_; rintro e w9 ⟨rfl, rfl⟩))
  go_ret
  exact ⟨ret_bool (by first | rfl | (simp; done) | (simp; omega) | omega), (Below.refl _ _).alloc (Nat.le_refl _) _⟩
set_option maxRecDepth 100000 in
set_option maxHeartbeats 4000000 in
theorem rm_s_yC3 (b : Int) (e : Sn) (w : World) (hb : Bt b) (hi : e.i6) (hn : Hid (Nm e.nm)) (l1 : 0 < e.b) (hp : Hid (Plc (clu b) e.a)) (l3 : e.b ≤ 1048576) (s1 : 0 ≤ e.c) (s2 : e.c ≤ 67108864) (s3 : ¬ e.c % 512 = 0) : Calls Try.prog 23 #[.agg e.cs, .int .i64 b] w fun x w' => x = .returned (.bool false) ∧ Below w.heap.size w w' := by
  obtain ⟨nm, a, b1, c⟩ := e
  obtain ⟨ia, ib, ic, inm⟩ := hi
  dsimp only at *
  have d1 : (b1 == 0) = false := by simp; omega
  have e1 : c.tmod 512 = c % 512 := Int.tmod_eq_emod_of_nonneg s1
  have m0 := Int.emod_nonneg c (show (512 : Int) ≠ 0 by omega)
  have m1 := Int.emod_lt_of_pos c (show (0 : Int) < 512 by omega)
  generalize c % 512 = m at *
  have d9 : (m == 0) = false := by simpa using s3
  unfold Sn.cs
  dsimp only
  go_enter Try.func23, Try.ntmps23
  go_wp2_with (first | (go_at_call 48; refine (rnamed_yes hn.out inm _).mono ?_; rintro e w9 ⟨rfl, rfl⟩) | (go_at_call 47; refine (rplace_yes hp.out ia hb _).mono ?_; rintro e w9 ⟨rfl, rfl⟩))
  go_ret
  exact ⟨ret_bool (by first | rfl | (simp; done) | (simp; omega) | omega), (Below.refl _ _).alloc (Nat.le_refl _) _⟩
set_option maxRecDepth 100000 in
set_option maxHeartbeats 4000000 in
theorem rm_s_yC4 (b : Int) (e : Sn) (w : World) (hb : Bt b) (hi : e.i6) (hn : Hid (Nm e.nm)) (l1 : 0 < e.b) (hp : Hid (Plc (clu b) e.a)) (l3 : e.b ≤ 1048576) (s1 : 0 ≤ e.c) (s2 : e.c ≤ 67108864) (s3 : e.c % 512 = 0) : Calls Try.prog 23 #[.agg e.cs, .int .i64 b] w fun x w' => x = .returned (.bool true) ∧ Below w.heap.size w w' := by
  obtain ⟨nm, a, b1, c⟩ := e
  obtain ⟨ia, ib, ic, inm⟩ := hi
  dsimp only at *
  have d1 : (b1 == 0) = false := by simp; omega
  have e1 : c.tmod 512 = c % 512 := Int.tmod_eq_emod_of_nonneg s1
  rw [s3] at e1
  unfold Sn.cs
  dsimp only
  go_enter Try.func23, Try.ntmps23
  go_wp2_with (first | (go_at_call 48; refine (rnamed_yes hn.out inm _).mono ?_; rintro e w9 ⟨rfl, rfl⟩) | (go_at_call 47; refine (rplace_yes hp.out ia hb _).mono ?_; rintro e w9 ⟨rfl, rfl⟩))
  go_ret
  exact ⟨ret_bool (by first | rfl | (simp; done) | (simp; omega) | omega), (Below.refl _ _).alloc (Nat.le_refl _) _⟩
set_option maxRecDepth 100000 in
set_option maxHeartbeats 4000000 in
theorem rm_s_nD (b : Int) (e : Sn) (w : World) (hb : Bt b) (hi : e.i6) (hn : Hid (¬ Nm e.nm)) (l1 : 0 < e.b) (hp : Hid (¬ Plc (clu b) e.a)) : Calls Try.prog 23 #[.agg e.cs, .int .i64 b] w fun x w' => x = .returned (.bool false) ∧ Below w.heap.size w w' := by
  obtain ⟨nm, a, b1, c⟩ := e
  obtain ⟨ia, ib, ic, inm⟩ := hi
  dsimp only at *
  have d1 : (b1 == 0) = false := by simp; omega
  unfold Sn.cs
  dsimp only
  go_enter Try.func23, Try.ntmps23
  go_wp2_with (first | (go_at_call 48; refine (rnamed_no hn.out inm _).mono ?_; rintro e w9 ⟨rfl, rfl⟩) | (go_at_call 47; refine (rplace_no hp.out ia hb _).mono ?_; rintro e w9 ⟨rfl, rfl⟩))
  go_ret
  exact ⟨ret_bool (by first | rfl | (simp; done) | (simp; omega) | omega), (Below.refl _ _).alloc (Nat.le_refl _) _⟩
set_option maxRecDepth 100000 in
set_option maxHeartbeats 4000000 in
theorem rm_s_yD (b : Int) (e : Sn) (w : World) (hb : Bt b) (hi : e.i6) (hn : Hid (Nm e.nm)) (l1 : 0 < e.b) (hp : Hid (¬ Plc (clu b) e.a)) : Calls Try.prog 23 #[.agg e.cs, .int .i64 b] w fun x w' => x = .returned (.bool false) ∧ Below w.heap.size w w' := by
  obtain ⟨nm, a, b1, c⟩ := e
  obtain ⟨ia, ib, ic, inm⟩ := hi
  dsimp only at *
  have d1 : (b1 == 0) = false := by simp; omega
  unfold Sn.cs
  dsimp only
  go_enter Try.func23, Try.ntmps23
  go_wp2_with (first | (go_at_call 48; refine (rnamed_yes hn.out inm _).mono ?_; rintro e w9 ⟨rfl, rfl⟩) | (go_at_call 47; refine (rplace_no hp.out ia hb _).mono ?_; rintro e w9 ⟨rfl, rfl⟩))
  go_ret
  exact ⟨ret_bool (by first | rfl | (simp; done) | (simp; omega) | omega), (Below.refl _ _).alloc (Nat.le_refl _) _⟩
set_option maxRecDepth 100000 in
set_option maxHeartbeats 4000000 in
theorem rm_s_nE (b : Int) (e : Sn) (w : World) (hb : Bt b) (hi : e.i6) (hn : Hid (¬ Nm e.nm)) (l1 : e.b < 0) : Calls Try.prog 23 #[.agg e.cs, .int .i64 b] w fun x w' => x = .returned (.bool false) ∧ Below w.heap.size w w' := by
  obtain ⟨nm, a, b1, c⟩ := e
  obtain ⟨ia, ib, ic, inm⟩ := hi
  dsimp only at *
  have d1 : (b1 == 0) = false := by simp; omega
  unfold Sn.cs
  dsimp only
  go_enter Try.func23, Try.ntmps23
  go_wp2_with (first | (go_at_call 48; refine (rnamed_no hn.out inm _).mono ?_; rintro e w9 ⟨rfl, rfl⟩))
  go_ret
  exact ⟨ret_bool (by first | rfl | (simp; done) | (simp; omega) | omega), (Below.refl _ _).alloc (Nat.le_refl _) _⟩
set_option maxRecDepth 100000 in
set_option maxHeartbeats 4000000 in
theorem rm_s_yE (b : Int) (e : Sn) (w : World) (hb : Bt b) (hi : e.i6) (hn : Hid (Nm e.nm)) (l1 : e.b < 0) : Calls Try.prog 23 #[.agg e.cs, .int .i64 b] w fun x w' => x = .returned (.bool false) ∧ Below w.heap.size w w' := by
  obtain ⟨nm, a, b1, c⟩ := e
  obtain ⟨ia, ib, ic, inm⟩ := hi
  dsimp only at *
  have d1 : (b1 == 0) = false := by simp; omega
  unfold Sn.cs
  dsimp only
  go_enter Try.func23, Try.ntmps23
  go_wp2_with (first | (go_at_call 48; refine (rnamed_yes hn.out inm _).mono ?_; rintro e w9 ⟨rfl, rfl⟩))
  go_ret
  exact ⟨ret_bool (by first | rfl | (simp; done) | (simp; omega) | omega), (Below.refl _ _).alloc (Nat.le_refl _) _⟩
theorem rmay_s (b : Int) (e : Sn) (w : World) (hb : Bt b) (hi : e.i6) : Calls Try.prog 23 #[.agg e.cs, .int .i64 b] w fun x w' => Tells x (e.May b) ∧ Below w.heap.size w w' := by
  have no : ∀ {x : Ending} {w' : World}, ¬ e.May b → (x = .returned (.bool false) ∧ Below w.heap.size w w') → Tells x (e.May b) ∧ Below w.heap.size w w' := fun q h => ⟨.inr ⟨q, h.1⟩, h.2⟩
  have yes : ∀ {x : Ending} {w' : World}, e.May b → (x = .returned (.bool true) ∧ Below w.heap.size w w') → Tells x (e.May b) ∧ Below w.heap.size w w' := fun q h => ⟨.inl ⟨q, h.1⟩, h.2⟩
  by_cases hn : Nm e.nm
  · by_cases l1 : e.b = 0
    · by_cases l2 : e.a = 0
      · by_cases s1 : 0 ≤ e.c
        · by_cases s2 : e.c ≤ 67108864
          · by_cases s3 : e.c % 512 = 0
            · exact (rm_s_yA4 b e w hb hi (hid hn) l1 l2 s1 s2 s3).mono (fun _ _ h => yes ⟨hn, Or.inl ⟨l1, l2⟩, s1, s2, s3⟩ h)
            · exact (rm_s_yA3 b e w hb hi (hid hn) l1 l2 s1 s2 s3).mono (fun _ _ h => no (fun m => s3 m.2.2.2.2) h)
          · exact (rm_s_yA2 b e w hb hi (hid hn) l1 l2 s1 s2).mono (fun _ _ h => no (fun m => s2 m.2.2.2.1) h)
        · exact (rm_s_yA1 b e w hb hi (hid hn) l1 l2 s1).mono (fun _ _ h => no (fun m => s1 m.2.2.1) h)
      · exact (rm_s_yB b e w hb hi (hid hn) l1 l2).mono (fun _ _ h => no (fun m => by rcases m.2.1 with h | h; (· exact l2 h.2); (· have := h.1; omega)) h)
    · by_cases l3 : 0 < e.b
      · by_cases hp : Plc (clu b) e.a
        · by_cases l4 : e.b ≤ 1048576
          · by_cases s1 : 0 ≤ e.c
            · by_cases s2 : e.c ≤ 67108864
              · by_cases s3 : e.c % 512 = 0
                · exact (rm_s_yC4 b e w hb hi (hid hn) l3 (hid hp) l4 s1 s2 s3).mono (fun _ _ h => yes ⟨hn, Or.inr ⟨l3, l4, hp⟩, s1, s2, s3⟩ h)
                · exact (rm_s_yC3 b e w hb hi (hid hn) l3 (hid hp) l4 s1 s2 s3).mono (fun _ _ h => no (fun m => s3 m.2.2.2.2) h)
              · exact (rm_s_yC2 b e w hb hi (hid hn) l3 (hid hp) l4 s1 s2).mono (fun _ _ h => no (fun m => s2 m.2.2.2.1) h)
            · exact (rm_s_yC1 b e w hb hi (hid hn) l3 (hid hp) l4 s1).mono (fun _ _ h => no (fun m => s1 m.2.2.1) h)
          · exact (rm_s_yC0 b e w hb hi (hid hn) l3 (hid hp) l4).mono (fun _ _ h => no (fun m => by rcases m.2.1 with h | h; (· exact l1 h.1); (· exact l4 h.2.1)) h)
        · exact (rm_s_yD b e w hb hi (hid hn) l3 (hid hp)).mono (fun _ _ h => no (fun m => by rcases m.2.1 with h | h; (· exact l1 h.1); (· exact hp h.2.2)) h)
      · exact (rm_s_yE b e w hb hi (hid hn) (by omega)).mono (fun _ _ h => no (fun m => by rcases m.2.1 with h | h; (· exact l1 h.1); (· exact l3 h.1)) h)
  · by_cases l1 : e.b = 0
    · by_cases l2 : e.a = 0
      · exact (rm_s_nA b e w hb hi (hid hn) l1 l2).mono (fun _ _ h => no (fun m => hn m.1) h)
      · exact (rm_s_nB b e w hb hi (hid hn) l1 l2).mono (fun _ _ h => no (fun m => hn m.1) h)
    · by_cases l3 : 0 < e.b
      · by_cases hp : Plc (clu b) e.a
        · exact (rm_s_nC b e w hb hi (hid hn) l3 (hid hp)).mono (fun _ _ h => no (fun m => hn m.1) h)
        · exact (rm_s_nD b e w hb hi (hid hn) l3 (hid hp)).mono (fun _ _ h => no (fun m => hn m.1) h)
      · exact (rm_s_nE b e w hb hi (hid hn) (by omega)).mono (fun _ _ h => no (fun m => hn m.1) h)
end Go.Proofs.Ytjjhkfhppoioiaa

namespace Go.Proofs.Ytjjhkfhppoioiaa
open Go.RowKit
set_option linter.unusedVariables false
theorem rmay_yes_s {b : Int} {e : Sn} (h : e.May b) (hb : Bt b) (hi : e.i6) (w : World) : Calls Try.prog 23 #[.agg e.cs, .int .i64 b] w fun x w' => x = .returned (.bool true) ∧ Below w.heap.size w w' := by
  refine (rmay_s b e w hb hi).mono ?_
  rintro x w' ⟨⟨_, rfl⟩ | ⟨q, _⟩, ew⟩
  · exact ⟨rfl, ew⟩
  · exact absurd h q
theorem rmay_no_s {b : Int} {e : Sn} (h : ¬ e.May b) (hb : Bt b) (hi : e.i6) (w : World) : Calls Try.prog 23 #[.agg e.cs, .int .i64 b] w fun x w' => x = .returned (.bool false) ∧ Below w.heap.size w w' := by
  refine (rmay_s b e w hb hi).mono ?_
  rintro x w' ⟨⟨q, _⟩ | ⟨_, rfl⟩, ew⟩
  · exact absurd q h
  · exact ⟨rfl, ew⟩
theorem num_1s (x : Int) : num x 1 = [x % 256] := by simp [num]
theorem Sn.small {b : Int} {e : Sn} (h : e.May b) : e.a ≤ 268435456 ∧ e.b ≤ 16777216 ∧ e.c ≤ 67108864 := by
  have := h.2.1.bd (by omega)
  have := h.2.2.2.1
  omega
theorem Own.belows {w w' : World} {base : Nat} {v : Value} {xs : List Int} (h : Own w base v xs) (k : Below w.heap.size w w') : Own w' base v xs := ownsRow_kp (F := fun _ => False) h (Kp.of_below k) (fun _ _ x => x)
/-- What the loop holds. -/
structure RIs (b : Int) (l : List Sn) (w : World) (n k : Nat) (o : Value) (W : World) : Prop where
  le : k ≤ n
  own : Own W w.heap.size o (encs Sn.enc (l.take k))
  may : ∀ j, j < k → (l.getD j zSn).May b
  nd : ∀ j, j < k → ∀ q, q < j → (l.getD q zSn).nm ≠ (l.getD j zSn).nm
  bl : Below w.heap.size w W
theorem RIs.lst {b : Int} {l : List Sn} {w : World} {n : Nat} {o : Value} {W : World} (h : RIs b l w n n o W) (hn : n = l.length) : Lst (Sn.May b) Sn.nm l ∧ Own W w.heap.size o (encs Sn.enc l) := by
  refine ⟨⟨fun e he => ?_, nodup_of zSn ?_⟩, ?_⟩
  · obtain ⟨i, hi, rfl⟩ := List.getElem_of_mem he
    have := h.may i (by omega)
    rwa [getD_lt l i zSn hi] at this
  · intro i hi j hj
    exact h.nd i (by omega) j hj
  · have := h.own
    rw [hn, List.take_length] at this
    exact this
theorem RIs.len {b : Int} {l : List Sn} {w : World} {n k : Nat} {o : Value} {W : World} (h : RIs b l w n k o W) (hn : n = l.length) (hn2 : n ≤ 2000) : (encs Sn.enc (l.take k)).length ≤ 170000 := by
  have := encs_bounds b (l.take k) (fun e he => by
    obtain ⟨j, hj, rfl⟩ := List.getElem_of_mem he
    rw [List.length_take] at hj
    rw [List.getElem_take]
    have := h.may j (by omega)
    rwa [getD_lt l j zSn (by omega)] at this)
  rw [List.length_take] at this
  have := h.le
  omega
theorem RIs.next {b : Int} {l : List Sn} {w : World} {n k : Nat} {o o' : Value} {W W' : World} (h : RIs b l w n k o W) (hn : n = l.length) (hk : k < n) (hm : (l.getD k zSn).May b) (hq : ∀ q, q < k → (l.getD q zSn).nm ≠ (l.getD k zSn).nm) (ho : Own W' w.heap.size o' (encs Sn.enc (l.take k) ++ (l.getD k zSn).enc)) (hb : Below w.heap.size w W') : RIs b l w n (k + 1) o' W' := by
  refine ⟨hk, ?_, fun j hj => ?_, fun j hj q hq2 => ?_, hb⟩
  · rw [encs_take Sn.enc l k zSn (by omega)]
    exact ho
  · by_cases e : j = k
    · rw [e]; exact hm
    · exact h.may j (by omega)
  · by_cases e : j = k
    · rw [e] at hq2 ⊢; exact hq q hq2
    · exact h.nd j (by omega) q hq2
set_option maxRecDepth 100000 in
set_option maxHeartbeats 4000000 in
theorem rput_bad_s (b : Int) (ao : Option Addr) (n cap : Nat) (w : World) (hb : ¬ Bt b) :
    Calls Try.prog 10 #[.int .i64 b, .slice ao n cap] w fun e w' => e = .returned (.tuple #[.slice none 0 0, .int .i64 2]) ∧ Below w.heap.size w w' := by
  by_cases h1 : b < 9
  · go_enter Try.func10, Try.ntmps10
    go_wp2_with fail
    go_ret2
    exact ⟨rfl, Below.refl _ _⟩
  · have h2 : 16 < b := by
      by_cases h : 16 < b
      · exact h
      · exact absurd ⟨by omega, by omega⟩ hb
    go_enter Try.func10, Try.ntmps10
    go_wp2_with fail
    go_ret2
    exact ⟨rfl, Below.refl _ _⟩
set_option maxRecDepth 100000 in
set_option maxHeartbeats 16000000 in
theorem rput_ok_s (b : Int) (l : List Sn) (ao : Option Addr) (n cap : Nat) (w : World) (hb : Bt b) (hn : n = l.length) (hcap : n ≤ cap) (hn2 : n ≤ 2000) (hS : Srcs w ao l) (h6 : ∀ e ∈ l, e.i6) :
    Calls Try.prog 10 #[.int .i64 b, .slice ao n cap] w fun e w' => ∃ v bs er, e = .returned (.tuple #[v, .int .i64 er]) ∧ Out (Sn.May b) Sn.nm Sn.enc b l bs er ∧ Own w' w.heap.size v bs ∧ Below w.heap.size w w' := by
  have HN := hid hn
  have HS := hid hS
  have H6 := hid h6
  have HBT := hid hb
  obtain ⟨hb1, hb2⟩ := hb
  clear hn hS h6
  go_enter Try.func10, Try.ntmps10
  go_wp2_with fail
  go_loopw [6, 7] (fun o i wr => ∃ k : Nat, i = .int .i64 (k : Int) ∧ RIs b l w n k o wr) (fun _ i _ => n - (intOf i).toNat)
  case atStart => exact ⟨0, rfl, Nat.zero_le _, Own.nil _ _, fun j hj => by omega, fun j hj => by omega, Below.refl _ _⟩
  case round =>
    obtain ⟨k, rfl, hi⟩ := hrel
    have hkn := hi.le
    have HI := hid hi
    clear hi
    obtain ⟨o, ho⟩ : ∃ o, o = u6 := ⟨_, rfl⟩
    rw [← ho] at HI ⊢
    clear ho
    by_cases hk : k < n
    · obtain ⟨gb, off, rfl, hgb, x0, x1, x2, x3⟩ := HS.out.at (i := k) (by have := HN.out; omega)
      have hi6 := H6.out _ (getD_in l k zSn (by have := HN.out; omega))
      have HCE : Hid (∀ W, Below w.heap.size w W → W.cell? ⟨gb, off + k * 4, none⟩ = some (.string (l.getD k zSn).nm) ∧ W.cell? ⟨gb, off + k * 4 + 1, none⟩ = some (.int .i64 (l.getD k zSn).a) ∧ W.cell? ⟨gb, off + k * 4 + 2, none⟩ = some (.int .i64 (l.getD k zSn).b) ∧ W.cell? ⟨gb, off + k * 4 + 3, none⟩ = some (.int .i64 (l.getD k zSn).c)) := fun W h => ⟨by rw [h.cell hgb]; exact x0, by rw [h.cell hgb]; exact x1, by rw [h.cell hgb]; exact x2, by rw [h.cell hgb]; exact x3⟩
      obtain ⟨wo, hwo⟩ : ∃ x, x = wr := ⟨_, rfl⟩
      subst hwo
      obtain ⟨y0, y1, y2, y3⟩ := HCE.out wo HI.out.bl
      by_cases hm : (l.getD k zSn).May b
      · have HM : Hid (∀ W, Calls Try.prog 23 #[.agg (l.getD k zSn).cs, .int .i64 b] W fun x w' => x = .returned (.bool true) ∧ Below W.heap.size W w') := fun W => rmay_yes_s hm HBT.out hi6 W
        have HMY := hid hm
        have HNM : Hid (∀ W q, q < k → Below w.heap.size w W → W.cell? ⟨gb, off + q * 4, none⟩ = some (.string (l.getD q zSn).nm)) := fun W q hq h => by
          obtain ⟨g', o', e, _, c0, _⟩ := (HS.out.below h).at (i := q) (by have := HN.out; omega)
          cases e
          exact c0
        have HEX := hid (fun o' W' hq ho hb => HI.out.next (o' := o') (W' := W') HN.out hk HMY.out hq ho hb)
        have hbd := Sn.bd hm
        have hnz := hm.1.2.1
        have hz2 := Sn.small hm
        have HFI : Hid ((∃ q, q < k ∧ (l.getD q zSn).nm = (l.getD k zSn).nm) → Out (Sn.May b) Sn.nm Sn.enc b l [] 2) := fun ⟨q, hq, e⟩ => Or.inl ⟨fun h => nodup_at zSn h.2.2 k (by have := HN.out; omega) q hq e, rfl, rfl⟩
        have HLN := hid (HI.out.len HN.out hn2)
        have HO := hid HI.out.own
        have HBL := hid HI.out.bl
        have HEC : Hid ((l.getD k zSn).enc = nmb (l.getD k zSn).nm ++ (num (l.getD k zSn).a 8 ++ (num (l.getD k zSn).b 4 ++ num (l.getD k zSn).c 8))) := rfl
        obtain ⟨e, he⟩ : ∃ e, e = l.getD k zSn := ⟨_, rfl⟩
        rw [← he] at y0 y1 y2 y3 HM HEX hbd hnz hz2 HFI HCE HEC
        obtain ⟨nm, a, bb, c⟩ := e
        dsimp only at y0 y1 y2 y3 hbd hnz hz2 HFI HCE HEC HEX
        have HENM : Hid (nm = (l.getD k zSn).nm) := by show _ = _; rw [← he]
        simp only [Sn.cs] at HM
        clear he hm hi6 x0 x1 x2 x3
        obtain ⟨E, hE⟩ : ∃ E, E = encs Sn.enc (l.take k) := ⟨_, rfl⟩
        rw [← hE] at HLN HO HEX
        clear hE
        go_wp2_with (first | (go_at_call 23; refine (HM.out _).mono ?_; rintro e w1 ⟨rfl, b1⟩; have HBL1 := hid (HBL.out.trans (b1.mono HBL.out.size)); have HO1 : Hid (Own w1 w.heap.size o E) := (Own.belows HO.out b1); clear b1 HM))
        go_loopw [8] (fun j wq => ∃ q : Nat, q ≤ k ∧ j = .int .i64 (q : Int) ∧ (∀ p, p < q → (l.getD p zSn).nm ≠ nm) ∧ Own wq w.heap.size o E ∧ Below w.heap.size w wq) (fun j _ => k - (intOf j).toNat)
        case atStart => exact ⟨0, Nat.zero_le _, rfl, fun p hp => by omega, HO1.out, HBL1.out⟩
        case round =>
          clear HO1 HBL1 HO HBL
          obtain ⟨q, hqk, rfl, hne, hoq, hbq⟩ := hrel
          have HNE := hid hne
          have HO := hid hoq
          have HBL := hid hbq
          clear hne hoq hbq
          obtain ⟨y0, y1, y2, y3⟩ := HCE.out wr HBL.out
          by_cases hql : q < k
          · have c0 := HNM.out wr q hql HBL.out
            obtain ⟨nq, hnq⟩ : ∃ s, s = (l.getD q zSn).nm := ⟨_, rfl⟩
            rw [← hnq] at c0
            have HNQ := hid hnq
            clear hnq
            cases hc : (nq.toList == nm.toList) with
            | true =>
              have HOU := hid (HFI.out ⟨q, hql, by rw [← HNQ.out]; exact str_eqs hc⟩)
              go_wp2_with fail
              go_quiet (fail)
              go_wp2_with fail
              go_ret2
              exact ⟨_, _, _, rfl, HOU.out, Own.nil _ _, HBL.out.trans ((drewN_kp (fun _ => False) wr _).below HBL.out.size (fun _ x => x.elim))⟩
            | false =>
              have HNN : Hid (∀ p, p < q + 1 → (l.getD p zSn).nm ≠ nm) := fun p hp e => by
                by_cases h : p = q
                · rw [h, ← HNQ.out] at e
                  rw [e] at hc
                  simp at hc
                · exact HNE.out p (by omega) e
              go_wp2_with fail
              go_quiet (fail)
              go_wp2_with fail
              go_roundw
              case rel => exact ⟨q + 1, by omega, by go_num, HNN.out, ownsRow_kp (F := fun _ => False) HO.out (drewN_kp (fun _ => False) wr _) (fun _ _ x => x), HBL.out.trans ((drewN_kp (fun _ => False) wr _).below HBL.out.size (fun _ x => x.elim))⟩
              case measure => simp [intOf]; omega
          · have hqq : q = k := by omega
            have HND : Hid (∀ p, p < k → (l.getD p zSn).nm ≠ nm) := by rw [← hqq]; exact HNE.out
            clear HNE HNM HFI hqq
            obtain ⟨⟨ka0, ka1⟩, ⟨kb0, kb1⟩, ⟨kc0, kc1⟩⟩ := hbd
            obtain ⟨za, zb, zc⟩ := hz2
            have wua : IntKind.u64.wrap a = a := by rw [IntKind.wrap_u64]; omega
            have wub : IntKind.u64.wrap bb = bb := by rw [IntKind.wrap_u64]; omega
            have wuc : IntKind.u64.wrap c = c := by rw [IntKind.wrap_u64]; omega
            clear ka1 kb1 kc1
            go_wp2_with fail
            refine (rnmb_ok nm _ hnz).mono ?_
            rintro e v1 ⟨v, rfl, o1, b1⟩
            obtain ⟨ao1, c1, rfl, s1, n1⟩ := o1.own
            have OW := hid (Own.belows HO.out b1)
            have BL := hid (HBL.out.trans (b1.mono HBL.out.size))
            have SR := hid s1
            have NO := hid n1
            have hml : Hid ((nmb nm).length ≤ 65) := by show _ ≤ _; rw [nmb_len]; omega
            clear s1 n1 o1 b1 HO HBL y0 y1 y2 y3
            go_wp2_with (first | (at_builtin; refine wpList_append_b rfl (.tmp 44) (.tmp 50) rfl w.heap.size _ E rfl OW.out ao1 c1 (nmb nm) _ rfl rfl NO.out SR.out (by have := HLN.out; have := hml.out; omega) BL.out.size ?_; intro o2 w12 h2 b2; replace OW := hid h2; replace BL := hid (BL.out.trans b2); obtain ⟨y0, y1, y2, y3⟩ := HCE.out w12 BL.out; clear h2 b2))
            clear SR NO
            obtain ⟨E1, hE1⟩ : ∃ X, X = E ++ nmb nm := ⟨_, rfl⟩
            have L1 : E1.length ≤ 170065 := by (have := HLN.out; have := hml.out; rw [hE1, List.length_append]; omega)
            rw [← hE1] at OW
            have H1 := hid hE1
            clear hE1
            refine (number_own a 8 _ ka0 (by omega) (by omega) (by omega)).mono ?_
            rintro e v3 ⟨g3, c3, rfl, s3, b3⟩
            have SR := hid s3
            replace OW := hid (Own.belows OW.out b3)
            replace BL := hid (BL.out.trans (b3.mono BL.out.size))
            clear s3 b3 y0 y1 y2 y3
            go_wp2_with (first | (at_builtin; refine wpList_append_b rfl (.tmp 52) (.tmp 59) rfl w.heap.size _ E1 rfl OW.out _ _ (num a 8) 8 (num_length a 8).symm rfl (fun e => by cases e) SR.out (by have := HLN.out; have := hml.out; have := L1; omega) BL.out.size ?_; intro o4 w14 h4 b4; replace OW := hid h4; replace BL := hid (BL.out.trans b4); obtain ⟨y0, y1, y2, y3⟩ := HCE.out w14 BL.out; clear h4 b4))
            obtain ⟨E2, hE2⟩ : ∃ X, X = E1 ++ num a 8 := ⟨_, rfl⟩
            have L2 : E2.length ≤ 170081 := by (rw [hE2, List.length_append, num_length]; omega)
            rw [← hE2] at OW
            have H2 := hid hE2
            clear hE2 SR
            refine (number_own bb 4 _ kb0 (by omega) (by omega) (by omega)).mono ?_
            rintro e v5 ⟨g5, c5, rfl, s5, b5⟩
            have SR := hid s5
            replace OW := hid (Own.belows OW.out b5)
            replace BL := hid (BL.out.trans (b5.mono BL.out.size))
            clear s5 b5 y0 y1 y2 y3
            go_wp2_with (first | (at_builtin; refine wpList_append_b rfl (.tmp 61) (.tmp 68) rfl w.heap.size _ E2 rfl OW.out _ _ (num bb 4) 4 (num_length bb 4).symm rfl (fun e => by cases e) SR.out (by have := HLN.out; have := hml.out; have := L2; omega) BL.out.size ?_; intro o6 w16 h6 b6; replace OW := hid h6; replace BL := hid (BL.out.trans b6); obtain ⟨y0, y1, y2, y3⟩ := HCE.out w16 BL.out; clear h6 b6))
            obtain ⟨E3, hE3⟩ : ∃ X, X = E2 ++ num bb 4 := ⟨_, rfl⟩
            have L3 : E3.length ≤ 170089 := by (rw [hE3, List.length_append, num_length]; omega)
            rw [← hE3] at OW
            have H3 := hid hE3
            clear hE3 SR
            refine (number_own c 8 _ kc0 (by omega) (by omega) (by omega)).mono ?_
            rintro e v7 ⟨g7, c7, rfl, s7, b7⟩
            have SR := hid s7
            replace OW := hid (Own.belows OW.out b7)
            replace BL := hid (BL.out.trans (b7.mono BL.out.size))
            clear s7 b7 y0 y1 y2 y3
            go_wp2_with (first | (at_builtin; refine wpList_append_b rfl (.tmp 70) (.tmp 77) rfl w.heap.size _ E3 rfl OW.out _ _ (num c 8) 8 (num_length c 8).symm rfl (fun e => by cases e) SR.out (by have := HLN.out; have := hml.out; have := L3; omega) BL.out.size ?_; intro o8 w18 h8 b8; replace OW := hid h8; replace BL := hid (BL.out.trans b8); obtain ⟨y0, y1, y2, y3⟩ := HCE.out w18 BL.out; clear h8 b8))
            obtain ⟨E4, hE4⟩ : ∃ X, X = E3 ++ num c 8 := ⟨_, rfl⟩
            have L4 : E4.length ≤ 170097 := by (rw [hE4, List.length_append, num_length]; omega)
            rw [← hE4] at OW
            have H4 := hid hE4
            clear hE4 SR
            have HAS : Hid (E4 = E ++ (nmb nm ++ (num a 8 ++ (num bb 4 ++ num c 8)))) := by
              show _ = _
              rw [H4.out, H3.out, H2.out, H1.out]
              simp
            have hfin := HEX.out _ _ HND.out (by rw [HEC.out, ← HAS.out]; exact OW.out) BL.out
            go_roundw
            case rel => exact ⟨k + 1, by go_num, hfin⟩
            case measure => simp [intOf]; omega
      · have HM : Hid (∀ W, Calls Try.prog 23 #[.agg (l.getD k zSn).cs, .int .i64 b] W fun x w' => x = .returned (.bool false) ∧ Below W.heap.size W w') := fun W => rmay_no_s hm HBT.out hi6 W
        have HOU : Hid (Out (Sn.May b) Sn.nm Sn.enc b l [] 2) := Or.inl ⟨fun h => hm (h.2.1 _ (getD_in l k zSn (by have := HN.out; omega))), rfl, rfl⟩
        have HBL := hid HI.out.bl
        obtain ⟨e, he⟩ : ∃ e, e = l.getD k zSn := ⟨_, rfl⟩
        rw [← he] at y0 y1 y2 y3 HM
        clear he hm hi6 HCE x0 x1 x2 x3
        obtain ⟨nm, a, bb, c⟩ := e
        dsimp only at y0 y1 y2 y3
        simp only [Sn.cs] at HM
        go_wp2_with (first | (go_at_call 23; refine (HM.out _).mono ?_; rintro e w1 ⟨rfl, b1⟩))
        go_ret2
        exact ⟨_, _, _, rfl, HOU.out, Own.nil _ _, HBL.out.trans (b1.mono HBL.out.size)⟩
    · have hkk : k = n := by omega
      rw [hkk] at HI
      obtain ⟨q1, q2⟩ := HI.out.lst HN.out
      have Q2 := hid q2
      have HBL := hid HI.out.bl
      clear hkk HI q2
      by_cases h64 : n ≤ 64
      · have HOU : Hid (Out (Sn.May b) Sn.nm Sn.enc b l (encs Sn.enc l) 0) := Or.inr (Or.inr ⟨HBT.out, q1, by have := HN.out; omega, rfl, rfl⟩)
        go_wp2_with fail
        go_ret2
        exact ⟨_, _, _, rfl, HOU.out, Q2.out, HBL.out⟩
      · have HOU : Hid (Out (Sn.May b) Sn.nm Sn.enc b l [] 3) := Or.inr (Or.inl ⟨HBT.out, q1, by have := HN.out; omega, rfl, rfl⟩)
        go_wp2_with fail
        go_ret2
        exact ⟨_, _, _, rfl, HOU.out, Own.nil _ _, HBL.out⟩
end Go.Proofs.Ytjjhkfhppoioiaa
