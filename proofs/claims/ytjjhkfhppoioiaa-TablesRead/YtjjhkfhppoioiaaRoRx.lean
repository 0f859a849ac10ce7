/- tables: the document's list of Rn, as bytes. -/
import Derived.Test.YtjjhkfhppoioiaaSbR
import Derived.Test.YtjjhkfhppoioiaaNx
import Derived.Test.YtjjhkfhppoioiaaTpR
import Derived.Test.YtjjhkfhppoioiaaArX
import Derived.BigQuiet
namespace Go.Proofs.Ytjjhkfhppoioiaa
open Go.RowKit
set_option linter.unusedVariables false
set_option maxRecDepth 100000 in
set_option maxHeartbeats 4000000 in
theorem rm_r_nA (b : Int) (e : Rn) (w : World) (hb : Bt b) (hi : e.i6) (hn : Hid (¬ Nm e.nm)) (l1 : e.c = 0) (l2 : e.d = 0) : Calls Try.prog 29 #[.agg e.cs, .int .i64 b] w fun x w' => x = .returned (.bool false) ∧ Below w.heap.size w w' := by
  obtain ⟨nm, a, b1, c, d⟩ := e
  obtain ⟨ia, ib, ic, id, inm⟩ := hi
  dsimp only at *
  subst l1
  subst l2
  unfold Rn.cs
  dsimp only
  go_enter Try.func29, Try.ntmps29
  go_wp2_with (first | (go_at_call 48; refine (rnamed_no hn.out inm _).mono ?_; rintro e w9 ⟨rfl, rfl⟩))
  go_ret
  exact ⟨ret_bool (by first | rfl | (simp; done) | (simp; omega) | omega), (Below.refl _ _).alloc (Nat.le_refl _) _⟩
set_option maxRecDepth 100000 in
set_option maxHeartbeats 4000000 in
theorem rm_r_yA1 (b : Int) (e : Rn) (w : World) (hb : Bt b) (hi : e.i6) (hn : Hid (Nm e.nm)) (l1 : e.c = 0) (l2 : e.d = 0) (s1 : ¬ 9 ≤ e.a) : Calls Try.prog 29 #[.agg e.cs, .int .i64 b] w fun x w' => x = .returned (.bool false) ∧ Below w.heap.size w w' := by
  obtain ⟨nm, a, b1, c, d⟩ := e
  obtain ⟨ia, ib, ic, id, inm⟩ := hi
  dsimp only at *
  subst l1
  subst l2
  unfold Rn.cs
  dsimp only
  go_enter Try.func29, Try.ntmps29
  go_wp2_with (first | (go_at_call 48; refine (rnamed_yes hn.out inm _).mono ?_; rintro e w9 ⟨rfl, rfl⟩))
  go_ret
  exact ⟨ret_bool (by first | rfl | (simp; done) | (simp; omega) | omega), (Below.refl _ _).alloc (Nat.le_refl _) _⟩
set_option maxRecDepth 100000 in
set_option maxHeartbeats 4000000 in
theorem rm_r_yA2 (b : Int) (e : Rn) (w : World) (hb : Bt b) (hi : e.i6) (hn : Hid (Nm e.nm)) (l1 : e.c = 0) (l2 : e.d = 0) (s1 : 9 ≤ e.a) (s2 : ¬ e.a ≤ 31) : Calls Try.prog 29 #[.agg e.cs, .int .i64 b] w fun x w' => x = .returned (.bool false) ∧ Below w.heap.size w w' := by
  obtain ⟨nm, a, b1, c, d⟩ := e
  obtain ⟨ia, ib, ic, id, inm⟩ := hi
  dsimp only at *
  subst l1
  subst l2
  unfold Rn.cs
  dsimp only
  go_enter Try.func29, Try.ntmps29
  go_wp2_with (first | (go_at_call 48; refine (rnamed_yes hn.out inm _).mono ?_; rintro e w9 ⟨rfl, rfl⟩))
  go_ret
  exact ⟨ret_bool (by first | rfl | (simp; done) | (simp; omega) | omega), (Below.refl _ _).alloc (Nat.le_refl _) _⟩
set_option maxRecDepth 100000 in
set_option maxHeartbeats 4000000 in
theorem rm_r_yA3 (b : Int) (e : Rn) (w : World) (hb : Bt b) (hi : e.i6) (hn : Hid (Nm e.nm)) (l1 : e.c = 0) (l2 : e.d = 0) (s1 : 9 ≤ e.a) (s2 : e.a ≤ 31) (s3 : ¬ 0 ≤ e.b) : Calls Try.prog 29 #[.agg e.cs, .int .i64 b] w fun x w' => x = .returned (.bool false) ∧ Below w.heap.size w w' := by
  obtain ⟨nm, a, b1, c, d⟩ := e
  obtain ⟨ia, ib, ic, id, inm⟩ := hi
  dsimp only at *
  subst l1
  subst l2
  unfold Rn.cs
  dsimp only
  go_enter Try.func29, Try.ntmps29
  go_wp2_with (first | (go_at_call 48; refine (rnamed_yes hn.out inm _).mono ?_; rintro e w9 ⟨rfl, rfl⟩))
  go_ret
  exact ⟨ret_bool (by first | rfl | (simp; done) | (simp; omega) | omega), (Below.refl _ _).alloc (Nat.le_refl _) _⟩
set_option maxRecDepth 100000 in
set_option maxHeartbeats 4000000 in
theorem rm_r_yA4 (b : Int) (e : Rn) (w : World) (hb : Bt b) (hi : e.i6) (hn : Hid (Nm e.nm)) (l1 : e.c = 0) (l2 : e.d = 0) (s1 : 9 ≤ e.a) (s2 : e.a ≤ 31) (s3 : 0 ≤ e.b) (s4 : ¬ e.b ≤ 3) : Calls Try.prog 29 #[.agg e.cs, .int .i64 b] w fun x w' => x = .returned (.bool false) ∧ Below w.heap.size w w' := by
  obtain ⟨nm, a, b1, c, d⟩ := e
  obtain ⟨ia, ib, ic, id, inm⟩ := hi
  dsimp only at *
  subst l1
  subst l2
  unfold Rn.cs
  dsimp only
  go_enter Try.func29, Try.ntmps29
  go_wp2_with (first | (go_at_call 48; refine (rnamed_yes hn.out inm _).mono ?_; rintro e w9 ⟨rfl, rfl⟩))
  go_ret
  exact ⟨ret_bool (by first | rfl | (simp; done) | (simp; omega) | omega), (Below.refl _ _).alloc (Nat.le_refl _) _⟩
set_option maxRecDepth 100000 in
set_option maxHeartbeats 4000000 in
theorem rm_r_yA5 (b : Int) (e : Rn) (w : World) (hb : Bt b) (hi : e.i6) (hn : Hid (Nm e.nm)) (l1 : e.c = 0) (l2 : e.d = 0) (s1 : 9 ≤ e.a) (s2 : e.a ≤ 31) (s3 : 0 ≤ e.b) (s4 : e.b ≤ 3) : Calls Try.prog 29 #[.agg e.cs, .int .i64 b] w fun x w' => x = .returned (.bool true) ∧ Below w.heap.size w w' := by
  obtain ⟨nm, a, b1, c, d⟩ := e
  obtain ⟨ia, ib, ic, id, inm⟩ := hi
  dsimp only at *
  subst l1
  subst l2
  unfold Rn.cs
  dsimp only
  go_enter Try.func29, Try.ntmps29
  go_wp2_with (first | (go_at_call 48; refine (rnamed_yes hn.out inm _).mono ?_; rintro e w9 ⟨rfl, rfl⟩))
  go_ret
  exact ⟨ret_bool (by first | rfl | (simp; done) | (simp; omega) | omega), (Below.refl _ _).alloc (Nat.le_refl _) _⟩
set_option maxRecDepth 100000 in
set_option maxHeartbeats 4000000 in
theorem rm_r_nB (b : Int) (e : Rn) (w : World) (hb : Bt b) (hi : e.i6) (hn : Hid (¬ Nm e.nm)) (l1 : e.c = 0) (l2 : ¬ e.d = 0) (hp : Hid (¬ Plc (clu b) e.c)) : Calls Try.prog 29 #[.agg e.cs, .int .i64 b] w fun x w' => x = .returned (.bool false) ∧ Below w.heap.size w w' := by
  obtain ⟨nm, a, b1, c, d⟩ := e
  obtain ⟨ia, ib, ic, id, inm⟩ := hi
  dsimp only at *
  subst l1
  have d2 : (d == 0) = false := by simpa using l2
  unfold Rn.cs
  dsimp only
  go_enter Try.func29, Try.ntmps29
  go_wp2_with (first | (go_at_call 48; refine (rnamed_no hn.out inm _).mono ?_; rintro e w9 ⟨rfl, rfl⟩) | (go_at_call 47; refine (rplace_no hp.out ic hb _).mono ?_; rintro e w9 ⟨rfl, rfl⟩))
  go_ret
  exact ⟨ret_bool (by first | rfl | (simp; done) | (simp; omega) | omega), (Below.refl _ _).alloc (Nat.le_refl _) _⟩
set_option maxRecDepth 100000 in
set_option maxHeartbeats 4000000 in
theorem rm_r_yB (b : Int) (e : Rn) (w : World) (hb : Bt b) (hi : e.i6) (hn : Hid (Nm e.nm)) (l1 : e.c = 0) (l2 : ¬ e.d = 0) (hp : Hid (¬ Plc (clu b) e.c)) : Calls Try.prog 29 #[.agg e.cs, .int .i64 b] w fun x w' => x = .returned (.bool false) ∧ Below w.heap.size w w' := by
  obtain ⟨nm, a, b1, c, d⟩ := e
  obtain ⟨ia, ib, ic, id, inm⟩ := hi
  dsimp only at *
  subst l1
  have d2 : (d == 0) = false := by simpa using l2
  unfold Rn.cs
  dsimp only
  go_enter Try.func29, Try.ntmps29
  go_wp2_with (first | (go_at_call 48; refine (rnamed_yes hn.out inm _).mono ?_; rintro e w9 ⟨rfl, rfl⟩) | (go_at_call 47; refine (rplace_no hp.out ic hb _).mono ?_; rintro e w9 ⟨rfl, rfl⟩))
  go_ret
  exact ⟨ret_bool (by first | rfl | (simp; done) | (simp; omega) | omega), (Below.refl _ _).alloc (Nat.le_refl _) _⟩
set_option maxRecDepth 100000 in
set_option maxHeartbeats 4000000 in
theorem rm_r_nC (b : Int) (e : Rn) (w : World) (hb : Bt b) (hi : e.i6) (hn : Hid (¬ Nm e.nm)) (l1 : ¬ e.c = 0) (l2 : 1 ≤ e.d) (l3 : e.d ≤ 16777216) (hp : Hid (Plc (clu b) e.c)) : Calls Try.prog 29 #[.agg e.cs, .int .i64 b] w fun x w' => x = .returned (.bool false) ∧ Below w.heap.size w w' := by
  obtain ⟨nm, a, b1, c, d⟩ := e
  obtain ⟨ia, ib, ic, id, inm⟩ := hi
  dsimp only at *
  have d1 : (c == 0) = false := by simpa using l1
  unfold Rn.cs
  dsimp only
  go_enter Try.func29, Try.ntmps29
  go_wp2_with (first | (go_at_call 48; refine (rnamed_no hn.out inm _).mono ?_; rintro e w9 ⟨rfl, rfl⟩) | (go_at_call 47; refine (rplace_yes hp.out ic hb _).mono ?_; rintro e w9 ⟨rfl, rfl⟩))
  go_ret
  exact ⟨ret_bool (by first | rfl | (simp; done) | (simp; omega) | omega), (Below.refl _ _).alloc (Nat.le_refl _) _⟩
set_option maxRecDepth 100000 in
set_option maxHeartbeats 4000000 in
theorem rm_r_yC1 (b : Int) (e : Rn) (w : World) (hb : Bt b) (hi : e.i6) (hn : Hid (Nm e.nm)) (l1 : ¬ e.c = 0) (l2 : 1 ≤ e.d) (l3 : e.d ≤ 16777216) (hp : Hid (Plc (clu b) e.c)) (s1 : ¬ 9 ≤ e.a) : Calls Try.prog 29 #[.agg e.cs, .int .i64 b] w fun x w' => x = .returned (.bool false) ∧ Below w.heap.size w w' := by
  obtain ⟨nm, a, b1, c, d⟩ := e
  obtain ⟨ia, ib, ic, id, inm⟩ := hi
  dsimp only at *
  have d1 : (c == 0) = false := by simpa using l1
  unfold Rn.cs
  dsimp only
  go_enter Try.func29, Try.ntmps29
  go_wp2_with (first | (go_at_call 48; refine (rnamed_yes hn.out inm _).mono ?_; rintro e w9 ⟨rfl, rfl⟩) | (go_at_call 47; refine (rplace_yes hp.out ic hb _).mono ?_; rintro e w9 ⟨rfl, rfl⟩))
  go_ret
  exact ⟨ret_bool (by first | rfl | (simp; done) | (simp; omega) | omega), (Below.refl _ _).alloc (Nat.le_refl _) _⟩
set_option maxRecDepth 100000 in
set_option maxHeartbeats 4000000 in
theorem rm_r_yC2 (b : Int) (e : Rn) (w : World) (hb : Bt b) (hi : e.i6) (hn : Hid (Nm e.nm)) (l1 : ¬ e.c = 0) (l2 : 1 ≤ e.d) (l3 : e.d ≤ 16777216) (hp : Hid (Plc (clu b) e.c)) (s1 : 9 ≤ e.a) (s2 : ¬ e.a ≤ 31) : Calls Try.prog 29 #[.agg e.cs, .int .i64 b] w fun x w' => x = .returned (.bool false) ∧ Below w.heap.size w w' := by
  obtain ⟨nm, a, b1, c, d⟩ := e
  obtain ⟨ia, ib, ic, id, inm⟩ := hi
  dsimp only at *
  have d1 : (c == 0) = false := by simpa using l1
  unfold Rn.cs
  dsimp only
  go_enter Try.func29, Try.ntmps29
  go_wp2_with (first | (go_at_call 48; refine (rnamed_yes hn.out inm _).mono ?_; rintro e w9 ⟨rfl, rfl⟩) | (go_at_call 47; refine (rplace_yes hp.out ic hb _).mono ?_; rintro e w9 ⟨rfl, rfl⟩))
  go_ret
  exact ⟨ret_bool (by first | rfl | (simp; done) | (simp; omega) | omega), (Below.refl _ _).alloc (Nat.le_refl _) _⟩
set_option maxRecDepth 100000 in
set_option maxHeartbeats 4000000 in
theorem rm_r_yC3 (b : Int) (e : Rn) (w : World) (hb : Bt b) (hi : e.i6) (hn : Hid (Nm e.nm)) (l1 : ¬ e.c = 0) (l2 : 1 ≤ e.d) (l3 : e.d ≤ 16777216) (hp : Hid (Plc (clu b) e.c)) (s1 : 9 ≤ e.a) (s2 : e.a ≤ 31) (s3 : ¬ 0 ≤ e.b) : Calls Try.prog 29 #[.agg e.cs, .int .i64 b] w fun x w' => x = .returned (.bool false) ∧ Below w.heap.size w w' := by
  obtain ⟨nm, a, b1, c, d⟩ := e
  obtain ⟨ia, ib, ic, id, inm⟩ := hi
  dsimp only at *
  have d1 : (c == 0) = false := by simpa using l1
  unfold Rn.cs
  dsimp only
  go_enter Try.func29, Try.ntmps29
  go_wp2_with (first | (go_at_call 48; refine (rnamed_yes hn.out inm _).mono ?_; rintro e w9 ⟨rfl, rfl⟩) | (go_at_call 47; refine (rplace_yes hp.out ic hb _).mono ?_; rintro e w9 ⟨rfl, rfl⟩))
  go_ret
  exact ⟨ret_bool (by first | rfl | (simp; done) | (simp; omega) | omega), (Below.refl _ _).alloc (Nat.le_refl _) _⟩
set_option maxRecDepth 100000 in
set_option maxHeartbeats 4000000 in
theorem rm_r_yC4 (b : Int) (e : Rn) (w : World) (hb : Bt b) (hi : e.i6) (hn : Hid (Nm e.nm)) (l1 : ¬ e.c = 0) (l2 : 1 ≤ e.d) (l3 : e.d ≤ 16777216) (hp : Hid (Plc (clu b) e.c)) (s1 : 9 ≤ e.a) (s2 : e.a ≤ 31) (s3 : 0 ≤ e.b) (s4 : ¬ e.b ≤ 3) : Calls Try.prog 29 #[.agg e.cs, .int .i64 b] w fun x w' => x = .returned (.bool false) ∧ Below w.heap.size w w' := by
  obtain ⟨nm, a, b1, c, d⟩ := e
  obtain ⟨ia, ib, ic, id, inm⟩ := hi
  dsimp only at *
  have d1 : (c == 0) = false := by simpa using l1
  unfold Rn.cs
  dsimp only
  go_enter Try.func29, Try.ntmps29
  go_wp2_with (first | (go_at_call 48; refine (rnamed_yes hn.out inm _).mono ?_; rintro e w9 ⟨rfl, rfl⟩) | (go_at_call 47; refine (rplace_yes hp.out ic hb _).mono ?_; rintro e w9 ⟨rfl, rfl⟩))
  go_ret
  exact ⟨ret_bool (by first | rfl | (simp; done) | (simp; omega) | omega), (Below.refl _ _).alloc (Nat.le_refl _) _⟩
set_option maxRecDepth 100000 in
set_option maxHeartbeats 4000000 in
theorem rm_r_yC5 (b : Int) (e : Rn) (w : World) (hb : Bt b) (hi : e.i6) (hn : Hid (Nm e.nm)) (l1 : ¬ e.c = 0) (l2 : 1 ≤ e.d) (l3 : e.d ≤ 16777216) (hp : Hid (Plc (clu b) e.c)) (s1 : 9 ≤ e.a) (s2 : e.a ≤ 31) (s3 : 0 ≤ e.b) (s4 : e.b ≤ 3) : Calls Try.prog 29 #[.agg e.cs, .int .i64 b] w fun x w' => x = .returned (.bool true) ∧ Below w.heap.size w w' := by
  obtain ⟨nm, a, b1, c, d⟩ := e
  obtain ⟨ia, ib, ic, id, inm⟩ := hi
  dsimp only at *
  have d1 : (c == 0) = false := by simpa using l1
  unfold Rn.cs
  dsimp only
  go_enter Try.func29, Try.ntmps29
  go_wp2_with (first | (go_at_call 48; refine (rnamed_yes hn.out inm _).mono ?_; rintro e w9 ⟨rfl, rfl⟩) | (go_at_call 47; refine (rplace_yes hp.out ic hb _).mono ?_; rintro e w9 ⟨rfl, rfl⟩))
  go_ret
  exact ⟨ret_bool (by first | rfl | (simp; done) | (simp; omega) | omega), (Below.refl _ _).alloc (Nat.le_refl _) _⟩
set_option maxRecDepth 100000 in
set_option maxHeartbeats 4000000 in
theorem rm_r_nF (b : Int) (e : Rn) (w : World) (hb : Bt b) (hi : e.i6) (hn : Hid (¬ Nm e.nm)) (l1 : ¬ e.c = 0) (l2 : 1 ≤ e.d) (l3 : ¬ e.d ≤ 16777216) (hp : Hid (Plc (clu b) e.c)) : Calls Try.prog 29 #[.agg e.cs, .int .i64 b] w fun x w' => x = .returned (.bool false) ∧ Below w.heap.size w w' := by
  obtain ⟨nm, a, b1, c, d⟩ := e
  obtain ⟨ia, ib, ic, id, inm⟩ := hi
  dsimp only at *
  have d1 : (c == 0) = false := by simpa using l1
  unfold Rn.cs
  dsimp only
  go_enter Try.func29, Try.ntmps29
  go_wp2_with (first | (go_at_call 48; refine (rnamed_no hn.out inm _).mono ?_; rintro e w9 ⟨rfl, rfl⟩) | (go_at_call 47; refine (rplace_yes hp.out ic hb _).mono ?_; rintro e w9 ⟨rfl, rfl⟩))
  go_ret
  exact ⟨ret_bool (by first | rfl | (simp; done) | (simp; omega) | omega), (Below.refl _ _).alloc (Nat.le_refl _) _⟩
set_option maxRecDepth 100000 in
set_option maxHeartbeats 4000000 in
theorem rm_r_yF (b : Int) (e : Rn) (w : World) (hb : Bt b) (hi : e.i6) (hn : Hid (Nm e.nm)) (l1 : ¬ e.c = 0) (l2 : 1 ≤ e.d) (l3 : ¬ e.d ≤ 16777216) (hp : Hid (Plc (clu b) e.c)) : Calls Try.prog 29 #[.agg e.cs, .int .i64 b] w fun x w' => x = .returned (.bool false) ∧ Below w.heap.size w w' := by
  obtain ⟨nm, a, b1, c, d⟩ := e
  obtain ⟨ia, ib, ic, id, inm⟩ := hi
  dsimp only at *
  have d1 : (c == 0) = false := by simpa using l1
  unfold Rn.cs
  dsimp only
  go_enter Try.func29, Try.ntmps29
  go_wp2_with (first | (go_at_call 48; refine (rnamed_yes hn.out inm _).mono ?_; rintro e w9 ⟨rfl, rfl⟩) | (go_at_call 47; refine (rplace_yes hp.out ic hb _).mono ?_; rintro e w9 ⟨rfl, rfl⟩))
  go_ret
  exact ⟨ret_bool (by first | rfl | (simp; done) | (simp; omega) | omega), (Below.refl _ _).alloc (Nat.le_refl _) _⟩
set_option maxRecDepth 100000 in
set_option maxHeartbeats 4000000 in
theorem rm_r_nG (b : Int) (e : Rn) (w : World) (hb : Bt b) (hi : e.i6) (hn : Hid (¬ Nm e.nm)) (l1 : ¬ e.c = 0) (l2 : ¬ 1 ≤ e.d) (hp : Hid (Plc (clu b) e.c)) : Calls Try.prog 29 #[.agg e.cs, .int .i64 b] w fun x w' => x = .returned (.bool false) ∧ Below w.heap.size w w' := by
  obtain ⟨nm, a, b1, c, d⟩ := e
  obtain ⟨ia, ib, ic, id, inm⟩ := hi
  dsimp only at *
  have d1 : (c == 0) = false := by simpa using l1
  unfold Rn.cs
  dsimp only
  go_enter Try.func29, Try.ntmps29
  go_wp2_with (first | (go_at_call 48; refine (rnamed_no hn.out inm _).mono ?_; rintro e w9 ⟨rfl, rfl⟩) | (go_at_call 47; refine (rplace_yes hp.out ic hb _).mono ?_; rintro e w9 ⟨rfl, rfl⟩))
  go_ret
  exact ⟨ret_bool (by first | rfl | (simp; done) | (simp; omega) | omega), (Below.refl _ _).alloc (Nat.le_refl _) _⟩
set_option maxRecDepth 100000 in
set_option maxHeartbeats 4000000 in
theorem rm_r_yG (b : Int) (e : Rn) (w : World) (hb : Bt b) (hi : e.i6) (hn : Hid (Nm e.nm)) (l1 : ¬ e.c = 0) (l2 : ¬ 1 ≤ e.d) (hp : Hid (Plc (clu b) e.c)) : Calls Try.prog 29 #[.agg e.cs, .int .i64 b] w fun x w' => x = .returned (.bool false) ∧ Below w.heap.size w w' := by
  obtain ⟨nm, a, b1, c, d⟩ := e
  obtain ⟨ia, ib, ic, id, inm⟩ := hi
  dsimp only at *
  have d1 : (c == 0) = false := by simpa using l1
  unfold Rn.cs
  dsimp only
  go_enter Try.func29, Try.ntmps29
  go_wp2_with (first | (go_at_call 48; refine (rnamed_yes hn.out inm _).mono ?_; rintro e w9 ⟨rfl, rfl⟩) | (go_at_call 47; refine (rplace_yes hp.out ic hb _).mono ?_; rintro e w9 ⟨rfl, rfl⟩))
  go_ret
  exact ⟨ret_bool (by first | rfl | (simp; done) | (simp; omega) | omega), (Below.refl _ _).alloc (Nat.le_refl _) _⟩
set_option maxRecDepth 100000 in
set_option maxHeartbeats 4000000 in
theorem rm_r_nD (b : Int) (e : Rn) (w : World) (hb : Bt b) (hi : e.i6) (hn : Hid (¬ Nm e.nm)) (l1 : ¬ e.c = 0) (hp : Hid (¬ Plc (clu b) e.c)) : Calls Try.prog 29 #[.agg e.cs, .int .i64 b] w fun x w' => x = .returned (.bool false) ∧ Below w.heap.size w w' := by
  obtain ⟨nm, a, b1, c, d⟩ := e
  obtain ⟨ia, ib, ic, id, inm⟩ := hi
  dsimp only at *
  have d1 : (c == 0) = false := by simpa using l1
  unfold Rn.cs
  dsimp only
  go_enter Try.func29, Try.ntmps29
  go_wp2_with (first | (go_at_call 48; refine (rnamed_no hn.out inm _).mono ?_; rintro e w9 ⟨rfl, rfl⟩) | (go_at_call 47; refine (rplace_no hp.out ic hb _).mono ?_; rintro e w9 ⟨rfl, rfl⟩))
  go_ret
  exact ⟨ret_bool (by first | rfl | (simp; done) | (simp; omega) | omega), (Below.refl _ _).alloc (Nat.le_refl _) _⟩
set_option maxRecDepth 100000 in
set_option maxHeartbeats 4000000 in
theorem rm_r_yD (b : Int) (e : Rn) (w : World) (hb : Bt b) (hi : e.i6) (hn : Hid (Nm e.nm)) (l1 : ¬ e.c = 0) (hp : Hid (¬ Plc (clu b) e.c)) : Calls Try.prog 29 #[.agg e.cs, .int .i64 b] w fun x w' => x = .returned (.bool false) ∧ Below w.heap.size w w' := by
  obtain ⟨nm, a, b1, c, d⟩ := e
  obtain ⟨ia, ib, ic, id, inm⟩ := hi
  dsimp only at *
  have d1 : (c == 0) = false := by simpa using l1
  unfold Rn.cs
  dsimp only
  go_enter Try.func29, Try.ntmps29
  go_wp2_with (first | (go_at_call 48; refine (rnamed_yes hn.out inm _).mono ?_; rintro e w9 ⟨rfl, rfl⟩) | (go_at_call 47; refine (rplace_no hp.out ic hb _).mono ?_; rintro e w9 ⟨rfl, rfl⟩))
  go_ret
  exact ⟨ret_bool (by first | rfl | (simp; done) | (simp; omega) | omega), (Below.refl _ _).alloc (Nat.le_refl _) _⟩
theorem rmay_r (b : Int) (e : Rn) (w : World) (hb : Bt b) (hi : e.i6) : Calls Try.prog 29 #[.agg e.cs, .int .i64 b] w fun x w' => Tells x (e.May b) ∧ Below w.heap.size w w' := by
  have no : ∀ {x : Ending} {w' : World}, ¬ e.May b → (x = .returned (.bool false) ∧ Below w.heap.size w w') → Tells x (e.May b) ∧ Below w.heap.size w w' := fun q h => ⟨.inr ⟨q, h.1⟩, h.2⟩
  have yes : ∀ {x : Ending} {w' : World}, e.May b → (x = .returned (.bool true) ∧ Below w.heap.size w w') → Tells x (e.May b) ∧ Below w.heap.size w w' := fun q h => ⟨.inl ⟨q, h.1⟩, h.2⟩
  by_cases hn : Nm e.nm
  · by_cases l1 : e.c = 0
    · by_cases l2 : e.d = 0
      · by_cases s1 : 9 ≤ e.a
        · by_cases s2 : e.a ≤ 31
          · by_cases s3 : 0 ≤ e.b
            · by_cases s4 : e.b ≤ 3
              · exact (rm_r_yA5 b e w hb hi (hid hn) l1 l2 s1 s2 s3 s4).mono (fun _ _ h => yes ⟨hn, Or.inl ⟨l2, l1⟩, s1, s2, s3, s4⟩ h)
              · exact (rm_r_yA4 b e w hb hi (hid hn) l1 l2 s1 s2 s3 s4).mono (fun _ _ h => no (fun m => s4 m.2.2.2.2.2) h)
            · exact (rm_r_yA3 b e w hb hi (hid hn) l1 l2 s1 s2 s3).mono (fun _ _ h => no (fun m => s3 m.2.2.2.2.1) h)
          · exact (rm_r_yA2 b e w hb hi (hid hn) l1 l2 s1 s2).mono (fun _ _ h => no (fun m => s2 m.2.2.2.1) h)
        · exact (rm_r_yA1 b e w hb hi (hid hn) l1 l2 s1).mono (fun _ _ h => no (fun m => s1 m.2.2.1) h)
      · have hp : ¬ Plc (clu b) e.c := fun q => by have := q.1; omega
        exact (rm_r_yB b e w hb hi (hid hn) l1 l2 (hid hp)).mono (fun _ _ h => no (fun m => by rcases m.2.1 with h | h; (· exact l2 h.1); (· exact hp h.2.2)) h)
    · by_cases hp : Plc (clu b) e.c
      · by_cases l2 : 1 ≤ e.d
        · by_cases l3 : e.d ≤ 16777216
          · by_cases s1 : 9 ≤ e.a
            · by_cases s2 : e.a ≤ 31
              · by_cases s3 : 0 ≤ e.b
                · by_cases s4 : e.b ≤ 3
                  · exact (rm_r_yC5 b e w hb hi (hid hn) l1 l2 l3 (hid hp) s1 s2 s3 s4).mono (fun _ _ h => yes ⟨hn, Or.inr ⟨by omega, l3, hp⟩, s1, s2, s3, s4⟩ h)
                  · exact (rm_r_yC4 b e w hb hi (hid hn) l1 l2 l3 (hid hp) s1 s2 s3 s4).mono (fun _ _ h => no (fun m => s4 m.2.2.2.2.2) h)
                · exact (rm_r_yC3 b e w hb hi (hid hn) l1 l2 l3 (hid hp) s1 s2 s3).mono (fun _ _ h => no (fun m => s3 m.2.2.2.2.1) h)
              · exact (rm_r_yC2 b e w hb hi (hid hn) l1 l2 l3 (hid hp) s1 s2).mono (fun _ _ h => no (fun m => s2 m.2.2.2.1) h)
            · exact (rm_r_yC1 b e w hb hi (hid hn) l1 l2 l3 (hid hp) s1).mono (fun _ _ h => no (fun m => s1 m.2.2.1) h)
          · exact (rm_r_yF b e w hb hi (hid hn) l1 l2 l3 (hid hp)).mono (fun _ _ h => no (fun m => by rcases m.2.1 with h | h; (· exact l1 h.2); (· exact l3 h.2.1)) h)
        · exact (rm_r_yG b e w hb hi (hid hn) l1 l2 (hid hp)).mono (fun _ _ h => no (fun m => by rcases m.2.1 with h | h; (· exact l1 h.2); (· have := h.1; omega)) h)
      · exact (rm_r_yD b e w hb hi (hid hn) l1 (hid hp)).mono (fun _ _ h => no (fun m => by rcases m.2.1 with h | h; (· exact l1 h.2); (· exact hp h.2.2)) h)
  · by_cases l1 : e.c = 0
    · by_cases l2 : e.d = 0
      · exact (rm_r_nA b e w hb hi (hid hn) l1 l2).mono (fun _ _ h => no (fun m => hn m.1) h)
      · have hp : ¬ Plc (clu b) e.c := fun q => by have := q.1; omega
        exact (rm_r_nB b e w hb hi (hid hn) l1 l2 (hid hp)).mono (fun _ _ h => no (fun m => hn m.1) h)
    · by_cases hp : Plc (clu b) e.c
      · by_cases l2 : 1 ≤ e.d
        · by_cases l3 : e.d ≤ 16777216
          · exact (rm_r_nC b e w hb hi (hid hn) l1 l2 l3 (hid hp)).mono (fun _ _ h => no (fun m => hn m.1) h)
          · exact (rm_r_nF b e w hb hi (hid hn) l1 l2 l3 (hid hp)).mono (fun _ _ h => no (fun m => hn m.1) h)
        · exact (rm_r_nG b e w hb hi (hid hn) l1 l2 (hid hp)).mono (fun _ _ h => no (fun m => hn m.1) h)
      · exact (rm_r_nD b e w hb hi (hid hn) l1 (hid hp)).mono (fun _ _ h => no (fun m => hn m.1) h)
end Go.Proofs.Ytjjhkfhppoioiaa

namespace Go.Proofs.Ytjjhkfhppoioiaa
open Go.RowKit
set_option linter.unusedVariables false
theorem rmay_yes_r {b : Int} {e : Rn} (h : e.May b) (hb : Bt b) (hi : e.i6) (w : World) : Calls Try.prog 29 #[.agg e.cs, .int .i64 b] w fun x w' => x = .returned (.bool true) ∧ Below w.heap.size w w' := by
  refine (rmay_r b e w hb hi).mono ?_
  rintro x w' ⟨⟨_, rfl⟩ | ⟨q, _⟩, ew⟩
  · exact ⟨rfl, ew⟩
  · exact absurd h q
theorem rmay_no_r {b : Int} {e : Rn} (h : ¬ e.May b) (hb : Bt b) (hi : e.i6) (w : World) : Calls Try.prog 29 #[.agg e.cs, .int .i64 b] w fun x w' => x = .returned (.bool false) ∧ Below w.heap.size w w' := by
  refine (rmay_r b e w hb hi).mono ?_
  rintro x w' ⟨⟨q, _⟩ | ⟨_, rfl⟩, ew⟩
  · exact absurd q h
  · exact ⟨rfl, ew⟩
theorem num_1r (x : Int) : num x 1 = [x % 256] := by simp [num]
theorem Rn.small {b : Int} {e : Rn} (h : e.May b) : e.a ≤ 31 ∧ e.b ≤ 3 ∧ e.c ≤ 268435456 ∧ e.d ≤ 16777216 := by
  have := h.2.1.bd (by omega)
  obtain ⟨_, _, h1, h2, h3, h4⟩ := h
  omega
theorem Own.belowr {w w' : World} {base : Nat} {v : Value} {xs : List Int} (h : Own w base v xs) (k : Below w.heap.size w w') : Own w' base v xs := ownsRow_kp (F := fun _ => False) h (Kp.of_below k) (fun _ _ x => x)
/-- What the loop holds. -/
structure RIr (b : Int) (l : List Rn) (w : World) (n k : Nat) (o : Value) (W : World) : Prop where
  le : k ≤ n
  own : Own W w.heap.size o (encs Rn.enc (l.take k))
  may : ∀ j, j < k → (l.getD j zRn).May b
  nd : ∀ j, j < k → ∀ q, q < j → (l.getD q zRn).nm ≠ (l.getD j zRn).nm
  bl : Below w.heap.size w W
theorem RIr.lst {b : Int} {l : List Rn} {w : World} {n : Nat} {o : Value} {W : World} (h : RIr b l w n n o W) (hn : n = l.length) : Lst (Rn.May b) Rn.nm l ∧ Own W w.heap.size o (encs Rn.enc l) := by
  refine ⟨⟨fun e he => ?_, nodup_of zRn ?_⟩, ?_⟩
  · obtain ⟨i, hi, rfl⟩ := List.getElem_of_mem he
    have := h.may i (by omega)
    rwa [getD_lt l i zRn hi] at this
  · intro i hi j hj
    exact h.nd i (by omega) j hj
  · have := h.own
    rw [hn, List.take_length] at this
    exact this
theorem RIr.len {b : Int} {l : List Rn} {w : World} {n k : Nat} {o : Value} {W : World} (h : RIr b l w n k o W) (hn : n = l.length) (hn2 : n ≤ 2000) : (encs Rn.enc (l.take k)).length ≤ 170000 := by
  have := encs_boundr b (l.take k) (fun e he => by
    obtain ⟨j, hj, rfl⟩ := List.getElem_of_mem he
    rw [List.length_take] at hj
    rw [List.getElem_take]
    have := h.may j (by omega)
    rwa [getD_lt l j zRn (by omega)] at this)
  rw [List.length_take] at this
  have := h.le
  omega
theorem RIr.next {b : Int} {l : List Rn} {w : World} {n k : Nat} {o o' : Value} {W W' : World} (h : RIr b l w n k o W) (hn : n = l.length) (hk : k < n) (hm : (l.getD k zRn).May b) (hq : ∀ q, q < k → (l.getD q zRn).nm ≠ (l.getD k zRn).nm) (ho : Own W' w.heap.size o' (encs Rn.enc (l.take k) ++ (l.getD k zRn).enc)) (hb : Below w.heap.size w W') : RIr b l w n (k + 1) o' W' := by
  refine ⟨hk, ?_, fun j hj => ?_, fun j hj q hq2 => ?_, hb⟩
  · rw [encs_take Rn.enc l k zRn (by omega)]
    exact ho
  · by_cases e : j = k
    · rw [e]; exact hm
    · exact h.may j (by omega)
  · by_cases e : j = k
    · rw [e] at hq2 ⊢; exact hq q hq2
    · exact h.nd j (by omega) q hq2
def q14r15_0 : Oper := { dst := some 52, op := Go.Op.move (Go.Operand.tmp 6), type := 26, pos := "ref.go:84", after := #[], guard := none }
def q14r15_1 : Oper := { dst := some 53, op := Go.Op.move (Go.Operand.tmp 1), type := 36, pos := "ref.go:84", after := #[], guard := none }
def q14r15_2 : Oper := { dst := some 54, op := Go.Op.move (Go.Operand.tmp 7), type := 3, pos := "ref.go:84", after := #[], guard := none }
def q14r15_3 : Oper := { dst := some 55, op := Go.Op.indexAddr 36 (Go.Operand.tmp 53) (Go.Operand.tmp 54), type := 0, pos := "ref.go:84", after := #[{ on := 1, ground := Go.Ground.data }, { on := 2, ground := Go.Ground.data }], guard := none }
def q14r15_4 : Oper := { dst := some 56, op := Go.Op.fieldAddr 38 (Go.Operand.tmp 55) 1, type := 0, pos := "ref.go:84", after := #[{ on := 3, ground := Go.Ground.data }], guard := none }
def q14r15_5 : Oper := { dst := some 57, op := Go.Op.load 3 (Go.Operand.tmp 56), type := 3, pos := "ref.go:84", after := #[{ on := 4, ground := Go.Ground.data }], guard := none }
def q14r15_6 : Oper := { dst := some 58, op := Go.Op.convert 3 5 (Go.Operand.tmp 57), type := 5, pos := "ref.go:84", after := #[{ on := 5, ground := Go.Ground.data }], guard := none }
def q14r15_7 : Oper := { dst := some 59, op := Go.Op.move (Go.Operand.tmp 1), type := 36, pos := "ref.go:84", after := #[], guard := none }
def q14r15_8 : Oper := { dst := some 60, op := Go.Op.move (Go.Operand.tmp 7), type := 3, pos := "ref.go:84", after := #[], guard := none }
def q14r15_9 : Oper := { dst := some 61, op := Go.Op.indexAddr 36 (Go.Operand.tmp 59) (Go.Operand.tmp 60), type := 0, pos := "ref.go:84", after := #[{ on := 7, ground := Go.Ground.data }, { on := 8, ground := Go.Ground.data }], guard := none }
def q14r15_10 : Oper := { dst := some 62, op := Go.Op.fieldAddr 38 (Go.Operand.tmp 61) 2, type := 0, pos := "ref.go:84", after := #[{ on := 9, ground := Go.Ground.data }], guard := none }
def q14r15_11 : Oper := { dst := some 63, op := Go.Op.load 3 (Go.Operand.tmp 62), type := 3, pos := "ref.go:84", after := #[{ on := 10, ground := Go.Ground.data }], guard := none }
def q14r15_12 : Oper := { dst := some 64, op := Go.Op.convert 3 5 (Go.Operand.tmp 63), type := 5, pos := "ref.go:84", after := #[{ on := 11, ground := Go.Ground.data }], guard := none }
def q14r15_13 : Oper := { dst := some 65, op := Go.Op.buildSlice 26 2 #[(0, Go.Operand.tmp 58), (1, Go.Operand.tmp 64)], type := 26, pos := "ref.go:84", after := #[{ on := 6, ground := Go.Ground.data }, { on := 12, ground := Go.Ground.data }], guard := none }
def q14r15_14 : Oper := { dst := some 66, op := Go.Op.call { callee := Go.Callee.builtin Go.Builtin.append, args := #[Go.Operand.tmp 52, Go.Operand.tmp 65], argTypes := #[26, 26] }, type := 26, pos := "ref.go:84", after := #[{ on := 0, ground := Go.Ground.data }, { on := 13, ground := Go.Ground.data }], guard := none }
def q14r15_15 : Oper := { dst := some 6, op := Go.Op.assign (Go.Operand.tmp 66), type := 26, pos := "ref.go:84", after := #[{ on := 14, ground := Go.Ground.data }, { on := 14, ground := Go.Ground.chain }, { on := 0, ground := Go.Ground.phase }, { on := 1, ground := Go.Ground.phase }, { on := 2, ground := Go.Ground.phase }, { on := 3, ground := Go.Ground.phase }, { on := 4, ground := Go.Ground.phase }, { on := 5, ground := Go.Ground.phase }, { on := 6, ground := Go.Ground.phase }, { on := 7, ground := Go.Ground.phase }, { on := 8, ground := Go.Ground.phase }, { on := 9, ground := Go.Ground.phase }, { on := 10, ground := Go.Ground.phase }, { on := 11, ground := Go.Ground.phase }, { on := 12, ground := Go.Ground.phase }, { on := 13, ground := Go.Ground.phase }, { on := 14, ground := Go.Ground.phase }], guard := none }
def o14r15 : Array Oper := #[q14r15_0, q14r15_1, q14r15_2, q14r15_3, q14r15_4, q14r15_5, q14r15_6, q14r15_7, q14r15_8, q14r15_9, q14r15_10, q14r15_11, q14r15_12, q14r15_13, q14r15_14, q14r15_15]
def p14r15_16 : List (Nat × Oper) := []
def p14r15_15 : List (Nat × Oper) := (0, q14r15_15) :: p14r15_16
def p14r15_14 : List (Nat × Oper) := (1, q14r15_14) :: p14r15_15
def p14r15_13 : List (Nat × Oper) := (1, q14r15_13) :: p14r15_14
def p14r15_12 : List (Nat × Oper) := (0, q14r15_12) :: p14r15_13
def p14r15_11 : List (Nat × Oper) := (0, q14r15_11) :: p14r15_12
def p14r15_10 : List (Nat × Oper) := (0, q14r15_10) :: p14r15_11
def p14r15_9 : List (Nat × Oper) := (0, q14r15_9) :: p14r15_10
def p14r15_8 : List (Nat × Oper) := (0, q14r15_8) :: p14r15_9
def p14r15_7 : List (Nat × Oper) := (0, q14r15_7) :: p14r15_8
def p14r15_6 : List (Nat × Oper) := (0, q14r15_6) :: p14r15_7
def p14r15_5 : List (Nat × Oper) := (0, q14r15_5) :: p14r15_6
def p14r15_4 : List (Nat × Oper) := (0, q14r15_4) :: p14r15_5
def p14r15_3 : List (Nat × Oper) := (0, q14r15_3) :: p14r15_4
def p14r15_2 : List (Nat × Oper) := (0, q14r15_2) :: p14r15_3
def p14r15_1 : List (Nat × Oper) := (0, q14r15_1) :: p14r15_2
def p14r15_0 : List (Nat × Oper) := (0, q14r15_0) :: p14r15_1
def c14r15 : List (Nat × Nat) := [(0, 0), (0, 1), (0, 2), (0, 3), (0, 4), (0, 5), (0, 6), (0, 7), (0, 8), (0, 9), (0, 10), (0, 11), (0, 12), (1, 13), (1, 14), (0, 15)]
theorem b14r15 : (Region.noSelect o14r15 && (c14r15.length == o14r15.size) && planB o14r15 [] c14r15 (Array.replicate o14r15.size false)) = true := by kernel_rfl
theorem d14r15 : (c14r15.map fun p => (p.1, o14r15[p.2]?)) = (p14r15_0.map fun p => (p.1, some p.2)) := by kernel_rfl
set_option maxRecDepth 100000 in
set_option maxHeartbeats 4000000 in
theorem rput_bad_r (b : Int) (ao : Option Addr) (n cap : Nat) (w : World) (hb : ¬ Bt b) :
    Calls Try.prog 14 #[.int .i64 b, .slice ao n cap] w fun e w' => e = .returned (.tuple #[.slice none 0 0, .int .i64 2]) ∧ Below w.heap.size w w' := by
  by_cases h1 : b < 9
  · go_enter Try.func14, Try.ntmps14
    go_wp2_with fail
    go_ret2
    exact ⟨rfl, Below.refl _ _⟩
  · have h2 : 16 < b := by
      by_cases h : 16 < b
      · exact h
      · exact absurd ⟨by omega, by omega⟩ hb
    go_enter Try.func14, Try.ntmps14
    go_wp2_with fail
    go_ret2
    exact ⟨rfl, Below.refl _ _⟩
set_option maxRecDepth 100000 in
set_option maxHeartbeats 16000000 in
theorem rput_ok_r (b : Int) (l : List Rn) (ao : Option Addr) (n cap : Nat) (w : World) (hb : Bt b) (hn : n = l.length) (hcap : n ≤ cap) (hn2 : n ≤ 2000) (hS : Srcr w ao l) (h6 : ∀ e ∈ l, e.i6) :
    Calls Try.prog 14 #[.int .i64 b, .slice ao n cap] w fun e w' => ∃ v bs er, e = .returned (.tuple #[v, .int .i64 er]) ∧ Out (Rn.May b) Rn.nm Rn.enc b l bs er ∧ Own w' w.heap.size v bs ∧ Below w.heap.size w w' := by
  have HN := hid hn
  have HS := hid hS
  have H6 := hid h6
  have HBT := hid hb
  obtain ⟨hb1, hb2⟩ := hb
  clear hn hS h6
  go_enter Try.func14, Try.ntmps14
  go_wp2_with fail
  go_loopw [6, 7] (fun o i wr => ∃ k : Nat, i = .int .i64 (k : Int) ∧ RIr b l w n k o wr) (fun _ i _ => n - (intOf i).toNat)
  case atStart => exact ⟨0, rfl, Nat.zero_le _, Own.nil _ _, fun j hj => by omega, fun j hj => by omega, Below.refl _ _⟩
  case round =>
    obtain ⟨k, rfl, hi⟩ := hrel
    have hkn := hi.le
    have HI := hid hi
    clear hi
    obtain ⟨o, ho⟩ : ∃ o, o = u6 := ⟨_, rfl⟩
    rw [← ho] at HI ⊢
    clear ho
    by_cases hk : k < n
    · obtain ⟨gb, off, rfl, hgb, x0, x1, x2, x3, x4⟩ := HS.out.at (i := k) (by have := HN.out; omega)
      have hi6 := H6.out _ (getD_in l k zRn (by have := HN.out; omega))
      have HCE : Hid (∀ W, Below w.heap.size w W → W.cell? ⟨gb, off + k * 5, none⟩ = some (.string (l.getD k zRn).nm) ∧ W.cell? ⟨gb, off + k * 5 + 1, none⟩ = some (.int .i64 (l.getD k zRn).a) ∧ W.cell? ⟨gb, off + k * 5 + 2, none⟩ = some (.int .i64 (l.getD k zRn).b) ∧ W.cell? ⟨gb, off + k * 5 + 3, none⟩ = some (.int .i64 (l.getD k zRn).c) ∧ W.cell? ⟨gb, off + k * 5 + 4, none⟩ = some (.int .i64 (l.getD k zRn).d)) := fun W h => ⟨by rw [h.cell hgb]; exact x0, by rw [h.cell hgb]; exact x1, by rw [h.cell hgb]; exact x2, by rw [h.cell hgb]; exact x3, by rw [h.cell hgb]; exact x4⟩
      obtain ⟨wo, hwo⟩ : ∃ x, x = wr := ⟨_, rfl⟩
      subst hwo
      obtain ⟨y0, y1, y2, y3, y4⟩ := HCE.out wo HI.out.bl
      by_cases hm : (l.getD k zRn).May b
      · have HM : Hid (∀ W, Calls Try.prog 29 #[.agg (l.getD k zRn).cs, .int .i64 b] W fun x w' => x = .returned (.bool true) ∧ Below W.heap.size W w') := fun W => rmay_yes_r hm HBT.out hi6 W
        have HMY := hid hm
        have HNM : Hid (∀ W q, q < k → Below w.heap.size w W → W.cell? ⟨gb, off + q * 5, none⟩ = some (.string (l.getD q zRn).nm)) := fun W q hq h => by
          obtain ⟨g', o', e, _, c0, _⟩ := (HS.out.below h).at (i := q) (by have := HN.out; omega)
          cases e
          exact c0
        have HEX := hid (fun o' W' hq ho hb => HI.out.next (o' := o') (W' := W') HN.out hk HMY.out hq ho hb)
        have hbd := Rn.bd hm
        have hnz := hm.1.2.1
        have hz2 := Rn.small hm
        have HFI : Hid ((∃ q, q < k ∧ (l.getD q zRn).nm = (l.getD k zRn).nm) → Out (Rn.May b) Rn.nm Rn.enc b l [] 2) := fun ⟨q, hq, e⟩ => Or.inl ⟨fun h => nodup_at zRn h.2.2 k (by have := HN.out; omega) q hq e, rfl, rfl⟩
        have HLN := hid (HI.out.len HN.out hn2)
        have HO := hid HI.out.own
        have HBL := hid HI.out.bl
        have HEC : Hid ((l.getD k zRn).enc = nmb (l.getD k zRn).nm ++ (num (l.getD k zRn).a 1 ++ (num (l.getD k zRn).b 1 ++ (num (l.getD k zRn).c 8 ++ num (l.getD k zRn).d 4)))) := rfl
        obtain ⟨e, he⟩ : ∃ e, e = l.getD k zRn := ⟨_, rfl⟩
        rw [← he] at y0 y1 y2 y3 y4 HM HEX hbd hnz hz2 HFI HCE HEC
        obtain ⟨nm, a, bb, c, d⟩ := e
        dsimp only at y0 y1 y2 y3 y4 hbd hnz hz2 HFI HCE HEC HEX
        have HENM : Hid (nm = (l.getD k zRn).nm) := by show _ = _; rw [← he]
        simp only [Rn.cs] at HM
        clear he hm hi6 x0 x1 x2 x3 x4
        obtain ⟨E, hE⟩ : ∃ E, E = encs Rn.enc (l.take k) := ⟨_, rfl⟩
        rw [← hE] at HLN HO HEX
        clear hE
        go_wp2_with (first | (go_at_call 29; refine (HM.out _).mono ?_; rintro e w1 ⟨rfl, b1⟩; have HBL1 := hid (HBL.out.trans (b1.mono HBL.out.size)); have HO1 : Hid (Own w1 w.heap.size o E) := (Own.belowr HO.out b1); clear b1 HM))
        go_loopw [8] (fun j wq => ∃ q : Nat, q ≤ k ∧ j = .int .i64 (q : Int) ∧ (∀ p, p < q → (l.getD p zRn).nm ≠ nm) ∧ Own wq w.heap.size o E ∧ Below w.heap.size w wq) (fun j _ => k - (intOf j).toNat)
        case atStart => exact ⟨0, Nat.zero_le _, rfl, fun p hp => by omega, HO1.out, HBL1.out⟩
        case round =>
          clear HO1 HBL1 HO HBL
          obtain ⟨q, hqk, rfl, hne, hoq, hbq⟩ := hrel
          have HNE := hid hne
          have HO := hid hoq
          have HBL := hid hbq
          clear hne hoq hbq
          obtain ⟨y0, y1, y2, y3, y4⟩ := HCE.out wr HBL.out
          by_cases hql : q < k
          · have c0 := HNM.out wr q hql HBL.out
            obtain ⟨nq, hnq⟩ : ∃ s, s = (l.getD q zRn).nm := ⟨_, rfl⟩
            rw [← hnq] at c0
            have HNQ := hid hnq
            clear hnq
            cases hc : (nq.toList == nm.toList) with
            | true =>
              have HOU := hid (HFI.out ⟨q, hql, by rw [← HNQ.out]; exact str_eqr hc⟩)
              go_wp2_with fail
              go_quiet (fail)
              go_wp2_with fail
              go_ret2
              exact ⟨_, _, _, rfl, HOU.out, Own.nil _ _, HBL.out.trans ((drewN_kp (fun _ => False) wr _).below HBL.out.size (fun _ x => x.elim))⟩
            | false =>
              have HNN : Hid (∀ p, p < q + 1 → (l.getD p zRn).nm ≠ nm) := fun p hp e => by
                by_cases h : p = q
                · rw [h, ← HNQ.out] at e
                  rw [e] at hc
                  simp at hc
                · exact HNE.out p (by omega) e
              go_wp2_with fail
              go_quiet (fail)
              go_wp2_with fail
              go_roundw
              case rel => exact ⟨q + 1, by omega, by go_num, HNN.out, ownsRow_kp (F := fun _ => False) HO.out (drewN_kp (fun _ => False) wr _) (fun _ _ x => x), HBL.out.trans ((drewN_kp (fun _ => False) wr _).below HBL.out.size (fun _ x => x.elim))⟩
              case measure => simp [intOf]; omega
          · have hqq : q = k := by omega
            have HND : Hid (∀ p, p < k → (l.getD p zRn).nm ≠ nm) := by rw [← hqq]; exact HNE.out
            clear HNE HNM HFI hqq
            obtain ⟨⟨ka0, ka1⟩, ⟨kb0, kb1⟩, ⟨kc0, kc1⟩, ⟨kd0, kd1⟩⟩ := hbd
            obtain ⟨za, zb, zc, zd⟩ := hz2
            have wua : IntKind.u64.wrap a = a := by rw [IntKind.wrap_u64]; omega
            have wub : IntKind.u64.wrap bb = bb := by rw [IntKind.wrap_u64]; omega
            have wuc : IntKind.u64.wrap c = c := by rw [IntKind.wrap_u64]; omega
            have wud : IntKind.u64.wrap d = d := by rw [IntKind.wrap_u64]; omega
            have w8a : IntKind.u8.wrap a = a := by rw [IntKind.wrap_u8]; omega
            have w8b : IntKind.u8.wrap bb = bb := by rw [IntKind.wrap_u8]; omega
            have n1a : num a 1 = [a] := by (have h := num_1r a; rw [h, Int.emod_eq_of_lt (by omega) (by omega)])
            have n1b : num bb 1 = [bb] := by (have h := num_1r bb; rw [h, Int.emod_eq_of_lt (by omega) (by omega)])
            have N1A := hid n1a
            have N1B := hid n1b
            clear n1a n1b
            clear ka1 kb1 kc1 kd1
            go_wp2_with fail
            refine (rnmb_ok nm _ hnz).mono ?_
            rintro e v1 ⟨v, rfl, o1, b1⟩
            obtain ⟨ao1, c1, rfl, s1, n1⟩ := o1.own
            have OW := hid (Own.belowr HO.out b1)
            have BL := hid (HBL.out.trans (b1.mono HBL.out.size))
            have SR := hid s1
            have NO := hid n1
            have hml : Hid ((nmb nm).length ≤ 65) := by show _ ≤ _; rw [nmb_len]; omega
            clear s1 n1 o1 b1 HO HBL y0 y1 y2 y3 y4
            go_wp2_with (first | (at_builtin; refine wpList_append_b rfl (.tmp 44) (.tmp 50) rfl w.heap.size _ E rfl OW.out ao1 c1 (nmb nm) _ rfl rfl NO.out SR.out (by have := HLN.out; have := hml.out; omega) BL.out.size ?_; intro o2 w12 h2 b2; replace OW := hid h2; replace BL := hid (BL.out.trans b2); obtain ⟨y0, y1, y2, y3, y4⟩ := HCE.out w12 BL.out; clear h2 b2))
            clear SR NO
            obtain ⟨E1, hE1⟩ : ∃ X, X = E ++ nmb nm := ⟨_, rfl⟩
            have L1 : E1.length ≤ 170065 := by (have := HLN.out; have := hml.out; rw [hE1, List.length_append]; omega)
            rw [← hE1] at OW
            have H1 := hid hE1
            clear hE1
            have Z0 : Below w.heap.size w w12.drew := BL.out.drew
            clear y0 y1 y2 y3 y4
            change (Code.region 15 o14r15 true).wp _ _ _ _
            refine wp_region_plan (fun W => Below w.heap.size w W) [] c14r15 p14r15_0 hmix b14r15 d14r15 (fun _ _ d _ _ h => by cases d <;> exact h) ?_
            refine plan_take (o := q14r15_0) (r := p14r15_1) ?va0 Z0 (by rfl) ?hya0 ?resta0
            case hya0 => (intro w_ hSw; simp only [q14r15_0]; go_simp; try with_reducible rfl)
            try simp only [q14r15_0, Act.put, List.setIfInBounds_toArray, List.set_cons_zero, List.set_cons_succ]
            refine plan_take (o := q14r15_1) (r := p14r15_2) ?va1 Z0 (by rfl) ?hya1 ?resta1
            case hya1 => (intro w_ hSw; simp only [q14r15_1]; go_simp; try with_reducible rfl)
            try simp only [q14r15_1, Act.put, List.setIfInBounds_toArray, List.set_cons_zero, List.set_cons_succ]
            refine plan_take (o := q14r15_2) (r := p14r15_3) ?va2 Z0 (by rfl) ?hya2 ?resta2
            case hya2 => (intro w_ hSw; simp only [q14r15_2]; go_simp; try with_reducible rfl)
            try simp only [q14r15_2, Act.put, List.setIfInBounds_toArray, List.set_cons_zero, List.set_cons_succ]
            refine plan_take (o := q14r15_3) (r := p14r15_4) ?va3 Z0 (by rfl) ?hya3 ?resta3
            case hya3 => (intro w_ hSw; simp only [q14r15_3]; go_simp; try with_reducible rfl)
            try simp only [q14r15_3, Act.put, List.setIfInBounds_toArray, List.set_cons_zero, List.set_cons_succ]
            refine plan_take (o := q14r15_4) (r := p14r15_5) ?va4 Z0 (by rfl) ?hya4 ?resta4
            case hya4 => (intro w_ hSw; simp only [q14r15_4]; go_simp; try with_reducible rfl)
            try simp only [q14r15_4, Act.put, List.setIfInBounds_toArray, List.set_cons_zero, List.set_cons_succ]
            refine plan_take (o := q14r15_5) (r := p14r15_6) ?va5 Z0 (by rfl) ?hya5 ?resta5
            case hya5 => (intro w_ hSw; have q1 := (HCE.out w_ hSw).2.1; have q2 := (HCE.out w_ hSw).2.2.1; simp only [q14r15_5]; go_simp; try with_reducible rfl)
            try simp only [q14r15_5, Act.put, List.setIfInBounds_toArray, List.set_cons_zero, List.set_cons_succ]
            refine plan_take (o := q14r15_6) (r := p14r15_7) ?va6 Z0 (by rfl) ?hya6 ?resta6
            case hya6 => (intro w_ hSw; simp only [q14r15_6]; go_simp; try with_reducible rfl)
            try simp only [q14r15_6, Act.put, List.setIfInBounds_toArray, List.set_cons_zero, List.set_cons_succ]
            refine plan_take (o := q14r15_7) (r := p14r15_8) ?va7 Z0 (by rfl) ?hya7 ?resta7
            case hya7 => (intro w_ hSw; simp only [q14r15_7]; go_simp; try with_reducible rfl)
            try simp only [q14r15_7, Act.put, List.setIfInBounds_toArray, List.set_cons_zero, List.set_cons_succ]
            refine plan_take (o := q14r15_8) (r := p14r15_9) ?va8 Z0 (by rfl) ?hya8 ?resta8
            case hya8 => (intro w_ hSw; simp only [q14r15_8]; go_simp; try with_reducible rfl)
            try simp only [q14r15_8, Act.put, List.setIfInBounds_toArray, List.set_cons_zero, List.set_cons_succ]
            refine plan_take (o := q14r15_9) (r := p14r15_10) ?va9 Z0 (by rfl) ?hya9 ?resta9
            case hya9 => (intro w_ hSw; simp only [q14r15_9]; go_simp; try with_reducible rfl)
            try simp only [q14r15_9, Act.put, List.setIfInBounds_toArray, List.set_cons_zero, List.set_cons_succ]
            refine plan_take (o := q14r15_10) (r := p14r15_11) ?va10 Z0 (by rfl) ?hya10 ?resta10
            case hya10 => (intro w_ hSw; simp only [q14r15_10]; go_simp; try with_reducible rfl)
            try simp only [q14r15_10, Act.put, List.setIfInBounds_toArray, List.set_cons_zero, List.set_cons_succ]
            refine plan_take (o := q14r15_11) (r := p14r15_12) ?va11 Z0 (by rfl) ?hya11 ?resta11
            case hya11 => (intro w_ hSw; have q1 := (HCE.out w_ hSw).2.1; have q2 := (HCE.out w_ hSw).2.2.1; simp only [q14r15_11]; go_simp; try with_reducible rfl)
            try simp only [q14r15_11, Act.put, List.setIfInBounds_toArray, List.set_cons_zero, List.set_cons_succ]
            refine plan_take (o := q14r15_12) (r := p14r15_13) ?va12 Z0 (by rfl) ?hya12 ?resta12
            case hya12 => (intro w_ hSw; simp only [q14r15_12]; go_simp; try with_reducible rfl)
            try simp only [q14r15_12, Act.put, List.setIfInBounds_toArray, List.set_cons_zero, List.set_cons_succ]
            refine plan_act (o := q14r15_13) (r := p14r15_14) (fun K hK => ?_)
            simp only [q14r15_13]
            go_simp
            have Z1 : Below w.heap.size w (w12.drew.alloc (.cells #[.int .u8 a, .int .u8 bb] 5)) := Z0.alloc Z0.size _
            have OX : Own (w12.drew.alloc (.cells #[.int .u8 a, .int .u8 bb] 5)) w.heap.size o2 E1 := ownsRow_kp (F := fun _ => False) OW.out ((Kp.refl (fun _ => False) w12).drew.alloc _) (fun _ _ x => x)
            have RX := Rw.new 5 w12.drew [a, bb]
            refine hK.out _ _ (fun _ => Z1) ?_
            clear hK K
            refine plan_act (o := q14r15_14) (r := p14r15_15) (fun K hK => ?_)
            simp only [q14r15_14]
            refine Eq.mpr (if_pos (by rfl)) ?_
            refine wp_append_at (.tmp 52) (.tmp 65) 26 rfl w.heap.size 5 (.int .u8 0) 1 1 Try.underlying26 Try.info5 rfl (by decide) o2 E1.length (E1.map (Value.int .u8)) rfl OX ⟨w12.heap.size, 0, none⟩ 2 2 ([a, bb].map (Value.int .u8)) rfl rfl (fun j u hu => by (rw [add_z]; exact (cell_of_row _ _ j _ 5 _ RX).trans (by simpa using hu))) (u8_one _) (by unfold maxLen; omega) (by omega) Z1.size ?_
            intro v3 u3 q3 k3 _
            have Z2 : Below w.heap.size w u3 := Z1.trans (OX.kpb k3 Z1.size)
            have OY : Own u3 w.heap.size v3 (E1 ++ [a, bb]) := by (show u3.ownsRow w.heap.size 5 1 v3 (E1 ++ [a, bb]).length ((E1 ++ [a, bb]).map (Value.int .u8)); rw [List.length_append, List.map_append]; exact q3)
            refine hK.out _ _ (fun _ => Z2) ?_
            clear hK K
            try simp only [Act.put, List.setIfInBounds_toArray, List.set_cons_zero, List.set_cons_succ]
            refine plan_take (o := q14r15_15) (r := p14r15_16) ?va15 Z2 (by rfl) ?hya15 ?resta15
            case hya15 => (intro w hSw; (try dsimp only at hSw); simp only [q14r15_15]; go_simp; try with_reducible rfl)
            try simp only [q14r15_15, Act.put, List.setIfInBounds_toArray, List.set_cons_zero, List.set_cons_succ]
            refine plan_done ?_
            replace OW := hid OY
            replace BL := hid Z2
            obtain ⟨y0, y1, y2, y3, y4⟩ := HCE.out u3 Z2
            obtain ⟨E2, hE2⟩ : ∃ X, X = E1 ++ [a, bb] := ⟨_, rfl⟩
            have L2 : E2.length ≤ 170081 := by (rw [hE2, List.length_append]; simp; omega)
            rw [← hE2] at OW
            have H2 := hid hE2
            clear hE2 OY OX RX Z0 Z1 Z2 q3 k3
            go_wp2_with fail
            refine (number_own c 8 _ kc0 (by omega) (by omega) (by omega)).mono ?_
            rintro e v3 ⟨g3, c3, rfl, s3, b3⟩
            have SR := hid s3
            replace OW := hid (Own.belowr OW.out b3)
            replace BL := hid (BL.out.trans (b3.mono BL.out.size))
            clear s3 b3 y0 y1 y2 y3 y4
            go_wp2_with (first | (at_builtin; refine wpList_append_b rfl (.tmp 67) (.tmp 74) rfl w.heap.size _ E2 rfl OW.out _ _ (num c 8) 8 (num_length c 8).symm rfl (fun e => by cases e) SR.out (by have := HLN.out; have := hml.out; have := L2; omega) BL.out.size ?_; intro o4 w14 h4 b4; replace OW := hid h4; replace BL := hid (BL.out.trans b4); obtain ⟨y0, y1, y2, y3, y4⟩ := HCE.out w14 BL.out; clear h4 b4))
            obtain ⟨E3, hE3⟩ : ∃ X, X = E2 ++ num c 8 := ⟨_, rfl⟩
            have L3 : E3.length ≤ 170089 := by (rw [hE3, List.length_append, num_length]; omega)
            rw [← hE3] at OW
            have H3 := hid hE3
            clear hE3 SR
            refine (number_own d 4 _ kd0 (by omega) (by omega) (by omega)).mono ?_
            rintro e v5 ⟨g5, c5, rfl, s5, b5⟩
            have SR := hid s5
            replace OW := hid (Own.belowr OW.out b5)
            replace BL := hid (BL.out.trans (b5.mono BL.out.size))
            clear s5 b5 y0 y1 y2 y3 y4
            go_wp2_with (first | (at_builtin; refine wpList_append_b rfl (.tmp 76) (.tmp 83) rfl w.heap.size _ E3 rfl OW.out _ _ (num d 4) 4 (num_length d 4).symm rfl (fun e => by cases e) SR.out (by have := HLN.out; have := hml.out; have := L3; omega) BL.out.size ?_; intro o6 w16 h6 b6; replace OW := hid h6; replace BL := hid (BL.out.trans b6); obtain ⟨y0, y1, y2, y3, y4⟩ := HCE.out w16 BL.out; clear h6 b6))
            obtain ⟨E4, hE4⟩ : ∃ X, X = E3 ++ num d 4 := ⟨_, rfl⟩
            have L4 : E4.length ≤ 170097 := by (rw [hE4, List.length_append, num_length]; omega)
            rw [← hE4] at OW
            have H4 := hid hE4
            clear hE4 SR
            have HAS : Hid (E4 = E ++ (nmb nm ++ (num a 1 ++ (num bb 1 ++ (num c 8 ++ num d 4))))) := by
              show _ = _
              rw [H4.out, H3.out, H2.out, H1.out, N1A.out, N1B.out]
              simp
            have hfin := HEX.out _ _ HND.out (by rw [HEC.out, ← HAS.out]; exact OW.out) BL.out
            go_roundw
            case rel => exact ⟨k + 1, by go_num, hfin⟩
            case measure => simp [intOf]; omega
      · have HM : Hid (∀ W, Calls Try.prog 29 #[.agg (l.getD k zRn).cs, .int .i64 b] W fun x w' => x = .returned (.bool false) ∧ Below W.heap.size W w') := fun W => rmay_no_r hm HBT.out hi6 W
        have HOU : Hid (Out (Rn.May b) Rn.nm Rn.enc b l [] 2) := Or.inl ⟨fun h => hm (h.2.1 _ (getD_in l k zRn (by have := HN.out; omega))), rfl, rfl⟩
        have HBL := hid HI.out.bl
        obtain ⟨e, he⟩ : ∃ e, e = l.getD k zRn := ⟨_, rfl⟩
        rw [← he] at y0 y1 y2 y3 y4 HM
        clear he hm hi6 HCE x0 x1 x2 x3 x4
        obtain ⟨nm, a, bb, c, d⟩ := e
        dsimp only at y0 y1 y2 y3 y4
        simp only [Rn.cs] at HM
        go_wp2_with (first | (go_at_call 29; refine (HM.out _).mono ?_; rintro e w1 ⟨rfl, b1⟩))
        go_ret2
        exact ⟨_, _, _, rfl, HOU.out, Own.nil _ _, HBL.out.trans (b1.mono HBL.out.size)⟩
    · have hkk : k = n := by omega
      rw [hkk] at HI
      obtain ⟨q1, q2⟩ := HI.out.lst HN.out
      have Q2 := hid q2
      have HBL := hid HI.out.bl
      clear hkk HI q2
      by_cases h64 : n ≤ 64
      · have HOU : Hid (Out (Rn.May b) Rn.nm Rn.enc b l (encs Rn.enc l) 0) := Or.inr (Or.inr ⟨HBT.out, q1, by have := HN.out; omega, rfl, rfl⟩)
        go_wp2_with fail
        go_ret2
        exact ⟨_, _, _, rfl, HOU.out, Q2.out, HBL.out⟩
      · have HOU : Hid (Out (Rn.May b) Rn.nm Rn.enc b l [] 3) := Or.inr (Or.inl ⟨HBT.out, q1, by have := HN.out; omega, rfl, rfl⟩)
        go_wp2_with fail
        go_ret2
        exact ⟨_, _, _, rfl, HOU.out, Own.nil _ _, HBL.out⟩
end Go.Proofs.Ytjjhkfhppoioiaa
