/- tables: the document's word on what may be (Rn). -/
import Derived.Test.YtjjhkfhppoioiaaSbR
import Derived.Test.YtjjhkfhppoioiaaNd
namespace Go.Proofs.Ytjjhkfhppoioiaa
open Go.RowKit
set_option linter.unusedVariables false
set_option maxRecDepth 100000 in
set_option maxHeartbeats 4000000 in
theorem rm_r_nA (b : Int) (e : Rn) (w : World) (hb : Bt b) (hi : e.i6) (hn : Hid (¬ Nm e.nm)) (l1 : e.c = 0) (l2 : e.d = 0) : Calls Try.prog 29 #[.agg e.cs, .int .i64 b] w fun x w' => x = .returned (.bool false) ∧ Below w.heap.size w w' := by
  obtain ⟨nm, a, b1, c, d⟩ := e
  obtain ⟨ia, ib, ic, id, inm⟩ := hi
  dsimp only at *
  subst l1
  subst l2
  unfold Rn.cs
  dsimp only
  go_enter Try.func29, Try.ntmps29
  go_wp2_with (first | (go_at_call 48; refine (rnamed_no hn.out inm _).mono ?_; rintro e w9 ⟨rfl, rfl⟩))
  go_ret
  exact ⟨ret_bool (by first | rfl | (simp; done) | (simp; omega) | omega), (Below.refl _ _).alloc (Nat.le_refl _) _⟩
set_option maxRecDepth 100000 in
set_option maxHeartbeats 4000000 in
theorem rm_r_yA1 (b : Int) (e : Rn) (w : World) (hb : Bt b) (hi : e.i6) (hn : Hid (Nm e.nm)) (l1 : e.c = 0) (l2 : e.d = 0) (s1 : ¬ 9 ≤ e.a) : Calls Try.prog 29 #[.agg e.cs, .int .i64 b] w fun x w' => x = .returned (.bool false) ∧ Below w.heap.size w w' := by
  obtain ⟨nm, a, b1, c, d⟩ := e
  obtain ⟨ia, ib, ic, id, inm⟩ := hi
  dsimp only at *
  subst l1
  subst l2
  unfold Rn.cs
  dsimp only
  go_enter Try.func29, Try.ntmps29
  go_wp2_with (first | (go_at_call 48; refine (rnamed_yes hn.out inm _).mono ?_; rintro e w9 ⟨rfl, rfl⟩))
  go_ret
  exact ⟨ret_bool (by first | rfl | (simp; done) | (simp; omega) | omega), (Below.refl _ _).alloc (Nat.le_refl _) _⟩
set_option maxRecDepth 100000 in
set_option maxHeartbeats 4000000 in
theorem rm_r_yA2 (b : Int) (e : Rn) (w : World) (hb : Bt b) (hi : e.i6) (hn : Hid (Nm e.nm)) (l1 : e.c = 0) (l2 : e.d = 0) (s1 : 9 ≤ e.a) (s2 : ¬ e.a ≤ 31) : Calls Try.prog 29 #[.agg e.cs, .int .i64 b] w fun x w' => x = .returned (.bool false) ∧ Below w.heap.size w w' := by
  obtain ⟨nm, a, b1, c, d⟩ := e
  obtain ⟨ia, ib, ic, id, inm⟩ := hi
  dsimp only at *
  subst l1
  subst l2
  unfold Rn.cs
  dsimp only
  go_enter Try.func29, Try.ntmps29
  go_wp2_with (first | (go_at_call 48; refine (rnamed_yes hn.out inm _).mono ?_; rintro e w9 ⟨rfl, rfl⟩))
  go_ret
  exact ⟨ret_bool (by first | rfl | (simp; done) | (simp; omega) | omega), (Below.refl _ _).alloc (Nat.le_refl _) _⟩
set_option maxRecDepth 100000 in
set_option maxHeartbeats 4000000 in
theorem rm_r_yA3 (b : Int) (e : Rn) (w : World) (hb : Bt b) (hi : e.i6) (hn : Hid (Nm e.nm)) (l1 : e.c = 0) (l2 : e.d = 0) (s1 : 9 ≤ e.a) (s2 : e.a ≤ 31) (s3 : ¬ 0 ≤ e.b) : Calls Try.prog 29 #[.agg e.cs, .int .i64 b] w fun x w' => x = .returned (.bool false) ∧ Below w.heap.size w w' := by
  obtain ⟨nm, a, b1, c, d⟩ := e
  obtain ⟨ia, ib, ic, id, inm⟩ := hi
  dsimp only at *
  subst l1
  subst l2
  unfold Rn.cs
  dsimp only
  go_enter Try.func29, Try.ntmps29
  go_wp2_with (first | (go_at_call 48; refine (rnamed_yes hn.out inm _).mono ?_; rintro e w9 ⟨rfl, rfl⟩))
  go_ret
  exact ⟨ret_bool (by first | rfl | (simp; done) | (simp; omega) | omega), (Below.refl _ _).alloc (Nat.le_refl _) _⟩
set_option maxRecDepth 100000 in
set_option maxHeartbeats 4000000 in
theorem rm_r_yA4 (b : Int) (e : Rn) (w : World) (hb : Bt b) (hi : e.i6) (hn : Hid (Nm e.nm)) (l1 : e.c = 0) (l2 : e.d = 0) (s1 : 9 ≤ e.a) (s2 : e.a ≤ 31) (s3 : 0 ≤ e.b) (s4 : ¬ e.b ≤ 3) : Calls Try.prog 29 #[.agg e.cs, .int .i64 b] w fun x w' => x = .returned (.bool false) ∧ Below w.heap.size w w' := by
  obtain ⟨nm, a, b1, c, d⟩ := e
  obtain ⟨ia, ib, ic, id, inm⟩ := hi
  dsimp only at *
  subst l1
  subst l2
  unfold Rn.cs
  dsimp only
  go_enter Try.func29, Try.ntmps29
  go_wp2_with (first | (go_at_call 48; refine (rnamed_yes hn.out inm _).mono ?_; rintro e w9 ⟨rfl, rfl⟩))
  go_ret
  exact ⟨ret_bool (by first | rfl | (simp; done) | (simp; omega) | omega), (Below.refl _ _).alloc (Nat.le_refl _) _⟩
set_option maxRecDepth 100000 in
set_option maxHeartbeats 4000000 in
theorem rm_r_yA5 (b : Int) (e : Rn) (w : World) (hb : Bt b) (hi : e.i6) (hn : Hid (Nm e.nm)) (l1 : e.c = 0) (l2 : e.d = 0) (s1 : 9 ≤ e.a) (s2 : e.a ≤ 31) (s3 : 0 ≤ e.b) (s4 : e.b ≤ 3) : Calls Try.prog 29 #[.agg e.cs, .int .i64 b] w fun x w' => x = .returned (.bool true) ∧ Below w.heap.size w w' := by
  obtain ⟨nm, a, b1, c, d⟩ := e
  obtain ⟨ia, ib, ic, id, inm⟩ := hi
  dsimp only at *
  subst l1
  subst l2
  unfold Rn.cs
  dsimp only
  go_enter Try.func29, Try.ntmps29
  go_wp2_with (first | (go_at_call 48; refine (rnamed_yes hn.out inm _).mono ?_; rintro e w9 ⟨rfl, rfl⟩))
  go_ret
  exact ⟨ret_bool (by first | rfl | (simp; done) | (simp; omega) | omega), (Below.refl _ _).alloc (Nat.le_refl _) _⟩
set_option maxRecDepth 100000 in
set_option maxHeartbeats 4000000 in
theorem rm_r_nB (b : Int) (e : Rn) (w : World) (hb : Bt b) (hi : e.i6) (hn : Hid (¬ Nm e.nm)) (l1 : e.c = 0) (l2 : ¬ e.d = 0) (hp : Hid (¬ Plc (clu b) e.c)) : Calls Try.prog 29 #[.agg e.cs, .int .i64 b] w fun x w' => x = .returned (.bool false) ∧ Below w.heap.size w w' := by
  obtain ⟨nm, a, b1, c, d⟩ := e
  obtain ⟨ia, ib, ic, id, inm⟩ := hi
  dsimp only at *
  subst l1
  have d2 : (d == 0) = false := by simpa using l2
  unfold Rn.cs
  dsimp only
  go_enter Try.func29, Try.ntmps29
  go_wp2_with (first | (go_at_call 48; refine (rnamed_no hn.out inm _).mono ?_; rintro e w9 ⟨rfl, rfl⟩) | (go_at_call 47; refine (rplace_no hp.out ic hb _).mono ?_; rintro e w9 ⟨rfl, rfl⟩))
  go_ret
  exact ⟨ret_bool (by first | rfl | (simp; done) | (simp; omega) | omega), (Below.refl _ _).alloc (Nat.le_refl _) _⟩
set_option maxRecDepth 100000 in
set_option maxHeartbeats 4000000 in
theorem rm_r_yB (b : Int) (e : Rn) (w : World) (hb : Bt b) (hi : e.i6) (hn : Hid (Nm e.nm)) (l1 : e.c = 0) (l2 : ¬ e.d = 0) (hp : Hid (¬ Plc (clu b) e.c)) : Calls Try.prog 29 #[.agg e.cs, .int .i64 b] w fun x w' => x = .returned (.bool false) ∧ Below w.heap.size w w' := by
  obtain ⟨nm, a, b1, c, d⟩ := e
  obtain ⟨ia, ib, ic, id, inm⟩ := hi
  dsimp only at *
  subst l1
  have d2 : (d == 0) = false := by simpa using l2
  unfold Rn.cs
  dsimp only
  go_enter Try.func29, Try.ntmps29
  go_wp2_with (first | (go_at_call 48; refine (rnamed_yes hn.out inm _).mono ?_; rintro e w9 ⟨rfl, rfl⟩) | (go_at_call 47; refine (rplace_no hp.out ic hb _).mono ?_; rintro e w9 ⟨rfl, rfl⟩))
  go_ret
  exact ⟨ret_bool (by first | rfl | (simp; done) | (simp; omega) | omega), (Below.refl _ _).alloc (Nat.le_refl _) _⟩
set_option maxRecDepth 100000 in
set_option maxHeartbeats 4000000 in
theorem rm_r_nC (b : Int) (e : Rn) (w : World) (hb : Bt b) (hi : e.i6) (hn : Hid (¬ Nm e.nm)) (l1 : ¬ e.c = 0) (l2 : 1 ≤ e.d) (l3 : e.d ≤ 16777216) (hp : Hid (Plc (clu b) e.c)) : Calls Try.prog 29 #[.agg e.cs, .int .i64 b] w fun x w' => x = .returned (.bool false) ∧ Below w.heap.size w w' := by
  obtain ⟨nm, a, b1, c, d⟩ := e
  obtain ⟨ia, ib, ic, id, inm⟩ := hi
  dsimp only at *
  have d1 : (c == 0) = false := by simpa using l1
  unfold Rn.cs
  dsimp only
  go_enter Try.func29, Try.ntmps29
  go_wp2_with (first | (go_at_call 48; refine (rnamed_no hn.out inm _).mono ?_; rintro e w9 ⟨rfl, rfl⟩) | (go_at_call 47; refine (rplace_yes hp.out ic hb _).mono ?_; rintro e w9 ⟨rfl, rfl⟩))
  go_ret
  exact ⟨ret_bool (by first | rfl | (simp; done) | (simp; omega) | omega), (Below.refl _ _).alloc (Nat.le_refl _) _⟩
set_option maxRecDepth 100000 in
set_option maxHeartbeats 4000000 in
theorem rm_r_yC1 (b : Int) (e : Rn) (w : World) (hb : Bt b) (hi : e.i6) (hn : Hid (Nm e.nm)) (l1 : ¬ e.c = 0) (l2 : 1 ≤ e.d) (l3 : e.d ≤ 16777216) (hp : Hid (Plc (clu b) e.c)) (s1 : ¬ 9 ≤ e.a) : Calls Try.prog 29 #[.agg e.cs, .int .i64 b] w fun x w' => x = .returned (.bool false) ∧ Below w.heap.size w w' := by
  obtain ⟨nm, a, b1, c, d⟩ := e
  obtain ⟨ia, ib, ic, id, inm⟩ := hi
  dsimp only at *
  have d1 : (c == 0) = false := by simpa using l1
  unfold Rn.cs
  dsimp only
  go_enter Try.func29, Try.ntmps29
  go_wp2_with (first | (go_at_call 48; refine (rnamed_yes hn.out inm _).mono ?_; rintro e w9 ⟨rfl, rfl⟩) | (go_at_call 47; refine (rplace_yes hp.out ic hb _).mono ?_; rintro e w9 ⟨rfl, rfl⟩))
  go_ret
  exact ⟨ret_bool (by first | rfl | (simp; done) | (simp; omega) | omega), (Below.refl _ _).alloc (Nat.le_refl _) _⟩
set_option maxRecDepth 100000 in
set_option maxHeartbeats 4000000 in
theorem rm_r_yC2 (b : Int) (e : Rn) (w : World) (hb : Bt b) (hi : e.i6) (hn : Hid (Nm e.nm)) (l1 : ¬ e.c = 0) (l2 : 1 ≤ e.d) (l3 : e.d ≤ 16777216) (hp : Hid (Plc (clu b) e.c)) (s1 : 9 ≤ e.a) (s2 : ¬ e.a ≤ 31) : Calls Try.prog 29 #[.agg e.cs, .int .i64 b] w fun x w' => x = .returned (.bool false) ∧ Below w.heap.size w w' := by
  obtain ⟨nm, a, b1, c, d⟩ := e
  obtain ⟨ia, ib, ic, id, inm⟩ := hi
  dsimp only at *
  have d1 : (c == 0) = false := by simpa using l1
  unfold Rn.cs
  dsimp only
  go_enter Try.func29, Try.ntmps29
  go_wp2_with (first | (go_at_call 48; refine (rnamed_yes hn.out inm _).mono ?_; rintro e w9 ⟨rfl, rfl⟩) | (go_at_call 47; refine (rplace_yes hp.out ic hb _).mono ?_; rintro e w9 ⟨rfl, rfl⟩))
  go_ret
  exact ⟨ret_bool (by first | rfl | (simp; done) | (simp; omega) | omega), (Below.refl _ _).alloc (Nat.le_refl _) _⟩
set_option maxRecDepth 100000 in
set_option maxHeartbeats 4000000 in
theorem rm_r_yC3 (b : Int) (e : Rn) (w : World) (hb : Bt b) (hi : e.i6) (hn : Hid (Nm e.nm)) (l1 : ¬ e.c = 0) (l2 : 1 ≤ e.d) (l3 : e.d ≤ 16777216) (hp : Hid (Plc (clu b) e.c)) (s1 : 9 ≤ e.a) (s2 : e.a ≤ 31) (s3 : ¬ 0 ≤ e.b) : Calls Try.prog 29 #[.agg e.cs, .int .i64 b] w fun x w' => x = .returned (.bool false) ∧ Below w.heap.size w w' := by
  obtain ⟨nm, a, b1, c, d⟩ := e
  obtain ⟨ia, ib, ic, id, inm⟩ := hi
  dsimp only at *
  have d1 : (c == 0) = false := by simpa using l1
  unfold Rn.cs
  dsimp only
  go_enter Try.func29, Try.ntmps29
  go_wp2_with (first | (go_at_call 48; refine (rnamed_yes hn.out inm _).mono ?_; rintro e w9 ⟨rfl, rfl⟩) | (go_at_call 47; refine (rplace_yes hp.out ic hb _).mono ?_; rintro e w9 ⟨rfl, rfl⟩))
  go_ret
  exact ⟨ret_bool (by first | rfl | (simp; done) | (simp; omega) | omega), (Below.refl _ _).alloc (Nat.le_refl _) _⟩
set_option maxRecDepth 100000 in
set_option maxHeartbeats 4000000 in
theorem rm_r_yC4 (b : Int) (e : Rn) (w : World) (hb : Bt b) (hi : e.i6) (hn : Hid (Nm e.nm)) (l1 : ¬ e.c = 0) (l2 : 1 ≤ e.d) (l3 : e.d ≤ 16777216) (hp : Hid (Plc (clu b) e.c)) (s1 : 9 ≤ e.a) (s2 : e.a ≤ 31) (s3 : 0 ≤ e.b) (s4 : ¬ e.b ≤ 3) : Calls Try.prog 29 #[.agg e.cs, .int .i64 b] w fun x w' => x = .returned (.bool false) ∧ Below w.heap.size w w' := by
  obtain ⟨nm, a, b1, c, d⟩ := e
  obtain ⟨ia, ib, ic, id, inm⟩ := hi
  dsimp only at *
  have d1 : (c == 0) = false := by simpa using l1
  unfold Rn.cs
  dsimp only
  go_enter Try.func29, Try.ntmps29
  go_wp2_with (first | (go_at_call 48; refine (rnamed_yes hn.out inm _).mono ?_; rintro e w9 ⟨rfl, rfl⟩) | (go_at_call 47; refine (rplace_yes hp.out ic hb _).mono ?_; rintro e w9 ⟨rfl, rfl⟩))
  go_ret
  exact ⟨ret_bool (by first | rfl | (simp; done) | (simp; omega) | omega), (Below.refl _ _).alloc (Nat.le_refl _) _⟩
set_option maxRecDepth 100000 in
set_option maxHeartbeats 4000000 in
theorem rm_r_yC5 (b : Int) (e : Rn) (w : World) (hb : Bt b) (hi : e.i6) (hn : Hid (Nm e.nm)) (l1 : ¬ e.c = 0) (l2 : 1 ≤ e.d) (l3 : e.d ≤ 16777216) (hp : Hid (Plc (clu b) e.c)) (s1 : 9 ≤ e.a) (s2 : e.a ≤ 31) (s3 : 0 ≤ e.b) (s4 : e.b ≤ 3) : Calls Try.prog 29 #[.agg e.cs, .int .i64 b] w fun x w' => x = .returned (.bool true) ∧ Below w.heap.size w w' := by
  obtain ⟨nm, a, b1, c, d⟩ := e
  obtain ⟨ia, ib, ic, id, inm⟩ := hi
  dsimp only at *
  have d1 : (c == 0) = false := by simpa using l1
  unfold Rn.cs
  dsimp only
  go_enter Try.func29, Try.ntmps29
  go_wp2_with (first | (go_at_call 48; refine (rnamed_yes hn.out inm _).mono ?_; rintro e w9 ⟨rfl, rfl⟩) | (go_at_call 47; refine (rplace_yes hp.out ic hb _).mono ?_; rintro e w9 ⟨rfl, rfl⟩))
  go_ret
  exact ⟨ret_bool (by first | rfl | (simp; done) | (simp; omega) | omega), (Below.refl _ _).alloc (Nat.le_refl _) _⟩
set_option maxRecDepth 100000 in
set_option maxHeartbeats 4000000 in
theorem rm_r_nF (b : Int) (e : Rn) (w : World) (hb : Bt b) (hi : e.i6) (hn : Hid (¬ Nm e.nm)) (l1 : ¬ e.c = 0) (l2 : 1 ≤ e.d) (l3 : ¬ e.d ≤ 16777216) (hp : Hid (Plc (clu b) e.c)) : Calls Try.prog 29 #[.agg e.cs, .int .i64 b] w fun x w' => x = .returned (.bool false) ∧ Below w.heap.size w w' := by
  obtain ⟨nm, a, b1, c, d⟩ := e
  obtain ⟨ia, ib, ic, id, inm⟩ := hi
  dsimp only at *
  have d1 : (c == 0) = false := by simpa using l1
  unfold Rn.cs
  dsimp only
  go_enter Try.func29, Try.ntmps29
  go_wp2_with (first | (go_at_call 48; refine (rnamed_no hn.out inm _).mono ?_; rintro e w9 ⟨rfl, rfl⟩) | (go_at_call 47; refine (rplace_yes hp.out ic hb _).mono ?_; rintro e w9 ⟨rfl, rfl⟩))
  go_ret
  exact ⟨ret_bool (by first | rfl | (simp; done) | (simp; omega) | omega), (Below.refl _ _).alloc (Nat.le_refl _) _⟩
set_option maxRecDepth 100000 in
set_option maxHeartbeats 4000000 in
theorem rm_r_yF (b : Int) (e : Rn) (w : World) (hb : Bt b) (hi : e.i6) (hn : Hid (Nm e.nm)) (l1 : ¬ e.c = 0) (l2 : 1 ≤ e.d) (l3 : ¬ e.d ≤ 16777216) (hp : Hid (Plc (clu b) e.c)) : Calls Try.prog 29 #[.agg e.cs, .int .i64 b] w fun x w' => x = .returned (.bool false) ∧ Below w.heap.size w w' := by
  obtain ⟨nm, a, b1, c, d⟩ := e
  obtain ⟨ia, ib, ic, id, inm⟩ := hi
  dsimp only at *
  have d1 : (c == 0) = false := by simpa using l1
  unfold Rn.cs
  dsimp only
  go_enter Try.func29, Try.ntmps29
  go_wp2_with (first | (go_at_call 48; refine (rnamed_yes hn.out inm _).mono ?_; rintro e w9 ⟨rfl, rfl⟩) | (go_at_call 47; refine (rplace_yes hp.out ic hb _).mono ?_; rintro e w9 ⟨rfl, rfl⟩))
  go_ret
  exact ⟨ret_bool (by first | rfl | (simp; done) | (simp; omega) | omega), (Below.refl _ _).alloc (Nat.le_refl _) _⟩
set_option maxRecDepth 100000 in
set_option maxHeartbeats 4000000 in
theorem rm_r_nG (b : Int) (e : Rn) (w : World) (hb : Bt b) (hi : e.i6) (hn : Hid (¬ Nm e.nm)) (l1 : ¬ e.c = 0) (l2 : ¬ 1 ≤ e.d) (hp : Hid (Plc (clu b) e.c)) : Calls Try.prog 29 #[.agg e.cs, .int .i64 b] w fun x w' => x = .returned (.bool false) ∧ Below w.heap.size w w' := by
  obtain ⟨nm, a, b1, c, d⟩ := e
  obtain ⟨ia, ib, ic, id, inm⟩ := hi
  dsimp only at *
  have d1 : (c == 0) = false := by simpa using l1
  unfold Rn.cs
  dsimp only
  go_enter Try.func29, Try.ntmps29
  go_wp2_with (first | (go_at_call 48; refine (rnamed_no hn.out inm _).mono ?_; rintro e w9 ⟨rfl, rfl⟩) | (go_at_call 47; refine (rplace_yes hp.out ic hb _).mono ?_; rintro e w9 ⟨rfl, rfl⟩))
  go_ret
  exact ⟨ret_bool (by first | rfl | (simp; done) | (simp; omega) | omega), (Below.refl _ _).alloc (Nat.le_refl _) _⟩
set_option maxRecDepth 100000 in
set_option maxHeartbeats 4000000 in
theorem rm_r_yG (b : Int) (e : Rn) (w : World) (hb : Bt b) (hi : e.i6) (hn : Hid (Nm e.nm)) (l1 : ¬ e.c = 0) (l2 : ¬ 1 ≤ e.d) (hp : Hid (Plc (clu b) e.c)) : Calls Try.prog 29 #[.agg e.cs, .int .i64 b] w fun x w' => x = .returned (.bool false) ∧ Below w.heap.size w w' := by
  obtain ⟨nm, a, b1, c, d⟩ := e
  obtain ⟨ia, ib, ic, id, inm⟩ := hi
  dsimp only at *
  have d1 : (c == 0) = false := by simpa using l1
  unfold Rn.cs
  dsimp only
  go_enter Try.func29, Try.ntmps29
  go_wp2_with (first | (go_at_call 48; refine (rnamed_yes hn.out inm _).mono ?_; rintro e w9 ⟨rfl, rfl⟩) | (go_at_call 47; refine (rplace_yes hp.out ic hb _).mono ?_; rintro e w9 ⟨rfl, rfl⟩))
  go_ret
  exact ⟨ret_bool (by first | rfl | (simp; done) | (simp; omega) | omega), (Below.refl _ _).alloc (Nat.le_refl _) _⟩
set_option maxRecDepth 100000 in
set_option maxHeartbeats 4000000 in
theorem rm_r_nD (b : Int) (e : Rn) (w : World) (hb : Bt b) (hi : e.i6) (hn : Hid (¬ Nm e.nm)) (l1 : ¬ e.c = 0) (hp : Hid (¬ Plc (clu b) e.c)) : Calls Try.prog 29 #[.agg e.cs, .int .i64 b] w fun x w' => x = .returned (.bool false) ∧ Below w.heap.size w w' := by
  obtain ⟨nm, a, b1, c, d⟩ := e
  obtain ⟨ia, ib, ic, id, inm⟩ := hi
  dsimp only at *
  have d1 : (c == 0) = false := by simpa using l1
  unfold Rn.cs
  dsimp only
  go_enter Try.func29, Try.ntmps29
  go_wp2_with (first | (go_at_call 48; refine (rnamed_no hn.out inm _).mono ?_; rintro e w9 ⟨rfl, rfl⟩) | (go_at_call 47; refine (rplace_no hp.out ic hb _).mono ?_; rintro e w9 ⟨rfl, rfl⟩))
  go_ret
  exact ⟨ret_bool (by first | rfl | (simp; done) | (simp; omega) | omega), (Below.refl _ _).alloc (Nat.le_refl _) _⟩
set_option maxRecDepth 100000 in
set_option maxHeartbeats 4000000 in
theorem rm_r_yD (b : Int) (e : Rn) (w : World) (hb : Bt b) (hi : e.i6) (hn : Hid (Nm e.nm)) (l1 : ¬ e.c = 0) (hp : Hid (¬ Plc (clu b) e.c)) : Calls Try.prog 29 #[.agg e.cs, .int .i64 b] w fun x w' => x = .returned (.bool false) ∧ Below w.heap.size w w' := by
  obtain ⟨nm, a, b1, c, d⟩ := e
  obtain ⟨ia, ib, ic, id, inm⟩ := hi
  dsimp only at *
  have d1 : (c == 0) = false := by simpa using l1
  unfold Rn.cs
  dsimp only
  go_enter Try.func29, Try.ntmps29
  go_wp2_with (first | (go_at_call 48; refine (rnamed_yes hn.out inm _).mono ?_; rintro e w9 ⟨rfl, rfl⟩) | (go_at_call 47; refine (rplace_no hp.out ic hb _).mono ?_; rintro e w9 ⟨rfl, rfl⟩))
  go_ret
  exact ⟨ret_bool (by first | rfl | (simp; done) | (simp; omega) | omega), (Below.refl _ _).alloc (Nat.le_refl _) _⟩
theorem rmay_r (b : Int) (e : Rn) (w : World) (hb : Bt b) (hi : e.i6) : Calls Try.prog 29 #[.agg e.cs, .int .i64 b] w fun x w' => Tells x (e.May b) ∧ Below w.heap.size w w' := by
  have no : ∀ {x : Ending} {w' : World}, ¬ e.May b → (x = .returned (.bool false) ∧ Below w.heap.size w w') → Tells x (e.May b) ∧ Below w.heap.size w w' := fun q h => ⟨.inr ⟨q, h.1⟩, h.2⟩
  have yes : ∀ {x : Ending} {w' : World}, e.May b → (x = .returned (.bool true) ∧ Below w.heap.size w w') → Tells x (e.May b) ∧ Below w.heap.size w w' := fun q h => ⟨.inl ⟨q, h.1⟩, h.2⟩
  by_cases hn : Nm e.nm
  · by_cases l1 : e.c = 0
    · by_cases l2 : e.d = 0
      · by_cases s1 : 9 ≤ e.a
        · by_cases s2 : e.a ≤ 31
          · by_cases s3 : 0 ≤ e.b
            · by_cases s4 : e.b ≤ 3
              · exact (rm_r_yA5 b e w hb hi (hid hn) l1 l2 s1 s2 s3 s4).mono (fun _ _ h => yes ⟨hn, Or.inl ⟨l2, l1⟩, s1, s2, s3, s4⟩ h)
              · exact (rm_r_yA4 b e w hb hi (hid hn) l1 l2 s1 s2 s3 s4).mono (fun _ _ h => no (fun m => s4 m.2.2.2.2.2) h)
            · exact (rm_r_yA3 b e w hb hi (hid hn) l1 l2 s1 s2 s3).mono (fun _ _ h => no (fun m => s3 m.2.2.2.2.1) h)
          · exact (rm_r_yA2 b e w hb hi (hid hn) l1 l2 s1 s2).mono (fun _ _ h => no (fun m => s2 m.2.2.2.1) h)
        · exact (rm_r_yA1 b e w hb hi (hid hn) l1 l2 s1).mono (fun _ _ h => no (fun m => s1 m.2.2.1) h)
      · have hp : ¬ Plc (clu b) e.c := fun q => by have := q.1; omega
        exact (rm_r_yB b e w hb hi (hid hn) l1 l2 (hid hp)).mono (fun _ _ h => no (fun m => by rcases m.2.1 with h | h; (· exact l2 h.1); (· exact hp h.2.2)) h)
    · by_cases hp : Plc (clu b) e.c
      · by_cases l2 : 1 ≤ e.d
        · by_cases l3 : e.d ≤ 16777216
          · by_cases s1 : 9 ≤ e.a
            · by_cases s2 : e.a ≤ 31
              · by_cases s3 : 0 ≤ e.b
                · by_cases s4 : e.b ≤ 3
                  · exact (rm_r_yC5 b e w hb hi (hid hn) l1 l2 l3 (hid hp) s1 s2 s3 s4).mono (fun _ _ h => yes ⟨hn, Or.inr ⟨by omega, l3, hp⟩, s1, s2, s3, s4⟩ h)
                  · exact (rm_r_yC4 b e w hb hi (hid hn) l1 l2 l3 (hid hp) s1 s2 s3 s4).mono (fun _ _ h => no (fun m => s4 m.2.2.2.2.2) h)
                · exact (rm_r_yC3 b e w hb hi (hid hn) l1 l2 l3 (hid hp) s1 s2 s3).mono (fun _ _ h => no (fun m => s3 m.2.2.2.2.1) h)
              · exact (rm_r_yC2 b e w hb hi (hid hn) l1 l2 l3 (hid hp) s1 s2).mono (fun _ _ h => no (fun m => s2 m.2.2.2.1) h)
            · exact (rm_r_yC1 b e w hb hi (hid hn) l1 l2 l3 (hid hp) s1).mono (fun _ _ h => no (fun m => s1 m.2.2.1) h)
          · exact (rm_r_yF b e w hb hi (hid hn) l1 l2 l3 (hid hp)).mono (fun _ _ h => no (fun m => by rcases m.2.1 with h | h; (· exact l1 h.2); (· exact l3 h.2.1)) h)
        · exact (rm_r_yG b e w hb hi (hid hn) l1 l2 (hid hp)).mono (fun _ _ h => no (fun m => by rcases m.2.1 with h | h; (· exact l1 h.2); (· have := h.1; omega)) h)
      · exact (rm_r_yD b e w hb hi (hid hn) l1 (hid hp)).mono (fun _ _ h => no (fun m => by rcases m.2.1 with h | h; (· exact l1 h.2); (· exact hp h.2.2)) h)
  · by_cases l1 : e.c = 0
    · by_cases l2 : e.d = 0
      · exact (rm_r_nA b e w hb hi (hid hn) l1 l2).mono (fun _ _ h => no (fun m => hn m.1) h)
      · have hp : ¬ Plc (clu b) e.c := fun q => by have := q.1; omega
        exact (rm_r_nB b e w hb hi (hid hn) l1 l2 (hid hp)).mono (fun _ _ h => no (fun m => hn m.1) h)
    · by_cases hp : Plc (clu b) e.c
      · by_cases l2 : 1 ≤ e.d
        · by_cases l3 : e.d ≤ 16777216
          · exact (rm_r_nC b e w hb hi (hid hn) l1 l2 l3 (hid hp)).mono (fun _ _ h => no (fun m => hn m.1) h)
          · exact (rm_r_nF b e w hb hi (hid hn) l1 l2 l3 (hid hp)).mono (fun _ _ h => no (fun m => hn m.1) h)
        · exact (rm_r_nG b e w hb hi (hid hn) l1 l2 (hid hp)).mono (fun _ _ h => no (fun m => hn m.1) h)
      · exact (rm_r_nD b e w hb hi (hid hn) l1 (hid hp)).mono (fun _ _ h => no (fun m => hn m.1) h)
end Go.Proofs.Ytjjhkfhppoioiaa
