/-
  BitsParts answers true for every number, width, place of parting and bits ahead, and leaves what was there as it was: no conditions.
  The walk lies in the texts that are imported; here the arguments are opened and read again.
-/
import Derived.Test.YtfeokjbmobmabaaPartsW
import Derived.WalkKit
import Derived.ProofKit
import Derived.OpenShut
import Derived.Below
import Derived.Lib.SmallJoins
namespace Go.Proofs.Ytfeokjbmobmabaa.bitsParts
open Go.ChangeShapes Go.WideShapes Go.ChangeAt Go.RowKit
open Go.Joins (open_agg4)
set_option linter.unusedVariables false

theorem own : ownKnob Try.prog.godebug = none := by kernel_rfl

theorem laidOut : laidOutB Try.prog = true := by kernel_rfl
theorem ok_below' {w w' : World} (h : Ok' w w') : Below w.heap.size w w' := h.below (Nat.le_refl _) (fun _ x => x.elim)

set_option maxRecDepth 100000 in
set_option maxHeartbeats 1000000 in
theorem out0 (x n k A : Int) (w : World)  (h : n < 0) :
    Calls Try.prog 7 #[.agg #[.int .u64 x, .int .i64 n, .int .i64 k, .int .i64 A]] w fun e w' => e = .returned (.bool true) ∧ Below w.heap.size w w' := by
  go_enter Try.func7, Try.ntmps7
  go_wp2
  go_quiet (fail)
  go_wp2_with fail
  refine (works_any _).mono ?_
  rintro e w1 ⟨rfl, k1⟩
  go_wp2_with fail
  go_ret
  exact ⟨rfl, ok_below' ((((Kp.refl _ w).alloc _).trans (drewN_kp _ _ _) (fun _ _ x => x)).trans k1 (fun _ _ x => x))⟩
set_option maxRecDepth 100000 in
set_option maxHeartbeats 1000000 in
theorem out1 (x n k A : Int) (w : World) (p0 : 0 ≤ n) (h : 57 < n) :
    Calls Try.prog 7 #[.agg #[.int .u64 x, .int .i64 n, .int .i64 k, .int .i64 A]] w fun e w' => e = .returned (.bool true) ∧ Below w.heap.size w w' := by
  have g0 : ¬ n < 0 := by omega
  go_enter Try.func7, Try.ntmps7
  go_wp2
  go_quiet (fail)
  go_wp2_with fail
  refine (works_any _).mono ?_
  rintro e w1 ⟨rfl, k1⟩
  go_wp2_with fail
  go_ret
  exact ⟨rfl, ok_below' ((((Kp.refl _ w).alloc _).trans (drewN_kp _ _ _) (fun _ _ x => x)).trans k1 (fun _ _ x => x))⟩
set_option maxRecDepth 100000 in
set_option maxHeartbeats 1000000 in
theorem out2 (x n k A : Int) (w : World) (p0 : 0 ≤ n) (p1 : n ≤ 57) (h : k < 0) :
    Calls Try.prog 7 #[.agg #[.int .u64 x, .int .i64 n, .int .i64 k, .int .i64 A]] w fun e w' => e = .returned (.bool true) ∧ Below w.heap.size w w' := by
  have g0 : ¬ n < 0 := by omega
  have g1 : ¬ 57 < n := by omega
  go_enter Try.func7, Try.ntmps7
  go_wp2
  go_quiet (fail)
  go_wp2_with fail
  refine (works_any _).mono ?_
  rintro e w1 ⟨rfl, k1⟩
  go_wp2_with fail
  go_ret
  exact ⟨rfl, ok_below' ((((Kp.refl _ w).alloc _).trans (drewN_kp _ _ _) (fun _ _ x => x)).trans k1 (fun _ _ x => x))⟩
set_option maxRecDepth 100000 in
set_option maxHeartbeats 1000000 in
theorem out3 (x n k A : Int) (w : World) (p0 : 0 ≤ n) (p1 : n ≤ 57) (p2 : 0 ≤ k) (h : n < k) :
    Calls Try.prog 7 #[.agg #[.int .u64 x, .int .i64 n, .int .i64 k, .int .i64 A]] w fun e w' => e = .returned (.bool true) ∧ Below w.heap.size w w' := by
  have g0 : ¬ n < 0 := by omega
  have g1 : ¬ 57 < n := by omega
  have g2 : ¬ k < 0 := by omega
  go_enter Try.func7, Try.ntmps7
  go_wp2
  go_quiet (fail)
  go_wp2_with fail
  refine (works_any _).mono ?_
  rintro e w1 ⟨rfl, k1⟩
  go_wp2_with fail
  go_ret
  exact ⟨rfl, ok_below' ((((Kp.refl _ w).alloc _).trans (drewN_kp _ _ _) (fun _ _ x => x)).trans k1 (fun _ _ x => x))⟩
set_option maxRecDepth 100000 in
set_option maxHeartbeats 1000000 in
theorem out4 (x n k A : Int) (w : World) (p0 : 0 ≤ n) (p1 : n ≤ 57) (p2 : 0 ≤ k) (p3 : k ≤ n) (h : A < 0) :
    Calls Try.prog 7 #[.agg #[.int .u64 x, .int .i64 n, .int .i64 k, .int .i64 A]] w fun e w' => e = .returned (.bool true) ∧ Below w.heap.size w w' := by
  have g0 : ¬ n < 0 := by omega
  have g1 : ¬ 57 < n := by omega
  have g2 : ¬ k < 0 := by omega
  have g3 : ¬ n < k := by omega
  go_enter Try.func7, Try.ntmps7
  go_wp2
  go_quiet (fail)
  go_wp2_with fail
  refine (works_any _).mono ?_
  rintro e w1 ⟨rfl, k1⟩
  go_wp2_with fail
  go_ret
  exact ⟨rfl, ok_below' ((((Kp.refl _ w).alloc _).trans (drewN_kp _ _ _) (fun _ _ x => x)).trans k1 (fun _ _ x => x))⟩
set_option maxRecDepth 100000 in
set_option maxHeartbeats 1000000 in
theorem out5 (x n k A : Int) (w : World) (p0 : 0 ≤ n) (p1 : n ≤ 57) (p2 : 0 ≤ k) (p3 : k ≤ n) (p4 : 0 ≤ A) (h : 57 < A) :
    Calls Try.prog 7 #[.agg #[.int .u64 x, .int .i64 n, .int .i64 k, .int .i64 A]] w fun e w' => e = .returned (.bool true) ∧ Below w.heap.size w w' := by
  have g0 : ¬ n < 0 := by omega
  have g1 : ¬ 57 < n := by omega
  have g2 : ¬ k < 0 := by omega
  have g3 : ¬ n < k := by omega
  have g4 : ¬ A < 0 := by omega
  go_enter Try.func7, Try.ntmps7
  go_wp2
  go_quiet (fail)
  go_wp2_with fail
  refine (works_any _).mono ?_
  rintro e w1 ⟨rfl, k1⟩
  go_wp2_with fail
  go_ret
  exact ⟨rfl, ok_below' ((((Kp.refl _ w).alloc _).trans (drewN_kp _ _ _) (fun _ _ x => x)).trans k1 (fun _ _ x => x))⟩

theorem walk (x n k A : Int) (hx : (Lit.int .u64 x).wf = true) (w : World) :
    Calls Try.prog 7 #[.agg #[.int .u64 x, .int .i64 n, .int .i64 k, .int .i64 A]] w fun e w' => e = .returned (.bool true) ∧ Below w.heap.size w w' := by
  by_cases h0 : n < 0
  · exact out0 x n k A w h0
  by_cases h1 : 57 < n
  · exact out1 x n k A w (by omega) h1
  by_cases h2 : k < 0
  · exact out2 x n k A w (by omega) (by omega) h2
  by_cases h3 : n < k
  · exact out3 x n k A w (by omega) (by omega) (by omega) h3
  by_cases h4 : A < 0
  · exact out4 x n k A w (by omega) (by omega) (by omega) (by omega) h4
  by_cases h5 : 57 < A
  · exact out5 x n k A w (by omega) (by omega) (by omega) (by omega) (by omega) h5
  have hb := bounds_u64 hx
  obtain ⟨x, rfl⟩ := Int.eq_ofNat_of_zero_le (show 0 ≤ x by omega)
  obtain ⟨n, rfl⟩ := Int.eq_ofNat_of_zero_le (show 0 ≤ n by omega)
  obtain ⟨k, rfl⟩ := Int.eq_ofNat_of_zero_le (show 0 ≤ k by omega)
  obtain ⟨A, rfl⟩ := Int.eq_ofNat_of_zero_le (show 0 ≤ A by omega)
  refine (parts_walk x n k A w (by omega) (by omega) (by omega) (by omega)).mono ?_
  rintro e w' ⟨rfl, kk⟩
  exact ⟨rfl, ok_below' kk⟩

/-! From the walk to the row. -/
set_option maxRecDepth 100000 in
theorem lifted (os : Os) (started : os.Started) (H : Type) (enc : TypeId × Value → H) :
    ReturnsInHanded {} Try.checked os 7 .any (Rows.bitsPartsSpec.pre6 enc Try.prog Try.f7 Rows.bitsPartsRow.domain false) (Rows.bitsPartsSpec.post enc Try.prog Try.f7 false true false false) := by
  refine returnsInHanded_of_change (C := Try.checked) own started (by kernel_rfl) Try.func7
    (ChangeSpec.witness6 (enc := enc) (C := Try.checked) false ⟨#[], #[.agg #[.int .u64 0, .int .i64 0, .int .i64 0, .int .i64 0]], []⟩ 8 (by kernel_rfl) (by kernel_rfl) (by kernel_rfl) (by kernel_rfl)) ?_
  intro W base args ds gs before hval0 hW hcnd _
  have hval : ∀ (j : Nat) t v, Try.f7.params[j]? = some t → args[j]? = some v → Value.okWide Try.prog W .any base t v := hval0
  have hW' := hW
  obtain ⟨p, q, hA0, hV, rfl, hfz, hnd⟩ := hW
  have hA : DataW.TrodAll enc Try.prog W 0 (fun _ => true) true Try.f7.params.toList args.toList ds p := hA0
  rw [Try.params7] at hA hval
  obtain ⟨v0, vs0, d0, ds0, p0, q0, hargs, rfl, rfl, h0, r0⟩ := trodAll_cons hA
  obtain ⟨rfl, rfl, rfl⟩ := trodAll_nil r0
  obtain rfl : args = #[v0] := by cases args; simp_all
  obtain ⟨rfl, rfl⟩ := trodVars_none hV
  have k0 := h0
  have lt0 : ∀ x ∈ p0, x.block < W.heap.size := by obtain ⟨m, hm⟩ := k0; exact DataW.trod_lt m _ _ _ hm
  obtain ⟨x, n, k, A, rfl, hx⟩ : ∃ x n k A, v0 = .agg #[.int .u64 x, .int .i64 n, .int .i64 k, .int .i64 A] ∧ (Lit.int .u64 x).wf = true := by
    obtain ⟨c0, c1, c2, c3, y0, y1, y2, y3, m, e, _, _, hy0, hy1, hy2, hy3⟩ := open_agg4 Try.underlying73 (by kernel_rfl) (by kernel_rfl) (hval 0 73 v0 rfl rfl) h0
    obtain ⟨x0, e0, hw0, _⟩ := DataW.trod_int Try.underlying27 hy0
    obtain ⟨x1, e1, _, _⟩ := DataW.trod_int Try.underlying3 hy1
    obtain ⟨x2, e2, _, _⟩ := DataW.trod_int Try.underlying3 hy2
    obtain ⟨x3, e3, _, _⟩ := DataW.trod_int Try.underlying3 hy3
    simp at e0 e1 e2 e3
    subst e0 e1 e2 e3
    exact ⟨x0, x1, x2, x3, e, by first | exact hw0 | assumption⟩
  clear hA0 hval0
  refine (walk x n k A hx W).mono fun e W' ⟨he, bel⟩ => ?_
  subst he
  exact ⟨_, rfl, _, _, _, [], _, [], hW', trodAll_mk1 (shut_bool Try.underlying4 _), (trodAll_cons_mk (Below.trod laidOut (by kernel_rfl) (of_decide_eq_true (by kernel_rfl)) k0 bel lt0) trodAll_mk0), rfl, bel.frame _, fun h => by cases h⟩

theorem over : Rows.bitsPartsRow.holds Try.pinned (OpenSpec.ofChange Rows.bitsPartsSpec) :=
  OpenClaim.holds_of_wide 7 Try.f7 rfl rfl rfl rfl rfl rfl rfl ⟨rfl, rfl, rfl, rfl, rfl⟩ rfl rfl rfl rfl rfl (by kernel_rfl) Try.func7 (by kernel_rfl)
    (of_decide_eq_true (by kernel_rfl)) (by unfold Func.isWrapper; first | (rw [if_pos (by decide +kernel)]; kernel_rfl) | (rw [if_neg (by decide +kernel)]; exact ⟨rfl, rfl⟩))
    (fun os started H enc _ => lifted os started H enc)

end Go.Proofs.Ytfeokjbmobmabaa.bitsParts
namespace Go.Proofs.Ytfeokjbmobmabaa
/-- THE STATEMENT. -/
theorem bitsParts_holds : Rows.BitsPartsSaid := bitsParts.over
#print axioms bitsParts_holds
end Go.Proofs.Ytfeokjbmobmabaa
