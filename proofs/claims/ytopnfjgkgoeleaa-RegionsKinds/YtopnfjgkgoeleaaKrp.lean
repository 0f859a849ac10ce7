/-
  RegionsKinds answers true for any regions, bytes and kind, and leaves what was there as it was: no conditions.
  The walk lies in the texts that are imported; here the arguments are opened and read again.
-/
import Derived.Test.YtopnfjgkgoeleaaKx
import Derived.Test.YtopnfjgkgoeleaaOp
namespace Go.Proofs.Ytopnfjgkgoeleaa.regionsKinds
open Go.ChangeShapes Go.WideShapes Go.ChangeAt Go.RowKit
set_option linter.unusedVariables false

theorem own : ownKnob Try.prog.godebug = none := by kernel_rfl
theorem laidOut : laidOutB Try.prog = true := by kernel_rfl
/-! From the walk to the row. -/
set_option maxRecDepth 100000 in
theorem lifted (os : Os) (started : os.Started) (H : Type) (enc : TypeId × Value → H) :
    ReturnsInHanded {} Try.checked os 6 .any (Rows.regionsKindsSpec.pre6 enc Try.prog Try.f6 Rows.regionsKindsRow.domain false) (Rows.regionsKindsSpec.post enc Try.prog Try.f6 false true false false) := by
  refine returnsInHanded_of_change (C := Try.checked) own started (by kernel_rfl) Try.func6
    (ChangeSpec.witness6 (enc := enc) (C := Try.checked) false ⟨#[], #[.agg #[.slice none 0 0, .int .i64 0, .int .i64 0, .int .i64 0]], []⟩ 8 (by kernel_rfl) (by kernel_rfl) (by kernel_rfl) (by kernel_rfl)) ?_
  intro W base args ds gs before hval0 hW hcnd _
  have hval : ∀ (j : Nat) t v, Try.f6.params[j]? = some t → args[j]? = some v → Value.okWide Try.prog W .any base t v := hval0
  have hW' := hW
  obtain ⟨p, q, hA0, hV, rfl, hfz, hnd⟩ := hW
  have hA : DataW.TrodAll enc Try.prog W 0 (fun _ => true) true Try.f6.params.toList args.toList ds p := hA0
  rw [Try.params6] at hA hval
  obtain ⟨v0, vs0, d0, ds0, p0, q0, hargs, rfl, rfl, h0, r0⟩ := trodAll_cons hA
  obtain ⟨rfl, rfl, rfl⟩ := trodAll_nil r0
  obtain rfl : args = #[v0] := by cases args; simp_all
  obtain ⟨rfl, rfl⟩ := trodVars_none hV
  obtain ⟨cs0, rfl, hs0⟩ := okWide_struct Try.underlying67 (hval 0 67 v0 rfl rfl)
  have k0 := h0
  have lt0 : ∀ x ∈ p0, x.block < W.heap.size := by obtain ⟨m, hm⟩ := k0; exact DataW.trod_lt m _ _ _ hm
  obtain ⟨l0, a0, len0, cap0, np, nk, nd, rfl, ln0, src0, i60, lc0, cm0, no0, ip, ik, id_⟩ : ∃ (l : List Rn) (a0 : Option Addr) (len0 cap0 : Nat) (np nk nd : Int), cs0 = #[.slice a0 len0 cap0, .int .i64 np, .int .i64 nk, .int .i64 nd] ∧ len0 = l.length ∧ Srcr W a0 l ∧ (∀ e ∈ l, e.i6) ∧ len0 ≤ cap0 ∧ cap0 ≤ maxLen ∧ (a0 = none → cap0 = 0) ∧ I6 np ∧ I6 nk ∧ I6 nd := by
    obtain ⟨fuel, hf⟩ := h0
    obtain ⟨l, a0, len0, cap0, np, nk, nd, he, rest⟩ := open_kinds (by simpa [Value.cells] using hf) hs0
    exact ⟨l, a0, len0, cap0, np, nk, nd, Array.ext' he, rest⟩
  clear hA0 hval0
  simp only [List.append_nil] at hW'
  refine (kinds_any l0 a0 len0 cap0 np nk nd W ln0 lc0 cm0 i60 src0 ip ik id_).mono fun e W' ⟨he, bel⟩ => ?_
  subst he
  exact ⟨_, rfl, _, _, _, [], _, [], hW', trodAll_mk1 (shut_bool Try.underlying4 _), (trodAll_cons_mk (Below.trod laidOut (by kernel_rfl) (of_decide_eq_true (by kernel_rfl)) k0 bel lt0) trodAll_mk0), rfl, bel.frame _, fun h => by cases h⟩

theorem over : Rows.regionsKindsRow.holds Try.pinned (OpenSpec.ofChange Rows.regionsKindsSpec) :=
  OpenClaim.holds_of_wide 6 Try.f6 rfl rfl rfl rfl rfl rfl rfl ⟨rfl, rfl, rfl, rfl, rfl⟩ rfl rfl rfl rfl rfl (by kernel_rfl) Try.func6 (by kernel_rfl)
    (of_decide_eq_true (by kernel_rfl)) (by unfold Func.isWrapper; first | (rw [if_pos (by decide +kernel)]; kernel_rfl) | (rw [if_neg (by decide +kernel)]; exact ⟨rfl, rfl⟩))
    (fun os started H enc _ => lifted os started H enc)
end Go.Proofs.Ytopnfjgkgoeleaa.regionsKinds
namespace Go.Proofs.Ytopnfjgkgoeleaa
/-- THE STATEMENT. -/
theorem regionsKinds_holds : Rows.RegionsKindsSaid := regionsKinds.over
#print axioms regionsKinds_holds
end Go.Proofs.Ytopnfjgkgoeleaa
