/-
  CachePlain answers true for any calls, and leaves what was there as it was: no conditions.
  The walk lies in the texts that are imported; here the argument is opened and read again.
-/
import Derived.Test.YtnccklbnncaeoaaGreatJbs

namespace Go.Proofs.YtnccklbnncaeoaaGreat.cachePlain
open Go.ChangeShapes Go.WideShapes Go.ChangeAt Go.RowKit
set_option linter.unusedVariables false

theorem own : ownKnob Tryz.prog.godebug = none := by kernel_rfl
theorem laidOut : laidOutB Tryz.prog = true := by kernel_rfl
theorem plain_all (sz bt rm : Int) (ts : List Stc) (ao : Option Addr) (n cap : Nat) (w : World) (hN : n = ts.length) (hS : CSrc w ao ts) (hw : ∀ t ∈ ts, Swc w t) :
    Calls Tryz.prog 5 #[.agg #[.int .i64 sz, .int .i64 bt, .int .i64 rm, .slice ao n cap]] w fun e w' => e = .returned (.bool true) ∧ Below w.heap.size w w' := by
  refine (plain_any sz bt rm ts ao n cap w hN hS hw).mono ?_
  rintro e w' ⟨rfl, k⟩
  exact ⟨rfl, kp_bl k⟩
/-! From the walk to the row. -/
set_option maxRecDepth 100000 in
theorem lifted (os : Os) (started : os.Started) (H : Type) (enc : TypeId × Value → H) :
    ReturnsInHanded {} Tryz.checked os 5 .any (Rows.cachePlainSpec.pre6 enc Tryz.prog Tryz.f5 Rows.cachePlainRow.domain false) (Rows.cachePlainSpec.post enc Tryz.prog Tryz.f5 false true false false) := by
  refine returnsInHanded_of_change (C := Tryz.checked) own started (by kernel_rfl) Tryz.func5
    (ChangeSpec.witness6 (enc := enc) (C := Tryz.checked) false ⟨#[], #[.agg #[.int .i64 0, .int .i64 0, .int .i64 0, .slice none 0 0]], []⟩ 5 (by kernel_rfl) (by kernel_rfl) (by kernel_rfl) (by kernel_rfl)) ?_
  intro W base args ds gs before hval0 hW hcnd _
  have hval : ∀ (j : Nat) t v, Tryz.f5.params[j]? = some t → args[j]? = some v → Value.okWide Tryz.prog W .any base t v := hval0
  have hW' := hW
  obtain ⟨p, q, hA0, hV, rfl, hfz, hnd⟩ := hW
  have hA : DataW.TrodAll enc Tryz.prog W 0 (fun _ => true) true Tryz.f5.params.toList args.toList ds p := hA0
  rw [Tryz.params5] at hA hval
  obtain ⟨v1, vs1, d1, ds1, p1, q1, hargs, rfl, rfl, h1, r1⟩ := trodAll_cons hA
  obtain ⟨rfl, rfl, rfl⟩ := trodAll_nil r1
  obtain ⟨rfl, rfl⟩ := trodVars_none hV
  obtain rfl : args = #[v1] := by cases args; simp_all
  obtain ⟨cs1, rfl, hs1⟩ := okWide_struct Tryz.underlying66 (hval 0 66 v1 rfl rfl)
  have k1 := h1
  have lt1 : ∀ x ∈ p1, x.block < W.heap.size := by obtain ⟨m, hm⟩ := k1; exact DataW.trod_lt m _ _ _ hm
  obtain ⟨sz, bt, rm, ao, n, cap, ts, rfl, hN, hS, hw⟩ : ∃ sz bt rm ao n cap ts, cs1 = #[.int .i64 sz, .int .i64 bt, .int .i64 rm, .slice ao n cap] ∧ n = List.length ts ∧ CSrc W ao ts ∧ ∀ t ∈ ts, Swc W t := by
    obtain ⟨fuel, hf⟩ := h1
    obtain ⟨sz, bt, rm, ao, n, cap, ts, he, h2, h3, h4⟩ := open_calls (by simpa [Value.cells] using hf)
    exact ⟨sz, bt, rm, ao, n, cap, ts, Array.ext' he, h2, h3, h4⟩
  clear hA0 hval0
  simp only [List.append_nil] at hW'
  refine (plain_all sz bt rm ts ao n cap W hN hS hw).mono fun e W' ⟨he, bel⟩ => ?_
  subst he
  exact ⟨_, rfl, _, _, _, [], _, [], hW', trodAll_mk1 (shut_bool Tryz.underlying4 _), trodAll_cons_mk (Below.trod laidOut (by kernel_rfl) (of_decide_eq_true (by kernel_rfl)) k1 bel lt1) trodAll_mk0, rfl, bel.frame _, fun h => by cases h⟩

theorem over : Rows.cachePlainRow.holds Tryz.pinned (OpenSpec.ofChange Rows.cachePlainSpec) :=
  OpenClaim.holds_of_wide 5 Tryz.f5 rfl rfl rfl rfl rfl rfl rfl ⟨rfl, rfl, rfl, rfl, rfl⟩ rfl rfl rfl rfl rfl (by kernel_rfl) Tryz.func5 (by kernel_rfl)
    (of_decide_eq_true (by kernel_rfl)) (by unfold Func.isWrapper; first | (rw [if_pos (by decide +kernel)]; kernel_rfl) | (rw [if_neg (by decide +kernel)]; exact ⟨rfl, rfl⟩))
    (fun os started H enc _ => lifted os started H enc)
end Go.Proofs.YtnccklbnncaeoaaGreat.cachePlain
namespace Go.Proofs.YtnccklbnncaeoaaGreat
/-- THE STATEMENT. -/
theorem cachePlain_holds : Rows.CachePlainSaid := cachePlain.over
#print axioms cachePlain_holds
end Go.Proofs.YtnccklbnncaeoaaGreat
