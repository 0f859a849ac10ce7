/- entry: plain mathematics of what All tells. -/
import Derived.Test.YtkmkhjcmgockkaaRn
namespace Go.Proofs.Ytkmkhjcmgockkaa
open Go.RowKit
set_option linter.unusedVariables false
/-- Where one stands behind what came. -/
def atv {zs : List Int} {b : Int} (pre : List (Ex zs b)) : Nat := match pre.getLast? with
  | none => 0
  | some x => x.1.1 + 1
theorem atv_nil {zs : List Int} {b : Int} : atv ([] : List (Ex zs b)) = 0 := rfl
theorem atv_snoc {zs : List Int} {b : Int} (pre : List (Ex zs b)) (x : Ex zs b) : atv (pre ++ [x]) = x.1.1 + 1 := by simp [atv]
theorem range_snoc {zs : List Int} {b : Int} {full : List (Ex zs b)} {j : Nat} (h : full.map (·.1.1) = List.range (j + 1)) : ∃ f x, full = f ++ [x] ∧ f.map (·.1.1) = List.range j ∧ x.1.1 = j := by
  have hl := congrArg List.length h
  rw [List.length_map, List.length_range] at hl
  have hne : full ≠ [] := fun e => by rw [e] at hl; simp at hl
  refine ⟨full.dropLast, full.getLast hne, (List.dropLast_concat_getLast hne).symm, ?_⟩
  rw [← List.dropLast_concat_getLast hne, List.map_append, List.range_succ] at h
  have h2 := List.append_inj' h rfl
  exact ⟨h2.1, by simpa using h2.2⟩
theorem eqE_z {x : En} (h : (!eqE x zE) = false) : x = zE := eqE_eq (by simpa using h)
theorem gap {zs : List Int} {b : Int} : ∀ (j : Nat) (full : List (Ex zs b)), full.map (·.1.1) = List.range j → atv (flt full) ≤ j ∧ ∀ k : Nat, atv (flt full) ≤ k → k < j → GetR zs (k : Int) b zE 0 := by
  intro j
  induction j with
  | zero =>
    intro full h
    have : full = [] := by simpa using h
    subst this
    exact ⟨Nat.le_refl _, fun k _ hk => absurd hk (by omega)⟩
  | succ j ih =>
    intro full h
    obtain ⟨f, x, rfl, hf, hx⟩ := range_snoc h
    cases hq : (!eqE x.1.2 zE) with
    | false =>
      rw [flt_no f x hq]
      have hi := ih f hf
      refine ⟨by omega, fun k h1 h2 => ?_⟩
      by_cases e : k = j
      · subst e
        have := x.2
        rw [hx, eqE_z hq] at this
        exact this
      · exact hi.2 k h1 (by omega)
    | true =>
      rw [flt_yes f x hq, atv_snoc, hx]
      exact ⟨Nat.le_refl _, fun k h1 h2 => by omega⟩
def SPA {zs : List Int} {b : Int} (K : Nat) (pre : List (Ex zs b)) : Prop := ∃ (j : Nat) (full : List (Ex zs b)), j ≤ K ∧ full.map (·.1.1) = List.range j ∧ pre = flt full
theorem sp_snoc {zs : List Int} {b : Int} {K : Nat} {pre : List (Ex zs b)} {x : Ex zs b} (h : SPA K (pre ++ [x])) : atv pre ≤ x.1.1 ∧ x.1.1 < K ∧ (!eqE x.1.2 zE) = true ∧ ∀ k : Nat, atv pre ≤ k → k < x.1.1 → GetR zs (k : Int) b zE 0 := by
  obtain ⟨j, full, hj, hm, he⟩ := h
  revert full
  induction j with
  | zero =>
    intro full hm he
    have : full = [] := by simpa using hm
    subst this
    have := congrArg List.length he
    simp [flt] at this
  | succ j ih =>
    intro full hm he
    obtain ⟨f, y, rfl, hf, hy⟩ := range_snoc hm
    cases hq : (!eqE y.1.2 zE) with
    | false =>
      rw [flt_no f y hq] at he
      exact ih (by omega) f hf he
    | true =>
      rw [flt_yes f y hq] at he
      obtain ⟨e1, e2⟩ := List.append_inj' he rfl
      have e3 : x = y := by simpa using e2
      subst e3
      have hg := gap j f hf
      rw [← e1] at hg
      rw [hy]
      exact ⟨hg.1, by omega, hq, hg.2⟩
end Go.Proofs.Ytkmkhjcmgockkaa
