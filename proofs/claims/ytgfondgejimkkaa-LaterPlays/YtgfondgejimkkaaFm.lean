/- later: mathematics of as many runs as may be. -/
import Derived.Test.YtgfondgejimkkaaCm
import Derived.Test.YtgfondgejimkkaaNm
namespace Go.Proofs.Ytgfondgejimkkaa
set_option linter.unusedVariables false
set_option linter.unusedSimpArgs false
def fl (n : Nat) : List Rn := (List.range n).map (fun i : Nat => (⟨4 * (i : Int), 3⟩ : Rn))
theorem fl_len (n : Nat) : (fl n).length = n := by simp [fl]
theorem fl_succ (n : Nat) : fl (n + 1) = fl n ++ [⟨4 * (n : Int), 3⟩] := by simp [fl, List.range_succ]
theorem fl_mem {n : Nat} {x : Rn} (h : x ∈ fl n) : ∃ i, i < n ∧ x = ⟨4 * (i : Int), 3⟩ := by
  simp [fl] at h
  obtain ⟨i, hi, e⟩ := h
  exact ⟨i, hi, e.symm⟩
theorem fl_can {n : Nat} (hn : n ≤ 100000) : Can (fl n) := by
  refine ⟨fun x hx => ?_, ?_⟩
  · obtain ⟨i, hi, rfl⟩ := fl_mem hx
    simp [Mayr, Rn.e]
    omega
  · unfold fl
    rw [List.pairwise_map]
    refine List.Pairwise.imp ?_ (List.pairwise_lt_range)
    intro a b hab
    simp [Rn.e]
    omega
theorem tog_id {l : List Rn} (h : Can l) : tog l = l := tog_is h.1 h (fun _ => Iff.rfl)
theorem fl_more : Can (fl 4096 ++ [⟨100000, 1⟩]) := can_snoc (fl_can (by omega)) (by simp [Mayr, Rn.e]) (fun z hz => by
  obtain ⟨i, hi, rfl⟩ := fl_mem hz
  simp [Rn.e]
  omega)
theorem fl_sz (n : Nat) : sz (fl n) = 3 * n := by
  induction n with
  | zero => rfl
  | succ n ih => rw [fl_succ, sz_append, ih, sz_cons, sz_nil]; simp; omega
theorem fl_head (n : Nat) : ∃ tl : List Rn, fl (n + 1) = ⟨0, 3⟩ :: tl ∧ tl.length = n ∧ ∀ y ∈ tl, 4 ≤ y.a ∧ Mayr y ∨ 100000 < n := by
  refine ⟨(fl (n + 1)).tail, ?_, by simp [fl_len], fun y hy => ?_⟩
  · unfold fl
    rw [List.range_succ_eq_map]
    simp
  · by_cases h : 100000 < n
    · exact .inr h
    · left
      have hy2 : y ∈ (List.range n).map (fun i => (⟨4 * ((i + 1 : Nat) : Int), 3⟩ : Rn)) := by
        unfold fl at hy
        rw [List.range_succ_eq_map] at hy
        simpa using hy
      simp at hy2
      obtain ⟨i, hi, rfl⟩ := hy2
      simp [Mayr, Rn.e]
      omega
theorem ovl_none {x : Rn} {A : List Rn} (h : ∀ y ∈ A, x.e ≤ y.a) : ovl A x = 0 := by
  induction A with
  | nil => rfl
  | cons y A ih =>
    rw [ovl_cons, ih (fun z hz => h z (by simp [hz]))]
    have := h y (by simp)
    unfold ov
    omega
theorem fl_lss1 : (lss (fl 4096) ⟨1, 1⟩).length = 4097 := by
  obtain ⟨tl, h1, h2, h3⟩ := fl_head 4095
  rw [h1, lss_cons, lss_none (by simp [Mayr, Rn.e]) (fun y hy => ((h3 y hy).resolve_right (by omega)).2) (fun y hy => by
    have := ((h3 y hy).resolve_right (by omega)).1
    unfold ovb
    rw [Bool.and_eq_false_iff]
    left
    rw [decide_eq_false_iff_not]
    show ¬ y.a < 1 + 1
    omega), List.length_append, h2]
  rfl
theorem fl_lss0 : (lss (fl 4096) ⟨0, 1⟩).length = 4096 := by
  obtain ⟨tl, h1, h2, h3⟩ := fl_head 4095
  rw [h1, lss_cons, lss_none (by simp [Mayr, Rn.e]) (fun y hy => ((h3 y hy).resolve_right (by omega)).2) (fun y hy => by
    have := ((h3 y hy).resolve_right (by omega)).1
    unfold ovb
    rw [Bool.and_eq_false_iff]
    left
    rw [decide_eq_false_iff_not]
    show ¬ y.a < 0 + 1
    omega), List.length_append, h2]
  rfl
theorem fl_ovl : ovl (fl 4096) ⟨0, 1⟩ = 1 := by
  obtain ⟨tl, h1, h2, h3⟩ := fl_head 4095
  rw [h1, ovl_cons, ovl_none (fun y hy => by
    have := ((h3 y hy).resolve_right (by omega)).1
    simp [Rn.e]
    omega)]
  rfl
end Go.Proofs.Ytgfondgejimkkaa
