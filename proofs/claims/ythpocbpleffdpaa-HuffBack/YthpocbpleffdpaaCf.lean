/- Codes: where there are none. -/
import Derived.Test.YthpocbpleffdpaaCe
namespace Go.Proofs.Ythpocbpleffdpaa
open Go.RowKit Go.Shelf
set_option linter.unusedVariables false
set_option maxRecDepth 100000 in
set_option maxHeartbeats 4000000 in
theorem codes_bad (a : Option Addr) (cap : Nat) (zs : List Int) (w : World) (hs : Src .i64 w a zs) (hm : may zs ≠ 0) (hl : zs.length ≤ 4000000000000000000) :
    Calls Try.prog 10 #[.slice a zs.length cap] w fun e w' => e = .returned (.tuple #[.slice none 0 0, .int .i64 (may zs)]) ∧ Below w.heap.size w w' := by
  have HU := hid (uncoded_any a cap zs w hl hs)
  have h1 : (may zs != 0) = true := by simpa using hm
  have h2 : (may zs == 0) = false := by simpa using hm
  generalize may zs = r at *
  clear hs
  refine (callsIn_wide (n := 3)).1 ?_
  refine callsIn_of_wp_marks Try.func10 rfl trivial ?_ rfl
  simp only [Try.ntmps10, List.size_toArray, List.length_cons, List.length_nil, Nat.reduceAdd, Nat.reduceSub, Array.replicate_succ, Array.replicate_zero, List.push_toArray, List.append_toArray, List.nil_append, List.cons_append]
  refine wpIn_wide.2 ?_
  go_wp2_with (first | (go_at_call 45; refine HU.out.mono ?_; rintro e w1 ⟨rfl, b1⟩))
  exact ⟨.tuple #[.slice none 0 0, .int .i64 r], by simp [results, Try.results10], rfl, b1⟩
/-- Codes, whatever the lengths. -/
theorem codes_any (a : Option Addr) (cap : Nat) (zs : List Int) (w : World) (hs : Src .i64 w a zs) (hl : zs.length ≤ 4000000000000000000) :
    Calls Try.prog 10 #[.slice a zs.length cap] w fun e w' => (may zs ≠ 0 ∧ e = .returned (.tuple #[.slice none 0 0, .int .i64 (may zs)]) ∨ may zs = 0 ∧ ∃ g, e = .returned (.tuple #[.slice (some ⟨g, 0, none⟩) zs.length zs.length, .int .i64 0]) ∧ w.heap.size ≤ g ∧ Rw .u64 35 w' g (codes zs)) ∧ Below w.heap.size w w' := by
  by_cases hm : may zs = 0
  · have hb : bad zs = 0 := by
      by_cases h : bad zs = 0
      · exact h
      · exact absurd (may_bad h ▸ hm) h
    obtain ⟨h1, h2⟩ := bad_zero hb
    refine (codes_ok a cap zs w hs hm h1 h2).mono ?_
    rintro e w' ⟨g, rfl, g1, g2, g3⟩
    exact ⟨Or.inr ⟨hm, g, rfl, g1, g2⟩, g3⟩
  · refine (codes_bad a cap zs w hs hm hl).mono ?_
    rintro e w' ⟨rfl, g3⟩
    exact ⟨Or.inl ⟨hm, rfl⟩, g3⟩
end Go.Proofs.Ythpocbpleffdpaa
