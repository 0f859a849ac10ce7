/- May lengths have codes? The program's uncoded and Weight, the reference's May. -/
import Derived.Test.YthpocbpleffdpaaWe
namespace Go.Proofs.Ythpocbpleffdpaa
open Go.RowKit

/-- Why there are no codes: the number of the error, 0 if there are. -/
def may (zs : List Int) : Int := if bad zs = 0 then (if 32768 < wgt zs then 130 else 0) else bad zs
theorem bad_zero {zs : List Int} (h : bad zs = 0) : Wi 15 zs ∧ zs.length ≤ 320 := by
  unfold bad at h
  split at h
  · rename_i h1
    split at h
    · simp at h
    · exact ⟨h1, by omega⟩
  · simp at h
theorem may_bad {zs : List Int} (h : bad zs ≠ 0) : may zs = bad zs := by unfold may; rw [if_neg h]
theorem may_over {zs : List Int} (h : bad zs = 0) (h2 : 32768 < wgt zs) : may zs = 130 := by unfold may; rw [if_pos h, if_pos h2]
theorem may_ok {zs : List Int} (h : bad zs = 0) (h2 : ¬ 32768 < wgt zs) : may zs = 0 := by unfold may; rw [if_pos h, if_neg h2]
set_option maxRecDepth 100000 in
set_option maxHeartbeats 2000000 in
theorem may_any (ao : Option Addr) (cap : Nat) (zs : List Int) (w : World) (hl : zs.length ≤ 4000000000000000000) (hs : Src .i64 w ao zs) :
    Calls Try.prog 16 #[.slice ao zs.length cap] w fun e w' => e = .returned (.int .i64 (may zs)) ∧ w = w' := by
  have T1 := check_any ao cap zs w hl hs
  by_cases h : bad zs = 0
  · obtain ⟨h1, h2⟩ := bad_zero h
    have T2 := rweight_any ao cap zs w (by omega) hs h1
    rw [h] at T1
    by_cases h3 : 32768 < wgt zs
    · rw [may_over h h3]
      generalize wgt zs = g at T2 h3
      clear h h1 h2 hs hl
      go_enter Try.func16, Try.ntmps16
      go_wp2_with fail
      refine T1.mono ?_
      rintro e w' ⟨rfl, rfl⟩
      go_wp2_with fail
      refine T2.mono ?_
      rintro e w' ⟨rfl, rfl⟩
      clear T1 T2
      go_wp2_with fail
      go_ret
      exact ⟨rfl, rfl⟩
    · rw [may_ok h h3]
      generalize wgt zs = g at T2 h3
      clear h h1 h2 hs hl
      go_enter Try.func16, Try.ntmps16
      go_wp2_with fail
      refine T1.mono ?_
      rintro e w' ⟨rfl, rfl⟩
      go_wp2_with fail
      refine T2.mono ?_
      rintro e w' ⟨rfl, rfl⟩
      clear T1 T2
      go_wp2_with fail
      go_ret
      exact ⟨rfl, rfl⟩
  · rw [may_bad h]
    have hb : (bad zs == 0) = false := by simpa using h
    generalize bad zs = g at T1 hb h
    clear hs hl
    go_enter Try.func16, Try.ntmps16
    go_wp2_with fail
    refine T1.mono ?_
    rintro e w' ⟨rfl, rfl⟩
    clear T1
    go_wp2_with fail
    go_ret
    exact ⟨rfl, rfl⟩
set_option maxRecDepth 100000 in
set_option maxHeartbeats 2000000 in
theorem uncoded_any (ao : Option Addr) (cap : Nat) (zs : List Int) (w : World) (hl : zs.length ≤ 4000000000000000000) (hs : Src .i64 w ao zs) :
    Calls Try.prog 45 #[.slice ao zs.length cap] w fun e w' => e = .returned (.int .i64 (may zs)) ∧ Below w.heap.size w w' := by
  have T1 := refused_any ao cap zs w hl hs
  by_cases h : bad zs = 0
  · obtain ⟨h1, h2⟩ := bad_zero h
    have T2 := weight_any ao cap zs w (by omega) hs h1
    rw [h] at T1
    by_cases h3 : 32768 < wgt zs
    · rw [may_over h h3]
      generalize wgt zs = g at T2 h3
      clear h h1 h2 hs hl
      go_enter Try.func45, Try.ntmps45
      go_wp2_with fail
      refine T1.mono ?_
      rintro e w' ⟨rfl, rfl⟩
      go_wp2_with fail
      refine T2.mono ?_
      rintro e w2 ⟨rfl, b2⟩
      clear T1 T2
      go_wp2_with fail
      go_ret
      exact ⟨rfl, b2⟩
    · rw [may_ok h h3]
      generalize wgt zs = g at T2 h3
      clear h h1 h2 hs hl
      go_enter Try.func45, Try.ntmps45
      go_wp2_with fail
      refine T1.mono ?_
      rintro e w' ⟨rfl, rfl⟩
      go_wp2_with fail
      refine T2.mono ?_
      rintro e w2 ⟨rfl, b2⟩
      clear T1 T2
      go_wp2_with fail
      go_ret
      exact ⟨rfl, b2⟩
  · rw [may_bad h]
    have hb : (bad zs == 0) = false := by simpa using h
    generalize bad zs = g at T1 hb h
    clear hs hl
    go_enter Try.func45, Try.ntmps45
    go_wp2_with fail
    refine T1.mono ?_
    rintro e w' ⟨rfl, rfl⟩
    clear T1
    go_wp2_with fail
    go_ret
    exact ⟨rfl, Below.refl _ _⟩
set_option maxRecDepth 100000 in
set_option maxHeartbeats 2000000 in
theorem hweight_any (ao : Option Addr) (cap : Nat) (zs : List Int) (w : World) (hl : zs.length ≤ 4000000000000000000) (hs : Src .i64 w ao zs) :
    Calls Try.prog 9 #[.slice ao zs.length cap] w fun e w' => e = .returned (.tuple #[.int .i64 (if bad zs = 0 then (wgt zs : Int) else 0), .int .i64 (bad zs)]) ∧ Below w.heap.size w w' := by
  have T1 := refused_any ao cap zs w hl hs
  by_cases h : bad zs = 0
  · obtain ⟨h1, h2⟩ := bad_zero h
    have T2 := weight_any ao cap zs w (by omega) hs h1
    rw [if_pos h]
    rw [h] at T1 ⊢
    generalize wgt zs = g at T2
    clear h h1 h2 hs hl
    go_enter Try.func9, Try.ntmps9
    go_wp2_with fail
    refine T1.mono ?_
    rintro e w' ⟨rfl, rfl⟩
    go_wp2_with fail
    refine T2.mono ?_
    rintro e w2 ⟨rfl, b2⟩
    clear T1 T2
    go_wp2_with fail
    go_ret2
    exact ⟨rfl, b2⟩
  · rw [if_neg h]
    have hb : (bad zs == 0) = false := by simpa using h
    generalize bad zs = g at T1 hb h
    clear hs hl
    go_enter Try.func9, Try.ntmps9
    go_wp2_with fail
    refine T1.mono ?_
    rintro e w' ⟨rfl, rfl⟩
    clear T1
    go_wp2_with fail
    go_ret2
    exact ⟨rfl, Below.refl _ _⟩
end Go.Proofs.Ythpocbpleffdpaa
