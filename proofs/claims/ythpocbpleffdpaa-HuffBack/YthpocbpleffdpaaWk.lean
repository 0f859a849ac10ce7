/- huff: works. -/
import Derived.Test.YthpocbpleffdpaaNe
import Derived.Test.YthpocbpleffdpaaCg
import Derived.Test.YthpocbpleffdpaaXdX
namespace Go.Proofs.Ythpocbpleffdpaa
open Go.RowKit
set_option linter.unusedVariables false
set_option linter.unusedSimpArgs false
theorem may_2133 : may [2, 1, 3, 3] = 0 := by decide +kernel
theorem codes_2133 : codes [2, 1, 3, 3] = [2, 0, 6, 7] := by decide +kernel
set_option maxRecDepth 100000 in
theorem nf56 (q : Nat) (w : World) : (binOp .neq 59 (.func (.func 56) #[] #[.pointer (some ⟨q, 0, none⟩)]) .nilFunc).run Try.prog w = .ok (.bool true) w := by rfl
set_option maxRecDepth 100000 in
set_option maxHeartbeats 8000000 in
theorem works_any (w : World) : Calls Try.prog 14 #[] w fun e w' => e = .returned (.bool true) ∧ Below w.heap.size w w' := by
  have HNU := hid num_any
  have HAL := hid all_any
  have HCO : Hid (∀ U a cap, Src .i64 U a [2, 1, 3, 3] → Calls Try.prog 10 #[.slice a 4 cap] U fun e w' => ∃ g, e = .returned (.tuple #[.slice (some ⟨g, 0, none⟩) 4 4, .int .i64 0]) ∧ Rw .u64 35 w' g [2, 0, 6, 7] ∧ Below U.heap.size U w') := fun U a cap hs => by
    have := codes_ok a cap [2, 1, 3, 3] U hs may_2133 (by intro z hz; simp at hz; rcases hz with rfl | rfl | rfl <;> decide) (by simp)
    rw [codes_2133] at this
    exact this.mono (fun e w' ⟨g, h1, _, h3, h4⟩ => ⟨g, h1, h3, h4⟩)
  have HLE : Hid (∀ U a cap, Src .u32 U a [5, 9, 1, 1] → Calls Try.prog 18 #[.int .i64 15, .slice a 4 cap] U fun e w' => ∃ g, e = .returned (.tuple #[.slice (some ⟨g, 0, none⟩) 4 4, .int .i64 0]) ∧ Rw .i64 3 w' g [2, 1, 3, 3] ∧ Below U.heap.size U w') := fun U a cap hs => by
    have := lengths_15 U a cap [5, 9, 1, 1] (by simp) (by intro z hz; simp at hz; rcases hz with rfl | rfl | rfl <;> decide) hs wi_known
    rw [hzl_known] at this
    exact this.mono (fun e w' ⟨h1, h3, h4⟩ => ⟨_, h1, h3, h4.below (Nat.le_refl _) (fun i h => h.elim)⟩)
  have HNE := hid new_11
  go_enter Try.func14, Try.ntmps14
  go_wp2_with fail
  refine (HCO.out _ _ _ (row_src (tl := []) (Rw.new .i64 3 w [2, 1, 3, 3]))).mono ?_
  rintro e w1 ⟨g1, rfl, r1, b1⟩
  have R1 := hid r1
  have B1 : Hid (Below w.heap.size w w1) := ((Below.refl w.heap.size w).alloc (Nat.le_refl _) _).trans (b1.mono (by simp))
  clear r1 b1 HCO
  go_wp2_with fail
  refine (HLE.out _ _ _ (row_src (tl := []) (Rw.new .u32 38 w1 [5, 9, 1, 1]))).mono ?_
  rintro e w2 ⟨g2, rfl, r2, b2⟩
  have R2 := hid r2
  have b2' : Below w1.heap.size w1 w2 := ((Below.refl w1.heap.size w1).alloc (Nat.le_refl _) _).trans (b2.mono (by simp))
  have R1' := hid (R1.out.below b2' R1.out.lt)
  have B2 : Hid (Below w.heap.size w w2) := B1.out.trans (b2'.mono B1.out.size)
  clear r2 b2 b2' HLE R1 B1
  go_wp2_with fail
  refine (HNE.out _ _ _ (row_src (tl := []) (Rw.new .i64 3 w2 [1, 1]))).mono ?_
  rintro e w3 ⟨⟨p3, rfl⟩, b3⟩
  have b3' : Below w2.heap.size w2 w3 := ((Below.refl w2.heap.size w2).alloc (Nat.le_refl _) _).trans (b3.mono (by simp))
  have S1 := R1'.out.below b3' R1'.out.lt
  have S2 := R2.out.below b3' R2.out.lt
  have B3 : Hid (Below w.heap.size w w3) := B2.out.trans (b3'.mono B2.out.size)
  have y0 : w3.cell? ⟨g1, 0, none⟩ = some (.int .u64 2) := S1.cell 0 (by simp)
  have y3 : w3.cell? ⟨g1, 3, none⟩ = some (.int .u64 7) := S1.cell 3 (by simp)
  have z1 : w3.cell? ⟨g2, 1, none⟩ = some (.int .i64 1) := S2.cell 1 (by simp)
  have z0 : w3.cell? ⟨g2, 0, none⟩ = some (.int .i64 2) := S2.cell 0 (by simp)
  have hpn : ∀ U : World, (binOp .eql 53 (.pointer (some p3)) (.pointer none)).run Try.prog U = .ok (.bool false) U := fun _ => rfl
  have h56 := nf56 w3.heap.size
  clear b3 b3' S1 S2 HNE R1' R2 B2
  go_wp2_with (first | (go_at_call 13; refine (HNU.out _ _).mono ?_; rintro e1 w9 ⟨rfl, rfl⟩) | (go_at_call 30; refine (HAL.out _ _).mono ?_; rintro e1 w9 ⟨rfl, rfl⟩))

  go_ret
  exact ⟨rfl, B3.out.alloc B3.out.size _⟩
end Go.Proofs.Ythpocbpleffdpaa
