/- granules: the layout's small functions. -/
import Derived.Test.YteenlifdamhffaaDoorKb
import Derived.BigQuiet
namespace Go.Proofs.YteenlifdamhffaaDoor
open Go.RowKit
set_option linter.unusedVariables false
set_option linter.unusedSimpArgs false
/-- May a map be so? -/
def mayb (sz gr : Int) : Bool := decide (0 ≤ sz) && (decide (sz ≤ 67108864) && (decide (9 ≤ gr) && decide (gr ≤ 26)))
theorem mayb_iff {sz gr : Int} : mayb sz gr = true ↔ 0 ≤ sz ∧ sz ≤ 67108864 ∧ 9 ≤ gr ∧ gr ≤ 26 := by
  unfold mayb
  simp
def lay (sz gr : Int) : Value := .agg #[.int .i64 sz, .int .i64 gr]
set_option maxRecDepth 100000 in
set_option maxHeartbeats 1000000 in
theorem may_any (sz gr : Int) (w : World) : Calls Tryd.prog 35 #[.agg #[.int .i64 sz, .int .i64 gr]] w fun e w' => e = .returned (.bool (mayb sz gr)) ∧ Kp (fun _ => False) w w' := by
  have k1 : Kp (fun _ => False) w (w.alloc (.cells #[.int .i64 sz, .int .i64 gr] 82)) := (Kp.refl _ _).alloc _
  have HK := hid k1
  clear k1
  unfold mayb
  by_cases h1 : 0 ≤ sz
  · by_cases h2 : sz ≤ 67108864
    · by_cases h3 : 9 ≤ gr
      · go_enter Tryd.func35, Tryd.ntmps35
        go_wp2_with fail
        go_ret
        refine ⟨?_, HK.out⟩
        simp [h1, h2, h3]
      · go_enter Tryd.func35, Tryd.ntmps35
        go_wp2_with fail
        go_ret
        refine ⟨?_, HK.out⟩
        simp [h1, h2, h3]
        omega
    · go_enter Tryd.func35, Tryd.ntmps35
      go_wp2_with fail
      go_ret
      refine ⟨?_, HK.out⟩
      simp [h1, h2]
      omega
  · go_enter Tryd.func35, Tryd.ntmps35
    go_wp2_with fail
    go_ret
    refine ⟨?_, HK.out⟩
    simp [h1]
    omega
/-- The first granule that has no byte ahead of a place. -/
def frm (gr a : Nat) : Nat := (a + 2 ^ gr - 1) / 2 ^ gr
theorem pow_gr (gr : Nat) (h : gr ≤ 26) : 1 ≤ 2 ^ gr ∧ 2 ^ gr ≤ 67108864 := by
  have h1 := Nat.pow_le_pow_right (n := 2) (by omega) h
  have h2 := Nat.two_pow_pos gr
  omega
theorem frm_eq (gr a : Nat) (hp : 1 ≤ 2 ^ gr ∧ 2 ^ gr ≤ 67108864) (ha : a ≤ 4611686018427387904) : wrap64 (wrap64 ((a : Int) + wrap64 (2 ^ gr)) - 1) / 2 ^ gr = (((a + 2 ^ gr - 1) / 2 ^ gr : Nat) : Int) := by
  have e : ((2 : Int) ^ gr) = ((2 ^ gr : Nat) : Int) := by simp
  rw [e]
  generalize 2 ^ gr = p at hp
  have e1 : wrap64 (p : Int) = (p : Int) := by unfold wrap64; omega
  rw [e1]
  have e2 : wrap64 (wrap64 ((a : Int) + (p : Int)) - 1) = ((a + p - 1 : Nat) : Int) := by unfold wrap64; omega
  rw [e2]
  simp
set_option maxRecDepth 100000 in
set_option maxHeartbeats 1000000 in
theorem frm_any (sz : Int) (gr a : Nat) (hg : gr ≤ 26) (ha : a ≤ 4611686018427387904) (w : World) : Calls Tryd.prog 73 #[.agg #[.int .i64 sz, .int .i64 gr], .int .i64 a] w fun e w' => e = .returned (.int .i64 (frm gr a)) ∧ Kp (fun _ => False) w w' := by
  have k1 : Kp (fun _ => False) w (w.alloc (.cells #[.int .i64 sz, .int .i64 gr] 82)) := (Kp.refl _ _).alloc _
  have HK := hid k1
  clear k1
  have hp := pow_gr gr hg
  have hmin : min gr 64 = gr := Nat.min_eq_left (by omega)
  unfold frm
  go_enter Tryd.func73, Tryd.ntmps73
  go_wp2_with fail
  go_quiet (fail)
  go_wp2_with fail
  go_ret
  refine ⟨?_, HK.out.trans (drewN_kp _ _ _) (fun _ _ h => h)⟩
  show Ending.returned (.int .i64 (wrap64 (wrap64 ((a : Int) + wrap64 (2 ^ gr)) - 1) / 2 ^ gr)) = _
  rw [frm_eq gr a hp ha]
set_option maxRecDepth 100000 in
set_option maxHeartbeats 1000000 in
theorem of_any (sz : Int) (gr a : Nat) (hg : gr ≤ 26) (w : World) : Calls Tryd.prog 62 #[.agg #[.int .i64 sz, .int .i64 gr], .int .i64 a] w fun e w' => e = .returned (.int .i64 ((a / 2 ^ gr : Nat) : Int)) ∧ Kp (fun _ => False) w w' := by
  have k1 : Kp (fun _ => False) w (w.alloc (.cells #[.int .i64 sz, .int .i64 gr] 82)) := (Kp.refl _ _).alloc _
  have HK := hid k1
  clear k1
  have hmin : min gr 64 = gr := Nat.min_eq_left (by omega)
  go_enter Tryd.func62, Tryd.ntmps62
  go_wp2_with fail
  go_ret
  refine ⟨?_, HK.out⟩
  show Ending.returned (.int .i64 ((a : Int) / 2 ^ gr)) = _
  simp
end Go.Proofs.YteenlifdamhffaaDoor
