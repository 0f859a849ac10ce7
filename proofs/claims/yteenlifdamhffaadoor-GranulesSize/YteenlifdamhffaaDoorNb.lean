/- granules: many, newRow, none. -/
import Derived.Test.YteenlifdamhffaaDoorNa
namespace Go.Proofs.YteenlifdamhffaaDoor
open Go.RowKit
set_option linter.unusedVariables false
set_option linter.unusedSimpArgs false
abbrev ptr (g : Nat) : Value := .pointer (some ⟨g, 0, none⟩)
theorem frm_le (gr a : Nat) : frm gr a ≤ a := by
  unfold frm
  have hp := Nat.two_pow_pos gr
  generalize 2 ^ gr = p at hp
  by_cases h : a = 0
  · subst h
    rw [Nat.zero_add, Nat.div_eq_of_lt (by omega)]
    omega
  · have h1 : a + p - 1 ≤ a * p := by
      have h2 : a * p = a + a * (p - 1) := by
        obtain ⟨q, rfl⟩ : ∃ q, p = q + 1 := ⟨p - 1, by omega⟩
        rw [Nat.mul_add, Nat.mul_one, Nat.add_sub_cancel]; omega
      have h3 : 1 * (p - 1) ≤ a * (p - 1) := Nat.mul_le_mul_right _ (by omega)
      omega
    exact Nat.div_le_of_le_mul (by rw [Nat.mul_comm]; exact h1)
set_option maxRecDepth 100000 in
set_option maxHeartbeats 1000000 in
theorem many_any (sz gr : Nat) (hg : gr ≤ 26) (hs : sz ≤ 4611686018427387904) (w : World) : Calls Tryd.prog 37 #[.agg #[.int .i64 sz, .int .i64 gr]] w fun e w' => e = .returned (.int .i64 (frm gr sz)) ∧ Kp (fun _ => False) w w' := by
  have k1 : Kp (fun _ => False) w (w.alloc (.cells #[.int .i64 sz, .int .i64 gr] 82)) := (Kp.refl _ _).alloc _
  have HK := hid k1
  have HF := hid (fun w => frm_any sz gr sz hg hs w)
  clear k1
  go_enter Tryd.func37, Tryd.ntmps37
  go_wp2_with (first | (go_at_call 73; refine (HF.out _).mono ?_; rintro _ w1 ⟨rfl, k⟩))
  go_ret
  exact ⟨rfl, HK.out.trans k (fun _ _ h => h)⟩
/-- How many words. -/
def nwd (n : Nat) : Nat := (n + 63) / 64
theorem Tryd.info102z : (Tryd.prog.info? 102).map (fun i => (i.zero, i.size, i.bytes)) = some (some (.int .u64 0), 1, 8) := by kernel_rfl
set_option maxRecDepth 100000 in
set_option maxHeartbeats 1000000 in
theorem newrow_any (n : Nat) (hn : n ≤ 1000000000) (w : World) : Calls Tryd.prog 36 #[.int .i64 n] w fun e w' => e = .returned (.slice (some ⟨w.heap.size, 0, none⟩) (nwd n) (nwd n)) ∧ Rw .u64 102 w' w.heap.size (List.replicate (nwd n) 0) ∧ Below w.heap.size w w' := by
  obtain ⟨k, hk⟩ : ∃ k, nwd n = k := ⟨_, rfl⟩
  have hk2 : (n + 63) / 64 = k := hk
  have hkb : k ≤ 17592186044416 := by omega
  have hd2 : ((n : Int) + 64 - 1) / 64 = (k : Int) := by omega
  rw [hk]
  go_enter Tryd.func36, Tryd.ntmps36
  go_wp2_with (first | (at_make; refine wpList_make_rw (κ := .u64) 84 102 8 Tryd.underlying84 Tryd.info102z (by decide) rfl _ _ rfl k (by go_simp <;> exact hd2) (by go_simp <;> exact hd2) hkb ?_; intro w1 r1 b1))
  go_ret
  exact ⟨rfl, r1, b1⟩
set_option maxRecDepth 100000 in
theorem none_nil (w : World) : Calls Tryd.prog 44 #[.pointer none] w fun e w' => e = .returned (.bool true) ∧ w' = w := by
  go_enter Tryd.func44, Tryd.ntmps44
  go_wp2_with fail
  go_ret
  exact ⟨rfl, rfl⟩
set_option maxRecDepth 100000 in
theorem none_some (Q : Nat) (sz gr : Int) (w : World) (c0 : w.cell? ⟨Q, 0, none⟩ = some (.int .i64 sz)) (c1 : w.cell? ⟨Q, 1, none⟩ = some (.int .i64 gr)) : Calls Tryd.prog 44 #[.pointer (some ⟨Q, 0, none⟩)] w fun e w' => e = .returned (.bool (!mayb sz gr)) ∧ Kp (fun _ => False) w w' := by
  have HM := hid (fun w => may_any sz gr w)
  obtain ⟨b, hb⟩ : ∃ b, mayb sz gr = b := ⟨_, rfl⟩
  rw [hb] at HM ⊢
  go_enter Tryd.func44, Tryd.ntmps44
  go_wp2_with (first | (go_at_call 35; refine (HM.out _).mono ?_; rintro _ w1 ⟨rfl, k⟩))
  go_ret
  exact ⟨rfl, k⟩
end Go.Proofs.YteenlifdamhffaaDoor
