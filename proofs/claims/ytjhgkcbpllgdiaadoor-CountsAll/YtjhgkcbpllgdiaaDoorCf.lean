/- counts: opened and what it hands out. -/
import Derived.Test.YtjhgkcbpllgdiaaDoorCe
namespace Go.Proofs.YtjhgkcbpllgdiaaDoor
open Go.RowKit
set_option linter.unusedVariables false
theorem w64 {o : Nat} (ho : o < 7) : 2 ^ o ≤ 64 := Nat.pow_le_pow_right (n := 2) (by decide) (show o ≤ 6 by omega)
theorem fits_of {n W i : Nat} (hW : 0 < W) (h : i < 8 * n / W) : i * W + W ≤ 8 * n := by
  have h1 : (i + 1) * W ≤ 8 * n / W * W := Nat.mul_le_mul_right W h
  have h2 := Nat.div_mul_le_self (8 * n) W
  rw [Nat.add_mul, Nat.one_mul] at h1
  omega
/-- The value that puts another one into count i. -/
def putf (rb ib : Nat) : Value := .func (.func 35) #[] #[.pointer (some ⟨rb, 0, none⟩), .pointer (some ⟨ib, 0, none⟩)]
set_option maxHeartbeats 1000000 in
theorem put_long (v : Value) (o rb ib : Nat) (x : Int) (w : World) (ho : o < 7) (hr : Rb w rb v (2 ^ o)) (hx : mst (2 ^ o) < x) : Calls Tryd.prog 35 #[.int .u64 x, .pointer (some ⟨rb, 0, none⟩), .pointer (some ⟨ib, 0, none⟩)] w fun e w' => e = .returned (.int .i64 3) ∧ Kp (fun _ => False) w w' := by
  have MO := hid (fun w => most_any v o w ho)
  have RR := hid hr
  clear hr
  generalize mst (2 ^ o) = M at *
  go_enter Tryd.func35, Tryd.ntmps35
  go_wp2_with (first | (refine wpList_load_rb rfl (.tmp 1) rfl rb rfl RR.out ?_) | (go_at_call 24; refine (MO.out _).mono ?_; rintro e w1 ⟨rfl, k1⟩; have K1 := hid k1; clear k1))
  go_ret
  exact ⟨rfl, K1.out⟩
set_option maxHeartbeats 1000000 in
theorem put_ok (g cap o i rb ib : Nat) (zs tl : List Int) (x : Int) (w : World) (hn : zs.length ≤ 1000000000000) (hz : Byt zs) (ho : o < 7) (hi : i < 8 * zs.length / 2 ^ o) (hx0 : 0 ≤ x) (hx : x ≤ mst (2 ^ o)) (hrow : Rw .u8 5 w g (zs ++ tl)) (hr : Rb w rb (.slice (some ⟨g, 0, none⟩) zs.length cap) (2 ^ o)) (hib : w.cell? ⟨ib, 0, none⟩ = some (.int .i64 (i : Int))) : Calls Tryd.prog 35 #[.int .u64 x, .pointer (some ⟨rb, 0, none⟩), .pointer (some ⟨ib, 0, none⟩)] w fun e w' => e = .returned (.int .i64 0) ∧ Rw .u8 5 w' g (sb zs (i * 2 ^ o) (2 ^ o) x ++ tl) ∧ Kp (fun k => k = g) w w' := by
  have MO := hid (fun w => most_any (.slice (some ⟨g, 0, none⟩) zs.length cap) o w ho)
  have hx1 : x < 18446744073709551616 := by
    have h1 := pow2_le (w64 ho)
    have e : (2 : Int) ^ 64 = 18446744073709551616 := by decide
    unfold mst at hx
    rw [e] at h1
    omega
  have SE := hid (fun w hr => set_any g cap (2 ^ o) i zs tl x w hn hz (pow_pos7 o) (w64 ho) (fits_of (pow_pos7 o) hi) hx0 hx1 hr)
  have RR := hid hr
  have RO := hid hrow
  have IB := hid hib
  clear hr hi hrow hib
  have hx' : ¬ mst (2 ^ o) < x := by omega
  generalize mst (2 ^ o) = M at *
  go_enter Tryd.func35, Tryd.ntmps35
  go_wp2_with (first | (refine wpList_load_rb rfl (.tmp 1) rfl rb rfl RR.out ?_) | (go_at_call 24; refine (MO.out _).mono ?_; rintro e w1 ⟨rfl, k1⟩; have K1 := hid k1; have RR1 := hid (RR.out.kp k1 (fun x => x)); have RO1 := hid (RO.out.kp k1 (fun x => x)); have ib1 := k1.cell IB.out; clear k1) | (refine wpList_load_rb rfl (.tmp 1) rfl rb rfl RR1.out ?_) | (go_at_call 33; refine (SE.out _ RO1.out).mono ?_; rintro e w2 ⟨⟨v, rfl⟩, r2, k2⟩; have R2 := hid r2; have K2 := hid (K1.out.mono (G := fun k => k = g) (fun _ _ x => x.elim) |>.trans k2 (fun _ _ x => x)); clear r2 k2 ib1))
  go_ret
  exact ⟨rfl, R2.out, K2.out⟩
end Go.Proofs.YtjhgkcbpllgdiaaDoor
