/- counts: get. -/
import Derived.Test.YtjhgkcbpllgdiaaDoorCc
namespace Go.Proofs.YtjhgkcbpllgdiaaDoor
open Go.RowKit
set_option linter.unusedVariables false
theorem pow2_le {m n : Nat} (h : m ≤ n) : (2 : Int) ^ m ≤ 2 ^ n := by
  have := Nat.pow_le_pow_right (n := 2) (by decide) h
  have e1 := Int.natCast_pow 2 m
  have e2 := Int.natCast_pow 2 n
  have h2 : ((2 ^ m : Nat) : Int) ≤ ((2 ^ n : Nat) : Int) := by omega
  rw [e1, e2] at h2
  exact h2
theorem or_bit (x b : Int) (h0 : 0 ≤ x) (h1 : x < 9223372036854775808) (hb : 0 ≤ b ∧ b ≤ 1) : bits .or .u64 (x * 2) b = b + 2 * x := by
  rw [u64_or _ _ (by omega) (by omega) hb.1 (by omega)]
  obtain ⟨y, rfl⟩ := Int.eq_ofNat_of_zero_le h0
  obtain ⟨c, rfl⟩ := Int.eq_ofNat_of_zero_le hb.1
  have e1 : ((y : Int) * 2).toNat = 2 ^ 1 * y := by omega
  rw [e1, Int.toNat_natCast, ← Nat.two_pow_add_eq_or_of_lt (by omega)]
  omega
set_option maxHeartbeats 1000000 in
set_option maxRecDepth 20000 in
theorem get_any (g off cap W i : Nat) (zs : List Int) (w : World) (hn : zs.length ≤ 1000000000000) (hz : Byt zs) (hW0 : 0 < W) (hW : W ≤ 64) (hi : i * W + W ≤ 8 * zs.length) (hs : Src .u8 w (some ⟨g, off, none⟩) zs) : Calls Tryd.prog 26 #[.agg (rc (.slice (some ⟨g, off, none⟩) zs.length cap) W), .int .i64 (i : Int)] w fun e w' => e = .returned (.int .u64 (nb zs (i * W) W)) ∧ Kp (fun _ => False) w w' := by
  have HS0 := hid (Rb.new w (.slice (some ⟨g, off, none⟩) zs.length cap) W)
  have c1 : (w.alloc (.cells (rc (.slice (some ⟨g, off, none⟩) zs.length cap) W) 58)).cell? ⟨w.heap.size, 1, none⟩ = some (.int .i64 (W : Int)) := HS0.out.c1

  have KP : Hid (Kp (fun _ => False) w (w.alloc (.cells (rc (.slice (some ⟨g, off, none⟩) zs.length cap) W) 58))) := (Kp.refl _ _).alloc _
  have BIT := hid (fun (k : Nat) (kk : Int) (X : World) (hkk : kk = (k : Int)) (hk : k < 8 * zs.length) (kx : Kp (fun _ => False) w X) => (by subst hkk; exact bit_any g off cap W k zs X hn hz hk (hs.kp0 kx) : Calls Tryd.prog 34 #[.agg (rc (.slice (some ⟨g, off, none⟩) zs.length cap) W), .int .i64 kk] X fun e w' => e = .returned (.int .u8 (bt zs k)) ∧ Kp (fun _ => False) X w'))
  have hm1 : (i : Int) * (W : Int) = ((i * W : Nat) : Int) := (Int.natCast_mul _ _).symm
  have hm2 : ((i : Int) + 1) * (W : Int) = ((i * W : Nat) : Int) + (W : Int) := by rw [Int.add_mul, hm1]; omega
  have hi8 : Hid (i * W + W ≤ 8 * zs.length) := hi
  have hA : i * W + W ≤ 8000000000000 := by omega
  clear hi hs
  have hil : i ≤ 8000000000000 := by
    have : i ≤ i * W := Nat.le_mul_of_pos_right i hW0
    omega
  generalize i * W = A at *
  unfold rc at *
  go_enter Tryd.func26, Tryd.ntmps26
  go_wp2_with fail
  go_loopw [5, 6] (fun x k wr => ∃ j : Nat, j ≤ W ∧ k = .int .i64 ((A : Int) + (j : Int) - 1) ∧ x = .int .u64 (nb zs (A + j) (W - j)) ∧ Kp (fun _ => False) (w.alloc (.cells (rc (.slice (some ⟨g, off, none⟩) zs.length cap) W) 58)) wr) (fun _ k _ => (intOf k + 1 - A).toNat)
  case atStart => exact ⟨W, Nat.le_refl _, by go_num, by rw [Nat.sub_self]; rfl, Kp.refl _ _⟩
  case round =>
    obtain ⟨j, hj, rfl, rfl, kr⟩ := hrel
    have KR := hid kr
    have RR := hid (HS0.out.kp kr (fun x => x))
    have c1r := RR.out.c1
    clear kr
    by_cases hj0 : j = 0
    · subst hj0
      have KF := hid (KP.out.trans KR.out (fun _ _ x => x))
      rw [Nat.add_zero, Nat.sub_zero]
      obtain ⟨X, hX⟩ : ∃ X, X = nb zs A W := ⟨_, rfl⟩
      rw [← hX]
      have HX := hid hX
      clear hX
      clear KR RR HS0 KP BIT hi8 c1 hm2
      go_wp2_with fail
      go_ret
      exact ⟨by rw [← HX.out]; rfl, KF.out⟩
    · obtain ⟨m, rfl⟩ : ∃ m, j = m + 1 := ⟨j - 1, by omega⟩
      have hnb := nb_b zs (A + (m + 1)) (W - (m + 1))
      have hp := pow2_le (show W - (m + 1) ≤ 63 by omega)
      have hb63 : (2 : Int) ^ 63 = 9223372036854775808 := by decide
      have x0 := hnb.1
      have x1 : nb zs (A + (m + 1)) (W - (m + 1)) < 9223372036854775808 := by rw [← hb63]; exact Int.lt_of_lt_of_le hnb.2 hp
      have hbb := bt_b zs (A + m)
      have HE : Hid (nb zs (A + m) (W - m) = bits .or .u64 (nb zs (A + (m + 1)) (W - (m + 1)) * 2) (bt zs (A + m))) := by
        show _ = _
        rw [or_bit _ _ x0 x1 hbb, show W - m = W - (m + 1) + 1 by omega]
        rfl
      obtain ⟨kk, hkk⟩ : ∃ kk : Int, kk = (A : Int) + ((m + 1 : Nat) : Int) - 1 := ⟨_, rfl⟩
      rw [← hkk]
      have BB := hid (BIT.out (A + m) kk wr (by omega) (by have := hi8.out; omega) (KP.out.trans KR.out (fun _ _ x => x)))
      have hk1 : (A : Int) ≤ kk := by omega
      have hk2 : kk ≤ 8000000000000 := by omega
      have HKK := hid hkk
      clear hkk hnb hp hb63
      have b0 := hbb.1
      have b1 := hbb.2
      clear hbb
      generalize nb zs (A + (m + 1)) (W - (m + 1)) = X at *
      generalize bt zs (A + m) = B at *
      clear hm2
      have KK := hid (fun X (kx : Kp (fun _ => False) wr X) => KR.out.trans kx (fun _ _ x => x))
      clear KR KP BIT hi8 c1
      go_wp2_with (first | (refine wpList_load_rb rfl (.tmp 2) rfl w.heap.size rfl RR.out ?_) | (go_at_call 34; refine BB.out.mono ?_; rintro e w3 ⟨rfl, k3⟩; have K3 := hid (KK.out _ k3); clear k3))
      go_round
      case rel => exact ⟨m, by omega, by rw [HKK.out]; go_num, by rw [HE.out], K3.out⟩
      case measure => simp [intOf]; omega
end Go.Proofs.YtjhgkcbpllgdiaaDoor
