/- counts: free. -/
import Derived.Test.YtjhgkcbpllgdiaaDoorFm
import Derived.Test.YtjhgkcbpllgdiaaDoorCf
import Derived.WalkMore
namespace Go.Proofs.YtjhgkcbpllgdiaaDoor
open Go.RowKit
set_option linter.unusedVariables false
def FrP (zs : List Int) (W F n many : Nat) (w : World) (e : Ending) (w' : World) : Prop := ∃ X E, e = .returned (.tuple #[.int .i64 X, .int .i64 E]) ∧ FreeR zs W F n many X E ∧ Kp (fun _ => False) w w'
set_option maxHeartbeats 1000000 in
theorem free_any (ao : Option Addr) (cap W F : Nat) (n : Int) (zs : List Int) (w : World) (hn : zs.length ≤ 1000000000) (hz : Byt zs) (hW0 : 0 < W) (hW : W ≤ 64) (hF : F ≤ 8 * zs.length / W) (hn1 : 1 ≤ n) (hn2 : n ≤ 9223372036854775807) (hs : Src .u8 w ao zs) : Calls Tryd.prog 28 #[.agg (rc (.slice ao zs.length cap) W), .int .i64 (F : Int), .int .i64 n] w fun e w' => FrP zs W F n.toNat (8 * zs.length / W) w e w' := by
  have HS0 := hid (Rb.new w (.slice ao zs.length cap) W)
  have KP : Hid (Kp (fun _ => False) w (w.alloc (.cells (rc (.slice ao zs.length cap) W) 58))) := (Kp.refl _ _).alloc _
  have MN := hid (fun w => many_any ao zs.length cap W w (by omega) hW0)
  have BIT := hid (fun (k : Nat) (kk : Int) (X : World) (hkk : kk = (k : Int)) (hk : k < 8 * zs.length) (kx : Kp (fun _ => False) w X) => (by
    obtain ⟨g, off, rfl, _⟩ := hs (by omega)
    subst hkk; exact bit_any g off cap W k zs X (by omega) hz hk (hs.kp0 kx) : Calls Tryd.prog 34 #[.agg (rc (.slice ao zs.length cap) W), .int .i64 kk] X fun e w' => e = .returned (.int .u8 (bt zs k)) ∧ Kp (fun _ => False) X w'))
  have hQ : 8 * zs.length / W ≤ 8000000000 := Nat.le_trans (Nat.div_le_self _ _) (by omega)
  have FT := hid (fun i (hi : i < 8 * zs.length / W) => fits_of hW0 hi)
  obtain ⟨m, hm⟩ : ∃ m : Nat, n = m := ⟨n.toNat, by omega⟩
  have hmn : n.toNat = m := by omega
  rw [hmn]
  have hm1' : 0 < m := by omega
  have HM := hid hm
  clear hm hmn hs
  generalize 8 * zs.length / W = Q at *
  unfold rc at KP HS0
  rw [show rc (.slice ao zs.length cap) W = #[.slice ao zs.length cap, .int .i64 (W : Int)] from rfl]
  go_enter Tryd.func28, Tryd.ntmps28
  go_wp2_with (first | (refine wpList_load_rb rfl (.tmp 3) rfl w.heap.size rfl HS0.out ?_))
  go_step3
  go_wp2_with (first | (refine wpList_load_rb rfl (.tmp 3) rfl w.heap.size rfl HS0.out ?_))
  refine (MN.out _).mono ?_
  rintro e w1 ⟨rfl, k1⟩
  have K1 := hid (KP.out.trans k1 (fun _ _ x => x))
  have R1 := hid (HS0.out.kp k1 (fun x => x))
  clear k1 KP HS0 MN
  go_wp2_with fail
  try go_step3
  try go_wp2_with fail
  go_loopw [8, 10, 11] (fun u8 u10 _ wr => ∃ f i : Nat, u8 = .int .i64 (f : Int) ∧ u10 = .int .i64 (i : Int) ∧ FrI zs W F m Q f i ∧ Kp (fun _ => False) w1 wr) (fun _ u10 _ _ => Q - (intOf u10).toNat)
  case atStart => exact ⟨F, F, rfl, rfl, FrI.start hF hm1', Kp.refl _ _⟩
  case round =>
    obtain ⟨f, i, rfl, rfl, fi, kr⟩ := hrel
    have FI := hid fi
    have KR := hid kr
    have RR := hid (R1.out.kp kr (fun x => x))
    have c1r := RR.out.c1
    have hiQ := fi.im
    have hfi := fi.fi
    have hil := fi.lt
    clear fi kr
    by_cases hi : i < Q
    · have hd : (i : Int) < (Q : Int) := by omega
      have hft := FT.out i hi
      have hm1 : (i : Int) * (W : Int) = ((i * W : Nat) : Int) := (Int.natCast_mul _ _).symm
      have hm2 : ((i : Int) + 1) * (W : Int) = ((i * W : Nat) : Int) + (W : Int) := by rw [Int.add_mul, hm1]; omega
      have hA : i * W + W ≤ 8000000000 := by omega
      have HFT := hid hft
      have HA0 : Hid (ct zs W i = nb zs (i * W) W) := rfl
      clear hft
      generalize i * W = A at *
      obtain ⟨wo, hwo⟩ : ∃ wo, wo = wr := ⟨_, rfl⟩
      subst hwo
      go_wp2_with fail
      go_loopw [8, 11] (fun u8 u11 wr => ∃ j : Nat, j ≤ W ∧ u8 = .int .i64 (f : Int) ∧ u11 = .int .i64 ((A + j : Nat) : Int) ∧ (∀ t, t < j → bt zs (A + t) = 0) ∧ Kp (fun _ => False) wo wr) (fun _ u11 _ => A + W - (intOf u11).toNat)
      case atStart => exact ⟨0, by omega, rfl, by go_num, fun t ht => by omega, Kp.refl _ _⟩
      case round =>
        obtain ⟨j, hj, rfl, rfl, hz0, kq⟩ := hrel
        have KQ := hid (KR.out.trans kq (fun _ _ x => x))
        have HZ := hid hz0
        have RQ := hid (RR.out.kp kq (fun x => x))
        have c1q := RQ.out.c1
        have KQ0 := hid kq
        clear hz0 kq
        by_cases hjW : j = W
        · have hct : ct zs W i = 0 := by rw [HA0.out]; exact nb_zero (fun t ht => HZ.out t (by omega))
          have hk : ¬ ((A + j : Nat) : Int) < (A : Int) + (W : Int) := by omega
          obtain ⟨kk, hkk⟩ : ∃ kk : Int, ((A + j : Nat) : Int) = kk := ⟨_, rfl⟩
          rw [hkk] at hk ⊢
          clear hkk HZ
          have hsub : (i : Int) - (f : Int) = ((i - f : Nat) : Int) := by omega
          have hw1 := wrap_nat (i - f) (by omega)
          have hn3 : n - 1 = ((m - 1 : Nat) : Int) := by have := HM.out; omega
          have hw2 := wrap_nat (m - 1) (by have := HM.out; omega)
          by_cases he : i - f = m - 1
          · have FN := hid (FI.out.found hi hm1' hct he)
            have hq : (((i - f : Nat) : Int) == ((m - 1 : Nat) : Int)) = true := by rw [he]; simp
            generalize i - f = p1 at *
            generalize m - 1 = p2 at *
            clear FI he hct
            go_wp2_with fail
            try rw [Exit.noGoto_ret]
            go_ret2
            exact ⟨_, _, rfl, FN.out, K1.out.trans KQ.out (fun _ _ x => x)⟩
          · have FN := hid (FI.out.zero hi hct he)
            have hq : (((i - f : Nat) : Int) == ((m - 1 : Nat) : Int)) = false := beq_eq_false_iff_ne.2 (by omega)
            generalize i - f = p1 at *
            generalize m - 1 = p2 at *
            clear FI he hct
            go_wp2_with fail
            go_round
            case rel => exact ⟨f, i + 1, rfl, by go_num, FN.out, KQ.out⟩
            case measure => simp [intOf]; omega
        · have hbb := bt_b zs (A + j)
          have hk : ((A + j : Nat) : Int) < (A : Int) + (W : Int) := by omega
          have hk2 : ((A + j : Nat) : Int) ≤ 8000000000 := by omega
          have hk3 : 0 ≤ ((A + j : Nat) : Int) := by omega
          obtain ⟨kk, hkk⟩ : ∃ kk : Int, kk = ((A + j : Nat) : Int) := ⟨_, rfl⟩
          have BB := hid (BIT.out (A + j) kk wr hkk (by have := HFT.out; omega) (K1.out.trans KQ.out (fun _ _ x => x)))
          rw [← hkk] at hk hk2 hk3 ⊢
          have HKK := hid hkk
          clear hkk
          by_cases hb : bt zs (A + j) = 1
          · have FN := hid (FI.out.hit hi hm1' (by rw [HA0.out]; intro h; have := (nb_zero_iff.1 h) j (by omega); omega))
            rw [hb] at BB
            clear hb hbb FI HZ
            go_wp2_with (first | (refine wpList_load_rb rfl (.tmp 3) rfl w.heap.size rfl RQ.out ?_) | (go_at_call 34; refine BB.out.mono ?_; rintro e w3 ⟨rfl, k3⟩; have K3 := hid (KQ.out.trans k3 (fun _ _ x => x)); clear k3))
            go_round
            case rel => exact ⟨i + 1, i + 1, by go_num, by go_num, FN.out, K3.out⟩
            case measure => simp [intOf]; omega
          · have hb0 : bt zs (A + j) = 0 := by omega
            have HB0 := hid hb0
            rw [hb0] at BB
            clear hb hbb FI hb0
            go_wp2_with (first | (refine wpList_load_rb rfl (.tmp 3) rfl w.heap.size rfl RQ.out ?_) | (go_at_call 34; refine BB.out.mono ?_; rintro e w3 ⟨rfl, k3⟩; have K3 := hid (KQ0.out.trans k3 (fun _ _ x => x)); clear k3))
            go_round
            case rel => exact ⟨j + 1, by omega, rfl, by rw [HKK.out]; go_num, fun t ht => by
              by_cases h : t = j
              · rw [h]; exact HB0.out
              · exact HZ.out t (by omega), K3.out⟩
            case measure => simp [intOf]; omega
    · obtain rfl : i = Q := by omega
      have hd : ¬ (i : Int) < (i : Int) := by omega
      have FN := hid FI.out.fin
      clear FI
      go_wp2_with fail
      try rw [Exit.noGoto_ret]
      go_ret2
      exact ⟨_, _, rfl, FN.out, K1.out.trans KR.out (fun _ _ x => x)⟩
end Go.Proofs.YtjhgkcbpllgdiaaDoor
