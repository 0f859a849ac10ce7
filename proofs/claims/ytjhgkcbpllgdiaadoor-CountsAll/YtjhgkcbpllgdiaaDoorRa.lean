/- The document's Width, Many, Most, At. -/
import Derived.Test.YtjhgkcbpllgdiaaDoorCd
namespace Go.Proofs.YtjhgkcbpllgdiaaDoor
open Go.RowKit
set_option linter.unusedVariables false
set_option maxHeartbeats 1000000 in
theorem rwidth_no (o : Int) (w : World) (ho : ¬ Ord o) : Calls Tryd.prog 11 #[.int .i64 o] w fun e w' => e = .returned (.int .i64 0) ∧ w = w' := by
  by_cases h : o < 0
  · go_enter Tryd.func11, Tryd.ntmps11
    go_wp2_with fail
    go_ret
    exact ⟨rfl, rfl⟩
  · have h2 : (6 : Int) < o := by unfold Ord at ho; omega
    go_enter Tryd.func11, Tryd.ntmps11
    go_wp2_with fail
    go_ret
    exact ⟨rfl, rfl⟩
set_option maxHeartbeats 1000000 in
theorem rwidth_ok (o : Nat) (w : World) (ho : o < 7) : Calls Tryd.prog 11 #[.int .i64 (o : Int)] w fun e w' => e = .returned (.int .i64 ((2 ^ o : Nat) : Int)) ∧ w = w' := by
  have h1 : ¬ (o : Int) < 0 := by omega
  have h2 : ¬ (6 : Int) < (o : Int) := by omega
  have HO : Hid (o < 7) := ho
  go_enter Tryd.func11, Tryd.ntmps11
  go_wp2_with fail
  go_loop [3, 4] (fun x i => ∃ k : Nat, k ≤ o ∧ i = .int .i64 (k : Int) ∧ x = .int .i64 ((2 ^ k : Nat) : Int)) (fun _ i => o - (intOf i).toNat)
  case atStart => exact ⟨0, by omega, by go_num, by go_num⟩
  case round =>
    obtain ⟨k, hk, rfl, rfl⟩ := hrel
    by_cases hk0 : k = o
    · subst hk0
      have h3 : ¬ (k : Int) < (k : Int) := by omega
      obtain ⟨X, hX⟩ : ∃ X : Nat, X = 2 ^ k := ⟨_, rfl⟩
      rw [← hX]
      have HX := hid hX
      clear hX
      go_wp2_with fail
      go_ret
      exact ⟨by show Ending.returned (Value.int .i64 (X : Int)) = _; rw [HX.out, Int.natCast_pow]; rfl, rfl⟩
    · have h3 : (k : Int) < (o : Int) := by omega
      have hp : 2 ^ k ≤ 64 := Nat.pow_le_pow_right (n := 2) (by decide) (show k ≤ 6 by have := HO.out; omega)
      have HS : Hid (2 ^ (k + 1) = 2 * 2 ^ k) := by show _ = _; rw [Nat.pow_succ]; omega
      obtain ⟨X, hX⟩ : ∃ X : Nat, X = 2 ^ k := ⟨_, rfl⟩
      rw [← hX] at hp HS ⊢
      clear hX
      go_wp2_with fail
      go_round
      case rel => exact ⟨k + 1, by omega, by go_num, by rw [HS.out]; go_num⟩
      case measure => simp [intOf]; omega
set_option maxHeartbeats 1000000 in
theorem rmany_ok (ao : Option Addr) (n cap o : Nat) (w : World) (hn : n ≤ 1000000000000) (ho : o < 7) : Calls Tryd.prog 13 #[.slice ao n cap, .int .i64 (o : Int)] w fun e w' => e = .returned (.int .i64 ((8 * n / 2 ^ o : Nat) : Int)) ∧ w = w' := by
  have WI := hid (fun w => rwidth_ok o w ho)
  have h1 : ((2 ^ o : Nat) : Int) ≠ 0 := by have := Nat.pow_pos (n := o) (show 0 < 2 by decide); omega
  have h2 : (8 * (n : Int)).tdiv ((2 ^ o : Nat) : Int) = ((8 * n / 2 ^ o : Nat) : Int) := by
    rw [show 8 * (n : Int) = ((8 * n : Nat) : Int) by omega, tdiv_nat]
  have hle : 8 * n / 2 ^ o ≤ 8 * n := Nat.div_le_self _ _
  have h3 := wrap_nat (8 * n / 2 ^ o) (by omega)
  generalize 2 ^ o = W at *
  generalize 8 * n / W = q at *
  go_enter Tryd.func13, Tryd.ntmps13
  go_wp2_with (go_at_call 11; refine (WI.out _).mono ?_; rintro e w1 ⟨rfl, rfl⟩)
  go_ret
  exact ⟨rfl, rfl⟩
set_option maxHeartbeats 1000000 in
theorem rmost_ok (o : Nat) (w : World) (ho : o < 7) : Calls Tryd.prog 14 #[.int .i64 (o : Int)] w fun e w' => e = .returned (.int .u64 (mst (2 ^ o))) ∧ w = w' := by
  have WI := hid (fun w => rwidth_ok o w ho)
  have hW : 2 ^ o ≤ 64 := Nat.pow_le_pow_right (n := 2) (by decide) (show o ≤ 6 by omega)
  generalize 2 ^ o = W at *
  go_enter Tryd.func14, Tryd.ntmps14
  go_wp2_with fail
  go_loop [3, 4] (fun x i => ∃ k : Nat, k ≤ W ∧ i = .int .i64 (k : Int) ∧ x = .int .u64 (mst k)) (fun _ i => W - (intOf i).toNat)
  case atStart => exact ⟨0, by omega, by go_num, rfl⟩
  case round =>
    obtain ⟨k, hk, rfl, rfl⟩ := hrel
    by_cases hk0 : k = W
    · subst hk0
      have h3 : ¬ (k : Int) < (k : Int) := by omega
      obtain ⟨X, hX⟩ : ∃ X : Int, X = mst k := ⟨_, rfl⟩
      rw [← hX]
      have HX := hid hX
      clear hX
      go_wp2_with (go_at_call 11; refine (WI.out _).mono ?_; rintro e w1 ⟨rfl, rfl⟩)
      go_ret
      exact ⟨by rw [← HX.out]; rfl, rfl⟩
    · have h3 : (k : Int) < (W : Int) := by omega
      have hp := pow2_le (show k ≤ 63 by omega)
      have e63 : (2 : Int) ^ 63 = 9223372036854775808 := by decide
      have hp0 : (0 : Int) < 2 ^ k := Int.pow_pos (by omega)
      have x0 : 0 ≤ mst k := by unfold mst; omega
      have x1 : mst k < 9223372036854775808 := by unfold mst; omega
      have HS : Hid (mst (k + 1) = 2 * mst k + 1) := by show _ = _; unfold mst; rw [Int.pow_succ]; omega
      obtain ⟨X, hX⟩ : ∃ X : Int, X = mst k := ⟨_, rfl⟩
      rw [← hX] at x0 x1 HS ⊢
      clear hX hp hp0 e63
      go_wp2_with (go_at_call 11; refine (WI.out _).mono ?_; rintro e w1 ⟨rfl, rfl⟩)
      go_round
      case rel => exact ⟨k + 1, by omega, by go_num, by rw [HS.out]⟩
      case measure => simp [intOf]; omega
set_option maxHeartbeats 1000000 in
theorem rat_ok (g off cap o i : Nat) (zs : List Int) (w : World) (hn : zs.length ≤ 1000000000000) (hz : Byt zs) (ho : o < 7) (hi : i * 2 ^ o + 2 ^ o ≤ 8 * zs.length) (hs : Src .u8 w (some ⟨g, off, none⟩) zs) : Calls Tryd.prog 15 #[.slice (some ⟨g, off, none⟩) zs.length cap, .int .i64 (o : Int), .int .i64 (i : Int)] w fun e w' => e = .returned (.int .u64 (nb zs (i * 2 ^ o) (2 ^ o))) ∧ w = w' := by
  have WI := hid (fun w => rwidth_ok o w ho)
  have hW : 2 ^ o ≤ 64 := Nat.pow_le_pow_right (n := 2) (by decide) (show o ≤ 6 by omega)
  have hW0 : 0 < 2 ^ o := Nat.pow_pos (by decide)
  have hm1 : (i : Int) * ((2 ^ o : Nat) : Int) = ((i * 2 ^ o : Nat) : Int) := (Int.natCast_mul _ _).symm
  have CC := hid hs.at
  have hil : i ≤ 8000000000000 := by
    have : i ≤ i * 2 ^ o := Nat.le_mul_of_pos_right i hW0
    omega
  have hi8 : Hid (i * 2 ^ o + 2 ^ o ≤ 8 * zs.length) := hi
  have hA : i * 2 ^ o + 2 ^ o ≤ 8000000000000 := by omega
  clear hi hs
  generalize i * 2 ^ o = A at *
  generalize 2 ^ o = W at *
  go_enter Tryd.func15, Tryd.ntmps15
  go_wp2_with (go_at_call 11; refine (WI.out _).mono ?_; rintro e w1 ⟨rfl, rfl⟩)
  go_loop [8, 9, 10] (fun x k _ => ∃ j : Nat, j ≤ W ∧ k = .int .i64 ((j : Int) - 1) ∧ x = .int .u64 (nb zs (A + j) (W - j))) (fun _ k _ => (intOf k + 1).toNat)
  case atStart => exact ⟨W, Nat.le_refl _, by go_num, by rw [Nat.sub_self]; rfl⟩
  case round =>
    obtain ⟨j, hj, rfl, rfl⟩ := hrel
    by_cases hj0 : j = 0
    · subst hj0
      rw [Nat.add_zero, Nat.sub_zero]
      obtain ⟨X, hX⟩ : ∃ X, X = nb zs A W := ⟨_, rfl⟩
      rw [← hX]
      have HX := hid hX
      clear hX
      go_wp2_with fail
      go_ret
      exact ⟨by rw [← HX.out]; rfl, rfl⟩
    · obtain ⟨m, rfl⟩ : ∃ m, j = m + 1 := ⟨j - 1, by omega⟩
      have hnb := nb_b zs (A + (m + 1)) (W - (m + 1))
      have hp := pow2_le (show W - (m + 1) ≤ 63 by omega)
      have hb63 : (2 : Int) ^ 63 = 9223372036854775808 := by decide
      have x0 := hnb.1
      have x1 : nb zs (A + (m + 1)) (W - (m + 1)) < 9223372036854775808 := by rw [← hb63]; exact Int.lt_of_lt_of_le hnb.2 hp
      have hbb := bt_b zs (A + m)
      have HE : Hid (nb zs (A + m) (W - m) = 2 * nb zs (A + (m + 1)) (W - (m + 1)) + bt zs (A + m)) := by
        show _ = _
        rw [show W - m = W - (m + 1) + 1 by omega, nb, show A + m + 1 = A + (m + 1) by omega]
        omega
      have hq : (A + m) / 8 < zs.length := by have := hi8.out; omega
      have cz := CC.out ((A + m) / 8) hq
      have hq1 : ((A + m : Nat) : Int).tdiv 8 = (((A + m) / 8 : Nat) : Int) := tdiv_nat (A + m) 8
      have hq2 : ((A + m : Nat) : Int).tmod 8 = (((A + m) % 8 : Nat) : Int) := tmod_nat (A + m) 8
      have hr8 : (A + m) % 8 < 8 := by omega
      have hg := hz.get ((A + m) / 8)
      have hd : 0 ≤ zs.getD ((A + m) / 8) 0 / 2 ^ ((A + m) % 8) := Int.ediv_nonneg hg.1 (Int.le_of_lt (Int.pow_pos (by omega)))
      have hb2 : (zs.getD ((A + m) / 8) 0 / 2 ^ ((A + m) % 8)).tmod 2 = bt zs (A + m) := by rw [Int.tmod_eq_emod_of_nonneg hd]; rfl
      obtain ⟨kk, hkk⟩ : ∃ kk : Int, kk = ((m + 1 : Nat) : Int) - 1 := ⟨_, rfl⟩
      have hs1 : (A : Int) + kk = ((A + m : Nat) : Int) := by omega
      obtain ⟨bb, hbv⟩ : ∃ bb : Int, ((A + m : Nat) : Int) = bb := ⟨_, rfl⟩
      rw [hbv] at hs1 hq1 hq2
      rw [← hkk]
      have hk0 : 0 ≤ kk := by omega
      have hk2 : kk ≤ 64 := by omega
      have hb0 : 0 ≤ bb := by omega
      have hb1 : bb ≤ 8000000000000 := by omega
      have HKK := hid hkk
      clear hkk hnb hp hb63 hbv CC hi8
      have b0 := hbb.1
      have b1 := hbb.2
      clear hbb hg hd
      generalize nb zs (A + (m + 1)) (W - (m + 1)) = X at *
      generalize bt zs (A + m) = B at *
      generalize (A + m) / 8 = q at *
      generalize (A + m) % 8 = r at *
      generalize zs.getD q 0 = Z at *
      go_wp2_with fail
      go_round
      case rel => exact ⟨m, by omega, by rw [HKK.out]; go_num, by rw [HE.out]⟩
      case measure => simp [intOf]; omega
end Go.Proofs.YtjhgkcbpllgdiaaDoor
