/- The document's Free. -/
import Derived.Test.YtjhgkcbpllgdiaaDoorFb
import Derived.Test.YtjhgkcbpllgdiaaDoorRa
namespace Go.Proofs.YtjhgkcbpllgdiaaDoor
open Go.RowKit
set_option linter.unusedVariables false
def RfP (zs : List Int) (W F n many : Nat) (w : World) (e : Ending) (w' : World) : Prop := ∃ X E, e = .returned (.tuple #[.int .i64 X, .int .i64 E]) ∧ FreeR zs W F n many X E ∧ w = w'
set_option maxHeartbeats 2000000 in
theorem rfree_ok (ao : Option Addr) (cap o F m : Nat) (zs : List Int) (w : World) (hl : zs.length ≤ 1000000000) (hz : Byt zs) (ho : o < 7) (hm1 : 1 ≤ m) (hm2 : m ≤ 9223372036854775807) (hF : F ≤ 8 * zs.length / 2 ^ o) (hs : Src .u8 w ao zs) : Calls Tryd.prog 18 #[.slice ao zs.length cap, .int .i64 (o : Int), .int .i64 (F : Int), .int .i64 (m : Int)] w fun e w' => RfP zs (2 ^ o) F m (8 * zs.length / 2 ^ o) w e w' := by
  have WI := hid (fun w => rwidth_ok o w ho)
  have MN := hid (fun w => rmany_ok ao zs.length cap o w (by omega) ho)
  have AT := hid (fun (i : Nat) (hi : i < 8 * zs.length / 2 ^ o) => (by
    have hft := fits_of (pow_pos7 o) hi
    have hp := pow_pos7 o
    obtain ⟨g, off, rfl, _⟩ := hs (by omega)
    exact rat_ok g off cap o i zs w (by omega) hz ho hft hs : Calls Tryd.prog 15 #[.slice ao zs.length cap, .int .i64 (o : Int), .int .i64 (i : Int)] w fun e w' => e = .returned (.int .u64 (ct zs (2 ^ o) i)) ∧ w = w'))
  have hQ : 8 * zs.length / 2 ^ o ≤ 8000000000 := Nat.le_trans (Nat.div_le_self _ _) (by omega)
  have hp := pow_pos7 o
  clear hs
  generalize 2 ^ o = W at *
  generalize 8 * zs.length / W = Q at *
  have hW0 : ((W : Int) == 0) = false := beq_eq_false_iff_ne.2 (by omega)
  have hm0 : ¬ (m : Int) < 1 := by omega
  have hF0 : ¬ (F : Int) < 0 := by omega
  have hF1 : ¬ (Q : Int) < (F : Int) := by omega
  have dq1 : decide (Q < F) = false := by simp; omega
  have dq2 : decide ((F : Int) < 0) = false := by simp
  have dq3 : decide ((m : Int) < 1) = false := by simp; omega
  go_enter Tryd.func18, Tryd.ntmps18
  go_wp2_with (first | (go_at_call 11; refine (WI.out _).mono ?_; rintro e w1 ⟨rfl, rfl⟩) | (go_at_call 13; refine (MN.out _).mono ?_; rintro e w1 ⟨rfl, rfl⟩))
  go_loop [11, 12] (fun u11 _ => ∃ i : Nat, F ≤ i ∧ i ≤ Q + 1 ∧ u11 = .int .i64 (i : Int) ∧ (∀ b, F ≤ b → b < i → ¬ Run zs W b m)) (fun u11 _ => Q + 1 - (intOf u11).toNat)
  case atStart => exact ⟨F, Nat.le_refl _, by omega, by go_num, fun b h1 h2 => by omega⟩
  case round =>
    obtain ⟨i, hi1, hi2, rfl, hno⟩ := hrel
    have NO := hid hno
    clear hno
    by_cases hmQ : m ≤ Q
    · have d1 : (m : Int) ≤ (Q : Int) := by omega
      have d1' : decide (m ≤ Q) = true := by simpa using hmQ
      have hsub : (Q : Int) - (m : Int) = ((Q - m : Nat) : Int) := by omega
      have hw1 := wrap_nat (Q - m) (by omega)
      by_cases hiQ : i ≤ Q - m
      · have d2 : (i : Int) ≤ ((Q - m : Nat) : Int) := by omega
        have hrng : i + m ≤ Q := by omega
        generalize Q - m = D at *
        clear hmQ hiQ
        go_wp2_with fail
        go_loop [12] (fun u12 => ∃ t : Nat, t ≤ m ∧ u12 = .int .i64 (t : Int) ∧ (∀ s, s < t → ct zs W (i + s) = 0)) (fun u12 => m - (intOf u12).toNat)
        case atStart => exact ⟨0, by omega, by go_num, fun s hs => by omega⟩
        case round =>
          obtain ⟨t, ht, rfl, hz0⟩ := hrel
          have HZ := hid hz0
          clear hz0
          by_cases htm : t = m
          · subst htm
            have e1 : ¬ (t : Int) < (t : Int) := by omega
            have e2 : decide (t < t) = false := by simp
            have FN : Hid (FreeR zs W F t Q (i : Int) 0) := .inl ⟨i, hi1, hrng, fun s h1 h2 => by have := HZ.out (s - i) (by omega); rwa [show i + (s - i) = s by omega] at this, NO.out, rfl, rfl⟩
            clear HZ NO
            go_wp2_with fail
            go_ret2
            exact ⟨_, _, rfl, FN.out, rfl⟩
          · have htl : t < m := by omega
            have e1 : (t : Int) < (m : Int) := by omega
            have e2 : decide (t < m) = true := by simpa using htl
            have hs1 : (i : Int) + (t : Int) = ((i + t : Nat) : Int) := by omega
            have hw3 := wrap_nat (i + t) (by omega)
            have AX := hid (AT.out (i + t) (by omega))
            have hne : (t == m) = false := by simp [htm]
            have hne2 : ((t : Int) == (m : Int)) = false := beq_eq_false_iff_ne.2 (by omega)
            by_cases hc : ct zs W (i + t) = 0
            · rw [hc] at AX
              have HN := hid hc
              obtain ⟨kk, hkk⟩ : ∃ kk : Int, ((i + t : Nat) : Int) = kk := ⟨_, rfl⟩
              rw [hkk] at AX hs1 hw3
              clear hc hkk
              go_wp2_with (go_at_call 15; refine AX.out.mono ?_; rintro e w1 ⟨rfl, rfl⟩)
              go_round
              case rel => exact ⟨t + 1, by omega, by go_num, fun s hs => by
                by_cases h : s = t
                · rw [h]; exact HN.out
                · exact HZ.out s (by omega)⟩
              case measure => simp [intOf]; omega
            · have HN : Hid (∀ b, F ≤ b → b < i + 1 → ¬ Run zs W b m) := fun b h1 h2 hr => by
                by_cases h : b = i
                · rw [h] at hr; exact hc (hr (i + t) (by omega) (by omega))
                · exact NO.out b h1 (by omega) hr
              have hc2 : (ct zs W (i + t) == 0) = false := beq_eq_false_iff_ne.2 hc
              obtain ⟨kk, hkk⟩ : ∃ kk : Int, ((i + t : Nat) : Int) = kk := ⟨_, rfl⟩
              rw [hkk] at AX hs1 hw3
              generalize ct zs W (i + t) = C at *
              clear hkk NO HZ hc
              go_wp2_with (go_at_call 15; refine AX.out.mono ?_; rintro e w1 ⟨rfl, rfl⟩)
              go_round
              case rel => exact ⟨i + 1, by omega, by omega, by go_num, HN.out⟩
              case measure => simp [intOf]; omega
      · have d2 : ¬ (i : Int) ≤ ((Q - m : Nat) : Int) := by omega
        have FN : Hid (FreeR zs W F m Q 0 7) := .inr ⟨fun b h1 h2 => NO.out b h1 (by omega), rfl, rfl⟩
        generalize Q - m = D at *
        clear hiQ NO hmQ
        go_wp2_with fail
        go_ret2
        exact ⟨_, _, rfl, FN.out, rfl⟩
    · have d1 : ¬ (m : Int) ≤ (Q : Int) := by omega
      have d1' : decide (m ≤ Q) = false := by simpa using hmQ
      have FN : Hid (FreeR zs W F m Q 0 7) := .inr ⟨fun b h1 h2 => by omega, rfl, rfl⟩
      clear hmQ NO
      go_wp2_with fail
      go_ret2
      exact ⟨_, _, rfl, FN.out, rfl⟩
set_option maxHeartbeats 1000000 in
theorem rfree_no (ao : Option Addr) (len cap : Nat) (o F n : Int) (w : World) (ho : ¬ Ord o) : Calls Tryd.prog 18 #[.slice ao len cap, .int .i64 o, .int .i64 F, .int .i64 n] w fun e w' => e = .returned (.tuple #[.int .i64 0, .int .i64 2]) ∧ w = w' := by
  have WI := hid (fun w => rwidth_no o w ho)
  clear ho
  go_enter Tryd.func18, Tryd.ntmps18
  go_wp2_with (go_at_call 11; refine (WI.out _).mono ?_; rintro e w1 ⟨rfl, rfl⟩)
  go_ret2
  exact ⟨rfl, rfl⟩
set_option maxHeartbeats 1000000 in
theorem rfree_n (ao : Option Addr) (len cap o : Nat) (F n : Int) (w : World) (ho : o < 7) (hn : n < 1) : Calls Tryd.prog 18 #[.slice ao len cap, .int .i64 (o : Int), .int .i64 F, .int .i64 n] w fun e w' => e = .returned (.tuple #[.int .i64 0, .int .i64 2]) ∧ w = w' := by
  have WI := hid (fun w => rwidth_ok o w ho)
  have hp := pow_pos7 o
  generalize 2 ^ o = W at *
  have hW0 : ((W : Int) == 0) = false := beq_eq_false_iff_ne.2 (by omega)
  go_enter Tryd.func18, Tryd.ntmps18
  go_wp2_with (go_at_call 11; refine (WI.out _).mono ?_; rintro e w1 ⟨rfl, rfl⟩)
  go_ret2
  exact ⟨rfl, rfl⟩
set_option maxHeartbeats 1000000 in
theorem rfree_rng (ao : Option Addr) (len cap o : Nat) (F n : Int) (w : World) (hl : len ≤ 1000000000000) (ho : o < 7) (hn : 1 ≤ n) (hF : F < 0 ∨ ((8 * len / 2 ^ o : Nat) : Int) < F) : Calls Tryd.prog 18 #[.slice ao len cap, .int .i64 (o : Int), .int .i64 F, .int .i64 n] w fun e w' => e = .returned (.tuple #[.int .i64 0, .int .i64 4]) ∧ w = w' := by
  have WI := hid (fun w => rwidth_ok o w ho)
  have MN := hid (fun w => rmany_ok ao len cap o w hl ho)
  have hp := pow_pos7 o
  generalize 2 ^ o = W at *
  generalize 8 * len / W = Q at *
  have hW0 : ((W : Int) == 0) = false := beq_eq_false_iff_ne.2 (by omega)
  have hn1 : decide (n < 1) = false := by simp; omega
  by_cases hF0 : F < 0
  · clear hF
    go_enter Tryd.func18, Tryd.ntmps18
    go_wp2_with (first | (go_at_call 11; refine (WI.out _).mono ?_; rintro e w1 ⟨rfl, rfl⟩) | (go_at_call 13; refine (MN.out _).mono ?_; rintro e w1 ⟨rfl, rfl⟩))
    go_ret2
    exact ⟨rfl, rfl⟩
  · have hF1 : (Q : Int) < F := by omega
    have d0 : decide (F < 0) = false := by simp; omega
    have d1 : decide ((Q : Int) < F) = true := by simp; omega
    clear hF hF0
    go_enter Tryd.func18, Tryd.ntmps18
    go_wp2_with (first | (go_at_call 11; refine (WI.out _).mono ?_; rintro e w1 ⟨rfl, rfl⟩) | (go_at_call 13; refine (MN.out _).mono ?_; rintro e w1 ⟨rfl, rfl⟩))
    go_ret2
    exact ⟨rfl, rfl⟩
theorem rfree_all (ao : Option Addr) (cap : Nat) (o F n : Int) (zs : List Int) (w : World) (hl : zs.length ≤ 1000000000) (hz : Byt zs) (hn2 : n ≤ 9223372036854775807) (hs : Src .u8 w ao zs) : Calls Tryd.prog 18 #[.slice ao zs.length cap, .int .i64 o, .int .i64 F, .int .i64 n] w fun e w' => ∃ X E, e = .returned (.tuple #[.int .i64 X, .int .i64 E]) ∧ FrA zs o F n X E ∧ w = w' := by
  by_cases ho : Ord o
  · obtain ⟨o, rfl⟩ : ∃ k : Nat, o = k := ⟨o.toNat, by unfold Ord at ho; omega⟩
    have ho7 : o < 7 := by unfold Ord at ho; omega
    by_cases hn : n < 1
    · refine (rfree_n ao zs.length cap o F n w ho7 hn).mono ?_
      rintro e w' ⟨rfl, k⟩
      exact ⟨_, _, rfl, .inl ⟨.inr hn, rfl, rfl⟩, k⟩
    · by_cases hF : F < 0 ∨ ((8 * zs.length / 2 ^ o : Nat) : Int) < F
      · refine (rfree_rng ao zs.length cap o F n w (by omega) ho7 (by omega) hF).mono ?_
        rintro e w' ⟨rfl, k⟩
        exact ⟨_, _, rfl, .inr (.inl ⟨ho, by omega, by rw [Int.toNat_natCast]; exact hF, rfl, rfl⟩), k⟩
      · rw [not_or] at hF
        obtain ⟨F, rfl⟩ : ∃ k : Nat, F = k := ⟨F.toNat, by omega⟩
        obtain ⟨m, rfl⟩ : ∃ k : Nat, n = k := ⟨n.toNat, by omega⟩
        refine (rfree_ok ao cap o F m zs w hl hz ho7 (by omega) (by omega) (by have := hF.2; exact Int.ofNat_le.1 (Int.not_lt.1 this)) hs).mono ?_
        rintro e w' ⟨X, E, rfl, fr, k⟩
        exact ⟨_, _, rfl, .inr (.inr ⟨ho, by omega, by omega, by rw [Int.toNat_natCast]; exact Int.not_lt.1 hF.2, by simpa using fr⟩), k⟩
  · refine (rfree_no ao zs.length cap o F n w ho).mono ?_
    rintro e w' ⟨rfl, k⟩
    exact ⟨_, _, rfl, .inl ⟨.inl ho, rfl, rfl⟩, k⟩
end Go.Proofs.YtjhgkcbpllgdiaaDoor
