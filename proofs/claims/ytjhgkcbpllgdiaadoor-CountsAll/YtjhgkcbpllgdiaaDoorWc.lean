/- The document's Widen. -/
import Derived.Test.YtjhgkcbpllgdiaaDoorWm
import Derived.Test.YtjhgkcbpllgdiaaDoorRb
import Derived.Test.YtjhgkcbpllgdiaaDoorCv
namespace Go.Proofs.YtjhgkcbpllgdiaaDoor
open Go.RowKit
set_option linter.unusedVariables false
def RwP (zs : List Int) (W V M : Nat) (w : World) (e : Ending) (w' : World) : Prop := ∃ v R E, e = .returned (.tuple #[v, .int .i64 E]) ∧ WidR zs W V M R E ∧ OwnI .u8 5 w' w.heap.size v R ∧ Kp (fun _ => False) w w'
set_option maxRecDepth 100000 in
set_option maxHeartbeats 2000000 in
theorem rwiden_ok (ao : Option Addr) (cap o t : Nat) (zs : List Int) (w : World) (hl : zs.length ≤ 1000000000) (hz : Byt zs) (ho : o < 7) (ht : t < 7) (hs : Src .u8 w ao zs) : Calls Tryd.prog 21 #[.slice ao zs.length cap, .int .i64 (o : Int), .int .i64 (t : Int)] w fun e w' => RwP zs (2 ^ o) (2 ^ t) (8 * zs.length / 2 ^ o) w e w' := by
  have MN := hid (fun w => rmany_ok ao zs.length cap o w (by omega) ho)
  have WI := hid (fun w => rwidth_ok t w ht)
  have MO := hid (fun w => rmost_ok t w ht)
  have AT := hid (fun (i : Nat) (hi : i < 8 * zs.length / 2 ^ o) (X : World) (k : Kp (fun _ => False) w X) => (by
    have hft := fits_of (pow_pos7 o) hi
    have hp := pow_pos7 o
    obtain ⟨g, off, rfl, _⟩ := hs (by omega)
    exact rat_ok g off cap o i zs X (by omega) hz ho hft (hs.kp0 k) : Calls Tryd.prog 15 #[.slice ao zs.length cap, .int .i64 (o : Int), .int .i64 (i : Int)] X fun e w' => e = .returned (.int .u64 (ct zs (2 ^ o) i)) ∧ X = w'))
  have WT := hid (fun (G c : Nat) (ys tl : List Int) (i : Nat) (x : Int) (X : World) (n : Nat) (hn : ys.length = n) (hy : Byt ys) (hn2 : n ≤ 64000000001) (hf : i * 2 ^ t + 2 ^ t ≤ 8 * n) (hx : 0 ≤ x ∧ x < 18446744073709551616) (hr : Rw .u8 5 X G (ys ++ tl)) => (by
    subst hn
    exact rwith_ok G 0 c t i ys x X (by omega) hy ht hf hx.1 hx.2 (row_src hr) : Calls Tryd.prog 16 #[.slice (some ⟨G, 0, none⟩) n c, .int .i64 (t : Int), .int .i64 (i : Int), .int .u64 x] X fun e w' => ∃ v, e = .returned v ∧ OwnI .u8 5 w' X.heap.size v (sb ys (i * 2 ^ t) (2 ^ t) x) ∧ Kp (fun _ => False) X w'))
  have hQ : 8 * zs.length / 2 ^ o ≤ 8000000000 := Nat.le_trans (Nat.div_le_self _ _) (by omega)
  have hV := w64 ht
  have hW := w64 ho
  have hV0 := pow_pos7 t
  have hMst : mst (2 ^ t) = 2 ^ (2 ^ t) - 1 := rfl
  clear hs hz
  generalize 2 ^ o = W at *
  generalize 2 ^ t = V at *
  generalize 8 * zs.length / W = M at *
  have hm : (M : Int) * (V : Int) = ((M * V : Nat) : Int) := (Int.natCast_mul _ _).symm
  have hle : M * V ≤ 8000000000 * 64 := Nat.mul_le_mul hQ hV
  have hr : rm M V ≤ 64000000001 := by unfold rm; omega
  have hw1 := wrap_nat (rm M V) (by omega)
  have HR : Hid (rm M V ≤ 17592186044416) := by show _ ≤ _; omega
  obtain ⟨A, hA⟩ : ∃ A, A = M * V := ⟨_, rfl⟩
  rw [← hA] at hm hle
  have hq3 : ((A : Int) + 7).tdiv 8 = ((rm M V : Nat) : Int) := by
    rw [show (A : Int) + 7 = ((A + 7 : Nat) : Int) by omega, show (8 : Int) = ((8 : Nat) : Int) from rfl, tdiv_nat, hA]; rfl
  have FIT := hid (fun (i : Nat) (h : i < M) => rm_fit (V := V) h)
  have WL := hid (fun (L : List Nat) => wl_len zs W V (rm M V) L)
  have WB := hid (fun (L : List Nat) => wl_byt zs W V (rm M V) L)
  have HMS := hid hMst
  have HV64 := hid hV
  clear hA hMst
  obtain ⟨r, hrr⟩ : ∃ r, r = rm M V := ⟨_, rfl⟩
  have HRR := hid hrr
  rw [← hrr] at hr hw1 HR hq3 FIT WL WB
  clear hrr
  generalize mst V = MM at *
  go_enter Tryd.func21, Tryd.ntmps21
  go_wp2_with (first | (go_at_call 13; refine (MN.out _).mono ?_; rintro e w1 ⟨rfl, rfl⟩) | (go_at_call 11; refine (WI.out _).mono ?_; rintro e w1 ⟨rfl, rfl⟩) | (refine wpList_make_rw 22 5 1 Tryd.underlying22 info5 (by decide) rfl _ _ rfl r rfl rfl HR.out ?_; intro w1 r1 b1))
  have k1 : Kp (fun _ => False) w w1 := Kp.of_below b1
  have O1 : Hid (OwnI .u8 5 w1 w.heap.size (.slice (some ⟨w.heap.size, 0, none⟩) r r) (wl zs W V r (nzs zs W 0))) := .inr ⟨w.heap.size, r, [], by rw [WL.out], Nat.le_refl _, by rw [nzs, wl_nil, List.append_nil]; exact r1, by simp [WL.out], by have := HR.out; unfold maxLen; omega⟩
  have K1 := hid k1
  clear k1 r1 b1
  go_loopw [9, 10, 11] (fun u9 u10 _ wr => ∃ i : Nat, i ≤ M ∧ u10 = .int .i64 (i : Int) ∧ OwnI .u8 5 wr w.heap.size u9 (wl zs W V r (nzs zs W i)) ∧ (∀ j, j < i → ct zs W j ≤ MM) ∧ Kp (fun _ => False) w wr) (fun _ u10 _ _ => M - (intOf u10).toNat)
  case atStart => exact ⟨0, by omega, by go_num, O1.out, fun j hj => by omega, K1.out⟩
  case round =>
    obtain ⟨i, hi, rfl, ho9, hal, kr⟩ := hrel
    have KR := hid kr
    have O9 := hid ho9
    have AL := hid hal
    clear kr ho9 hal O1 K1
    by_cases hiM : i < M
    · have hd : (i : Int) < (M : Int) := by omega
      have AX := hid (AT.out i hiM wr KR.out)
      have hcb := ct_b zs W i
      have hc64 : ct zs W i < 18446744073709551616 := by
        have h1 := pow2_le hW
        have e : (2 : Int) ^ 64 = 18446744073709551616 := by decide
        rw [e] at h1
        exact Int.lt_of_lt_of_le hcb.2 h1
      obtain ⟨G, c, tl, hu9, hG, hrow⟩ := own_pos O9.out (by rw [WL.out]; have := FIT.out i hiM; omega)
      rw [WL.out] at hu9
      subst hu9
      have HROW := hid hrow
      have HG := hid hG
      have hc0 := hcb.1
      clear hrow hG hcb
      by_cases hbig : MM < ct zs W i
      · have WR : Hid (WidR zs W V M [] 3) := .inr ⟨⟨i, hiM, by rw [← HMS.out]; exact hbig⟩, rfl, rfl⟩
        have db : decide (MM < ct zs W i) = true := by simpa using hbig
        clear hbig O9
        go_wp2_with (first | (go_at_call 15; refine AX.out.mono ?_; rintro e wx ⟨rfl, rfl⟩) | (go_at_call 14; refine (MO.out _).mono ?_; rintro e wx ⟨rfl, rfl⟩))
        go_ret2
        exact ⟨_, _, _, rfl, WR.out, OwnI.nil _ _ _ _, KR.out⟩
      · have db : decide (MM < ct zs W i) = false := by simpa using hbig
        have AL2 : Hid (∀ j, j < i + 1 → ct zs W j ≤ MM) := fun j hj => (by
          by_cases e : j = i
          · subst e; omega
          · exact AL.out j (by omega))
        clear hbig AL
        by_cases hz0 : ct zs W i = 0
        · have hN : nzs zs W (i + 1) = nzs zs W i := by rw [nzs, if_pos hz0]
          have HN := hid hN
          have d0 : decide ((0 : Int) < ct zs W i) = false := by rw [hz0]; rfl
          clear hN hz0
          go_wp2_with (first | (go_at_call 15; refine AX.out.mono ?_; rintro e wx ⟨rfl, rfl⟩) | (go_at_call 14; refine (MO.out _).mono ?_; rintro e wx ⟨rfl, rfl⟩))
          go_round
          case rel => exact ⟨i + 1, by omega, by go_num, by rw [HN.out]; exact O9.out, AL2.out, KR.out⟩
          case measure => simp [intOf]; omega
        · have hN : nzs zs W (i + 1) = nzs zs W i ++ [i] := by rw [nzs, if_neg hz0]
          have HN := hid hN
          have d0 : decide ((0 : Int) < ct zs W i) = true := by simp; omega
          have WX := hid (WT.out G c _ tl i (ct zs W i) wr r (WL.out (nzs zs W i)) (WB.out _) hr (FIT.out i hiM) ⟨hc0, hc64⟩ HROW.out)
          clear hN hz0
          go_wp2_with (first | (go_at_call 15; refine AX.out.mono ?_; rintro e wx ⟨rfl, rfl⟩) | (go_at_call 14; refine (MO.out _).mono ?_; rintro e wx ⟨rfl, rfl⟩))
          refine WX.out.mono ?_
          rintro e wy ⟨v, rfl, ov, ky⟩
          have OV := hid (ov.mono (Nat.le_trans KR.out.size (Nat.le_refl _)))
          have KY := hid (KR.out.trans ky (fun _ _ x => x))
          clear ov ky
          go_wp2_with fail
          go_round
          case rel => exact ⟨i + 1, by omega, by go_num, by rw [HN.out, wl_snoc]; exact OV.out, AL2.out, KY.out⟩
          case measure => simp [intOf]; omega
    · obtain rfl : i = M := by omega
      have hd : ¬ (i : Int) < (i : Int) := by omega
      have WR : Hid (WidR zs W V i (wl zs W V r (nzs zs W i)) 0) := .inl ⟨fun j hj => by rw [← HMS.out]; exact AL.out j hj, by rw [← HRR.out], rfl⟩
      go_wp2_with fail
      go_ret2
      exact ⟨_, _, _, rfl, WR.out, O9.out, KR.out⟩
end Go.Proofs.YtjhgkcbpllgdiaaDoor
