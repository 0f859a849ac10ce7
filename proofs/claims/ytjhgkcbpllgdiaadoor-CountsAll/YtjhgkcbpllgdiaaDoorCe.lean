/- counts: set. -/
import Derived.Test.YtjhgkcbpllgdiaaDoorCd
namespace Go.Proofs.YtjhgkcbpllgdiaaDoor
open Go.RowKit
set_option linter.unusedVariables false
/-- Where a row's bytes lie, while some of its bits are put. -/
structure SetI (w : World) (g b W : Nat) (v : Value) (tl : List Int) (zs : List Int) (A : Nat) (x : Int) (j : Nat) (ys : List Int) (y : Int) (wr : World) : Prop where
  len : ys.length = zs.length
  byt : Byt ys
  y0 : 0 ≤ y
  y1 : y < 18446744073709551616
  same : sb ys (A + j) (W - j) y = sb zs A W x
  row : Rw .u8 5 wr g (ys ++ tl)
  rb : Rb wr b v W
  kp : Kp (fun i => i = g) w wr
theorem u64_and1 (x : Int) (h0 : 0 ≤ x) (h1 : x < 18446744073709551616) : bits .and .u64 x 1 = x % 2 := by
  rw [u64_and _ _ h0 h1 (by omega) (by omega), show (1 : Int).toNat = 1 from rfl, Nat.and_one_is_mod]
  omega
theorem set_app (ys tl : List Int) (q : Nat) (v : Int) (h : q < ys.length) : (ys ++ tl).set q v = ys.set q v ++ tl := by
  rw [List.set_append, if_pos h]
theorem SetI.step {w : World} {g b W : Nat} {v : Value} {tl zs : List Int} {A : Nat} {x : Int} {j : Nat} {ys : List Int} {y : Int} {wr : World} (h : SetI w g b W v tl zs A x j ys y wr) (hj : j < W) (hA : A + W ≤ 8 * zs.length) (hgb : g ≠ b) {P : Int} (hP : pb (ys.getD ((A + j) / 8) 0) ((A + j) % 8) (y % 2) = P)
    {X : World} (hr : Rw .u8 5 X g ((ys ++ tl).set ((A + j) / 8) P)) (k : Kp (fun i => i = g) wr X) : SetI w g b W v tl zs A x (j + 1) (p1 ys (A + j) (y % 2)) (y / 2) X := by
  have hq : (A + j) / 8 < ys.length := by rw [h.len]; omega
  have h0 := h.y0
  have h1 := h.y1
  refine ⟨by rw [p1_len, h.len], p1_byt h.byt _ (by omega), by omega, by omega, ?_, ?_, h.rb.kp k (fun e => hgb e.symm), h.kp.trans k (fun _ _ x => x)⟩
  · rw [← h.same, show W - j = W - (j + 1) + 1 by omega]
    rfl
  · rw [set_app _ _ _ _ hq] at hr
    unfold p1
    rw [hP]
    exact hr
set_option maxHeartbeats 1000000 in
theorem set_any (g cap W i : Nat) (zs tl : List Int) (x : Int) (w : World) (hn : zs.length ≤ 1000000000000) (hz : Byt zs) (hW0 : 0 < W) (hW : W ≤ 64) (hi : i * W + W ≤ 8 * zs.length) (hx0 : 0 ≤ x) (hx1 : x < 18446744073709551616) (hr : Rw .u8 5 w g (zs ++ tl)) : Calls Tryd.prog 33 #[.agg (rc (.slice (some ⟨g, 0, none⟩) zs.length cap) W), .int .i64 (i : Int), .int .u64 x] w fun e w' => (∃ v, e = .returned v) ∧ Rw .u8 5 w' g (sb zs (i * W) W x ++ tl) ∧ Kp (fun k => k = g) w w' := by
  have HS0 := hid (Rb.new w (.slice (some ⟨g, 0, none⟩) zs.length cap) W)
  have c1 := HS0.out.c1
  have KP : Hid (Kp (fun k => k = g) w (w.alloc (.cells (rc (.slice (some ⟨g, 0, none⟩) zs.length cap) W) 58))) := (Kp.refl _ _).alloc _
  have hgb : Hid (g ≠ w.heap.size) := by have := hr.lt; show _ ≠ _; omega
  have hm1 : (i : Int) * (W : Int) = ((i * W : Nat) : Int) := (Int.natCast_mul _ _).symm
  have hm2 : ((i : Int) + 1) * (W : Int) = ((i * W : Nat) : Int) + (W : Int) := by rw [Int.add_mul, hm1]; omega
  have S0 : Hid (SetI w g w.heap.size W (.slice (some ⟨g, 0, none⟩) zs.length cap) tl zs (i * W) x 0 zs x (w.alloc (.cells (rc (.slice (some ⟨g, 0, none⟩) zs.length cap) W) 58))) := ⟨rfl, hz, hx0, hx1, by simp, hr.alloc _, HS0.out, KP.out⟩
  have hi8 : Hid (i * W + W ≤ 8 * zs.length) := hi
  have hA : i * W + W ≤ 8000000000000 := by omega
  have hil : i ≤ 8000000000000 := by
    have : i ≤ i * W := Nat.le_mul_of_pos_right i hW0
    omega
  clear hi hr HS0 KP
  generalize i * W = A at *
  unfold rc at *
  go_enter Tryd.func33, Tryd.ntmps33
  go_wp2_with fail
  go_loopw [2, 6, 7] (fun y k _ wr => ∃ (j : Nat) (ys : List Int) (yy : Int), j ≤ W ∧ k = .int .i64 ((A + j : Nat) : Int) ∧ y = .int .u64 yy ∧ SetI w g w.heap.size W (.slice (some ⟨g, 0, none⟩) zs.length cap) tl zs A x j ys yy wr) (fun _ k _ _ => A + W - (intOf k).toNat)
  case atStart => exact ⟨0, zs, x, by omega, by go_num, rfl, S0.out⟩
  case round =>
    obtain ⟨j, ys, yy, hj, rfl, rfl, si⟩ := hrel
    have SI := hid si
    have c1r := si.rb.c1
    have c0r := si.rb.c0
    by_cases hjW : j = W
    · subst hjW
      have hd := si.same
      rw [Nat.sub_self] at hd
      have RF := hid si.row
      rw [show ys = _ from hd] at RF
      have KF := hid si.kp
      clear hd si SI S0 c1 c0r
      go_wp2_with fail
      go_end0
      exact ⟨⟨_, rfl⟩, RF.out, KF.out⟩
    · have hlen := si.len
      have hlen2 := hid si.len
      have hjl : j < W := by omega
      have hq : (A + j) / 8 < zs.length := by have := hi8.out; omega
      have y0 := si.y0
      have y1 := si.y1
      have hrow := si.row
      have hcz := hrow.cell ((A + j) / 8) (by simp; omega)
      have hgz : (ys ++ tl).getD ((A + j) / 8) 0 = ys.getD ((A + j) / 8) 0 := by simp [List.getD, List.getElem?_append_left (show (A + j) / 8 < ys.length by omega)]
      rw [hgz] at hcz
      have hfz := hrow.frozen ((A + j) / 8)
      have hzb := si.byt.get ((A + j) / 8)
      have n0 := and_not_pb hzb (m := (A + j) % 8) (by omega)
      have n1 := or_pb hzb (m := (A + j) % 8) (by omega)
      have ha1 := u64_and1 yy y0 y1
      have hq1 : ((A + j : Nat) : Int).tdiv 8 = (((A + j) / 8 : Nat) : Int) := tdiv_nat (A + j) 8
      have hq2 : ((A + j : Nat) : Int).tmod 8 = (((A + j) % 8 : Nat) : Int) := tmod_nat (A + j) 8
      have hT : IntKind.u8.wrap (2 ^ ((A + j) % 8)) = 2 ^ ((A + j) % 8) := by
        rw [IntKind.wrap_u8', Int.emod_eq_of_lt (Int.le_of_lt (Int.pow_pos (by omega)))]
        exact Int.lt_of_lt_of_le (by have := pow2_le (show (A + j) % 8 ≤ 7 by omega); have e : (2 : Int) ^ 7 = 128 := by decide
                                     rw [e] at this; exact Int.lt_of_le_of_lt this (by decide : (128 : Int) < 256)) (by decide)
      have HST := hid (fun (P : Int) (hP : pb (ys.getD ((A + j) / 8) 0) ((A + j) % 8) (yy % 2) = P) (X : World) => si.step hjl hi8.out hgb.out hP (X := X))
      obtain ⟨kk, hkk⟩ : ∃ kk : Int, kk = ((A + j : Nat) : Int) := ⟨_, rfl⟩
      rw [← hkk] at hq1 hq2 ⊢
      have hk1 : kk < (A : Int) + (W : Int) := by omega
      have hk2 : kk ≤ 8000000000000 := by omega
      have hk0 : 0 ≤ kk := by omega
      have hr8 : (A + j) % 8 < 8 := by omega
      have HKK := hid hkk
      have HR := hid hrow
      clear hkk si SI S0 c1 hrow hgz hzb
      obtain ⟨P0, hP0⟩ : ∃ P0, pb (ys.getD ((A + j) / 8) 0) ((A + j) % 8) 0 = P0 := ⟨_, rfl⟩
      obtain ⟨P1, hP1⟩ : ∃ P1, pb (ys.getD ((A + j) / 8) 0) ((A + j) % 8) 1 = P1 := ⟨_, rfl⟩
      rw [hP0] at n0 n1
      rw [hP1] at n1
      have HP0 := hid hP0
      have HP1 := hid hP1
      clear hP0 hP1
      have w0 := hid (fun (v : Value) => kp_setCell wr g ((A + j) / 8) v (fun i => i = g) rfl)
      have c0s : (wr.setCell ⟨g, (A + j) / 8, none⟩ (.int .u8 P0)).cell? ⟨w.heap.size, 0, none⟩ = some (.slice (some ⟨g, 0, none⟩) zs.length cap) := kp_cell (w0.out _) c0r (fun e => hgb.out e.symm)
      have R1 := hid (HR.out.set ((A + j) / 8) P0)
      have l1 : (A + j) / 8 < ((ys ++ tl).set ((A + j) / 8) P0).length := by simp; omega
      have czs := R1.out.cell ((A + j) / 8) l1
      rw [getD_set_same (by simpa using l1)] at czs
      have fzs := R1.out.frozen ((A + j) / 8)
      have R2 := hid (R1.out.set ((A + j) / 8) P1)
      rw [List.set_set] at R2
      clear l1
      rcases Int.emod_two_eq yy with hp | hp
      · rw [hp] at ha1
        have HN := hid (HST.out _ (by rw [hp]; exact HP0.out) _ R1.out (w0.out _))
        clear HST w0 R1 hgb HR n1 HP1 HP0
        generalize (A + j) / 8 = q at *
        generalize (A + j) % 8 = r at *
        generalize ys.getD q 0 = Z at *
        go_wp2_with fail
        go_round
        case rel => exact ⟨j + 1, _, _, by omega, by rw [HKK.out]; go_num, rfl, HN.out⟩
        case measure => simp [intOf]; omega
      · rw [hp] at ha1
        have HN := hid (HST.out _ (by rw [hp]; exact HP1.out) _ R2.out ((w0.out _).trans (kp_setCell _ g ((A + j) / 8) _ (fun i => i = g) rfl) (fun _ _ x => x)))
        clear HST w0 R1 hgb HR HP1 HP0 R2
        generalize (A + j) / 8 = q at *
        generalize (A + j) % 8 = r at *
        generalize ys.getD q 0 = Z at *
        go_wp2_with fail
        go_round
        case rel => exact ⟨j + 1, _, _, by omega, by rw [HKK.out]; go_num, rfl, HN.out⟩
        case measure => simp [intOf]; omega
end Go.Proofs.YtjhgkcbpllgdiaaDoor
