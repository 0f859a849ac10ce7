/- The document's With. -/
import Derived.Test.YtjhgkcbpllgdiaaDoorRa
import Derived.Test.YtjhgkcbpllgdiaaDoorCe
namespace Go.Proofs.YtjhgkcbpllgdiaaDoor
open Go.RowKit
set_option linter.unusedVariables false
theorem info5 : (Tryd.prog.info? 5).map (fun i => (i.zero, i.size, i.bytes)) = some (some (.int .u8 0), 1, 1) := by kernel_rfl
/-- Bytes of one's own, while some of their bits are put. -/
structure WitI (w : World) (g W : Nat) (tl : List Int) (zs : List Int) (A : Nat) (x : Int) (j : Nat) (ys : List Int) (y : Int) (wr : World) : Prop where
  len : ys.length = zs.length
  byt : Byt ys
  y0 : 0 ≤ y
  y1 : y < 18446744073709551616
  same : sb ys (A + j) (W - j) y = sb zs A W x
  row : Rw .u8 5 wr g (ys ++ tl)
  kp : Kp (fun i => i = g) w wr
theorem WitI.step {w : World} {g W : Nat} {tl zs : List Int} {A : Nat} {x : Int} {j : Nat} {ys : List Int} {y : Int} {wr : World} (h : WitI w g W tl zs A x j ys y wr) (hj : j < W) (hA : A + W ≤ 8 * zs.length) {P : Int} (hP : pb (ys.getD ((A + j) / 8) 0) ((A + j) % 8) (y % 2) = P)
    {X : World} (hr : Rw .u8 5 X g ((ys ++ tl).set ((A + j) / 8) P)) (k : Kp (fun i => i = g) wr X) : WitI w g W tl zs A x (j + 1) (p1 ys (A + j) (y % 2)) (y / 2) X := by
  have hq : (A + j) / 8 < ys.length := by rw [h.len]; omega
  have h0 := h.y0
  have h1 := h.y1
  refine ⟨by rw [p1_len, h.len], p1_byt h.byt _ (by omega), by omega, by omega, ?_, ?_, h.kp.trans k (fun _ _ x => x)⟩
  · rw [← h.same, show W - j = W - (j + 1) + 1 by omega]
    rfl
  · rw [set_app _ _ _ _ hq] at hr
    unfold p1
    rw [hP]
    exact hr
theorem set_self (ys : List Int) (q : Nat) : ys.set q (ys.getD q 0) = ys := by
  by_cases h : q < ys.length
  · rw [getD_lt _ _ _ h]; exact List.set_getElem_self h
  · exact List.set_eq_of_length_le (by omega)
set_option maxHeartbeats 1000000 in
theorem rwith_ok (g off cap o i : Nat) (zs : List Int) (x : Int) (w : World) (hn : zs.length ≤ 1000000000000) (hz : Byt zs) (ho : o < 7) (hi : i * 2 ^ o + 2 ^ o ≤ 8 * zs.length) (hx0 : 0 ≤ x) (hx1 : x < 18446744073709551616) (hs : Src .u8 w (some ⟨g, off, none⟩) zs) : Calls Tryd.prog 16 #[.slice (some ⟨g, off, none⟩) zs.length cap, .int .i64 (o : Int), .int .i64 (i : Int), .int .u64 x] w fun e w' => ∃ v, e = .returned v ∧ OwnI .u8 5 w' w.heap.size v (sb zs (i * 2 ^ o) (2 ^ o) x) ∧ Kp (fun _ => False) w w' := by
  have WI := hid (fun w => rwidth_ok o w ho)
  have hW : 2 ^ o ≤ 64 := Nat.pow_le_pow_right (n := 2) (by decide) (show o ≤ 6 by omega)
  have hW0 : 0 < 2 ^ o := Nat.pow_pos (by decide)
  have hm1 : (i : Int) * ((2 ^ o : Nat) : Int) = ((i * 2 ^ o : Nat) : Int) := (Int.natCast_mul _ _).symm
  have hil : i ≤ 8000000000000 := by
    have : i ≤ i * 2 ^ o := Nat.le_mul_of_pos_right i hW0
    omega
  have hi8 : Hid (i * 2 ^ o + 2 ^ o ≤ 8 * zs.length) := hi
  have hA : i * 2 ^ o + 2 ^ o ≤ 8000000000000 := by omega
  have HS := hid hs
  have LB : Hid (([] : List Int).length + zs.length ≤ 17592186044416) := by show _ ≤ _; simp; omega
  clear hi hs
  generalize i * 2 ^ o = A at *
  generalize 2 ^ o = W at *
  go_enter Tryd.func16, Tryd.ntmps16
  go_wp2_with (first | (go_at_call 11; refine (WI.out _).mono ?_; rintro e w1 ⟨rfl, rfl⟩) | (at_builtin; refine wpList_append_i 22 5 1 Tryd.underlying22 info5 (by decide) rfl _ (.tmp 17) rfl w.heap.size (.slice none 0 0) [] rfl (OwnI.nil _ _ _ _) _ _ _ zs rfl rfl (fun e => by cases e) HS.out LB.out (Nat.le_refl _) ?_; intro v1 w1 o1 g1 nb1 b1))
  rw [List.nil_append] at o1
  have hpos : 0 < zs.length := by have := hi8.out; omega
  obtain ⟨G, cp, tl, rfl, hG, hrow, hcp, hcm⟩ : ∃ G cp tl, v1 = .slice (some ⟨G, 0, none⟩) zs.length cp ∧ w.heap.size ≤ G ∧ Rw .u8 5 w1 G (zs ++ tl) ∧ (zs ++ tl).length = cp ∧ cp ≤ maxLen := by
    rcases o1 with ⟨_, h⟩ | h
    · rw [h] at hpos; simp at hpos
    · exact h
  have S0 : Hid (WitI w1 G W tl zs A x 0 zs x w1) := ⟨rfl, hz, hx0, hx1, by simp, hrow, Kp.refl _ _⟩
  have B1 := hid b1
  have HG := hid hG
  have HC := hid hcp
  have HM := hid hcm
  clear o1 g1 nb1 b1 hrow hcp hcm hG
  go_loopw [3, 11, 12, 13, 14] (fun y k _ _ _ wr => ∃ (j : Nat) (ys : List Int) (yy : Int), j ≤ W ∧ k = .int .i64 (j : Int) ∧ y = .int .u64 yy ∧ WitI w1 G W tl zs A x j ys yy wr) (fun _ k _ _ _ _ => W - (intOf k).toNat)
  case atStart => exact ⟨0, zs, x, by omega, by go_num, rfl, S0.out⟩
  case round =>
    obtain ⟨j, ys, yy, hj, rfl, rfl, si⟩ := hrel
    by_cases hjW : j = W
    · subst hjW
      have hd := si.same
      rw [Nat.sub_self] at hd
      have RF := hid si.row
      rw [show ys = _ from hd] at RF
      have KF := hid si.kp
      have h3 : ¬ (j : Int) < (j : Int) := by omega
      clear hd si S0
      go_wp2_with fail
      go_ret
      refine ⟨_, rfl, .inr ⟨G, cp, tl, by rw [sb_len]; rfl, HG.out, RF.out, by rw [← HC.out]; simp [sb_len], HM.out⟩, (Kp.of_below B1.out).trans KF.out (fun i h1 h2 => by have := HG.out; omega)⟩
    · have hlen := si.len
      have hjl : j < W := by omega
      have hq : (A + j) / 8 < zs.length := by have := hi8.out; omega
      have y0 := si.y0
      have y1 := si.y1
      have hrow := si.row
      have hcz := hrow.cell ((A + j) / 8) (by simp; omega)
      have hgz : (ys ++ tl).getD ((A + j) / 8) 0 = ys.getD ((A + j) / 8) 0 := by simp [List.getD, List.getElem?_append_left (show (A + j) / 8 < ys.length by omega)]
      rw [hgz] at hcz
      have hfz := hrow.frozen ((A + j) / 8)
      have hzb := si.byt.get ((A + j) / 8)
      have hxo := xor_pb hzb (m := (A + j) % 8) (by omega)
      have hsm := pb_same hzb (m := (A + j) % 8) (by omega)
      have hd : 0 ≤ ys.getD ((A + j) / 8) 0 / 2 ^ ((A + j) % 8) := Int.ediv_nonneg hzb.1 (Int.le_of_lt (Int.pow_pos (by omega)))
      obtain ⟨B, hB⟩ : ∃ B, ys.getD ((A + j) / 8) 0 / 2 ^ ((A + j) % 8) % 2 = B := ⟨_, rfl⟩
      have hb2 : (ys.getD ((A + j) / 8) 0 / 2 ^ ((A + j) % 8)).tmod 2 = B := by rw [Int.tmod_eq_emod_of_nonneg hd]; exact hB
      rw [hB] at hxo hsm
      have hB0 : 0 ≤ B ∧ B ≤ 1 := by omega
      have hm2 : yy.tmod 2 = yy % 2 := Int.tmod_eq_emod_of_nonneg y0
      have hd2 : yy.tdiv 2 = yy / 2 := Int.tdiv_eq_ediv_of_nonneg y0
      have hw2 : IntKind.u8.wrap (yy % 2) = yy % 2 := by rw [IntKind.wrap_u8']; omega
      have hq1 : ((A + j : Nat) : Int).tdiv 8 = (((A + j) / 8 : Nat) : Int) := tdiv_nat (A + j) 8
      have hq2 : ((A + j : Nat) : Int).tmod 8 = (((A + j) % 8 : Nat) : Int) := tmod_nat (A + j) 8
      have hT : IntKind.u8.wrap (2 ^ ((A + j) % 8)) = 2 ^ ((A + j) % 8) := by
        rw [IntKind.wrap_u8', Int.emod_eq_of_lt (Int.le_of_lt (Int.pow_pos (by omega)))]
        exact Int.lt_of_lt_of_le (by have := pow2_le (show (A + j) % 8 ≤ 7 by omega); have e : (2 : Int) ^ 7 = 128 := by decide
                                     rw [e] at this; exact Int.lt_of_le_of_lt this (by decide : (128 : Int) < 256)) (by decide)
      have HST := hid (fun (P : Int) (hP : pb (ys.getD ((A + j) / 8) 0) ((A + j) % 8) (yy % 2) = P) (X : World) => si.step hjl hi8.out hP (X := X))
      have hs1 : (A : Int) + (j : Int) = ((A + j : Nat) : Int) := by omega
      obtain ⟨bb, hbv⟩ : ∃ bb : Int, ((A + j : Nat) : Int) = bb := ⟨_, rfl⟩
      rw [hbv] at hs1 hq1 hq2
      have hb0 : 0 ≤ bb := by omega
      have hb1 : bb ≤ 8000000000000 := by omega
      have hjW2 : (j : Int) < (W : Int) := by omega
      have hr8 : (A + j) % 8 < 8 := by omega
      have HR := hid hrow
      obtain ⟨C, hC⟩ : ∃ C, yy % 2 = C := ⟨_, rfl⟩
      rw [hC] at hm2 hw2
      have hC0 : 0 ≤ C ∧ C ≤ 1 := by omega
      have SF := hid (set_self (ys ++ tl) ((A + j) / 8))
      rw [hgz] at SF
      by_cases hBC : B = C
      · have HN := hid (HST.out (ys.getD ((A + j) / 8) 0) (by rw [hC, ← hBC]; exact hsm) wr (by rw [SF.out]; exact hrow) (Kp.refl _ _))
        subst hBC
        clear hbv hrow hgz hzb hsm hd hB HST S0 si SF hi8 HS LB
        generalize (A + j) / 8 = q at *
        generalize (A + j) % 8 = r at *
        generalize ys.getD q 0 = Z at *
        go_wp2_with fail
        go_round
        case rel => exact ⟨j + 1, _, _, by omega, by go_num, rfl, HN.out⟩
        case measure => simp [intOf]; omega
      · have hCB : 1 - B = C := by omega
        rw [hCB] at hxo
        obtain ⟨P1, hP1⟩ : ∃ P1, pb (ys.getD ((A + j) / 8) 0) ((A + j) % 8) C = P1 := ⟨_, rfl⟩
        rw [hP1] at hxo
        have HN := hid (fun X => HST.out P1 (by rw [hC]; exact hP1) X)
        have hne : (B == C) = false := by simp [hBC]
        clear hbv hrow hgz hzb hsm hd hB HST S0 si SF hi8 HS LB hCB hP1
        generalize (A + j) / 8 = q at *
        generalize (A + j) % 8 = r at *
        generalize ys.getD q 0 = Z at *
        go_wp2_with fail
        refine wp_region_tail hmix (by kernel_rfl) ?_
        dsimp only [List.dropLast, List.getLast]
        repeat (gi_big_quiet_step (fail))
        refine wpQuietIn_nil ?_
        intro _ hw'
        obtain ⟨nq, hw2⟩ := hw'
        subst hw2
        have kq := drewN_kp (fun _ => False) wr nq
        have RX := hid (HR.out.kp kq (fun x => x))
        have fx := RX.out.frozen q
        have cx := kp_cell kq hcz (fun x => x)
        have KX := hid (kq.mono (G := fun i => i = G) (fun _ _ x => x.elim))
        generalize wr.drewN nq = X at *
        clear kq hcz hfz
        have HF := hid (HN.out (X.setCell ⟨G, q, none⟩ (.int .u8 P1)) (RX.out.set q P1) (KX.out.trans (kp_setCell X G q _ (fun i => i = G) rfl) (fun _ _ x => x)))
        gi_wp2_with fail
        go_wp2_with fail
        go_round
        case rel => exact ⟨j + 1, _, _, by omega, by go_num, rfl, HF.out⟩
        case measure => simp [intOf]; omega
end Go.Proofs.YtjhgkcbpllgdiaaDoor
