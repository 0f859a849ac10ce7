/- regions: RegionsKinds: the walk. -/
import Derived.Test.YtopnfjgkgoeleaaKw
import Derived.BigQuiet
namespace Go.Proofs.Ytopnfjgkgoeleaa
open Go.RowKit
set_option linter.unusedVariables false
set_option linter.unusedSimpArgs false
/-- May it be asked at all? -/
def kOk (n : Nat) (p k kd : Int) : Prop := n ≤ 60 ∧ 0 ≤ p ∧ 0 ≤ k ∧ p ≤ 72057594037927936 ∧ k ≤ 72057594037927936 - p ∧ 1 ≤ kd ∧ kd ≤ 16
set_option maxRecDepth 100000 in
set_option maxHeartbeats 4000000 in
theorem kinds_bad (bo : Option Addr) (n cb : Nat) (p k kd : Int) (w : World) (hn : n ≤ 9223372036854775807) (hp : I6 p) (hk : I6 k) (hkd : I6 kd) (h : ¬ kOk n p k kd) : Calls Try.prog 6 #[.agg #[.slice bo n cb, .int .i64 p, .int .i64 k, .int .i64 kd]] w fun e w' => e = .returned (.bool true) ∧ Below w.heap.size w w' := by
  unfold kOk at h
  unfold I6 at hp hk hkd
  have b0 : Below w.heap.size w (w.alloc (.cells #[.slice bo n cb, .int .i64 p, .int .i64 k, .int .i64 kd] 67)) := (Below.refl _ _).alloc (Nat.le_refl _) _
  have r0 := St.new 67 w #[.slice bo n cb, .int .i64 p, .int .i64 k, .int .i64 kd]
  obtain ⟨q, hq⟩ : ∃ q, q = w.heap.size := ⟨_, rfl⟩
  go_enter Try.func6, Try.ntmps6
  generalize hC2 : Code.region 2 _ _ = C2
  generalize hC : Code.region 1 _ _ = C9
  go_wp2_with fail
  subst hC
  rw [← hq] at r0 ⊢
  have HQ := hid hq
  clear hq
  generalize w.alloc (.cells #[.slice bo n cb, .int .i64 p, .int .i64 k, .int .i64 kd] 67) = W0 at *
  have c0 : W0.cell? ⟨q, 0, none⟩ = some (.slice bo n cb) := r0.cell 0
  have c1 : W0.cell? ⟨q, 1, none⟩ = some (.int .i64 p) := r0.cell 1
  have c2 : W0.cell? ⟨q, 2, none⟩ = some (.int .i64 k) := r0.cell 2
  have c3 : W0.cell? ⟨q, 3, none⟩ = some (.int .i64 kd) := r0.cell 3
  go_wp2_with fail
  go_quiet (fail)
  have HDR : Hid (∀ j, Below w.heap.size w (W0.drewN j)) := fun j => b0.trans ((drewN_kp (fun _ => False) W0 j).below b0.size (fun _ x => x.elim))
  clear c0 c1 c2 c3 r0 b0
  subst hC2
  generalize hW1 : W0.drewN nq = W1 at *
  have HD1 : Hid (Below w.heap.size w W1) := by rw [← hW1]; exact HDR.out nq
  clear hW1 HDR
  by_cases g0 : n ≤ 60
  case neg =>
    go_wp2_with (first | (go_at_call 8; refine (works_any _).mono ?_; rintro e w1 ⟨rfl, b1⟩))
    go_ret
    exact ⟨rfl, HD1.out.trans (b1.mono HD1.out.size)⟩
  by_cases g1 : 0 ≤ p
  case neg =>
    go_wp2_with (first | (go_at_call 8; refine (works_any _).mono ?_; rintro e w1 ⟨rfl, b1⟩))
    go_ret
    exact ⟨rfl, HD1.out.trans (b1.mono HD1.out.size)⟩
  by_cases g2 : 0 ≤ k
  case neg =>
    go_wp2_with (first | (go_at_call 8; refine (works_any _).mono ?_; rintro e w1 ⟨rfl, b1⟩))
    go_ret
    exact ⟨rfl, HD1.out.trans (b1.mono HD1.out.size)⟩
  by_cases g3 : p ≤ 72057594037927936
  case neg =>
    go_wp2_with (first | (go_at_call 8; refine (works_any _).mono ?_; rintro e w1 ⟨rfl, b1⟩))
    go_ret
    exact ⟨rfl, HD1.out.trans (b1.mono HD1.out.size)⟩
  by_cases g4 : k ≤ 72057594037927936 - p
  case neg =>
    go_wp2_with (first | (go_at_call 8; refine (works_any _).mono ?_; rintro e w1 ⟨rfl, b1⟩))
    go_ret
    exact ⟨rfl, HD1.out.trans (b1.mono HD1.out.size)⟩
  by_cases g5 : 1 ≤ kd
  case neg =>
    go_wp2_with (first | (go_at_call 8; refine (works_any _).mono ?_; rintro e w1 ⟨rfl, b1⟩))
    go_ret
    exact ⟨rfl, HD1.out.trans (b1.mono HD1.out.size)⟩
  by_cases g6 : kd ≤ 16
  case neg =>
    go_wp2_with (first | (go_at_call 8; refine (works_any _).mono ?_; rintro e w1 ⟨rfl, b1⟩))
    go_ret
    exact ⟨rfl, HD1.out.trans (b1.mono HD1.out.size)⟩
  exact absurd ⟨g0, g1, g2, g3, g4, g5, g6⟩ h
set_option maxRecDepth 100000 in
set_option maxHeartbeats 8000000 in
theorem kinds_walk (l : List Rn) (bo : Option Addr) (n cb : Nat) (p k kd : Int) (w : World) (hn : n = l.length) (hc : n ≤ cb) (hi6 : ∀ x ∈ l, x.i6) (hS : Srcr w bo l) (hkd6 : I6 kd) (hok : kOk n p k kd) : Calls Try.prog 6 #[.agg #[.slice bo n cb, .int .i64 p, .int .i64 k, .int .i64 kd]] w fun e w' => e = .returned (.bool true) ∧ Below w.heap.size w w' := by
  obtain ⟨g0, g1, g2, g3, g4, g5, g6⟩ := hok
  have HLA : Hid (∀ W, Below w.heap.size w W → Calls Try.prog 26 #[.slice bo n cb] W (LdR W n)) := fun W hW => laid_any l bo n cb W hn hc g0 hi6 (hS.below hW)
  clear hn hi6 hS
  have b0 : Below w.heap.size w (w.alloc (.cells #[.slice bo n cb, .int .i64 p, .int .i64 k, .int .i64 kd] 67)) := (Below.refl _ _).alloc (Nat.le_refl _) _
  have r0 := St.new 67 w #[.slice bo n cb, .int .i64 p, .int .i64 k, .int .i64 kd]
  obtain ⟨q, hq⟩ : ∃ q, q = w.heap.size := ⟨_, rfl⟩
  go_enter Try.func6, Try.ntmps6
  generalize hC5 : Code.region 5 _ _ = C5
  generalize hC2 : Code.region 2 _ _ = C2
  generalize hC : Code.region 1 _ _ = C9
  go_wp2_with fail
  subst hC
  rw [← hq] at r0 ⊢
  have HQ := hid hq
  clear hq
  generalize w.alloc (.cells #[.slice bo n cb, .int .i64 p, .int .i64 k, .int .i64 kd] 67) = W0 at *
  have c0 : W0.cell? ⟨q, 0, none⟩ = some (.slice bo n cb) := r0.cell 0
  have c1 : W0.cell? ⟨q, 1, none⟩ = some (.int .i64 p) := r0.cell 1
  have c2 : W0.cell? ⟨q, 2, none⟩ = some (.int .i64 k) := r0.cell 2
  have c3 : W0.cell? ⟨q, 3, none⟩ = some (.int .i64 kd) := r0.cell 3
  go_wp2_with fail
  go_quiet (fail)
  have HDR : Hid (∀ j, Below w.heap.size w (W0.drewN j)) := fun j => b0.trans ((drewN_kp (fun _ => False) W0 j).below b0.size (fun _ x => x.elim))
  clear c0 c1 c2 c3 r0 b0
  subst hC2
  generalize hW1 : W0.drewN nq = W1 at *
  have HD1 : Hid (Below w.heap.size w W1) := by rw [← hW1]; exact HDR.out nq
  clear hW1 HDR
  go_wp2_with (first | (go_at_call 26; refine (HLA.out W1 HD1.out).mono ?_; rintro e W2 ⟨B, v, ao, c, L, S, rfl, HI, hsl⟩))
  have HB1 : Hid (Below w.heap.size w W2) := HD1.out.trans (HI.bl.mono HD1.out.size)
  have HRG := hid HI.rg
  have HPM := hid HI.pm
  have HSL : Hid (L.length ≤ 60) := by show _ ≤ _; rw [HI.pm.length_eq]; omega
  obtain ⟨vo, vc, rfl, hvs, hvl, hvm, hvn⟩ := HI.own.src
  have HVS := hid hvs
  clear HI hvs HLA
  obtain ⟨s, hs⟩ : ∃ s, s = S.length := ⟨_, rfl⟩
  rw [← hs] at hvl hsl ⊢
  have HS := hid hs
  clear hs
  have hvm2 : vc ≤ 9223372036854775807 := by unfold maxLen at hvm; omega
  clear hvm
  subst hC5
  obtain ⟨C, hC⟩ : ∃ C, C = W2.heap.size := ⟨_, rfl⟩
  have HNEW := hid (ObI.new W2)
  rw [← hC] at HNEW
  have HCW : Hid (C ≤ W2.heap.size) := Nat.le_of_eq hC
  have HC := hid hC
  clear hC
  have HSA := hid (apt_perm HRG.out.srt HPM.out)
  have HSM := hid (may_perm HRG.out.srt HPM.out)
  have HVC : Hid (∀ W, Below C W2 W → Srcr W vo S) := fun W hW => HVS.out.below (by rw [← HC.out]; exact hW)
  have HFIN : Hid (∀ W, Below C W2 W → Below w.heap.size w W) := fun W hW => HB1.out.trans (hW.mono (by rw [HC.out]; exact HB1.out.size))
  have HRW : Hid (∀ W, Below C W2 W → Rg W B ao c L) := fun W hW => HRG.out.below (by rw [← HC.out]; exact hW)
  go_wp2_with (first | (go_at_call 9; refine HNEW.out.mono ?_; rintro e w2 ⟨rfl, h2⟩; have H2 := hid h2; clear h2))
  go_loopw [10, 11, 12] (fun m y i wr => ∃ (j cnt : Nat) (by_ : Int) (ao' : Option Addr) (c' : Nat) (Lo : List Rn), j ≤ s ∧ i = .int .i64 (j : Int) ∧ m = .int .i64 (cnt : Int) ∧ y = .int .i64 by_ ∧ cnt ≤ j ∧ Hid (cnt = cntK (S.take j) kd) ∧ Hid (by_ = sumK (S.take j) kd) ∧ Hid (ObI C W2 C ao' c' Lo wr) ∧ Hid (Lo.Perm ((S.take j).filter (nok kd)))) (fun _ _ i _ => s - (intOf i).toNat)
  case atStart => exact ⟨0, 0, 0, none, 0, [], Nat.zero_le _, rfl, rfl, rfl, Nat.le_refl _, rfl, rfl, H2, List.Perm.refl _⟩
  case round =>
    clear H2 HNEW
    obtain ⟨j, cnt, by_, ao', c', Lo, hj, rfl, rfl, rfl, hcj, HCN, HBY, HO, HPL⟩ := hrel
    by_cases hlt : j < s
    · have hjs : j < S.length := by have := HS.out; omega
      obtain ⟨gb, off, rfl, hgb, x0, x1, x2⟩ := (HVC.out _ HO.out.bl).at (i := j) hjs
      have HC1 := hid (cntK_step hjs kd)
      have HC2 := hid (sumK_step hjs kd)
      have HF1 := hid (filter_step hjs kd)
      have hb1 := sumT_bd (S := S.take j) (fun x hx => HSM.out x (List.mem_of_mem_take hx)) kd
      have hb2 := sumT_bd (S := S.take (j + 1)) (fun x hx => HSM.out x (List.mem_of_mem_take hx)) kd
      rw [List.length_take] at hb1 hb2
      rw [← HBY.out] at hb1 HC2
      rw [← HCN.out] at HC1
      rw [HC2.out] at hb2
      have HLE : Hid (Lo.length ≤ 60) := by show _ ≤ _; rw [HPL.out.length_eq]; refine Nat.le_trans (List.length_filter_le _ _) ?_; rw [List.length_take]; have := HS.out; omega
      have HAPT := hid (take_apt hjs HSA.out)
      have HMX := HSM.out _ (gd_mem hjs)
      generalize S.getD j zRn = x at *
      have HM6 := hid HMX
      unfold Mayr at HMX
      by_cases hk1 : x.k = kd
      · rw [if_pos hk1] at HC1 HC2 HF1 hb2
        rw [List.append_nil] at HF1
        have hy1 : -9223372036854775808 ≤ by_ + x.n ∧ by_ + x.n ≤ 9223372036854775807 := by omega
        rw [← HF1.out] at HPL
        subst hk1
        clear hb1 hb2
        go_wp2_with fail
        go_roundw
        case rel => exact ⟨j + 1, cnt + 1, by_ + x.n, ao', c', Lo, by omega, by go_num, by go_num, by first | rfl | go_num, by omega, HC1.out.symm, HC2.out.symm, HO, HPL⟩
        case measure => simp [intOf]; omega
      · rw [if_neg hk1] at HC1 HC2 HF1 hb2
        rw [Int.add_zero] at HC2
        rw [Nat.add_zero] at HC1
        have HOK : Hid (okp Lo x = true) := okp_apt HO.out.rg.srt HM6.out (by have := HLE.out; omega) (fun y hy => HAPT.out y ((List.mem_filter.1 (HPL.out.mem_iff.1 hy)).1))
        have HPU := hid (HO.out.put1 HCW.out HOK.out)
        have HNX : Hid ((ins Lo x).Perm ((S.take (j + 1)).filter (nok kd))) := by
          rw [HF1.out]
          exact (ins_perm _ _).trans ((HPL.out.cons x).trans (by simpa using (@List.perm_append_comm _ [x] ((S.take j).filter (nok kd)))))
        clear hb1 hb2
        go_wp2_with (first | (go_at_call 21; refine HPU.out.mono ?_; rintro e w3 ⟨rfl, ao3, c3, h3⟩; have H3 := hid h3; clear h3) | (go_at_call 22; refine (num_any _ _).mono ?_; rintro e w9 ⟨rfl, rfl⟩))
        go_roundw
        case rel => exact ⟨j + 1, cnt, by_, ao3, c3, ins Lo x, by omega, by go_num, rfl, rfl, by omega, HC1.out.symm, HC2.out.symm, H3, HNX⟩
        case measure => simp [intOf]; omega
    · obtain rfl : j = s := by omega
      have HTK : Hid (S.take j = S) := List.take_of_length_le (by have := HS.out; omega)
      rw [HTK.out] at HCN HBY HPL
      have HLF : Hid (Lo = L.filter (nok kd)) := srt_filter HRG.out.srt HPM.out HO.out.rg.srt HPL.out
      have HCE : Hid (cntK L kd = cnt ∧ sumK L kd = by_) := ⟨by rw [HCN.out]; exact cntK_perm HPM.out kd, by rw [HBY.out]; exact sumK_perm HPM.out kd⟩
      have HCO : Hid (cntK Lo kd = 0 ∧ sumK Lo kd = 0) := by rw [HLF.out]; exact cntK_none L kd
      have HLI : Hid (lieb p k = true) := by show _ = _; unfold lieb; simp; omega
      have hak : allK [kd] = true := by unfold allK mkb; simp; omega
      have HA1 : Hid (∀ W, Below C W2 W → Calls Try.prog 20 #[.pointer (some ⟨B, 0, none⟩), .int .i64 p, .int .i64 k, .slice (some ⟨W.heap.size, 0, none⟩) 1 1] (W.alloc (.cells #[.int .i64 kd] 3)) fun e w' => e = .returned (.tuple #[.agg (orz (ovr Lo p k mz)).cs, .bool (ovr Lo p k mz).isSome, .int .i64 0]) ∧ Below W.heap.size W w') := fun W hW => by
        have hb : Below W.heap.size W (W.alloc (.cells #[.int .i64 kd] 3)) := (Below.refl _ _).alloc (Nat.le_refl _) _
        refine (ask_any _ B ao _ c 1 1 L [kd] p k ((HRW.out W hW).below hb) (by unfold I6; omega) (by unfold I6; omega) rfl (Nat.le_refl _) (by omega) (Src.mk (fun i hi => ?_))).mono fun e w' ⟨h1, h2⟩ => ?_
        · simp at hi
          subst hi
          exact St.cell (St.new 3 W #[.int .i64 kd]) 0
        · rw [h1]
          unfold askO askE askB
          rw [hak, HLI.out]
          simp only [Bool.and_self, if_true]
          rw [ovr_filter, ← HLF.out]
          exact ⟨rfl, hb.trans (h2.mono hb.size)⟩
      have HA2 : Hid (∀ W, ObI C W2 C ao' c' Lo W → Calls Try.prog 20 #[.pointer (some ⟨C, 0, none⟩), .int .i64 p, .int .i64 k, .slice none 0 0] W fun e w' => e = .returned (.tuple #[.agg (orz (ovr Lo p k mz)).cs, .bool (ovr Lo p k mz).isSome, .int .i64 0]) ∧ Below W.heap.size W w') := fun W hW => by
        refine (ask_any _ C ao' none c' 0 0 Lo [] p k hW.rg (by unfold I6; omega) (by unfold I6; omega) rfl (Nat.le_refl _) (by omega) (Src.nil _ _ _)).mono fun e w' ⟨h1, h2⟩ => ?_
        rw [h1]
        unfold askO askE askB
        rw [show allK [] = true from rfl, HLI.out]
        simp only [Bool.and_self, if_true]
        rw [mks_nil]
        exact ⟨rfl, h2⟩
      have HN1 : Hid (∀ W, Below C W2 W → Calls Try.prog 28 #[.pointer (some ⟨B, 0, none⟩), .int .i64 kd] W fun e w' => e = .returned (.tuple #[.int .i64 (cnt : Int), .int .i64 by_]) ∧ Below W.heap.size W w') := fun W hW => (count_any W B ao c L kd (HRW.out W hW)).mono fun e w' ⟨h1, h2⟩ => ⟨by rw [h1, HCE.out.1, HCE.out.2], h2⟩
      have HN2 : Hid (∀ W, ObI C W2 C ao' c' Lo W → Calls Try.prog 28 #[.pointer (some ⟨C, 0, none⟩), .int .i64 kd] W fun e w' => e = .returned (.tuple #[.int .i64 0, .int .i64 0]) ∧ Below W.heap.size W w') := fun W hW => (count_any W C ao' c' Lo kd hW.rg).mono fun e w' ⟨h1, h2⟩ => ⟨by rw [h1, HCO.out.1, HCO.out.2]; rfl, h2⟩
      generalize orz (ovr Lo p k mz) = x at *
      generalize (ovr Lo p k mz).isSome = xb at *
      obtain ⟨xk, xa, xn⟩ := x
      simp only [Rn.cs] at HA1 HA2
      have hxb : (xb == xb) = true := by simp
      clear HCE HCO HLF HTK HCN HBY HPL
      go_wp2_with (first | (go_at_call 20; refine (HA1.out wr HO.out.bl).mono ?_; rintro e w3 ⟨rfl, b3⟩; have H3 := hid (HO.out.below HCW.out b3); clear b3 HA1) | (refine wpList_store_r rfl _ _ rfl _ rfl (e' := ⟨xk, xa, xn⟩) rfl (Rn.B.new w3 zRn) ?_; intro w4 s4 k4; have b4 : Below w3.heap.size w3 w4 := ((Below.refl _ w3).alloc (Nat.le_refl _) _).trans (k4.below (by rw [World.size_alloc]; omega) (fun i e => by omega)); have H4 := hid (H3.out.below HCW.out b4); obtain ⟨t, ht⟩ : ∃ t, t = w3.heap.size := ⟨_, rfl⟩; rw [← ht] at s4 ⊢; have HT := hid ht; clear ht k4 b4) | (go_at_call 20; refine (HA2.out w4 H4.out).mono ?_; rintro e w5 ⟨rfl, b5⟩; have H5 := hid (H4.out.below HCW.out b5); have s5 := s4.below b5 s4.lt; clear b5 HA2) | (refine wpList_store_r rfl _ _ rfl _ rfl (e' := ⟨xk, xa, xn⟩) rfl (Rn.B.new w5 zRn) ?_; intro w6 s6 k6; have b6 : Below w5.heap.size w5 w6 := ((Below.refl _ w5).alloc (Nat.le_refl _) _).trans (k6.below (by rw [World.size_alloc]; omega) (fun i e => by omega)); have H6 := hid (H5.out.below HCW.out b6); have s7 := s5.below b6 s5.lt; obtain ⟨t2, ht⟩ : ∃ t, t = w5.heap.size := ⟨_, rfl⟩; rw [← ht] at s6 ⊢; have HT2 := hid ht; clear ht k6 b6) | (go_at_call 28; refine (HN1.out w6 H6.out.bl).mono ?_; rintro e w8 ⟨rfl, b8⟩; have H8 := hid (H6.out.below HCW.out b8); have s8 := s7.below b8 s7.lt; have s9 := s6.below b8 s6.lt; clear b8 HN1) | (go_at_call 28; refine (HN2.out w8 H8.out).mono ?_; rintro e w10 ⟨rfl, b10⟩; have H10 := hid (H8.out.below HCW.out b10); have s10 := s8.below b10 s8.lt; have s11 := s9.below b10 s9.lt; clear b10 HN2; have y0 : w10.cell? ⟨t, 0, none⟩ = some (.int .i64 xk) := s10.cell 0; have y1 : w10.cell? ⟨t, 1, none⟩ = some (.int .i64 xa) := s10.cell 1; have y2 : w10.cell? ⟨t, 2, none⟩ = some (.int .i64 xn) := s10.cell 2; have z0 : w10.cell? ⟨t2, 0, none⟩ = some (.int .i64 xk) := s11.cell 0; have z1 : w10.cell? ⟨t2, 1, none⟩ = some (.int .i64 xa) := s11.cell 1; have z2 : w10.cell? ⟨t2, 2, none⟩ = some (.int .i64 xn) := s11.cell 2) | (go_at_call 22; refine (num_any _ _).mono ?_; rintro e w12 ⟨rfl, rfl⟩) | (go_at_call 8; refine (works_any _).mono ?_; rintro e w13 ⟨rfl, b13⟩; have H13 := hid (H10.out.below HCW.out b13); clear b13))
      go_ret
      exact ⟨rfl, HFIN.out _ H13.out.bl⟩
theorem kinds_any (l : List Rn) (bo : Option Addr) (n cb : Nat) (p k kd : Int) (w : World) (hn : n = l.length) (hc : n ≤ cb) (hm : cb ≤ maxLen) (hi6 : ∀ x ∈ l, x.i6) (hS : Srcr w bo l) (hp : I6 p) (hk : I6 k) (hkd : I6 kd) : Calls Try.prog 6 #[.agg #[.slice bo n cb, .int .i64 p, .int .i64 k, .int .i64 kd]] w fun e w' => e = .returned (.bool true) ∧ Below w.heap.size w w' := by
  unfold maxLen at hm
  by_cases h : n ≤ 60 ∧ 0 ≤ p ∧ 0 ≤ k ∧ p ≤ 72057594037927936 ∧ k ≤ 72057594037927936 - p ∧ 1 ≤ kd ∧ kd ≤ 16
  · exact kinds_walk l bo n cb p k kd w hn hc hi6 hS hkd h
  · exact kinds_bad bo n cb p k kd w (by omega) hp hk hkd h
end Go.Proofs.Ytopnfjgkgoeleaa
