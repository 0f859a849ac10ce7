/- LaterCut: the walk of the law. -/
import Derived.Test.YtgfondgejimkkaaCa
import Derived.Test.YtgfondgejimkkaaVs
namespace Go.Proofs.Ytgfondgejimkkaa
open Go.RowKit
set_option linter.unusedVariables false
set_option linter.unusedSimpArgs false
theorem take_stt {W C : List Rn} {k : Nat} (h : k < C.length) : stt W (C.take (k + 1)) = lss (stt W (C.take k)) (C.getD k zRn) := by
  rw [take_snocr h, stt_snoc]
set_option maxRecDepth 100000 in
set_option maxHeartbeats 16000000 in
theorem cuts_wp (w X : World) (bo : Option Addr) (n cb : Nat) (co : Option Addr) (m cc : Nat) (T4 T5 Qa Qw T8 : Nat) (v : Value) (C W : List Rn) (A : Act) (ht : A.tmps = hL bo n cb co m cc T4 T5 Qw T8 0 (fun i => A.tmps.getD i undef)) (hd : A.defers = []) (hC : C.length ≤ 20) (hW : W.length ≤ 60) (hmC : ∀ c ∈ C, Mayr c) (h : Cs w T4 T5 T8 Qa Qw v C W W X) :
    gL.wpIn Fence.wide 20 Try.prog (postN (fun a' Z => (∃ f', a' = { tmps := h0 bo n cb co m cc T4 T5 Qw T8 f', defers := [] }) ∧ Cs w T4 T5 T8 Qa Qw v C (stt W C) W Z)) A X := by
  obtain ⟨f, rfl⟩ := act_of ht hd
  have HNU := hid num_any
  have HMC := hid hmC
  have HCW : Hid (Can W) := h.two.choose_spec.choose_spec.1.can
  have D0 := hid h
  obtain ⟨ao, cap, hv, _, hc1, hc2, _⟩ := h.own.src
  subst hv
  obtain ⟨mm, hmm⟩ : ∃ mm, mm = C.length := ⟨_, rfl⟩
  have HMM := hid hmm
  rw [← hmm] at hc1 hC D0
  unfold maxLen at hc2
  clear ht hd hmC h hmm
  refine wpIn_wide.2 ?_
  unfold gL hL
  generalize hQ : postN _ = QQ
  go_wp2_with fail
  go_loopw [9] (fun i wr => ∃ (k : Nat), i = .int .i64 (k : Int) ∧ k ≤ mm ∧ Hid (Cs w T4 T5 T8 Qa Qw (.slice ao mm cap) C (stt W (C.take k)) W wr)) (fun i _ => mm - (intOf i).toNat)
  case atStart => exact ⟨0, rfl, Nat.zero_le _, D0⟩
  case round =>
    clear D0
    obtain ⟨k, rfl, hk, HD⟩ := hrel
    have c8 : wr.cell? ⟨T8, 0, none⟩ = some (.slice ao mm cap) := HD.out.s8.cell 0
    by_cases hlt : k < mm
    · have hkC : k < C.length := by have := HMM.out; omega
      obtain ⟨ao2, cap2, hv2, hsr, _⟩ := HD.out.own.src
      obtain ⟨gb, off, e2, hgb, _, _⟩ := hsr.at (i := k) hkC
      subst e2
      cases hv2
      have HY := hid (HMC.out _ (gd_mem hkC))
      have HSC : Hid (∀ U, BK wr U → (fun U : World => U.cell? ⟨T5, 0, none⟩ = some (.pointer (some ⟨Qa, 0, none⟩)) ∧ U.cell? ⟨T8, 0, none⟩ = some (.slice (some ⟨gb, off, none⟩) C.length cap) ∧ U.cell? ⟨gb, off + k * 2, none⟩ = some (.int .i64 (C.getD k zRn).a) ∧ U.cell? ⟨gb, off + k * 2 + 1, none⟩ = some (.int .i64 (C.getD k zRn).n)) U) := fun U hU => by
        have h5 := hU 30 T5 _ (by unfold bxt; decide) HD.out.s5
        have h8 := hU 22 T8 _ (by unfold bxt; decide) HD.out.s8
        obtain ⟨ao3, cap3, e3, s3, _⟩ := (hU.own HD.out.own).src
        cases e3
        obtain ⟨g3, o3, e4, _, y0, y1⟩ := s3.at (i := k) hkC
        cases e4
        exact ⟨h5.cell 0, h8.cell 0, y0, y1⟩
      obtain ⟨hcn, _, hln⟩ := stt_ok (C.take k) W HCW.out (fun c hc => HMC.out c (List.mem_of_mem_take hc))
      have HCN := hid hcn
      have HLN : Hid ((stt W (C.take k)).length ≤ 80) := by rw [List.length_take] at hln; show _ ≤ _; omega
      have HTS := hid (take_stt (W := W) hkC)
      generalize stt W (C.take k) = A at *
      obtain ⟨y, hy⟩ : ∃ y, y = C.getD k zRn := ⟨_, rfl⟩
      rw [← hy] at HY HSC HTS
      obtain ⟨ya, yn⟩ := y
      dsimp only at HSC
      have HLL : Hid ((lss A ⟨ya, yn⟩).length ≤ 4096) := Nat.le_trans (lss_len1 HY.out hcn) (by have := HLN.out; omega)
      have HSZ := hid (lss_facts HY.out hcn.1).2.2
      have HZA := hid (ap_sz hcn.ap)
      have HOG := hid (ovl_gone HY.out hcn)
      have HOB := hid (ovl_bound HY.out hcn.ap)
      obtain ⟨ro, hro⟩ : ∃ ro, ro = ovl A ⟨ya, yn⟩ := ⟨_, rfl⟩
      have HRO := hid hro
      have c5 : wr.cell? ⟨T5, 0, none⟩ = some (.pointer (some ⟨Qa, 0, none⟩)) := HD.out.s5.cell 0
      have hki : (k : Int) < (C.length : Int) := by omega
      obtain ⟨ln, hln2⟩ : ∃ ln, ln = C.length := ⟨_, rfl⟩
      rw [← hln2] at HSC c8 hki hlt hkC
      have HLE := hid hln2
      clear hgb hsr hcn hln hy hro
      go_wp2_with fail
      refine HD.out.size.mono ?_
      rintro e w1 ⟨rfl, k1⟩
      have D1 := hid (HD.out.same k1)
      have B1 : Hid (BK wr w1) := BK.same k1
      clear k1 HD c5 c8
      go_wp2_with fail
      have cc1 := HSC.out w1.drew (B1.out.trans (BK.same (Kp.refl (fun _ => False) w1).drew))
      have HO1 := hid ((D1.out.same (Kp.refl (fun _ => False) w1).drew).over ⟨ya, yn⟩ HY.out)
      rw [← HRO.out] at HO1
      go_region_held3 (fun U : World => U.cell? ⟨T5, 0, none⟩ = some (.pointer (some ⟨Qa, 0, none⟩)) ∧ U.cell? ⟨T8, 0, none⟩ = some (.slice (some ⟨gb, off, none⟩) ln cap) ∧ U.cell? ⟨gb, off + k * 2, none⟩ = some (.int .i64 ya) ∧ U.cell? ⟨gb, off + k * 2 + 1, none⟩ = some (.int .i64 yn)) (first | exact cc1 | exact cc2) (first | (go_at_call 23; refine HO1.out.mono ?_; rintro e w2 ⟨rfl, k2⟩; have K2 : Hid (Kp (fun _ => False) w1 w2) := (Kp.refl (fun _ => False) w1).drew.trans k2 (fun _ _ h => h); have B2 : Hid (BK wr w2) := B1.out.trans (BK.same K2.out); have cc2 := HSC.out w2 B2.out; clear k2))
      have D2 := hid (D1.out.same K2.out)
      clear D1 B1 HO1 cc1 cc2 K2
      go_wp2_with fail
      have cd1 := HSC.out w2.drew (B2.out.trans (BK.same (Kp.refl (fun _ => False) w2).drew))
      have HO2 := hid ((D2.out.same (Kp.refl (fun _ => False) w2).drew).cut ⟨ya, yn⟩ HY.out HLL.out)
      rw [← HRO.out] at HO2
      go_region_held3 (fun U : World => U.cell? ⟨T5, 0, none⟩ = some (.pointer (some ⟨Qa, 0, none⟩)) ∧ U.cell? ⟨T8, 0, none⟩ = some (.slice (some ⟨gb, off, none⟩) ln cap) ∧ U.cell? ⟨gb, off + k * 2, none⟩ = some (.int .i64 ya) ∧ U.cell? ⟨gb, off + k * 2 + 1, none⟩ = some (.int .i64 yn)) (first | exact cd1 | exact cd2) (first | (go_at_call 24; refine HO2.out.mono ?_; rintro e w3 ⟨rfl, d3, b3⟩; have D3 := hid d3; have B3 : Hid (BK wr w3) := B2.out.trans ((BK.same (Kp.refl (fun _ => False) w2).drew).trans b3); have cd2 := HSC.out w3 B3.out; clear d3 b3))
      clear D2 B2 HO2 cd1 cd2
      go_wp2_with fail
      have ce1 := HSC.out w3.drew (B3.out.trans (BK.same (Kp.refl (fun _ => False) w3).drew))
      have HO3 := hid ((D3.out.same (Kp.refl (fun _ => False) w3).drew).over ⟨ya, yn⟩ HY.out)
      rw [HOG.out] at HO3
      go_region_held3 (fun U : World => U.cell? ⟨T5, 0, none⟩ = some (.pointer (some ⟨Qa, 0, none⟩)) ∧ U.cell? ⟨T8, 0, none⟩ = some (.slice (some ⟨gb, off, none⟩) ln cap) ∧ U.cell? ⟨gb, off + k * 2, none⟩ = some (.int .i64 ya) ∧ U.cell? ⟨gb, off + k * 2 + 1, none⟩ = some (.int .i64 yn)) (first | exact ce1 | exact ce2) (first | (go_at_call 23; refine HO3.out.mono ?_; rintro e w4 ⟨rfl, k4⟩; have K4 : Hid (Kp (fun _ => False) w3 w4) := (Kp.refl (fun _ => False) w3).drew.trans k4 (fun _ _ h => h); have B4 : Hid (BK wr w4) := B3.out.trans (BK.same K4.out); have ce2 := HSC.out w4 B4.out; clear k4))
      have D4 := hid (D3.out.same K4.out)
      have c5 : w4.cell? ⟨T5, 0, none⟩ = some (.pointer (some ⟨Qa, 0, none⟩)) := D4.out.s5.cell 0
      clear D3 B3 HO3 ce1 ce2 K4
      go_wp2_with fail
      refine D4.out.size.mono ?_
      rintro e w5 ⟨rfl, k5⟩
      have D5 := hid (D4.out.same k5)
      have hdf : sz A - sz (lss A ⟨ya, yn⟩) = ro := by have h1 := HSZ.out; have h2 := HRO.out; omega
      have hwr : IntKind.i64.wrap ro = ro := by have h1 := HOB.out; have h2 := HRO.out; have h3 := HY.out; unfold Mayr Rn.e at h3; rw [IntKind.wrap_i64]; dsimp only at *; omega
      clear k5 D4 B4 c5
      go_wp2_with (first | (go_at_call 11; refine (HNU.out _ _).mono ?_; rintro e1 w9 ⟨rfl, rfl⟩))
      go_roundw
      case rel => exact ⟨k + 1, by go_num, by have := HMM.out; have := HLE.out; omega, by rw [HTS.out]; exact D5.out⟩
      case measure => simp [intOf]; omega
    · obtain rfl : k = mm := by omega
      have HT : Hid (C.take k = C) := List.take_of_length_le (by have := HMM.out; omega)
      go_wp2_with fail
      subst hQ
      exact ⟨act_of (by kernel_rfl) rfl, by have := HD.out; rw [HT.out, HMM.out] at this; exact this⟩
end Go.Proofs.Ytgfondgejimkkaa

namespace Go.Proofs.Ytgfondgejimkkaa
open Go.RowKit Go.Shelf
attribute [local go_sem] Oper.semAt_some
set_option linter.unusedVariables false
set_option linter.unusedSimpArgs false
/-- One has one footprint. -/
theorem Lw.fun' {Q : Nat} {R R2 : List Rn} {F G : Nat → Prop} {w : World} (h : Lw Q R F w) (k : Lw Q R2 G w) : ∀ i, F i ↔ G i := by
  obtain ⟨B, mb, me, c, v, L, h1, _, h3⟩ := h
  obtain ⟨B', mb', me', c', v', L', k1, _, k3⟩ := k
  have e1 := h1.st
  have e2 := k1.st
  unfold St at e1 e2
  rw [e1] at e2
  simp only [Option.some.injEq, Obj.cells.injEq] at e2
  have e3 := e2.1
  have q0 := congrArg (fun a : Array Value => a[0]?) e3
  have q1 := congrArg (fun a : Array Value => a[1]?) e3
  have q2 := congrArg (fun a : Array Value => a[2]?) e3
  simp [ptr] at q0 q1 q2
  subst q0 q1 q2
  have e4 := h1.ln.st
  have e5 := k1.ln.st
  unfold St at e4 e5
  rw [e4] at e5
  simp only [Option.some.injEq, Obj.cells.injEq] at e5
  have q3 := congrArg (fun a : Array Value => a[0]?) e5.1
  simp at q3
  subst q3
  have hLL : L = L' := by
    have hl : L.length = L'.length := by
      obtain ⟨ao, cap, hv, _⟩ := h1.ln.len
      obtain ⟨ao2, cap2, hv2, _⟩ := k1.ln.len
      rw [hv] at hv2
      injection hv2
    apply List.ext_getElem hl
    intro i hi hi'
    obtain ⟨g, cap, hv, _, _, _, _, hc, _⟩ := h1.ln.row (by omega)
    obtain ⟨g2, cap2, hv2, _, _, _, _, hc2, _⟩ := k1.ln.row (by omega)
    rw [hv] at hv2
    injection hv2 with e6 e7 e8
    have e9 : g = g2 := by simpa using e6
    subst e9
    have y1 := hc i hi
    have y2 := hc2 i hi'
    rw [y1] at y2
    simp only [ptr, Option.some.injEq, Value.pointer.injEq, Addr.mk.injEq, and_true] at y2
    rw [gn hi, gn hi'] at y2
    exact y2
  subst hLL
  intro i
  rw [h3, k3]
theorem take_ovs {x : Rn} {C : List Rn} {k : Nat} (h : k < C.length) : ovs x (C.take (k + 1)) = ovs x (C.take k) + ov x (C.getD k zRn) := by
  rw [take_snocr h, ovs_snoc]
set_option maxRecDepth 100000 in
set_option maxHeartbeats 16000000 in
theorem bodyC_wp (l' : Nat) (w X : World) (bo : Option Addr) (n cb : Nat) (co : Option Addr) (m cc : Nat) (T4 T5 Qa Qw T8 T21 : Nat) (v : Value) (C W A : List Rn) (x : Rn) (f : Nat → Value)
    (h : Cs w T4 T5 T8 Qa Qw v C A W X) (s21 : Rn.B X T21 x) (hx : Mayr x) (hC : C.length ≤ 20) (hmC : ∀ c ∈ C, Mayr c) (hA : A.length ≤ 1000) (hin : ∀ p, Inr x p → Bt A p ∨ Bt C p) :
    gB.wpIn (Fence.wide.inRound l') 18 Try.prog (postN (fun _ Z => Cs w T4 T5 T8 Qa Qw v C (tog (A ++ [x])) W Z ∧ Pgl w Qa X Z)) { tmps := hB bo n cb co m cc T4 T5 Qw T8 T21 f, defers := [] } X := by
  have hmix : Try.prog.follows .mixedOrders = true := by kernel_rfl
  have HNU := hid num_any
  have HCA : Hid (Can A) := h.two.choose_spec.choose_spec.1.can
  have HLG := hid (left_ge hx HCA.out.ap hmC hin)
  have HOB := hid (ovl_bound hx HCA.out.ap)
  have HMC := hid hmC
  have HXM := hid hx
  have HOS := hid (fun k => ovs_le (C := C.take k) hx (fun c hc => hmC c (List.mem_of_mem_take hc)))
  have D0 := hid h
  have S21 := hid s21
  unfold Mayr Rn.e at hx
  obtain ⟨xa, xn⟩ := x
  dsimp only at hx HLG HOB HOS
  obtain ⟨hx1, hx2, hx3⟩ := hx
  have c5 : X.cell? ⟨T5, 0, none⟩ = some (.pointer (some ⟨Qa, 0, none⟩)) := h.s5.cell 0
  obtain ⟨lf, hlf⟩ : ∃ lf, lf = ovl A ⟨xa, xn⟩ := ⟨_, rfl⟩
  have HLF := hid hlf
  have HO := hid (h.over ⟨xa, xn⟩ HXM.out)
  rw [← hlf] at HO
  clear h s21 hmC hin hlf
  unfold gB hB
  generalize hQ : postN _ = QQ
  gi_wp2_with (first | (refine wpListIn_load_r (by rfl) (.tmp 21) rfl T21 rfl S21.out ?_))
  refine ⟨trivial, ((callsIn_wide.2 HO.out).inRound l').mono ?_⟩
  rintro e w1 ⟨rfl, k1⟩
  have D1 := hid (D0.out.same k1)
  have S211 := hid (S21.out.kp k1 (fun h => h))
  have K1 : Hid (Kp (fun _ => False) X w1) := k1
  obtain ⟨ao, cap, hv, _, hc1, hc2, _⟩ := D1.out.own.src
  subst hv
  obtain ⟨mm, hmm⟩ : ∃ mm, mm = C.length := ⟨_, rfl⟩
  have HMM := hid hmm
  have hm20 : mm ≤ 20 := by omega
  unfold maxLen at hc2
  clear k1 HO c5 hmm
  gi_wp2_with fail
  gi_loopw [24, 25] (fun a i wr => ∃ (k : Nat), a = .int .i64 (ovs ⟨xa, xn⟩ (C.take k)) ∧ i = .int .i64 (k : Int) ∧ k ≤ mm ∧ Hid (Kp (fun _ => False) w1 wr)) (fun _ i _ => mm - (intOf i).toNat)
  case atStart => exact ⟨0, rfl, rfl, Nat.zero_le _, Kp.refl _ _⟩
  case round =>
    obtain ⟨k, rfl, rfl, hk, HK⟩ := hrel
    have D2 := hid (D1.out.same HK.out)
    have c8 : wr.cell? ⟨T8, 0, none⟩ = some (.slice ao mm cap) := by rw [HMM.out]; exact D2.out.s8.cell 0
    by_cases hlt : k < mm
    · have hkC : k < C.length := by have := HMM.out; omega
      have hki : (k : Int) < (mm : Int) := by omega
      obtain ⟨ao2, cap2, hv2, hsr, _⟩ := D2.out.own.src
      obtain ⟨gb, off, e2, hgb, y0, y1⟩ := hsr.at (i := k) hkC
      subst e2
      cases hv2
      have hym := HMC.out _ (gd_mem hkC)
      have HTO := hid (take_ovs (x := ⟨xa, xn⟩) hkC)
      have hos := HOS.out k
      have hos2 := HOS.out (k + 1)
      rw [HTO.out] at hos2
      have HOV : Hid (ov ⟨xa, xn⟩ (C.getD k zRn) = max 0 (min (xa + xn) ((C.getD k zRn).a + (C.getD k zRn).n) - max xa (C.getD k zRn).a)) := rfl
      rw [HOV.out] at hos2
      generalize C.getD k zRn = y at *
      obtain ⟨ya, yn⟩ := y
      unfold Mayr Rn.e at hym
      dsimp only at y0 y1 hym HOV hos2
      have z0 : wr.cell? ⟨T21, 0, none⟩ = some (.int .i64 xa) := (S211.out.kp HK.out (fun h => h)).cell 0
      have z1 : wr.cell? ⟨T21, 1, none⟩ = some (.int .i64 xn) := (S211.out.kp HK.out (fun h => h)).cell 1
      have hlk : (C.take k).length ≤ 20 := by rw [List.length_take]; omega
      have hlk2 : (C.take (k + 1)).length ≤ 20 := by rw [List.length_take]; omega
      have hbo : ovs ⟨xa, xn⟩ (C.take k) + max 0 (min (xa + xn) (ya + yn) - max xa ya) ≤ 72057594037927936 * 20 := by
        have h1 : xn * ((C.take (k + 1)).length : Int) ≤ 72057594037927936 * 20 := by
          refine Int.mul_le_mul ?_ ?_ (by omega) (by omega)
          · omega
          · omega
        omega
      have hw1 : IntKind.i64.wrap (xa + xn) = xa + xn := by rw [IntKind.wrap_i64]; omega
      have hw2 : IntKind.i64.wrap (ya + yn) = ya + yn := by rw [IntKind.wrap_i64]; omega
      have hw3 : IntKind.i64.wrap (min (xa + xn) (ya + yn) - max xa ya) = min (xa + xn) (ya + yn) - max xa ya := by rw [IntKind.wrap_i64]; omega
      have hw4 : IntKind.i64.wrap (ovs ⟨xa, xn⟩ (C.take k) + max 0 (min (xa + xn) (ya + yn) - max xa ya)) = ovs ⟨xa, xn⟩ (C.take k) + max 0 (min (xa + xn) (ya + yn) - max xa ya) := by rw [IntKind.wrap_i64]; omega
      clear hsr hgb hos hos2 hlk hlk2 hbo
      generalize ovs ⟨xa, xn⟩ (C.take k) = ok at *
      gi_wp2_with fail
      refine wpIn_region_quietR hmix (by kernel_rfl) (by kernel_rfl) ?_
      repeat (gi_big_quiet_step (fail))
      refine wpQuietIn_nil ?_
      intro _ hw'
      obtain ⟨nq, hw2'⟩ := hw'
      subst hw2'
      have KN : Hid (Kp (fun _ => False) w1 (wr.drewN nq)) := HK.out.trans (drewN_kp _ _ _) (fun _ _ h => h)
      generalize wr.drewN nq = wn at *
      have hfin : Hid (ok + max 0 (min (xa + xn) (ya + yn) - max xa ya) = ovs ⟨xa, xn⟩ (C.take (k + 1))) := by rw [Hid, HTO.out, HOV.out]
      clear z0 z1 y0 y1 c8 hw1 hw2 hw3 hw4 HTO HOV
      gi_wp2_with fail
      go_roundw
      case rel => exact ⟨k + 1, by rw [hfin.out], by go_num, hlt, KN⟩
      case measure => simp [intOf]; omega
    · obtain rfl : k = mm := by omega
      have HT : Hid (C.take k = C) := List.take_of_length_le (by have := HMM.out; omega)
      have hos := HOS.out k
      rw [HT.out] at hos ⊢
      have h3 : xn * (C.length : Int) ≤ 72057594037927936 * 20 := Int.mul_le_mul (by omega) (by have := HMM.out; omega) (by omega) (by omega)
      have hlg := HLG.out
      have hob := HOB.out
      rw [← HLF.out] at hlg hob
      obtain ⟨ov, hov⟩ : ∃ ov, ov = ovs ⟨xa, xn⟩ C := ⟨_, rfl⟩
      rw [← hov] at hos hlg ⊢
      have hw5 : IntKind.i64.wrap (xn - ov) = xn - ov := by rw [IntKind.wrap_i64]; omega
      have d1 : ¬ lf < xn - ov := by omega
      have d2 : ¬ xn < lf := by omega
      have z0 : wr.cell? ⟨T21, 0, none⟩ = some (.int .i64 xa) := (S211.out.kp HK.out (fun h => h)).cell 0
      have z1 : wr.cell? ⟨T21, 1, none⟩ = some (.int .i64 xn) := (S211.out.kp HK.out (fun h => h)).cell 1
      have S212 := hid (S211.out.kp HK.out (fun h => h))
      have c5 : wr.cell? ⟨T5, 0, none⟩ = some (.pointer (some ⟨Qa, 0, none⟩)) := D2.out.s5.cell 0
      have K2 : Hid (Kp (fun _ => False) X wr) := K1.out.trans HK.out (fun _ _ h => h)
      clear hos h3 hlg hob hov
      gi_wp2_with (first | (refine ⟨trivial, ?_⟩; gi_at_call 11; refine ((callsIn_wide.2 (HNU.out _ _)).inRound l').mono ?_; rintro e1 w9 ⟨rfl, rfl⟩))
      have ka : Kp (fun _ => False) wr (wr.alloc (.cells #[.int .i64 xa, .int .i64 xn] 38)) := (Kp.refl _ _).alloc _
      refine ⟨trivial, ((callsIn_wide.2 ((D2.out.same ka).put _ _ ⟨xa, xn⟩ (by simp) (srcr_new1 wr ⟨xa, xn⟩) HXM.out (by omega))).inRound l').mono ?_⟩
      rintro e w3 ⟨r, rfl, d3, b3, Fa, A2, p1, p2, F', R', p3, p4⟩
      have D3 := hid d3
      have HPG : Hid (Pgl w Qa X w3) := by
        have k5 := K2.out.trans ka (fun _ _ h => h)
        obtain ⟨Fx, _, x1, _⟩ := D0.out.two
        have e9 : ∀ i, Fa i → i < X.heap.size → Fx i := fun i hi hl => (p1.fun' (x1.kp0 k5) i).1 hi
        exact ⟨Fx, A, x1, (k5.mono (fun _ _ h => h.elim)).trans p2 (fun i hi hf => e9 i hf hi), F', R', p3, fun i hi => (p4 i hi).elim (fun hf => .inl ((p1.fun' (x1.kp0 k5) i).1 hf)) (fun hl => .inr (Nat.le_trans k5.size hl))⟩
      clear d3 b3 p1 p2 p3 p4 ka
      gi_wp2_with (first | (refine ⟨trivial, ?_⟩; gi_at_call 11; refine ((callsIn_wide.2 (HNU.out _ _)).inRound l').mono ?_; rintro e1 w9 ⟨rfl, rfl⟩))
      subst hQ
      exact ⟨D3.out, HPG.out⟩
end Go.Proofs.Ytgfondgejimkkaa

namespace Go.Proofs.Ytgfondgejimkkaa
open Go.RowKit Go.Shelf
attribute [local go_sem] Oper.semAt_some
set_option linter.unusedVariables false
set_option linter.unusedSimpArgs false
set_option maxRecDepth 100000 in
set_option maxHeartbeats 4000000 in
theorem val_seq2 (n : Nat) (hn : 1 ≤ n) (bt : Nat) (ao : Option Addr) (c : Nat) (L : List Rn) (w : World) (hl : L.length ≤ 65536) (hs : Srcr w ao L) (s1 : St 22 w bt #[.slice ao L.length c]) :
    SeqW Fence.wide n Try.prog 56 #[] #[.pointer (some ⟨bt, 0, none⟩)] (fun x : Rn => #[.agg x.cs]) (fun ys _ => ys = L) (fun pre _ => ∃ j, j ≤ L.length ∧ pre = L.take j) (fun pre => ∃ j, j ≤ L.length ∧ pre = L.take j) (RO bt ao L) w := by
  intro l J Jx W hW hA hAx hY h0
  have S0 := hid (hs.below hW)
  have T1 := hid (s1.below hW s1.lt)
  have LB : Hid (∀ i, RO bt ao L i → i < W.heap.size) := by
    rintro i (rfl | ⟨hp, off, e⟩)
    · exact Nat.lt_of_lt_of_le s1.lt hW.size
    · obtain ⟨g, of2, e2, hb, _⟩ := S0.out hp
      rw [e] at e2
      cases e2
      exact hb
  clear hs s1 hW
  obtain ⟨N, hN⟩ : ∃ N, N = L.length := ⟨_, rfl⟩
  have c0 : W.cell? ⟨bt, 0, none⟩ = some (.slice ao N c) := by rw [hN]; exact T1.out.cell 0
  have HY := hid hY
  rw [← hN] at hl HY
  have HN := hid hN
  clear hN hY
  refine callsIn_of_wp Try.func56 rfl trivial ?_ rfl
  simp only [Try.ntmps56, List.size_toArray, List.length_cons, List.length_nil, Nat.reduceAdd, Nat.reduceSub, Array.replicate_succ, Array.replicate_zero, List.push_toArray, List.append_toArray, List.nil_append, List.cons_append]
  gi_wp2_with fail
  gi_loopw [7] (fun i wr => ∃ (k : Nat) (O : Nat → Prop), i = .int .i64 k ∧ k ≤ N ∧ Hid (J (L.take k) O wr) ∧ Hid (∀ i, RO bt ao L i → O i) ∧ Hid (KR (RO bt ao L) W wr)) (fun i _ => N - (intOf i).toNat)
  case atStart => exact ⟨0, _, rfl, Nat.zero_le _, h0, fun _ h => h, fun _ _ => rfl⟩
  case round =>
    clear c0
    obtain ⟨k, O, rfl, hk, HJ, HOS, HKR⟩ := hrel
    by_cases hlt : k < N
    · have hkl : k < L.length := by have := HN.out; omega
      obtain ⟨gb, off, rfl, hgb, x0, x1⟩ := (srcr_blk S0.out (fun i off hp e => HKR.out i (Or.inr ⟨hp, off, e⟩))).at (i := k) hkl
      have HTS := hid (take_snoc hkl)
      generalize L.getD k zRn = x at *
      obtain ⟨q, hq⟩ : ∃ q, q = wr.heap.size := ⟨_, rfl⟩
      gi_wp2_with (first | (refine wpListIn_store_r (by rfl) (.tmp 4) (.tmp 10) rfl wr.heap.size rfl (e := zRn) (e' := x) rfl (Rn.B.new wr zRn) ?_; intro w2 b2 j2; have k2 : Kp (fun _ => False) wr w2 := ((Kp.refl (fun _ => False) wr).alloc _).trans j2 (fun i h1 h2 => by omega); have E2 := hid b2; have K2 := hid k2; have J2 := hid (hA _ O wr w2 HJ.out (k2.mono (fun _ _ x => x.elim))); obtain ⟨fn, tmps, assign, body, hy, hR⟩ := HY.out _ _ x w2 J2.out ⟨k + 1, by have := HN.out; omega, HTS.out⟩; have HR := hid hR; clear hR k2 j2 b2 x0 x1) | (refine wpListIn_load_r (by rfl) (.tmp 4) rfl wr.heap.size rfl E2.out ?_))
      have KR2 : Hid (KR (RO bt (some ⟨gb, off, none⟩) L) W w2) := fun i hi => (K2.out.block i (kr_lt HKR.out hi (LB.out i hi)) (fun x => x)).trans (HKR.out i hi)
      refine HR.out.mono ?_
      rw [HTS.out]
      rintro ee w3 (⟨rfl, hJ3, hk3⟩ | ⟨rfl, hJx3, hk3⟩)
      · have KR3 : Hid (KR (RO bt (some ⟨gb, off, none⟩) L) W w3) := fun i hi => (hk3.block i (kr_lt KR2.out hi (LB.out i hi)) (fun x => x (Or.inl (HOS.out i hi)))).trans (KR2.out i hi)
        have HJ3 := hid hJ3
        clear hk3 hJ3
        gi_wp2
        go_roundw
        case rel => exact ⟨k + 1, _, by go_num, hlt, HJ3, fun i hi => Or.inl (HOS.out i hi), KR3⟩
        case measure => simp [intOf]; omega
      · gi_wp2
        refine bodyPost_ret (results_none rfl _ _ _) rfl ?_
        exact ⟨⟨_, rfl⟩, .inr ⟨_, _, ⟨k + 1, by have := HN.out; omega, rfl⟩, hJx3⟩⟩
    · obtain rfl : k = N := by omega
      have HT : Hid (L.take k = L) := List.take_of_length_le (by have := HN.out; omega)
      gi_wp2_with fail
      go_end0
      exact ⟨⟨_, rfl⟩, .inl ⟨_, _, rfl, by rw [← HT.out]; exact HJ.out⟩⟩
theorem kp_putC (W : World) (l : Nat) (o' : Obj) : Kp (fun i => i = l) W (W.putObj l o') := ⟨rfl, rfl, rfl, by simp, fun k _ hk => World.putObj_heap_other hk⟩
def mrkc (D : Nat) : Deferred := { target := .collected D, args := #[] }
/-- Its blocks are no others'. -/
def Fx (Q : Nat) (G : Nat → Prop) (Z : World) : Prop := ∃ F R, Lw Q R F Z ∧ ∀ i, F i → ¬ G i
theorem Fx.at {Q : Nat} {G : Nat → Prop} {Z : World} {R : List Rn} {F : Nat → Prop} (h : Fx Q G Z) (k : Lw Q R F Z) : ∀ i, F i → ¬ G i := fun i hi => by
  obtain ⟨F', R', h1, h2⟩ := h
  exact h2 i ((k.fun' h1 i).1 hi)
theorem Cs.kpo {w : World} {T4 T5 T8 Qa Qw : Nat} {v : Value} {C A W : List Rn} {X Y : World} {G : Nat → Prop} (h : Cs w T4 T5 T8 Qa Qw v C A W X) (k : Kp G X Y) (hw : ∀ i, G i → w.heap.size ≤ i) (hn : ¬ G T4 ∧ ¬ G T5 ∧ ¬ G T8) (hv : ∀ g, v.ownBlock = some g → ¬ G g) (fa : Fx Qa G X) (fw : Fx Qw G X) : Cs w T4 T5 T8 Qa Qw v C A W Y := by
  obtain ⟨Fa, Fb, a1, a2, a3, a4, a5⟩ := h.two
  exact ⟨h.kp.trans k (fun i hi e => by have := hw i e; omega), h.s4.kp k hn.1, h.s5.kp k hn.2.1, h.s8.kp k hn.2.2, h.own.kp k hv, ⟨Fa, Fb, a1.kp k (fa.at a1), a2.kp k (fw.at a2), a3, a4, a5⟩, h.low⟩
theorem Fx.kp {Q : Nat} {G G2 : Nat → Prop} {X Y : World} (h : Fx Q G X) (k : Kp G2 X Y) (h2 : Fx Q G2 X) : Fx Q G Y := by
  obtain ⟨F, R, h1, h3⟩ := h
  exact ⟨F, R, h1.kp k (h2.at h1), h3⟩
theorem Fx.mono {Q : Nat} {G G2 : Nat → Prop} {X : World} (h : Fx Q G X) (k : ∀ i, i < X.heap.size → G2 i → G i) : Fx Q G2 X := by
  obtain ⟨F, R, h1, h3⟩ := h
  exact ⟨F, R, h1, fun i hi hg => h3 i hi (k i (h1.lt hi) hg)⟩
/-- What holds round by round; B: where the range's own marks lie. -/
structure Ci (w : World) (T4 T5 T8 Qa Qw B : Nat) (v : Value) (C W : List Rn) (pre : List Rn) (O : Nat → Prop) (Z : World) : Prop where
  ex : ∃ A, Cs w T4 T5 T8 Qa Qw v C A W Z ∧ (∀ p, Bt A p ↔ Bt (stt W C) p ∨ Bt pre p) ∧ A.length ≤ 80 + pre.length
  fa : Fx Qa (fun i => O i ∨ i = B ∨ i = B + 1) Z
  fw : Fx Qw (fun i => O i ∨ i = B ∨ i = B + 1) Z
  ow : ∀ i, O i → w.heap.size ≤ i
  ol : ∀ i, O i → i < Z.heap.size
  no : ¬ O T4 ∧ ¬ O T5 ∧ ¬ O T8
  nv : ∀ g, v.ownBlock = some g → ¬ O g
  lt : T4 < B ∧ T5 < B ∧ T8 < B ∧ w.heap.size ≤ B ∧ ∀ g, v.ownBlock = some g → g < B
theorem Ci.abw (w : World) (T4 T5 T8 Qa Qw B : Nat) (v : Value) (C W : List Rn) : AbW (Ci w T4 T5 T8 Qa Qw B v C W) := fun s O X Y h k => by
  obtain ⟨A, c, h1, h2⟩ := h.ex
  have hx := h.no
  have l4 := c.s4.lt
  have l5 := c.s5.lt
  have l8 := c.s8.lt
  have fO : Fx Qa O X := h.fa.mono (fun _ _ e => .inl e)
  have fO2 : Fx Qw O X := h.fw.mono (fun _ _ e => .inl e)
  have up : ∀ {Q}, Fx Q (fun i => O i ∨ i = B ∨ i = B + 1) X → Fx Q O X → Fx Q (fun i => (O i ∨ (X.heap.size ≤ i ∧ i < Y.heap.size)) ∨ i = B ∨ i = B + 1) Y := fun {Q} g1 g2 => by
    obtain ⟨F, R, f1, f2⟩ := g1
    refine ⟨F, R, f1.kp k (g2.at f1), fun i hi e => ?_⟩
    rcases e with (e | e) | e
    · exact f2 i hi (.inl e)
    · have := f1.lt hi; omega
    · exact f2 i hi (.inr e)
  exact ⟨⟨A, c.kpo k h.ow h.no h.nv fO fO2, h1, h2⟩, up h.fa fO, up h.fw fO2, fun i hi => hi.elim (h.ow i) (fun e => Nat.le_trans c.kp.size e.1), fun i hi => hi.elim (fun e => Nat.lt_of_lt_of_le (h.ol i e) k.size) (fun e => e.2), ⟨fun e => e.elim hx.1 (fun e => by omega), fun e => e.elim hx.2.1 (fun e => by omega), fun e => e.elim hx.2.2 (fun e => by omega)⟩, fun g hg e => e.elim (h.nv g hg) (fun e => by have := (c.own.blk hg).2.1; omega), h.lt⟩
theorem Ci.put {w : World} {T4 T5 T8 Qa Qw B : Nat} {v : Value} {C W pre : List Rn} {O : Nat → Prop} {Z : World} (h : Ci w T4 T5 T8 Qa Qw B v C W pre O Z) (o' : Obj) : Ci w T4 T5 T8 Qa Qw B v C W pre O (Z.putObj (B + 1) o') := by
  obtain ⟨A, c, h1, h2⟩ := h.ex
  have hl := h.lt
  have g1 : Fx Qa (fun i => i = B + 1) Z := h.fa.mono (fun _ _ e => .inr (.inr e))
  have g2 : Fx Qw (fun i => i = B + 1) Z := h.fw.mono (fun _ _ e => .inr (.inr e))
  exact ⟨⟨A, c.kpo (kp_putC Z _ o') (fun i e => by omega) (by omega) (fun g hg e => by have := hl.2.2.2.2 g hg; omega) g1 g2, h1, h2⟩, h.fa.kp (kp_putC Z _ o') g1, h.fw.kp (kp_putC Z _ o') g2, h.ow, fun i hi => Nat.lt_of_lt_of_le (h.ol i hi) (kp_putC Z (B + 1) o').size, h.no, h.nv, h.lt⟩
theorem Fx.none {Q : Nat} {G : Nat → Prop} {X : World} (h : Fx Q G X) : Fx Q (fun _ => False) X := h.mono (fun _ _ e => e.elim)
theorem Ci.same {w : World} {T4 T5 T8 Qa Qw B : Nat} {v : Value} {C W pre : List Rn} {O : Nat → Prop} {Z Y : World} (h : Ci w T4 T5 T8 Qa Qw B v C W pre O Z) (k : Kp (fun _ => False) Z Y) : Ci w T4 T5 T8 Qa Qw B v C W pre O Y := by
  obtain ⟨A, c, h1, h2⟩ := h.ex
  exact ⟨⟨A, c.same k, h1, h2⟩, h.fa.kp k h.fa.none, h.fw.kp k h.fw.none, h.ow, fun i hi => Nat.lt_of_lt_of_le (h.ol i hi) k.size, h.no, h.nv, h.lt⟩
set_option maxRecDepth 100000 in
set_option maxHeartbeats 8000000 in
theorem rngC_wp (w X : World) (bo : Option Addr) (n cb : Nat) (co : Option Addr) (m cc : Nat) (T4 T5 Qa Qw T8 q : Nat) (v : Value) (C W : List Rn) (ao : Option Addr) (cap : Nat) (A : Act) (ht : A.tmps = hG bo n cb co m cc T4 T5 Qw T8 q (fun i => A.tmps.getD i undef)) (hd : A.defers = []) (hC : C.length ≤ 20) (hmC : ∀ c ∈ C, Mayr c) (hW : W.length ≤ 60)
    (h : Cs w T4 T5 T8 Qa Qw v C (stt W C) W X) (sq : St 22 X q #[.slice ao W.length cap]) (sr : Srcr X ao W) (hq : w.heap.size ≤ q) (nq : T8 ≠ q) (hao : ∀ b off, ao = some ⟨b, off, none⟩ → w.heap.size ≤ b ∧ b ≠ T4 ∧ b ≠ T5 ∧ b ≠ T8 ∧ (∀ g, v.ownBlock = some g → g ≠ b) ∧ Fx Qa (fun i => i = b) X ∧ Fx Qw (fun i => i = b) X) :
    gR.wpIn Fence.wide 20 Try.prog (postN (fun a' Z => ∃ D, (∃ f', a' = { tmps := h0 bo n cb co m cc T4 T5 Qw T8 f', defers := [mrkc D] }) ∧ X.heap.size ≤ D ∧ Z.heap[D]? = some (.deferred (some [])) ∧ Cs w T4 T5 T8 Qa Qw v C W W Z)) A X := by
  obtain ⟨f, rfl⟩ := act_of ht hd
  have HCW : Hid (Can W) := h.two.choose_spec.choose_spec.2.1.can
  have SQ := hid (val_seq2 19 (by omega) q ao cap W X (by omega) sr sq)
  have LO : Hid (∀ i, RO q ao W i → i < X.heap.size) := fun i hi => by
    rcases hi with e | ⟨hp, off, e⟩
    · rw [e]; exact sq.lt
    · obtain ⟨g, of2, e2, hb, _⟩ := sr hp
      rw [e] at e2
      cases e2
      exact hb
  obtain ⟨hsc, hsb, hsl⟩ := stt_ok C W HCW.out hmC
  have HSB := hid hsb
  have HSC := hid hsc
  have HI0 : Hid (Ci w T4 T5 T8 Qa Qw X.heap.size v C W [] (RO q ao W) X) := by
    obtain ⟨Fa, Fb, a1, a2, a3, a4, a5⟩ := h.two
    have nofx : ∀ {Q R F}, Lw Q R F X → (∀ b off, ao = some ⟨b, off, none⟩ → Fx Q (fun i => i = b) X) → Fx Q (fun i => RO q ao W i ∨ i = X.heap.size ∨ i = X.heap.size + 1) X := fun {Q R F} l hb => by
      refine ⟨F, R, l, fun i hi e => ?_⟩
      rcases e with (e | ⟨hp, off, e⟩) | e
      · subst e; exact l.box (t := 22) (by unfold bxt; decide) sq hi
      · exact (hb i off e).at l i hi rfl
      · have := l.lt hi; omega
    refine ⟨⟨_, h, fun p => ⟨.inl, fun e => e.elim id (fun e => absurd e Bt.nil)⟩, by simp; omega⟩, nofx a1 (fun b off e => (hao b off e).2.2.2.2.2.1), nofx a2 (fun b off e => (hao b off e).2.2.2.2.2.2), fun i hi => ?_, fun i hi => LO.out i hi, ⟨?_, ?_, ?_⟩, fun g hg e => ?_, ⟨h.s4.lt, h.s5.lt, h.s8.lt, h.kp.size, fun g hg => (h.own.blk hg).2.1⟩⟩
    · rcases hi with e | ⟨hp, off, e⟩
      · omega
      · exact (hao i off e).1
    · rintro (e | ⟨hp, off, e⟩)
      · subst e; exact apart_types h.s4 sq (by decide)
      · exact (hao _ off e).2.1 rfl
    · rintro (e | ⟨hp, off, e⟩)
      · subst e; exact apart_types h.s5 sq (by decide)
      · exact (hao _ off e).2.2.1 rfl
    · rintro (e | ⟨hp, off, e⟩)
      · exact nq e
      · exact (hao _ off e).2.2.2.1 rfl
    · rcases e with e | ⟨hp, off, e⟩
      · subst e
        obtain ⟨_, _, cur, hgg⟩ := h.own.blk hg
        exact apart_types hgg sq (by decide)
      · exact (hao _ off e).2.2.2.2.1 g hg rfl
  have HMC := hid hmC
  clear h sq sr hq nq hao hmC ht hd hsc hsb hsl
  unfold gR hG
  generalize hQ : postN _ = QQ
  gi_wp2_with fail
  refine wpIn_rangeFunc_W rfl (by omega) (gf := 56) (pb := #[]) (lb := #[.pointer (some ⟨q, 0, none⟩)]) rfl trivial (enters_of Try.func56 (by kernel_rfl) rfl) SQ.out (fun xs Z r o' hs hl => hs) (fun xs Z r o' hs hl => hs) LO.out (Below.refl _ _) (fun _ => rfl)
    (Ci w T4 T5 T8 Qa Qw X.heap.size v C W)
    (fun _ _ _ _ => False) (Ci.abw w T4 T5 T8 Qa Qw X.heap.size v C W) (fun _ _ _ _ _ h _ => h.elim) (fun s O Z1 o' hi hlt => hi.put o') (fun _ _ _ _ _ h _ => h.elim) ?h0
    (fun x a' Z => ∃ T21, X.heap.size + 1 < T21 ∧ Rn.B Z T21 x ∧ ∃ f', a' = { tmps := hB bo n cb co m cc T4 T5 Qw T8 T21 f', defers := [] }) ?hAx ?assign ?body ?done (fun _ _ _ _ _ _ _ h _ => h.elim)
  case h0 =>
    intro r
    have ka : Kp (fun _ => False) X ((X.alloc (.deferred (some []))).alloc (.loop r)) := ((Kp.refl _ _).alloc _).alloc _
    exact HI0.out.same ka
  case hAx =>
    rintro x a' Z o' ⟨T21, h1, h2, h3⟩
    exact ⟨T21, h1, h2.kp (kp_putC Z _ o') (by omega), h3⟩
  case assign =>
    intro l' pre O x Z1 Kk hll hsz hi hK
    have HK := hid hK
    have HI := hid hi
    have HSZ := hid hsz
    clear hK hi hll hsz
    obtain ⟨xa, xn⟩ := x
    gi_wp2_with (first | (refine wpListIn_store_r (by rfl) (.tmp 21) (.tmp 129) rfl Z1.heap.size rfl (e := zRn) (e' := ⟨xa, xn⟩) rfl (Rn.B.new Z1 zRn) ?_; intro w6 b6 j6; have k6 : Kp (fun _ => False) Z1 w6 := ((Kp.refl (fun _ => False) Z1).alloc _).trans j6 (fun i h1 h2 => by omega); have E6 := hid b6; have K6 := hid k6; clear b6 j6 k6))
    exact HK.out _ _ (K6.out.mono (fun _ _ x => x.elim)) (HI.out.same K6.out) ⟨_, HSZ.out, E6.out, act_of (by kernel_rfl) rfl⟩
  case body =>
    rintro l' pre O x a' Z hll hsz n1 n2 hi ⟨T21, h21, e21, f', rfl⟩ ⟨j, hj, hsp⟩
    obtain ⟨A, c, hbt, hln⟩ := hi.ex
    have hxW : x ∈ W := by
      have : x ∈ W.take j := by rw [← hsp]; simp
      exact List.mem_of_mem_take this
    have hxm := HCW.out.1 x hxW
    have hpl : pre.length + 1 ≤ 60 := by
      have := congrArg List.length hsp
      rw [List.length_append, List.length_take] at this
      simp at this
      omega
    have hcA : Can A := c.two.choose_spec.choose_spec.1.can
    have hmy : ∀ z ∈ A ++ [x], Mayr z := fun z hz => by
      rcases List.mem_append.1 hz with hz | hz
      · exact hcA.1 z hz
      · rw [List.mem_singleton.1 hz]; exact hxm
    refine wpIn_mono (bodyC_wp l' w Z bo n cb co m cc T4 T5 Qa Qw T8 T21 v C W A x f' c e21 hxm hC HMC.out (by omega) (fun p hp => ?_)) ?_
    · by_cases hbc : Bt C p
      · exact .inr hbc
      · exact .inl ((hbt p).2 (.inl ((HSB.out p).2 ⟨⟨x, hxW, hp⟩, hbc⟩)))
    intro e a2 Z2 hh
    cases e with
    | normal =>
      obtain ⟨c2, Fa, A2, p1, p2, F3, R3, p3, p4⟩ := hh
      have hfa := hi.fa.at p1
      have fG : Fx Qw Fa Z := by
        obtain ⟨Fa', Fb, a1, a2, a3, a4, a5⟩ := c.two
        exact ⟨Fb, W, a2, fun i hb ha => a3 i ((p1.fun' a1 i).1 ha) hb⟩
      refine ⟨p2.mono (fun i _ e => ⟨fun ho => hfa i e (.inl ho), fun e2 => hfa i e (.inr (.inl e2)), fun e2 => hfa i e (.inr (.inr e2))⟩), ⟨⟨_, c2, fun p => ?_, ?_⟩, ?_, hi.fw.kp p2 fG, hi.ow, fun i ho => Nat.lt_of_lt_of_le (hi.ol i ho) p2.size, hi.no, hi.nv, hi.lt⟩⟩
      · rw [(tog_ok hmy).2, bt_append, hbt, bt_append, or_assoc]
      · have := tog_len hmy
        rw [List.length_append] at this ⊢
        simp at this ⊢
        omega
      · refine ⟨F3, R3, p3, fun i hi3 e => ?_⟩
        rcases p4 i hi3 with hf | hl
        · exact hfa i hf e
        · rcases e with e | e | e
          · have := hi.ol i e; omega
          · omega
          · omega
    | _ => exact hh.elim
  case done =>
    rintro D xs O Z hD hS1 hi hdd
    subst hS1
    obtain ⟨A, c, hbt, _⟩ := hi.ex
    have hAW : A = xs := can_uniq c.two.choose_spec.choose_spec.1.can HCW.out (fun p => by
      rw [hbt, HSB.out]
      exact ⟨fun e => e.elim (fun e => e.1) id, .inr⟩)
    rw [hAW] at c
    have KD := hid hdd
    have CC := hid c
    have HD : Hid (X.heap.size ≤ D) := Nat.le_of_eq hD.symm
    clear hdd c hD hi
    gi_wp2
    subst hQ
    exact ⟨D, act_of (by kernel_rfl) rfl, HD.out, KD.out, CC.out⟩
end Go.Proofs.Ytgfondgejimkkaa

namespace Go.Proofs.Ytgfondgejimkkaa
open Go.RowKit Go.Shelf
attribute [local go_sem] Oper.semAt_some
set_option linter.unusedVariables false
set_option linter.unusedSimpArgs false
theorem leaves_marksc {F : Fence} {n : Nat} {fn : Func} {tmps : Array Value} {R : Ending → World → Prop} (D : Nat) (w : World) (hD : w.heap[D]? = some (.deferred (some [])))
    (fin : ∀ w', Kp (fun i => i = D) w w' → LeavesInM F n Try.prog fn tmps R [] .returning w') : LeavesInM F n Try.prog fn tmps R [mrkc D] .returning w :=
  ⟨by simp, .inl ⟨_, _, rfl, run_takeDeferred hD, fin _ (kp_putC w D (.deferred none))⟩⟩
theorem load_bool4c {w : World} {g : Nat} {v : Bool} (h : w.cell? ⟨g, 0, none⟩ = some (.bool v)) : (loadVar 4 ⟨g, 0, none⟩).run Try.prog w = .ok (.bool v) w := by
  simp [go_sem, h]
theorem fin_bool6 {F : Fence} {m : Nat} {tmps : Array Value} {T4 : Nat} {w Z : World} (h4 : tmps.getD 4 undef = .pointer (some ⟨T4, 0, none⟩)) (s4 : St 4 Z T4 #[.bool true]) (b : Below w.heap.size w Z) :
    LeavesInM F m Try.prog Try.f6 tmps (fun e w' => e = .returned (.bool true) ∧ Below w.heap.size w w') [] .returning Z := by
  exact ⟨_, results_cell1 Try.results6 _ _ T4 h4 (load_bool4c (s4.cell 0)), rfl, b⟩
theorem Fx.new {Q b : Nat} {R : List Rn} {F : Nat → Prop} {X Y : World} (l : Lw Q R F X) (k : Kp (fun _ => False) X Y) (hb : X.heap.size ≤ b) : Fx Q (fun i => i = b) Y := ⟨F, R, l.kp0 k, fun i hi e => by have := l.lt hi; omega⟩
set_option maxRecDepth 100000 in
set_option maxHeartbeats 8000000 in
theorem cut_short (bo co : Option Addr) (n cb m cc : Nat) (w : World) (hn : n ≤ 9223372036854775807) (hm : m ≤ 9223372036854775807) (h : 60 < n ∨ 20 < m) : Calls Try.prog 6 #[.slice bo n cb, .slice co m cc] w fun e w' => e = .returned (.bool true) ∧ Below w.heap.size w w' := by
  refine (callsIn_wide (n := 20)).1 ?_
  refine callsIn_of_wp_marks (c := gA) Try.func6 (by kernel_rfl) trivial ?_ rfl
  simp only [Try.ntmps6, List.size_toArray, List.length_cons, List.length_nil, Nat.reduceAdd, Nat.reduceSub, Array.replicate_succ, Array.replicate_zero, List.push_toArray, List.append_toArray, List.nil_append, List.cons_append]
  refine wpIn_wide.2 ?_
  unfold gA
  generalize hQ : bodyPostM _ _ _ _ _ = QQ
  have ST4 := hid (St.new 4 w #[.bool false])
  have KB : Hid (Kp (fun _ => False) w (w.alloc (.cells #[.bool false] 4))) := (Kp.refl _ _).alloc _
  have FIN : Hid (∀ (w1 : World) (a : Act), Kp (fun _ => False) (w.alloc (.cells #[.bool false] 4)) w1 → a.tmps.getD 4 undef = .pointer (some ⟨w.heap.size, 0, none⟩) → a.defers = [] → QQ .ret a (w1.setCell ⟨w.heap.size, 0, none⟩ (.bool true))) := fun w1 a k1 h6 hd => by
    subst hQ
    obtain ⟨tm, df⟩ := a
    simp only at h6 hd
    subst hd
    have kz := kp_setCell w1 w.heap.size 0 (.bool true) (fun i => i = w.heap.size) rfl
    exact fin_bool6 h6 (St.set (ST4.out.kp k1 (fun h => h)) 0 _) (((KB.out.trans k1 (fun _ _ h => h)).trans kz (fun i hi e => by omega)).below (Nat.le_refl _) (fun _ h => h.elim))
  have FIN2 : Hid (∀ w1 : World, Kp (fun _ => False) (w.alloc (.cells #[.bool false] 4)) w1 → w1.cell? ⟨w.heap.size, 0, none⟩ = some (.bool false) ∧ w1.frozen? ⟨w.heap.size, 0, none⟩ = false ∧ w.heap.size < w1.heap.size) := fun w1 k1 => by
    have s := ST4.out.kp k1 (fun h => h)
    exact ⟨s.cell 0, s.frozen 0, s.lt⟩
  by_cases h1 : 60 < n
  · have hn0 : (60 : Int) < (n : Int) := by omega
    have d60 : decide ((60 : Int) < (n : Int)) = true := by simpa using hn0
    have d61 : decide (60 < n) = true := by simpa using h1
    go_wp2_with (first | (go_at_call 8; refine (works_any _).mono ?_; rintro e w1 ⟨rfl, b1⟩; obtain ⟨y6, z6, l6⟩ := FIN2.out w1 b1; have B1 := hid b1; clear b1))
    exact FIN.out _ _ B1.out rfl rfl
  · have hmo : 20 < m := h.resolve_left h1
    have hn0 : ¬ (60 : Int) < (n : Int) := by omega
    have d60 : decide ((60 : Int) < (n : Int)) = false := by simpa using hn0
    have d61 : decide (60 < n) = false := by simpa using h1
    have hm0 : (20 : Int) < (m : Int) := by omega
    have d62 : decide ((20 : Int) < (m : Int)) = true := by simpa using hm0
    have d63 : decide (20 < m) = true := by simpa using hmo
    go_wp2_with (first | (go_at_call 8; refine (works_any _).mono ?_; rintro e w1 ⟨rfl, b1⟩; obtain ⟨y6, z6, l6⟩ := FIN2.out w1 b1; have B1 := hid b1; clear b1))
    exact FIN.out _ _ B1.out rfl rfl
set_option maxRecDepth 100000 in
set_option maxHeartbeats 8000000 in
theorem cut_walk (l c : List Rn) (bo co : Option Addr) (n cb m cc : Nat) (w : World) (hn : l.length = n) (hn2 : n ≤ 60) (hm : c.length = m) (hm2 : m ≤ 20) (hi6 : ∀ y ∈ l, y.i6) (hi7 : ∀ y ∈ c, y.i6) (hS : Srcr w bo l) (hS2 : Srcr w co c) : Calls Try.prog 6 #[.slice bo n cb, .slice co m cc] w fun e w' => e = .returned (.bool true) ∧ Below w.heap.size w w' := by
  have HNU := hid num_any
  have HS1 : Hid (∀ U, Kp (fun _ => False) w U → Calls Try.prog 27 #[.slice bo n cb] U fun e w' => ∃ v, e = .returned v ∧ Ownr w' U.heap.size v (sm l) ∧ Kp (fun _ => False) U w') := fun U hU => some_any U bo n cb l hn (by omega) hi6 (hS.kp hU (fun _ _ _ _ h => h))
  have HS2 : Hid (∀ U, Kp (fun _ => False) w U → Calls Try.prog 27 #[.slice co m cc] U fun e w' => ∃ v, e = .returned v ∧ Ownr w' U.heap.size v (sm c) ∧ Kp (fun _ => False) U w') := fun U hU => some_any U co m cc c hm (by omega) hi7 (hS2.kp hU (fun _ _ _ _ h => h))
  have HSL : Hid ((sm l).length ≤ 60) := Nat.le_trans (sm_len l) (by omega)
  have HCL : Hid ((sm c).length ≤ 20) := Nat.le_trans (sm_len c) (by omega)
  clear hS hS2 hi6 hi7 hn hm
  refine (callsIn_wide (n := 20)).1 ?_
  refine callsIn_of_wp_marks (c := gA) Try.func6 (by kernel_rfl) trivial ?_ rfl
  simp only [Try.ntmps6, List.size_toArray, List.length_cons, List.length_nil, Nat.reduceAdd, Nat.reduceSub, Array.replicate_succ, Array.replicate_zero, List.push_toArray, List.append_toArray, List.nil_append, List.cons_append]
  refine wpIn_wide.2 ?_
  unfold gA
  generalize hQ : bodyPostM _ _ _ _ _ = QQ
  have hn0 : ¬ (60 : Int) < (n : Int) := by omega
  have d60 : decide ((60 : Int) < (n : Int)) = false := by simpa using hn0
  have d61 : decide (60 < n) = false := by simp; omega
  have hm0 : ¬ (20 : Int) < (m : Int) := by omega
  have d62 : decide ((20 : Int) < (m : Int)) = false := by simpa using hm0
  have d63 : decide (20 < m) = false := by simp; omega
  have S4 := hid (St.new 4 w #[.bool false])
  have K0 : Hid (Kp (fun _ => False) w (w.alloc (.cells #[.bool false] 4))) := (Kp.refl _ _).alloc _
  go_wp2_with fail
  generalize w.alloc (.cells #[.bool false] 4) = X0 at *
  obtain ⟨T4, hT4⟩ : ∃ T4, T4 = w.heap.size := ⟨_, rfl⟩
  have HT4 : Hid (w.heap.size ≤ T4) := Nat.le_of_eq hT4.symm
  rw [← hT4] at S4 ⊢
  clear hT4
  refine (HS1.out X0 K0.out).mono ?_
  rintro e X1 ⟨v1, rfl, o1, k1⟩
  obtain ⟨ao1, cap1, rfl, s1, _, _, z1⟩ := o1.src
  have SR1 := hid s1
  have K1 : Hid (Kp (fun _ => False) X0 X1) := k1
  clear o1 k1 s1 HS1
  go_wp2_with fail
  refine (new_some X1 ao1 _ cap1 (sm l) rfl (by have := HSL.out; omega) (fun x hx => (sm_may hx).1) z1 SR1.out).mono ?_
  rintro e X2 ⟨Qa, Fa, rfl, l2, f2, k2⟩
  have HRL : Hid ((tog (sm l)).length ≤ 60) := Nat.le_trans (tog_len (fun x hx => (sm_may hx).1)) HSL.out
  have L2 := hid l2
  have F2 : Hid (∀ i, Fa i → w.heap.size ≤ i) := fun i hi => Nat.le_trans K0.out.size (Nat.le_trans K1.out.size (f2 i hi))
  have K2 : Hid (Kp (fun _ => False) X0 X2) := K1.out.trans k2 (fun _ _ h => h)
  generalize tog (sm l) = W at *
  clear l2 f2 k2 K1 SR1 z1
  have ka : Kp (fun _ => False) X2 (X2.alloc (.cells #[.pointer (some ⟨Qa, 0, none⟩)] 30)) := (Kp.refl _ _).alloc _
  have S5 := hid (St.new 30 X2 #[.pointer (some ⟨Qa, 0, none⟩)])
  have L3 := hid (L2.out.kp0 ka)
  have K3 : Hid (Kp (fun _ => False) X0 (X2.alloc (.cells #[.pointer (some ⟨Qa, 0, none⟩)] 30))) := K2.out.trans ka (fun _ _ h => h)
  have HT5 : Hid (w.heap.size ≤ X2.heap.size) := Nat.le_trans K0.out.size K2.out.size
  have c5 : (X2.alloc (.cells #[.pointer (some ⟨Qa, 0, none⟩)] 30)).cell? ⟨X2.heap.size, 0, none⟩ = some (.pointer (some ⟨Qa, 0, none⟩)) := S5.out.cell 0
  clear ka L2 K2
  go_wp2_with (first | (go_at_call 11; refine (HNU.out _ _).mono ?_; rintro e1 w9 ⟨rfl, rfl⟩))
  generalize X2.alloc (.cells #[.pointer (some ⟨Qa, 0, none⟩)] 30) = X3 at *
  obtain ⟨T5, hT5⟩ : ∃ T5, T5 = X2.heap.size := ⟨_, rfl⟩
  rw [← hT5] at S5 HT5 c5 ⊢
  clear hT5
  refine (copy_w L3.out).mono ?_
  rintro e X4 ⟨k4, Qw, Fw, rfl, l4, g4⟩
  have L4 := hid l4
  have LQ := hid (L3.out.kp0 k4)
  have HFG : Hid (∀ i, Fa i → ¬ Fw i) := fun i hf hg => by have := g4 i hg; have := L3.out.lt hf; omega
  have F4 : Hid (∀ i, Fw i → w.heap.size ≤ i) := fun i hg => Nat.le_trans K0.out.size (Nat.le_trans K3.out.size (g4 i hg))
  have S54 := hid (S5.out.kp k4 (fun h => h))
  have K4 : Hid (Kp (fun _ => False) X0 X4) := K3.out.trans k4 (fun _ _ h => h)
  clear l4 k4 g4 L3 K3 S5 c5
  go_wp2_with fail
  refine (HS2.out X4 (K0.out.trans K4.out (fun _ _ h => h))).mono ?_
  rintro e X5 ⟨v, rfl, o5, k5⟩
  have HMC : Hid (∀ y ∈ sm c, Mayr y) := fun y hy => (sm_may hy).1
  generalize sm c = C at *
  obtain ⟨ao, cap, rfl, _⟩ := o5.src
  have O5 := hid (o5.base (Nat.le_trans K0.out.size K4.out.size))
  have K5 : Hid (Kp (fun _ => False) X4 X5) := k5
  clear o5 k5 HS2
  have kb : Kp (fun _ => False) X5 (X5.alloc (.cells #[.slice ao C.length cap] 22)) := (Kp.refl _ _).alloc _
  have S8 := hid (St.new 22 X5 #[.slice ao C.length cap])
  have K6 : Hid (Kp (fun _ => False) X4 (X5.alloc (.cells #[.slice ao C.length cap] 22))) := K5.out.trans kb (fun _ _ h => h)
  have HCS : Hid (Cs w T4 T5 X5.heap.size Qa Qw (.slice ao C.length cap) C W W (X5.alloc (.cells #[.slice ao C.length cap] 22))) := by
    have kk := K0.out.trans (K4.out.trans K6.out (fun _ _ h => h)) (fun _ _ h => h)
    have h1 := HT4.out
    have h2 := HT5.out
    have h3 := Nat.le_trans K0.out.size (Nat.le_trans K4.out.size K5.out.size)
    exact ⟨kk, (S4.out.kp K4.out (fun h => h)).kp K6.out (fun h => h), S54.out.kp K6.out (fun h => h), S8.out, O5.out.kp kb (fun _ _ h => h), ⟨Fa, Fw, LQ.out.kp0 K6.out, L4.out.kp0 K6.out, HFG.out, F2.out, F4.out⟩, ⟨h1, h2, h3⟩⟩
  clear kb K6 O5 S54 LQ L4 HFG F2 F4 S4
  go_wp2_with fail
  generalize X5.alloc (.cells #[.slice ao C.length cap] 22) = X6 at *
  obtain ⟨T8, hT8⟩ : ∃ T8, T8 = X5.heap.size := ⟨_, rfl⟩
  rw [← hT8] at HCS ⊢
  clear hT8 S8
  refine wp_mono (wpIn_wide.1 (cuts_wp w X6 bo n cb co m cc T4 T5 Qa Qw T8 (.slice ao C.length cap) C W _ ?h1 rfl HCL.out HRL.out HMC.out HCS.out)) ?_
  case h1 => kernel_rfl
  intro e a1 X7 hh
  cases e with
  | normal =>
    obtain ⟨⟨f1, rfl⟩, c7⟩ := hh
    have C7 := hid c7
    clear c7 HCS
    unfold h0
    go_wp2_with fail
    obtain ⟨Fa7, Fw7, a1, a2, a3, a4, a5⟩ := C7.out.two
    refine (all_w a2).mono ?_
    rintro e X8 ⟨q, ao8, cap8, rfl, hq, sq, sr8, hao8, k8⟩
    have hnf := nf56 q
    have C8 := hid (C7.out.same k8)
    have HAO : Hid (∀ b off, ao8 = some ⟨b, off, none⟩ → w.heap.size ≤ b ∧ b ≠ T4 ∧ b ≠ T5 ∧ b ≠ T8 ∧ (∀ g, (Value.slice ao C.length cap).ownBlock = some g → g ≠ b) ∧ Fx Qa (fun i => i = b) X8 ∧ Fx Qw (fun i => i = b) X8) := fun b off e => by
      have h1 := hao8 b off e
      have h4 := C7.out.s4.lt
      have h5 := C7.out.s5.lt
      have h8 := C7.out.s8.lt
      have hw := C7.out.kp.size
      exact ⟨by omega, by omega, by omega, by omega, fun g hg => by have := (C7.out.own.blk hg).2.1; omega, Fx.new a1 k8 h1, Fx.new a2 k8 h1⟩
    have SQ := hid sq
    have SR8 := hid sr8
    have HQ : Hid (w.heap.size ≤ q ∧ T8 ≠ q) := by
      have h8 := C7.out.s8.lt
      have hw := C7.out.kp.size
      refine ⟨?_, ?_⟩ <;> omega
    clear a1 a2 a3 a4 a5 hq sq sr8 hao8 k8 C7
    go_wp2_with fail
    refine wp_mono (wpIn_wide.1 (rngC_wp w X8 bo n cb co m cc T4 T5 Qa Qw T8 q (.slice ao C.length cap) C W ao8 cap8 _ ?h2 rfl HCL.out HMC.out HRL.out C8.out SQ.out SR8.out HQ.out.1 HQ.out.2 HAO.out)) ?_
    case h2 => kernel_rfl
    intro e a2 X9 hh
    cases e with
    | normal =>
      obtain ⟨D, ⟨f2, rfl⟩, hD, hdd, c9⟩ := hh
      have C9 := hid c9
      have HDD := hid hdd
      have HD : Hid (X8.heap.size ≤ D) := hD
      have HL4 : Hid (T4 < X8.heap.size) := C8.out.s4.lt
      have HWX : Hid (w.heap.size ≤ X8.heap.size) := C8.out.kp.size
      have c5 : X9.cell? ⟨T5, 0, none⟩ = some (.pointer (some ⟨Qa, 0, none⟩)) := c9.s5.cell 0
      clear c9 hdd hD C8 SQ SR8 HAO hnf
      unfold h0
      go_wp2_with fail
      refine (C9.out.eqs rfl).mono ?_
      rintro e X10 ⟨rfl, k10⟩
      have C10 := hid (C9.out.same k10)
      have K10 := hid k10
      have HWK := hid works_any
      have HC4 : Hid (∀ U, Kp (fun _ => False) X10 U → U.cell? ⟨T4, 0, none⟩ = some (.bool false) ∧ U.frozen? ⟨T4, 0, none⟩ = false ∧ T4 < U.heap.size) := fun U hU => by
        have := C10.out.s4.kp hU (fun h => h)
        exact ⟨this.cell 0, this.frozen 0, this.lt⟩
      clear k10 C9 c5
      go_wp2_with (first | (go_at_call 8; refine (HWK.out _).mono ?_; rintro e1 X14 ⟨rfl, k14⟩; obtain ⟨y6, z6, l6⟩ := HC4.out X14 k14; have K14 := hid k14; clear k14))
      subst hQ
      have kz := kp_setCell X14 T4 0 (.bool true) (fun i => i = T4) rfl
      have hlD : D < X9.heap.size := (Array.getElem?_eq_some_iff.1 HDD.out).1
      have h1 := HL4.out
      have h2 := HD.out
      have h3 := HWX.out
      have hne : D ≠ T4 := by omega
      have k3 := (K10.out.trans K14.out (fun _ _ h => h))
      have m3 : (X14.setCell ⟨T4, 0, none⟩ (.bool true)).heap[D]? = some (.deferred (some [])) := (kz.block D (Nat.lt_of_lt_of_le hlD k3.size) hne).trans ((k3.block D hlD (fun h => h)).trans HDD.out)
      refine leaves_marksc D (X14.setCell ⟨T4, 0, none⟩ (.bool true)) m3 (fun w' k => fin_bool6 rfl ((St.set (C10.out.s4.kp K14.out (fun h => h)) 0 (.bool true)).kp k (by omega)) ?_)
      have hl := C10.out.low
      exact ((((C10.out.kp.trans K14.out (fun _ _ h => h)).trans kz (fun i hi e => by omega)).trans k (fun i hi e => by omega)).below (Nat.le_refl _) (fun _ h => h.elim))
    | _ => exact hh.elim
  | _ => exact hh.elim
theorem cut_law (l c : List Rn) (bo co : Option Addr) (n cb m cc : Nat) (w : World) (hn : n = l.length) (hn2 : n ≤ maxLen) (hm : m = c.length) (hm2 : m ≤ maxLen) (hi6 : ∀ y ∈ l, y.i6) (hi7 : ∀ y ∈ c, y.i6) (hS : Srcr w bo l) (hS2 : Srcr w co c) : Calls Try.prog 6 #[.slice bo n cb, .slice co m cc] w fun e w' => e = .returned (.bool true) ∧ Below w.heap.size w w' := by
  unfold maxLen at hn2 hm2
  by_cases h : 60 < n ∨ 20 < m
  · exact cut_short bo co n cb m cc w (by omega) (by omega) h
  · exact cut_walk l c bo co n cb m cc w hn.symm (by omega) hm.symm (by omega) hi6 hi7 hS hS2
end Go.Proofs.Ytgfondgejimkkaa
