/- GranulesSize: the walk. -/
import Derived.Test.YteenlifdamhffaaDoorOa
namespace Go.Proofs.YteenlifdamhffaaDoor
open Go.RowKit
set_option linter.unusedVariables false
set_option linter.unusedSimpArgs false
theorem frm_lt {gr a s : Nat} (h : a < s) : a / 2 ^ gr < frm gr s := by
  unfold frm
  have hp := Nat.two_pow_pos gr
  have e : (a + 2 ^ gr) / 2 ^ gr = a / 2 ^ gr + 1 := Nat.add_div_right a hp
  have h2 : (a + 2 ^ gr) / 2 ^ gr ≤ (s + 2 ^ gr - 1) / 2 ^ gr := Nat.div_le_div_right (by omega)
  omega
theorem frm_past {gr a s : Nat} (h : (max s 1 - 1) / 2 ^ gr < a / 2 ^ gr) : frm gr s ≤ a / 2 ^ gr := by
  unfold frm
  have hp := Nat.two_pow_pos gr
  by_cases hs : s = 0
  · subst hs
    rw [Nat.zero_add, Nat.div_eq_of_lt (by omega)]
    exact Nat.zero_le _
  · have e : (s - 1 + 2 ^ gr) / 2 ^ gr = (s - 1) / 2 ^ gr + 1 := Nat.add_div_right _ hp
    rw [show s + 2 ^ gr - 1 = s - 1 + 2 ^ gr by omega, e]
    rw [show max s 1 = s by omega] at h
    omega
theorem past_dec (sz t gr : Nat) (hs : sz ≤ 100000) : decide (IntKind.i64.wrap ((if (sz : Int) < 1 then 1 else (sz : Int)) - 1) / 2 ^ gr < (t : Int) / 2 ^ gr) = decide ((max sz 1 - 1) / 2 ^ gr < t / 2 ^ gr) := by
  have e1 : IntKind.i64.wrap ((if (sz : Int) < 1 then 1 else (sz : Int)) - 1) = ((max sz 1 - 1 : Nat) : Int) := by
    simp only [IntKind.wrap, IntKind.bits, IntKind.signed]
    split <;> simp <;> omega
  rw [e1]
  have e2 : ((max sz 1 - 1 : Nat) : Int) / 2 ^ gr = (((max sz 1 - 1) / 2 ^ gr : Nat) : Int) := by rw [Int.natCast_ediv, Int.natCast_pow]; rfl
  have e3 : (t : Int) / 2 ^ gr = ((t / 2 ^ gr : Nat) : Int) := by rw [Int.natCast_ediv, Int.natCast_pow]; rfl
  rw [e2, e3]
  exact decide_eq_decide.2 Int.ofNat_lt
def tcs (sz gr tg : Int) (ao : Option Addr) (n cap : Nat) (bo : Option Addr) (m cap2 : Nat) : Array Value := #[.int .i64 sz, .int .i64 gr, .int .i64 tg, .slice ao n cap, .slice bo m cap2]
set_option maxRecDepth 100000 in
set_option maxHeartbeats 8000000 in
theorem size_out (sz gr tg to : Int) (ao : Option Addr) (n cap : Nat) (bo : Option Addr) (m cap2 : Nat) (w : World) (hout : 100000 < sz ∨ 100000 < to ∨ mayb sz gr = false ∨ mayb to gr = false ∨ 20 < n) :
    Calls Tryd.prog 7 #[.agg #[.int .i64 sz, .int .i64 gr, .int .i64 tg, .slice ao n cap, .slice bo m cap2], .int .i64 to] w fun e w' => e = .returned (.bool true) ∧ Kp (fun _ => False) w w' := by
  have HK : Hid (Kp (fun _ => False) w (w.alloc (.cells #[.int .i64 sz, .int .i64 gr, .int .i64 tg, .slice ao n cap, .slice bo m cap2] 54))) := (Kp.refl _ _).alloc _
  have HWO := hid (fun w => works_any w)
  have HRM := hid (fun s w => rmay_any s gr w)
  by_cases h1 : 100000 < sz
  · clear hout
    go_enter Tryd.func7, Tryd.ntmps7
    go_wp2_with (first | (go_at_call 8; refine (HWO.out _).mono ?_; rintro _ w3 ⟨rfl, k3⟩))
    go_ret
    exact ⟨rfl, HK.out.trans k3 (fun _ _ h => h)⟩
  have h1' : sz ≤ 100000 := by omega
  have d1 : decide (100000 < sz) = false := decide_eq_false h1
  by_cases h2 : 100000 < to
  · clear hout h1
    go_enter Tryd.func7, Tryd.ntmps7
    go_wp2_with (first | (go_at_call 8; refine (HWO.out _).mono ?_; rintro _ w3 ⟨rfl, k3⟩))
    go_ret
    exact ⟨rfl, HK.out.trans k3 (fun _ _ h => h)⟩
  have h2' : to ≤ 100000 := by omega
  have d2 : decide (100000 < to) = false := decide_eq_false h2
  cases h3 : mayb sz gr with
  | false =>
    clear hout h1 h2
    go_enter Tryd.func7, Tryd.ntmps7
    go_wp2_with (first | (go_at_call 8; refine (HWO.out _).mono ?_; rintro _ w3 ⟨rfl, k3⟩) | (go_at_call 10; refine (HRM.out _ _).mono ?_; rintro e w' ⟨rfl, h⟩; replace h := h.symm; subst h))
    go_ret
    exact ⟨rfl, HK.out.trans k3 (fun _ _ h => h)⟩
  | true =>
    cases h4 : mayb to gr with
    | false =>
      clear hout h1 h2
      go_enter Tryd.func7, Tryd.ntmps7
      go_wp2_with (first | (go_at_call 8; refine (HWO.out _).mono ?_; rintro _ w3 ⟨rfl, k3⟩) | (go_at_call 10; refine (HRM.out _ _).mono ?_; rintro e w' ⟨rfl, h⟩; replace h := h.symm; subst h))
      go_ret
      exact ⟨rfl, HK.out.trans k3 (fun _ _ h => h)⟩
    | true =>
      have h5 : 20 < n := by
        rcases hout with h | h | h | h | h
        · exact absurd h h1
        · exact absurd h h2
        · rw [h3] at h; cases h
        · rw [h4] at h; cases h
        · exact h
      have h5' : (20 : Int) < (n : Int) := by omega
      clear hout h1 h2 h5
      go_enter Tryd.func7, Tryd.ntmps7
      go_wp2_with (first | (go_at_call 8; refine (HWO.out _).mono ?_; rintro _ w3 ⟨rfl, k3⟩) | (go_at_call 10; refine (HRM.out _ _).mono ?_; rintro e w' ⟨rfl, h⟩; replace h := h.symm; subst h))
      go_ret
      exact ⟨rfl, HK.out.trans k3 (fun _ _ h => h)⟩
set_option maxRecDepth 100000 in
set_option maxHeartbeats 8000000 in
theorem size_in (sz gr to : Nat) (tg : Int) (ts : List (Int × Int)) (ao : Option Addr) (n cap : Nat) (bo : Option Addr) (m cap2 : Nat) (w : World) (h1 : sz ≤ 100000) (h2 : to ≤ 100000) (hg : 9 ≤ gr ∧ gr ≤ 26) (hn20 : n ≤ 20) (hn : n = ts.length) (hS : RSrc w ao ts) (hb : ∀ t ∈ ts, t.1 ≤ 9223372036854775807) :
    Calls Tryd.prog 7 #[.agg #[.int .i64 sz, .int .i64 gr, .int .i64 tg, .slice ao n cap, .slice bo m cap2], .int .i64 to] w fun e w' => e = .returned (.bool true) ∧ Kp (fun _ => False) w w' := by
  have kb : Kp (fun _ => False) w (w.alloc (.cells #[.int .i64 sz, .int .i64 gr, .int .i64 tg, .slice ao n cap, .slice bo m cap2] 54)) := (Kp.refl _ _).alloc _
  have sb := St.new 54 w #[.int .i64 sz, .int .i64 gr, .int .i64 tg, .slice ao n cap, .slice bo m cap2]
  obtain ⟨X, hX⟩ : ∃ X, w.heap.size = X := ⟨_, rfl⟩
  obtain ⟨w1, hw1⟩ : ∃ w1, w.alloc (.cells #[.int .i64 sz, .int .i64 gr, .int .i64 tg, .slice ao n cap, .slice bo m cap2] 54) = w1 := ⟨_, rfl⟩
  rw [hX, hw1] at sb
  rw [hw1] at kb
  have m1 : mayb (sz : Int) (gr : Int) = true := mayb_iff.2 (by omega)
  have m2 : mayb (to : Int) (gr : Int) = true := mayb_iff.2 (by omega)
  have HR1 := hid (fun w => rmay_any (sz : Int) (gr : Int) w)
  have HR2 := hid (fun w => rmay_any (to : Int) (gr : Int) w)
  rw [m1] at HR1
  rw [m2] at HR2
  have HTO := hid (touched_law sz gr ao n cap ts w1 (by omega) hg hn hn20 (hS.kp0 kb) hb)
  have HWO := hid (fun w => works_any w)
  have HNU := hid num_any
  have g1 : (sz : Int) ≤ 100000 := by omega
  have g2 : (to : Int) ≤ 100000 := by omega
  have g3 : (n : Int) ≤ 20 := by omega
  have d1 : decide ((100000 : Int) < (sz : Int)) = false := decide_eq_false (by omega)
  have d2 : decide ((100000 : Int) < (to : Int)) = false := decide_eq_false (by omega)
  have d3 : decide ((20 : Int) < (n : Int)) = false := decide_eq_false (by omega)
  have z0 := sb.cell 0
  have z1 := sb.cell 1
  have z3 := sb.cell 3
  simp at z0 z1 z3
  have HK1 := hid kb
  have HSB := hid sb
  have HG := hid hg
  have HXW := hid hX
  clear hS hb hn kb sb m1 m2
  unfold ptr at HTO
  go_enter Tryd.func7, Tryd.ntmps7
  go_wp2_with fail
  refine (HR1.out _).mono ?_
  rintro e w' ⟨rfl, h⟩
  replace h := h.symm
  subst h
  go_wp2_with fail
  refine (HR2.out _).mono ?_
  rintro e w' ⟨rfl, h⟩
  replace h := h.symm
  subst h
  go_wp2_with fail
  refine HTO.out.mono ?_
  rintro _ w2 ⟨Q, r, ws, rfl, hQ, hr, k2, hb2⟩
  have HQR : Hid (w1.heap.size ≤ Q ∧ w1.heap.size ≤ r) := ⟨hQ, hr⟩
  have HK2 := hid (HK1.out.trans k2 (fun _ _ h => h))
  have HB2 := hid hb2
  have HS2 := hid (HSB.out.kp k2 (fun h => h))
  have HCO := hid (copy_any Q r sz gr ws w2 hb2)
  clear HTO hQ hr k2 hb2 HR1 HR2 z3 HK1
  unfold ptr at *
  go_wp2_with fail
  refine HCO.out.mono ?_
  rintro _ w3 ⟨Q2, r2, rfl, hQ2, hr2, k3, hb3⟩
  have HQR2 : Hid (w2.heap.size ≤ Q2 ∧ w2.heap.size ≤ r2) := ⟨hQ2, hr2⟩
  have HK3 := hid (HK2.out.trans k3 (fun _ _ h => h))
  have HA3 := hid (HB2.out.kp0 k3)
  have HB3 := hid hb3
  have HS3 := hid (HS2.out.kp k3 (fun h => h))
  have HRZ := hid (resize_ok Q r sz gr to ws w3 HA3.out (by omega))
  clear HCO hQ2 hr2 k3 hb3
  unfold ptr at *
  go_wp2_with fail
  refine HRZ.out.mono ?_
  rintro _ w4 ⟨rfl, k4, r4, ws4, hr4, hb4, hd4⟩
  have hqlt := HB2.out.st.lt
  have hne1 : ¬ Q2 = Q := by have := HQR2.out.1; omega
  have hne2 : ¬ r2 = Q := by have := HQR2.out.2; omega
  have hxq : ¬ X = Q := by
    have h1 := HQR.out.1
    have h2 := HSB.out.lt
    omega
  have HST : Hid (Kp (fun _ => False) w w4 ∧ Bm w4 Q r4 to gr ws4 ∧ Bm w4 Q2 r2 sz gr ws ∧ St 54 w4 X #[.int .i64 sz, .int .i64 gr, .int .i64 tg, .slice ao n cap, .slice bo m cap2]) := by
    refine ⟨HK3.out.trans k4 (fun i hi e => ?_), hb4, HB3.out.kp k4 hne1 hne2, HS3.out.kp k4 hxq⟩
    have h1 := HQR.out.1
    have h2 := HSB.out.lt
    have h3 := HXW.out
    omega
  have HNE : Hid (¬ Q2 = Q ∧ ¬ r2 = Q ∧ ¬ X = Q ∧ w.heap.size ≤ Q) := by
    have h1 := HQR.out.1
    have h2 := HSB.out.lt
    have h3 := HXW.out
    exact ⟨hne1, hne2, hxq, by omega⟩
  have HD4 : Hid (∀ g, dty ws4 g = (dty ws g && decide (g < frm gr to))) := hd4
  have HLT : Hid (Q < w4.heap.size ∧ r4 < w4.heap.size) := ⟨hb4.st.lt, hb4.rw.ltS⟩
  have HSI := hid (size_any Q r4 to gr ws4 w4 hb4)
  clear HRZ k4 hr4 hb4 hd4 hqlt hne1 hne2 hxq z0 z1 d1 d2 d3 HK3 HA3 HB3 HS3 HB2 HS2 HK2
  unfold ptr at *
  go_wp2_with (first | (go_at_call 11; refine (HNU.out _ _).mono ?_; rintro e w' ⟨rfl, h⟩; replace h := h.symm; subst h))
  refine HSI.out.mono ?_
  rintro _ w5 ⟨rfl, k5⟩
  replace HST : Hid (Kp (fun _ => False) w w5 ∧ Bm w5 Q r4 to gr ws4 ∧ Bm w5 Q2 r2 sz gr ws ∧ St 54 w5 X #[.int .i64 sz, .int .i64 gr, .int .i64 tg, .slice ao n cap, .slice bo m cap2]) := ⟨HST.out.1.trans k5 (fun _ _ h => h), HST.out.2.1.kp0 k5, HST.out.2.2.1.kp0 k5, HST.out.2.2.2.kp k5 (fun h => h)⟩
  have z1 := HST.out.2.2.2.cell 1
  simp at z1
  clear HSI k5
  go_wp2_with fail
  clear z1
  go_loopw [9] (fun i wr => ∃ t : Nat, i = .int .i64 t ∧ t ≤ to + 512 ∧ Kp (fun _ => False) w wr ∧ Bm wr Q r4 to gr ws4 ∧ Bm wr Q2 r2 sz gr ws ∧ St 54 wr X #[.int .i64 sz, .int .i64 gr, .int .i64 tg, .slice ao n cap, .slice bo m cap2]) (fun i _ => to - (intOf i).toNat)
  case atStart => exact ⟨0, rfl, Nat.zero_le _, HST.out⟩
  case round =>
    obtain ⟨t, rfl, ht, hst⟩ := hrel
    clear HST
    have HST := hid hst
    clear hst
    by_cases hlt : t < to
    · have hlt' : (t : Int) < (to : Int) := by omega
      have HTN : Hid (t + 512 ≤ to + 512 ∧ to - (intOf (Value.int IntKind.i64 ((t : Int) + 512))).toNat < to - (intOf (Value.int IntKind.i64 (t : Int))).toNat) := by
        refine ⟨by omega, ?_⟩
        simp only [intOf]
        omega
      have HH1 := hid (mhas_ok Q r4 to gr ws4 wr HST.out.2.1 t hlt)
      obtain ⟨g, hgx⟩ : ∃ g, t / 2 ^ gr = g := ⟨_, rfl⟩
      have hgt : dty ws4 g = dty ws g := by rw [HD4.out g, decide_eq_true (by rw [← hgx]; exact frm_lt hlt), Bool.and_true]
      rw [hgx, hgt] at HH1
      unfold ptr at HH1
      go_wp2_with fail
      refine HH1.out.mono ?_
      rintro _ w6 ⟨rfl, k6⟩
      replace HST : Hid (Kp (fun _ => False) w w6 ∧ Bm w6 Q r4 to gr ws4 ∧ Bm w6 Q2 r2 sz gr ws ∧ St 54 w6 X #[.int .i64 sz, .int .i64 gr, .int .i64 tg, .slice ao n cap, .slice bo m cap2]) := ⟨HST.out.1.trans k6 (fun _ _ h => h), HST.out.2.1.kp0 k6, HST.out.2.2.1.kp0 k6, HST.out.2.2.2.kp k6 (fun h => h)⟩
      clear HH1 k6
      by_cases hsz : t < sz
      · have HH2 := hid (mhas_ok Q2 r2 sz gr ws w6 HST.out.2.2.1 t hsz)
        rw [hgx] at HH2
        unfold ptr at HH2
        go_wp2_with fail
        refine HH2.out.mono ?_
        rintro _ w7 ⟨rfl, k7⟩
        replace HST : Hid (Kp (fun _ => False) w w7 ∧ Bm w7 Q r4 to gr ws4 ∧ Bm w7 Q2 r2 sz gr ws ∧ St 54 w7 X #[.int .i64 sz, .int .i64 gr, .int .i64 tg, .slice ao n cap, .slice bo m cap2]) := ⟨HST.out.1.trans k7 (fun _ _ h => h), HST.out.2.1.kp0 k7, HST.out.2.2.1.kp0 k7, HST.out.2.2.2.kp k7 (fun h => h)⟩
        have z0 := HST.out.2.2.2.cell 0
        have z1 := HST.out.2.2.2.cell 1
        simp at z0 z1
        have hmin : min gr 64 = gr := Nat.min_eq_left (by omega)
        have hnp : ¬ (max sz 1 - 1) / 2 ^ gr < t / 2 ^ gr := by
          intro h
          have h2 := frm_past h
          have h3 := frm_lt (gr := gr) hsz
          omega
        have hdec := past_dec sz t gr h1
        rw [decide_eq_false hnp] at hdec
        clear HH2 k7
        cases hbv : dty ws g with
        | true =>
          go_wp2_with (first | (go_at_call 11; refine (HNU.out _ _).mono ?_; rintro e w' ⟨rfl, h⟩; replace h := h.symm; subst h))
          go_quiet (fail)
          have kq := drewN_kp (fun _ => False) w7 nq
          generalize w7.drewN nq = w8 at kq ⊢
          replace HST : Hid (Kp (fun _ => False) w w8 ∧ Bm w8 Q r4 to gr ws4 ∧ Bm w8 Q2 r2 sz gr ws ∧ St 54 w8 X #[.int .i64 sz, .int .i64 gr, .int .i64 tg, .slice ao n cap, .slice bo m cap2]) := ⟨HST.out.1.trans kq (fun _ _ h => h), HST.out.2.1.kp0 kq, HST.out.2.2.1.kp0 kq, HST.out.2.2.2.kp kq (fun h => h)⟩
          clear kq z0 z1 hdec
          go_wp2_with fail
          exact ⟨⟨t + 512, by simp, HTN.out.1, HST.out⟩, HTN.out.2⟩
        | false =>
          go_wp2_with (first | (go_at_call 11; refine (HNU.out _ _).mono ?_; rintro e w' ⟨rfl, h⟩; replace h := h.symm; subst h))
          go_quiet (fail)
          have kq := drewN_kp (fun _ => False) w7 nq
          generalize w7.drewN nq = w8 at kq ⊢
          replace HST : Hid (Kp (fun _ => False) w w8 ∧ Bm w8 Q r4 to gr ws4 ∧ Bm w8 Q2 r2 sz gr ws ∧ St 54 w8 X #[.int .i64 sz, .int .i64 gr, .int .i64 tg, .slice ao n cap, .slice bo m cap2]) := ⟨HST.out.1.trans kq (fun _ _ h => h), HST.out.2.1.kp0 kq, HST.out.2.2.1.kp0 kq, HST.out.2.2.2.kp kq (fun h => h)⟩
          clear kq z0 z1 hdec
          go_wp2_with fail
          exact ⟨⟨t + 512, by simp, HTN.out.1, HST.out⟩, HTN.out.2⟩
      · have HH2 := hid (mhas_bad Q2 r2 sz gr ws w6 HST.out.2.2.1 (t : Int) (.inr (by omega)))
        unfold ptr at HH2
        go_wp2_with fail
        refine HH2.out.mono ?_
        rintro _ w7 ⟨rfl, k7⟩
        replace HST : Hid (Kp (fun _ => False) w w7 ∧ Bm w7 Q r4 to gr ws4 ∧ Bm w7 Q2 r2 sz gr ws ∧ St 54 w7 X #[.int .i64 sz, .int .i64 gr, .int .i64 tg, .slice ao n cap, .slice bo m cap2]) := ⟨HST.out.1.trans k7 (fun _ _ h => h), HST.out.2.1.kp0 k7, HST.out.2.2.1.kp0 k7, HST.out.2.2.2.kp k7 (fun h => h)⟩
        have z0 := HST.out.2.2.2.cell 0
        have z1 := HST.out.2.2.2.cell 1
        simp at z0 z1
        have hmin : min gr 64 = gr := Nat.min_eq_left (by omega)
        have hdec := past_dec sz t gr h1
        clear HH2 k7
        by_cases hp : (max sz 1 - 1) / 2 ^ gr < t / 2 ^ gr
        · rw [decide_eq_true hp] at hdec
          have hbv : dty ws g = false := HST.out.2.2.1.far g (by rw [← hgx]; exact frm_past hp)
          rw [hbv]
          clear hp
          go_wp2_with (first | (go_at_call 11; refine (HNU.out _ _).mono ?_; rintro e w' ⟨rfl, h⟩; replace h := h.symm; subst h))
          go_quiet (fail)
          have kq := drewN_kp (fun _ => False) w7 nq
          generalize w7.drewN nq = w8 at kq ⊢
          replace HST : Hid (Kp (fun _ => False) w w8 ∧ Bm w8 Q r4 to gr ws4 ∧ Bm w8 Q2 r2 sz gr ws ∧ St 54 w8 X #[.int .i64 sz, .int .i64 gr, .int .i64 tg, .slice ao n cap, .slice bo m cap2]) := ⟨HST.out.1.trans kq (fun _ _ h => h), HST.out.2.1.kp0 kq, HST.out.2.2.1.kp0 kq, HST.out.2.2.2.kp kq (fun h => h)⟩
          clear kq z0 z1 hdec
          go_wp2_with fail
          exact ⟨⟨t + 512, by simp, HTN.out.1, HST.out⟩, HTN.out.2⟩
        · rw [decide_eq_false hp] at hdec
          clear hp
          cases hbv : dty ws g with
          | true =>
            go_wp2_with (first | (go_at_call 11; refine (HNU.out _ _).mono ?_; rintro e w' ⟨rfl, h⟩; replace h := h.symm; subst h))
            go_quiet (fail)
            have kq := drewN_kp (fun _ => False) w7 nq
            generalize w7.drewN nq = w8 at kq ⊢
            replace HST : Hid (Kp (fun _ => False) w w8 ∧ Bm w8 Q r4 to gr ws4 ∧ Bm w8 Q2 r2 sz gr ws ∧ St 54 w8 X #[.int .i64 sz, .int .i64 gr, .int .i64 tg, .slice ao n cap, .slice bo m cap2]) := ⟨HST.out.1.trans kq (fun _ _ h => h), HST.out.2.1.kp0 kq, HST.out.2.2.1.kp0 kq, HST.out.2.2.2.kp kq (fun h => h)⟩
            clear kq z0 z1 hdec
            go_wp2_with fail
            exact ⟨⟨t + 512, by simp, HTN.out.1, HST.out⟩, HTN.out.2⟩
          | false =>
            go_wp2_with (first | (go_at_call 11; refine (HNU.out _ _).mono ?_; rintro e w' ⟨rfl, h⟩; replace h := h.symm; subst h))
            go_quiet (fail)
            have kq := drewN_kp (fun _ => False) w7 nq
            generalize w7.drewN nq = w8 at kq ⊢
            replace HST : Hid (Kp (fun _ => False) w w8 ∧ Bm w8 Q r4 to gr ws4 ∧ Bm w8 Q2 r2 sz gr ws ∧ St 54 w8 X #[.int .i64 sz, .int .i64 gr, .int .i64 tg, .slice ao n cap, .slice bo m cap2]) := ⟨HST.out.1.trans kq (fun _ _ h => h), HST.out.2.1.kp0 kq, HST.out.2.2.1.kp0 kq, HST.out.2.2.2.kp kq (fun h => h)⟩
            clear kq z0 z1 hdec
            go_wp2_with fail
            exact ⟨⟨t + 512, by simp, HTN.out.1, HST.out⟩, HTN.out.2⟩
    · have hlt' : ¬ (t : Int) < (to : Int) := by omega
      have HR5 := hid (resize_ok Q r4 to gr sz ws4 wr HST.out.2.1 (by omega))
      have z0 := HST.out.2.2.2.cell 0
      simp at z0
      unfold ptr at HR5
      go_wp2_with fail
      refine HR5.out.mono ?_
      rintro _ w6 ⟨rfl, k6, r5, ws5, hr5, hb5, hd5⟩
      have hb2' := HST.out.2.2.1.kp k6 HNE.out.1 HNE.out.2.1
      have HK6 : Hid (Kp (fun _ => False) w w6) := HST.out.1.trans k6 (fun i hi e => by have := HNE.out.2.2.2; omega)
      have z0' := (HST.out.2.2.2.kp k6 HNE.out.2.2.1).cell 0
      simp at z0'
      have HSA := hid (same_like Q Q2 r5 r2 sz gr ws5 ws w6 hb5 hb2')
      have HEQ : Hid (¬ to < sz → decide (ws5 = ws) = true) := fun h => decide_eq_true (dty_ext (hb5.ln.trans hb2'.ln.symm) hb5.W hb2'.W (fun g _ => by
        rw [hd5 g, HD4.out g]
        by_cases hg : g < frm gr sz
        · have h3 : g < frm gr to := Nat.lt_of_lt_of_le hg (frm_mono (by omega))
          rw [decide_eq_true hg, decide_eq_true h3]
          simp
        · rw [hb2'.far g (by omega)]
          rfl))
      clear HR5 k6 hr5 hb5 hd5 hb2' z0
      unfold ptr at HSA
      by_cases hts : to < sz
      · have hts' : (to : Int) < (sz : Int) := by omega
        go_wp2_with (first | (go_at_call 11; refine (HNU.out _ _).mono ?_; rintro e w' ⟨rfl, h⟩; replace h := h.symm; subst h) | (go_at_call 8; refine (HWO.out _).mono ?_; rintro _ w7 ⟨rfl, k7⟩))
        go_ret
        exact ⟨rfl, HK6.out.trans k7 (fun _ _ h => h)⟩
      · have hts' : ¬ (to : Int) < (sz : Int) := by omega
        have hdd := HEQ.out hts
        rw [hdd] at HSA
        go_wp2_with (first | (go_at_call 11; refine (HNU.out _ _).mono ?_; rintro e w' ⟨rfl, h⟩; replace h := h.symm; subst h))
        refine HSA.out.mono ?_
        rintro _ w7 ⟨rfl, k7⟩
        go_wp2_with fail
        refine (HWO.out _).mono ?_
        rintro _ w8 ⟨rfl, k8⟩
        go_wp2_with fail
        go_ret
        exact ⟨rfl, (HK6.out.trans k7 (fun _ _ h => h)).trans k8 (fun _ _ h => h)⟩
end Go.Proofs.YteenlifdamhffaaDoor
