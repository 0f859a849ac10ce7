/- LaterGreatest: the walk. -/
import Derived.Test.YtgfondgejimkkaaSe
namespace Go.Proofs.Ytgfondgejimkkaa
open Go.RowKit
set_option linter.unusedVariables false
set_option linter.unusedSimpArgs false
theorem grt_turn {x y : Rn} (h : grt y x = false) (hn : y.a ≠ x.a) : grt x y = true := by
  simp [grt] at *
  omega
theorem grt_next {R R' : List Rn} {x : Rn} (hR : Ap R) (hp : (x :: R').Perm R) (h : ∀ y ∈ R, grt y x = false) : ∀ y ∈ R', grt x y = true := fun y hy => by
  have hap : Ap (x :: R') := hR.perm hp.symm
  have ha := (List.pairwise_cons.1 hap.2).1 y hy
  have h1 := hap.1 x (by simp)
  have h2 := hap.1 y (by simp [hy])
  refine grt_turn (h y (hp.mem_iff.1 (by simp [hy]))) ?_
  have h3 := h1.lt
  have h4 := h2.lt
  unfold Aprt at ha
  omega
/-- What New of some of at most a thousand is. -/
theorem new_some (w : World) (ao : Option Addr) (n cap : Nat) (l : List Rn) (hl : l.length = n) (hn : n ≤ 1000) (hm : ∀ x ∈ l, Mayr x) (hz : ao = none → cap = 0) (hs : Srcr w ao l) :
    Calls Try.prog 10 #[.slice ao n cap] w fun e w' => ∃ Q F, e = .returned (.tuple #[.pointer (some ⟨Q, 0, none⟩), .int .i64 0]) ∧ Lw Q (tog l) F w' ∧ (∀ k, F k → w.heap.size ≤ k) ∧ Kp (fun _ => False) w w' := by
  refine (new_w w ao n cap l hl (by omega) (fun x hx => (hm x hx).i6) hz hs).mono ?_
  rintro e w' ⟨k, h⟩
  rcases h with ⟨⟨x, hx, h1⟩, _⟩ | ⟨_, h2, _⟩ | ⟨_, _, Q, F, h3, h4, h5⟩
  · exact absurd (hm x hx) h1
  · have := tog_len hm
    omega
  · exact ⟨Q, F, h3, h4, h5, k⟩
/-- What is left of it, round by round. -/
structure Gi (w wr : World) (Q Q2 P : Nat) (R R' : List Rn) (last : Rn) (G : Nat → Prop) : Prop where
  ex : ∃ F, Lw Q R' F wr ∧ (∀ i, F i → ¬ G i) ∧ ¬ F P ∧ ∀ i, F i → w.heap.size ≤ i
  was : Lw Q2 R G wr
  nP : ¬ G P
  gb : ∀ i, G i → w.heap.size ≤ i
  pl : w.heap.size ≤ P
  la : Rn.B wr P last
  sub : ∀ y ∈ R', y ∈ R
  gt : ∀ y ∈ R', grt last y = true
  kp : Kp (fun _ => False) w wr
theorem Gi.kp0 {w wr w' : World} {Q Q2 P : Nat} {R R' : List Rn} {last : Rn} {G : Nat → Prop} (h : Gi w wr Q Q2 P R R' last G) (k : Kp (fun _ => False) wr w') : Gi w w' Q Q2 P R R' last G := by
  obtain ⟨F, f1, f2, f3, f4⟩ := h.ex
  exact ⟨⟨F, f1.kp0 k, f2, f3, f4⟩, h.was.kp0 k, h.nP, h.gb, h.pl, h.la.kp k (fun h => h), h.sub, h.gt, h.kp.trans k (fun _ _ h => h)⟩
theorem Gi.store {w wr w' : World} {Q Q2 P : Nat} {R R' : List Rn} {last x : Rn} {G : Nat → Prop} (h : Gi w wr Q Q2 P R R' last G) (k : Kp (fun i => i = P) wr w') (hb : Rn.B w' P x) (hg : ∀ y ∈ R', grt x y = true) : Gi w w' Q Q2 P R R' x G := by
  obtain ⟨F, f1, f2, f3, f4⟩ := h.ex
  exact ⟨⟨F, f1.kp k (fun i hi e => f3 (e ▸ hi)), f2, f3, f4⟩, h.was.kp k (fun i hi e => h.nP (e ▸ hi)), h.nP, h.gb, h.pl, hb, h.sub, hg, h.kp.trans k (fun i hi e => by have := h.pl; omega)⟩
/-- What Greatest does to it. -/
theorem Gi.great {w wr : World} {Q Q2 P : Nat} {R R' : List Rn} {last : Rn} {G : Nat → Prop} (h : Gi w wr Q Q2 P R R' last G) (hn : R' ≠ []) : Calls Try.prog 28 #[.pointer (some ⟨Q, 0, none⟩)] wr fun e w' => ∃ x R'', e = .returned (.tuple #[.agg #[.int .i64 x.a, .int .i64 x.n], .int .i64 0]) ∧ Gi w w' Q Q2 P R R'' last G ∧ (x :: R'').Perm R' ∧ (∀ y ∈ R'', grt x y = true) ∧ grt last x = true ∧ x ∈ R ∧ Mayr x := by
  obtain ⟨F, f1, f2, f3, f4⟩ := h.ex
  refine (greatest_w f1).mono ?_
  rintro e w' (⟨h1, _⟩ | ⟨x, R'', rfl, h2, h3, h4⟩)
  · exact absurd h1 hn
  · have hx : x ∈ R' := h3.mem_iff.1 (by simp)
    obtain ⟨o1, F', o2, o3, o4⟩ := h4.other h.was f2
    have hPl := h.la.lt
    refine ⟨x, R'', rfl, ⟨⟨F', o2, o3, fun hp => (o4 P hp).elim f3 (fun hl => by omega), fun i hi => (o4 i hi).elim (f4 i) (fun hl => by have := h.kp.size; omega)⟩, o1, h.nP, h.gb, h.pl, h.la.kp h4.1 f3, fun y hy => h.sub y (h3.mem_iff.1 (by simp [hy])), fun y hy => h.gt y (h3.mem_iff.1 (by simp [hy])), h.kp.trans h4.1 (fun i hi hf => by have := f4 i hf; omega)⟩, h3, grt_next f1.can.ap h3 h2, h.gt x hx, h.sub x hx, h.was.can.1 x (h.sub x hx)⟩
theorem Gi.empty {w wr : World} {Q Q2 P : Nat} {R : List Rn} {last : Rn} {G : Nat → Prop} (h : Gi w wr Q Q2 P R [] last G) : Calls Try.prog 28 #[.pointer (some ⟨Q, 0, none⟩)] wr fun e w' => e = .returned (.tuple #[.agg #[.int .i64 0, .int .i64 0], .int .i64 7]) ∧ Kp (fun _ => False) wr w' := by
  obtain ⟨F, f1, f2, f3, f4⟩ := h.ex
  refine (greatest_w f1).mono ?_
  rintro e w' (⟨_, h1, h2⟩ | ⟨x, R'', rfl, h2, h3, h4⟩)
  · exact ⟨h1, h2⟩
  · have := h3.length_eq
    simp at this
theorem Gi.over {w wr : World} {Q Q2 P : Nat} {R R' : List Rn} {last : Rn} {G : Nat → Prop} (h : Gi w wr Q Q2 P R R' last G) (x : Rn) (hx : Mayr x) : Calls Try.prog 23 #[.pointer (some ⟨Q2, 0, none⟩), .agg #[.int .i64 x.a, .int .i64 x.n]] wr fun e w' => e = .returned (.tuple #[.int .i64 (ovl R x), .int .i64 0]) ∧ Kp (fun _ => False) wr w' := by
  refine (over_w h.was x hx.i6).mono ?_
  rintro e w' ⟨h1, (⟨h2, _⟩ | ⟨_, h2⟩)⟩
  · exact absurd hx h2
  · exact ⟨h2, h1⟩
set_option maxRecDepth 100000 in
set_option maxHeartbeats 16000000 in
theorem great_walk (w : World) (ao : Option Addr) (n cap : Nat) (l : List Rn) (hl : l.length = n) (hn2 : n ≤ maxLen) (hi : ∀ x ∈ l, x.i6) (hs : Srcr w ao l) :
    Calls Try.prog 7 #[.slice ao n cap] w fun e w' => e = .returned (.bool true) ∧ Below w.heap.size w w' := by
  have HNU := hid num_any
  have HWO := hid works_any
  unfold maxLen at hn2
  by_cases hn : 60 < n
  · clear hl hi hs
    go_enter Try.func7, Try.ntmps7
    go_wp2_with (first | (go_at_call 8; refine (HWO.out _).mono ?_; rintro e1 w10 ⟨rfl, k10⟩; have K10 := hid k10; clear k10))
    go_ret
    exact ⟨rfl, K10.out.below (Nat.le_refl _) (fun _ h => h.elim)⟩
  · have HSO := hid (some_any w ao n cap l hl (by omega) hi hs)
    have HSL : Hid ((sm l).length ≤ 60) := Nat.le_trans (sm_len l) (by omega)
    clear hl hi hs
    go_enter Try.func7, Try.ntmps7
    go_wp2_with fail
    refine HSO.out.mono ?_
    rintro e w1 ⟨v, rfl, o1, k1⟩
    obtain ⟨ao1, cap1, rfl, s1, _, _, z1⟩ := o1.src
    have K1 := hid k1
    have S1 := hid s1
    clear HSO o1 k1 s1
    go_wp2_with fail
    refine (new_some w1 ao1 _ cap1 (sm l) rfl (by have := HSL.out; omega) (fun x hx => (sm_may hx).1) z1 S1.out).mono ?_
    rintro e w2 ⟨Q, F, rfl, l2, f2, k2⟩
    have L2 := hid l2
    have F2 : Hid (∀ i, F i → w.heap.size ≤ i) := fun i hi => Nat.le_trans K1.out.size (f2 i hi)
    have K2 : Hid (Kp (fun _ => False) w w2) := K1.out.trans k2 (fun _ _ h => h)
    clear l2 f2 k2 K1 S1 z1
    generalize tog (sm l) = R at *
    go_wp2_with (first | (go_at_call 11; refine (HNU.out _ _).mono ?_; rintro e1 w9 ⟨rfl, rfl⟩))
    refine (copy_w L2.out).mono ?_
    rintro e w3 ⟨k3, Q2, G, rfl, l3, g3⟩
    have L3 := hid l3
    have LQ := hid (L2.out.kp0 k3)
    have HFG : Hid (∀ i, F i → ¬ G i) := fun i hf hg => by have := g3 i hg; have := L2.out.lt hf; omega
    have G3 : Hid (∀ i, G i → w.heap.size ≤ i) := fun i hg => Nat.le_trans K2.out.size (g3 i hg)
    have K3 : Hid (Kp (fun _ => False) w w3) := K2.out.trans k3 (fun _ _ h => h)
    clear l3 k3 g3 L2 K2
    go_wp2_with fail
    refine (size_w LQ.out).mono ?_
    rintro e w4 ⟨rfl, k4⟩
    have HGI : Hid (∀ U, Rn.B U w4.heap.size ⟨0, 1152921504606846976⟩ → Kp (fun _ => False) w4 U → Gi w U Q Q2 w4.heap.size R R ⟨0, 1152921504606846976⟩ G) := fun U hb hU => by
      have hK4 := K3.out.trans k4 (fun _ _ h => h)
      have hKU := hK4.trans hU (fun _ _ h => h)
      refine ⟨⟨F, (LQ.out.kp0 k4).kp0 hU, HFG.out, fun hp => ?_, F2.out⟩, (L3.out.kp0 k4).kp0 hU, fun hp => ?_, G3.out, hK4.size, hb, fun _ h => h, fun y hy => ?_, hKU⟩
      · have := (LQ.out.kp0 k4).lt hp
        omega
      · have := (L3.out.kp0 k4).lt hp
        omega
      · have := LQ.out.can.1 y hy
        unfold Mayr Rn.e at this
        have h9 : y.n < 1152921504606846976 := by omega
        simp [grt, h9]
    have HCN : Hid (Ap R) := LQ.out.can.ap
    have hRl : R.length ≤ 4096 := LQ.out.len
    clear LQ L3 HFG G3 F2 K3
    obtain ⟨P, hP⟩ : ∃ P, P = w4.heap.size := ⟨_, rfl⟩
    obtain ⟨m, hm⟩ : ∃ m, m = R.length := ⟨_, rfl⟩
    rw [← hm] at hRl ⊢
    have HM := hid hm
    clear hm k4
    have hz0 : Hid (0 ≤ sz R ∧ sz R ≤ 72057594037927936) := ap_sz HCN.out
    go_wp2_with (first | (refine wpList_store_r rfl _ _ rfl _ rfl (e := zRn) (e' := ⟨0, 1152921504606846976⟩) rfl (Rn.B.new w4 zRn) ?_; intro w5 s5 k5; have G5 := hid (HGI.out w5 s5 (((Kp.refl (fun _ => False) w4).alloc _).trans k5 (fun i h1 h2 => by omega))); clear s5 k5))
    rw [← hP] at G5 ⊢
    clear HGI hP
    go_loopw [7, 9] (fun s i wr => ∃ (k : Nat) (R' : List Rn) (last : Rn), s = .int .i64 (sz R') ∧ i = .int .i64 (k : Int) ∧ k ≤ m ∧ Hid (k + R'.length = m) ∧ Hid (Gi w wr Q Q2 P R R' last G)) (fun _ i _ => m - (intOf i).toNat)
    case atStart => exact ⟨0, R, _, rfl, rfl, Nat.zero_le _, by rw [Hid, Nat.zero_add]; exact HM.out.symm, G5⟩
    case round =>
      clear G5
      obtain ⟨k, R', last, rfl, rfl, hk, HKL, HG⟩ := hrel
      by_cases hlt : k < m
      · have hne : R' ≠ [] := fun e => by have := HKL.out; rw [e] at this; simp at this; omega
        go_wp2_with fail
        refine (HG.out.great hne).mono ?_
        rintro e w6 ⟨x, R'', rfl, g6, p6, q6, t6, m6, y6⟩
        obtain ⟨xa, xn⟩ := x
        obtain ⟨la, lb⟩ := last
        have HX := hid m6
        have HY := hid y6
        have HP6 := hid p6
        have HQ6 := hid q6
        have G6 := hid g6
        have hb : 0 ≤ xa ∧ 1 ≤ xn ∧ xa + xn ≤ 72057594037927936 := y6
        have hsz : sz R' = xn + sz R'' := by rw [← sz_perm p6, sz_cons]
        have hz' : 0 ≤ sz R'' := sz_pos (fun y hy => G6.out.was.can.1 y (G6.out.sub y hy))
        have hz2 : sz R' ≤ 72057594037927936 := (ap_sz HG.out.ex.choose_spec.1.can.ap).2
        obtain ⟨hb1, hb2, hb3⟩ := hb
        have hov := hid (ovl_self HCN.out m6)
        obtain ⟨fr, hfr⟩ : ∃ fr, fr = max 0 (xa - 1) := ⟨_, rfl⟩
        obtain ⟨tn, htn⟩ : ∃ tn, tn = min (xa + xn + 1) 72057594037927936 - max 0 (xa - 1) := ⟨_, rfl⟩
        have HMY : Hid (Mayr ⟨fr, tn⟩) := by
          show Mayr _
          unfold Mayr Rn.e
          dsimp only
          omega
        have har := hid (ovl_around (y := ⟨fr, tn⟩) HCN.out m6 HMY.out (by dsimp only; omega) (by dsimp only; omega) (by unfold Rn.e; dsimp only; omega) (by unfold Rn.e; dsimp only; omega))
        dsimp only at hov har
        have hw1 : IntKind.i64.wrap (xa - 1) = xa - 1 := by rw [IntKind.wrap_i64]; omega
        have hw2 : IntKind.i64.wrap (xa + xn) = xa + xn := by rw [IntKind.wrap_i64]; omega
        have hw3 : IntKind.i64.wrap (xa + xn + 1) = xa + xn + 1 := by rw [IntKind.wrap_i64]; omega
        have hw4 : IntKind.i64.wrap (min (xa + xn + 1) 72057594037927936 - max 0 (xa - 1)) = min (xa + xn + 1) 72057594037927936 - max 0 (xa - 1) := by rw [IntKind.wrap_i64]; omega
        have hw5 : IntKind.i64.wrap (sz R' - xn) = sz R'' := by rw [IntKind.wrap_i64]; omega
        have HOA := hid (fun U => (Gi.over (w := w) (wr := U) (Q := Q) (Q2 := Q2) (P := P) (R := R) (R' := R'') (last := ⟨la, lb⟩) (G := G)))
        have HT6 := hid t6
        have HFR := hid hfr
        have HTN := hid htn
        clear g6 m6 y6 p6 q6 t6 hfr htn HG hne hsz hz' hz2
        go_wp2_with (first | (refine wpList_store_r rfl _ _ rfl _ rfl (e := zRn) (e' := ⟨xa, xn⟩) rfl (Rn.B.new w6 zRn) ?_; intro w7 s7 k7; have G7 := hid (G6.out.kp0 (((Kp.refl (fun _ => False) w6).alloc _).trans k7 (fun i h1 h2 => by omega))); have S7 := hid s7; clear s7 k7) | (refine wpList_load_r rfl _ rfl _ rfl S7.out ?_))
        refine (G7.out.over ⟨xa, xn⟩ HY.out).mono ?_
        rintro e w8 ⟨rfl, k8⟩
        rw [hov.out]
        have G8 := hid (G7.out.kp0 k8)
        have S8 := hid (S7.out.kp k8 (fun h => h))
        have y0 : w8.cell? ⟨w6.heap.size, 0, none⟩ = some (.int .i64 xa) := S8.out.cell 0
        have y1 : w8.cell? ⟨w6.heap.size, 1, none⟩ = some (.int .i64 xn) := S8.out.cell 1
        clear k8 G7 S7 G6
        go_wp2_with fail
        rw [← HTN.out, ← HFR.out]
        refine (G8.out.over ⟨fr, tn⟩ HMY.out).mono ?_
        rintro e w9 ⟨rfl, k9⟩
        rw [har.out]
        have G9 := hid (G8.out.kp0 k9)
        have S9 := hid (S8.out.kp k9 (fun h => h))
        have z0 : w9.cell? ⟨w6.heap.size, 0, none⟩ = some (.int .i64 xa) := S9.out.cell 0
        have z1 : w9.cell? ⟨w6.heap.size, 1, none⟩ = some (.int .i64 xn) := S9.out.cell 1
        have z2 : w9.cell? ⟨P, 0, none⟩ = some (.int .i64 la) := G9.out.la.cell 0
        have z3 : w9.cell? ⟨P, 1, none⟩ = some (.int .i64 lb) := G9.out.la.cell 1
        clear k9 G8 S8 y0 y1 hw1 hw2 hw3 hw4 HFR HTN HMY
        have hgt : xn < lb ∨ (xn = lb ∧ la < xa) := by
          have := HT6.out
          simp [grt] at this
          omega
        rcases hgt with hgt | ⟨hgt, hga⟩
        · have d1 : ¬ lb < xn := by omega
          have d2 : ¬ xn = lb := by omega
          go_wp2_with (first | (go_at_call 11; refine (HNU.out _ _).mono ?_; rintro e1 w10 ⟨rfl, rfl⟩) | (refine wpList_load_r rfl _ rfl _ rfl S9.out ?_) | (refine wpList_store_r rfl _ _ rfl _ rfl (e' := ⟨xa, xn⟩) rfl G9.out.la ?_; intro w11 s11 k11; have G11 := hid (G9.out.store k11 s11 HQ6.out); clear s11 k11))
          go_roundw
          case rel => exact ⟨k + 1, R'', _, rfl, by go_num, hlt, by have := HP6.out.length_eq; have h2 := HKL.out; simp at this; show _ = _; omega, G11⟩
          case measure => simp [intOf]; omega
        · subst hgt
          have d1 : ¬ xa ≤ la := by omega
          go_wp2_with (first | (go_at_call 11; refine (HNU.out _ _).mono ?_; rintro e1 w10 ⟨rfl, rfl⟩) | (refine wpList_load_r rfl _ rfl _ rfl S9.out ?_) | (refine wpList_store_r rfl _ _ rfl _ rfl (e' := ⟨xa, xn⟩) rfl G9.out.la ?_; intro w11 s11 k11; have G11 := hid (G9.out.store k11 s11 HQ6.out); clear s11 k11))
          go_roundw
          case rel => exact ⟨k + 1, R'', _, rfl, by go_num, hlt, by have := HP6.out.length_eq; have h2 := HKL.out; simp at this; show _ = _; omega, G11⟩
          case measure => simp [intOf]; omega
      · obtain rfl : k = m := by omega
        obtain rfl : R' = [] := List.length_eq_zero_iff.1 (by have := HKL.out; omega)
        rw [sz_nil]
        go_wp2_with fail
        refine HG.out.empty.mono ?_
        rintro e w6 ⟨rfl, k6⟩
        have K6 : Hid (Kp (fun _ => False) w w6) := HG.out.kp.trans k6 (fun _ _ h => h)
        clear k6 HG
        go_wp2_with (first | (refine wpList_store_r rfl _ _ rfl _ rfl (e := zRn) (e' := zRn) rfl (Rn.B.new w6 zRn) ?_; intro w7 s7 k7; have K7 : Hid (Kp (fun _ => False) w w7) := (K6.out.alloc _).trans k7 (fun i h1 h2 => by have := K6.out.size; omega); clear s7 k7) | (go_at_call 11; refine (HNU.out _ _).mono ?_; rintro e1 w10 ⟨rfl, rfl⟩) | (go_at_call 8; refine (HWO.out _).mono ?_; rintro e1 w10 ⟨rfl, k10⟩; have K10 := hid k10; clear k10))
        go_ret
        exact ⟨rfl, (K7.out.trans K10.out (fun _ _ h => h)).below (Nat.le_refl _) (fun _ h => h.elim)⟩
end Go.Proofs.Ytgfondgejimkkaa
