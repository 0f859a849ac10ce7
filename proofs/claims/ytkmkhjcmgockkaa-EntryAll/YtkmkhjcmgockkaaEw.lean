/- entry: known; the walk of EntryWords. -/
import Derived.Test.YtkmkhjcmgockkaaEi
namespace Go.Proofs.Ytkmkhjcmgockkaa
open Go.RowKit
set_option linter.unusedVariables false
theorem bt9 : Bt 9 := by unfold Bt; decide
theorem clu9 : clu 9 = 512 := by decide
theorem k1_may : MayE ⟨2, 1024, 0⟩ 9 := Or.inr (Or.inl ⟨rfl, rfl, by unfold Plc; rw [clu9]; decide⟩)
theorem k2_may : MayE ⟨3, 1030, 5⟩ 9 := Or.inr (Or.inr ⟨rfl, by unfold Pkd; rw [clu9]; decide⟩)
theorem k3_prt : prt 1026 = ⟨2, 1024, 0⟩ := by
  unfold prt
  rw [if_neg (by decide)]
  apply En.ext' <;> simp [IntKind.wrap_i64]
theorem k4_prt : ¬ MayE (prt 1027) 9 := by
  rw [show prt 1027 = ⟨3, 0, 256⟩ by unfold prt; rw [if_pos (by decide)]; apply En.ext' <;> simp]
  rintro (⟨h, _⟩ | ⟨h, _⟩ | ⟨_, h⟩)
  · have h : (3 : Int) = 0 ∨ (3 : Int) = 1 := h
    omega
  · have h : (3 : Int) = 2 := h
    omega
  · unfold Pkd at h; rw [clu9] at h; revert h; decide
theorem kwf (a b c : Int) (h1 : I6 a) (h2 : I6 b) (h3 : I6 c) : (En.mk a b c).Wf := ⟨h1, h2, h3⟩
set_option maxHeartbeats 2000000 in
theorem known_any (w : World) : Calls Try.prog 12 #[] w fun e w' => e = .returned (.bool true) ∧ Kp (fun _ => False) w w' := by
  have W1 : Hid (∀ w, Calls Try.prog 7 #[.agg (En.mk 2 1024 0).cs, .int .i64 9] w fun r w' => r = .returned (.tuple #[.int .u64 1026, .int .i64 0]) ∧ Kp (fun _ => False) w w') := fun w => word_yes (kwf _ _ _ (by unfold I6; decide) (by unfold I6; decide) (by unfold I6; decide)) bt9 k1_may
  have W2 : Hid (∀ w, Calls Try.prog 7 #[.agg (En.mk 3 1030 5).cs, .int .i64 9] w fun r w' => r = .returned (.tuple #[.int .u64 67502103, .int .i64 0]) ∧ Kp (fun _ => False) w w') := fun w => word_yes (kwf _ _ _ (by unfold I6; decide) (by unfold I6; decide) (by unfold I6; decide)) bt9 k2_may
  have O1 : Hid (∀ w, Calls Try.prog 8 #[.int .u64 1026, .int .i64 9] w fun r w' => r = .returned (.tuple #[.agg (En.mk 2 1024 0).cs, .int .i64 0]) ∧ Kp (fun _ => False) w w') := fun w => by
    have h := of_yes (x := 1026) (b := 9) (w := w) (by unfold U6; decide) bt9 (by rw [k3_prt]; exact k1_may)
    rw [k3_prt] at h
    exact h
  have O2 : Hid (∀ w, Calls Try.prog 8 #[.int .u64 1027, .int .i64 9] w fun r w' => r = .returned (.tuple #[.agg zE.cs, .int .i64 190]) ∧ Kp (fun _ => False) w w') := fun w => of_no (x := 1027) (b := 9) (by unfold U6; decide) bt9 k4_prt
  go_enter Try.func12, Try.ntmps12
  go_wp2_with fail
  refine (W1.out _).mono ?_
  rintro r w1 ⟨rfl, k1⟩
  go_wp2_with fail
  refine (W2.out _).mono ?_
  rintro r w2 ⟨rfl, k2⟩
  go_wp2_with fail
  refine (O1.out _).mono ?_
  rintro r w3 ⟨rfl, k3⟩
  have K3 := hid ((k1.trans k2 (fun _ _ x => x)).trans k3 (fun _ _ x => x))
  go_wp2_with (refine wpList_store_en rfl (.tmp 5) (.tmp 21) rfl w3.heap.size rfl (e := zE) (e' := ⟨2, 1024, 0⟩) rfl (Eb.new w3 zE) ?_; intro w4 b4 k4; have kk4 : Kp (fun _ => False) w3 w4 := ((Kp.refl (fun _ => False) w3).alloc _).trans k4 (fun i h1 h2 => by omega))
  refine (O2.out _).mono ?_
  rintro r w5 ⟨rfl, k5⟩
  have K5 := hid ((K3.out.trans kk4 (fun _ _ x => x)).trans k5 (fun _ _ x => x))
  have B5 := hid (b4.kp k5 (fun x => x))
  go_wp2_with (first | (refine wpList_store_en rfl (.tmp 7) (.tmp 25) rfl w5.heap.size rfl (e := zE) (e' := zE) rfl (Eb.new w5 zE) ?_; intro w6 b6 k6; have kk6 : Kp (fun _ => False) w5 w6 := ((Kp.refl (fun _ => False) w5).alloc _).trans k6 (fun i h1 h2 => by omega); have B6 := hid (B5.out.kp kk6 (fun x => x))) | (refine wpList_load_en_g (by rfl) (.tmp 5) rfl w3.heap.size rfl B6.out ?_) | (refine wpList_eq_en_g (by rfl) (.tmp 42) (.tmp 43) rfl (h := ⟨2, 1024, 0⟩) (k := ⟨2, 1024, 0⟩) rfl rfl (eqE_self _) ?_))
  go_ret
  exact ⟨rfl, K5.out.trans kk6 (fun _ _ x => x)⟩
set_option maxRecDepth 100000 in
set_option maxHeartbeats 4000000 in
theorem words_a (e : En) (x b : Int) (w : World) (wf : e.Wf) (hx : U6 x) (hb : Bt b) (m : MayE e b) (p : MayE (prt x) b) : Calls Try.prog 3 #[.agg e.cs, .int .u64 x, .int .i64 b] w fun r w' => r = .returned (.bool true) ∧ Kp (fun _ => False) w w' := by
  have HB := hid (Eb.new w e)
  have HK : Hid (Kp (fun _ => False) w (w.alloc (.cells e.cs 24))) := (Kp.refl _ _).alloc _
  have KN := hid known_any
  have RM := hid (fun w => rmay_yes (w := w) wf hb m)
  have WD := hid (fun w => word_yes (w := w) wf hb m)
  have CK := hid (fun w => check_yes (w := w) wf hb m)
  have RWD := hid (fun w => rword_any e w (may_small hb m))
  have OF1 : Hid (∀ w, Calls Try.prog 8 #[.int .u64 (wrd e), .int .i64 b] w fun r w' => r = .returned (.tuple #[.agg e.cs, .int .i64 0]) ∧ Kp (fun _ => False) w w') := fun w => by
    have h := of_yes (w := w) (wrd_u6 hb m) hb (by rw [prt_wrd hb m]; exact m)
    rw [prt_wrd hb m] at h
    exact h
  generalize wrd e = X at *
  have NE : Hid ((!eqE e e) = false) := (by show (!eqE e e) = false; rw [eqE_self]; rfl)
  have RB := hid (fun w => rbits_yes b w hb)
  have OF2 := hid (fun w => of_yes (w := w) hx hb p)
  have RO := hid (fun w => rof_yes (w := w) hx hb p)
  have WD2 := hid (fun w => word_yes (w := w) (prt_wf hx) hb p)
  have hwp := wrd_prt hx hb p
  rw [hwp] at WD2
  generalize prt x = Y at *
  clear hwp
  clear wf hx hb m p
  go_enter Try.func3, Try.ntmps3
  go_wp2_with (first | (refine wpList_load_en rfl (.tmp 3) rfl w.heap.size rfl HB.out ?_))
  refine (RM.out _).mono ?_
  rintro r w1 ⟨rfl, k1⟩
  have K1 := hid (HK.out.trans k1 (fun _ _ x => x))
  have E1 := hid (HB.out.kp k1 (fun x => x))
  go_wp2_with (first | (refine wpList_load_en rfl (.tmp 3) rfl w.heap.size rfl E1.out ?_))
  refine (WD.out _).mono ?_
  rintro r w2 ⟨rfl, k2⟩
  have K2 := hid (K1.out.trans k2 (fun _ _ x => x))
  have E2 := hid (E1.out.kp k2 (fun x => x))
  go_wp2_with fail
  refine (OF1.out _).mono ?_
  rintro r w3 ⟨rfl, k3⟩
  have K3 := hid (K2.out.trans k3 (fun _ _ x => x))
  have E3 := hid (E2.out.kp k3 (fun x => x))
  go_wp2_with (first | (refine wpList_store_en rfl (.tmp 10) (.tmp 32) rfl w3.heap.size rfl (e := zE) (e' := e) rfl (Eb.new w3 zE) ?_; intro w4 b4 j4; have k4 : Kp (fun _ => False) w3 w4 := ((Kp.refl (fun _ => False) w3).alloc _).trans j4 (fun i h1 h2 => by omega); have K4 := hid (K3.out.trans k4 (fun _ _ x => x)); have E4 := hid (E3.out.kp k4 (fun x => x)); have Y4 := hid b4) | (refine wpList_load_en rfl (.tmp 3) rfl w.heap.size rfl E4.out ?_))
  refine (CK.out _).mono ?_
  rintro r w5 ⟨rfl, k5⟩
  have K5 := hid (K4.out.trans k5 (fun _ _ x => x))
  have E5 := hid (E4.out.kp k5 (fun x => x))
  have Y5 := hid (Y4.out.kp k5 (fun x => x))
  go_wp2_with (first | (refine wpList_load_en_g (by rfl) (.tmp 3) rfl w.heap.size rfl E5.out ?_))
  refine (RWD.out _).mono ?_
  rintro r w6 ⟨rfl, k6⟩
  have K6 := hid (K5.out.trans k6 (fun _ _ x => x))
  have E6 := hid (E5.out.kp k6 (fun x => x))
  have Y6 := hid (Y5.out.kp k6 (fun x => x))
  go_wp2_with (first | (refine wpList_load_en_g (by rfl) (.tmp 10) rfl w3.heap.size rfl Y6.out ?_) | (refine wpList_load_en_g (by rfl) (.tmp 3) rfl w.heap.size rfl E6.out ?_) | (refine wpList_ne_en_g (by rfl) (.tmp 49) (.tmp 50) rfl (h := e) (k := e) rfl rfl NE.out ?_))
  refine (OF2.out _).mono ?_
  rintro r w7 ⟨rfl, k7⟩
  have K7 := hid (K6.out.trans k7 (fun _ _ x => x))
  have E7 := hid (E6.out.kp k7 (fun x => x))
  go_wp2_with (first | (refine wpList_store_en rfl (.tmp 12) (.tmp 73) rfl w7.heap.size rfl (e := zE) (e' := Y) rfl (Eb.new w7 zE) ?_; intro w8 b8 j8; have k8 : Kp (fun _ => False) w7 w8 := ((Kp.refl (fun _ => False) w7).alloc _).trans j8 (fun i h1 h2 => by omega); have K8 := hid (K7.out.trans k8 (fun _ _ x => x)); have E8 := hid (E7.out.kp k8 (fun x => x)); have Z8 := hid b8))
  refine (RB.out _).mono ?_
  rintro r w' ⟨rfl, rfl⟩
  go_wp2_with fail
  refine (RO.out _).mono ?_
  rintro r w9 ⟨rfl, k9⟩
  have K9 := hid (K8.out.trans k9 (fun _ _ x => x))
  have E9 := hid (E8.out.kp k9 (fun x => x))
  have Z9 := hid (Z8.out.kp k9 (fun x => x))
  go_wp2_with (first | (refine wpList_store_en rfl (.tmp 14) (.tmp 92) rfl w9.heap.size rfl (e := zE) (e' := Y) rfl (Eb.new w9 zE) ?_; intro w10 b10 j10; have k10 : Kp (fun _ => False) w9 w10 := ((Kp.refl (fun _ => False) w9).alloc _).trans j10 (fun i h1 h2 => by omega); have K10 := hid (K9.out.trans k10 (fun _ _ x => x)); have E10 := hid (E9.out.kp k10 (fun x => x)); have Z10 := hid (Z9.out.kp k10 (fun x => x)); have V10 := hid b10) | (refine wpList_load_en rfl (.tmp 12) rfl w7.heap.size rfl Z10.out ?_))
  refine (WD2.out _).mono ?_
  rintro r w11 ⟨rfl, k11⟩
  have K11 := hid (K10.out.trans k11 (fun _ _ x => x))
  have E11 := hid (E10.out.kp k11 (fun x => x))
  have Z11 := hid (Z10.out.kp k11 (fun x => x))
  have V11 := hid (V10.out.kp k11 (fun x => x))
  go_wp2_with (first | (refine wpList_load_en rfl (.tmp 12) rfl w7.heap.size rfl Z11.out ?_) | (refine wpList_load_en rfl (.tmp 14) rfl w9.heap.size rfl V11.out ?_) | (refine wpList_eq_en rfl (.tmp 112) (.tmp 113) rfl (h := Y) (k := Y) rfl rfl (eqE_self _) ?_))
  refine (KN.out _).mono ?_
  rintro r w12 ⟨rfl, k12⟩
  have K12 := hid (K11.out.trans k12 (fun _ _ x => x))
  have E12 := hid (E11.out.kp k12 (fun x => x))
  have Z12 := hid (Z11.out.kp k12 (fun x => x))
  have V12 := hid (V11.out.kp k12 (fun x => x))
  go_wp2_with fail
  go_ret
  exact ⟨rfl, K12.out⟩
set_option maxRecDepth 100000 in
set_option maxHeartbeats 4000000 in
theorem words_b (e : En) (x b : Int) (w : World) (wf : e.Wf) (hx : U6 x) (hb : Bt b) (m : MayE e b) (p : ¬ MayE (prt x) b) : Calls Try.prog 3 #[.agg e.cs, .int .u64 x, .int .i64 b] w fun r w' => r = .returned (.bool true) ∧ Kp (fun _ => False) w w' := by
  have HB := hid (Eb.new w e)
  have HK : Hid (Kp (fun _ => False) w (w.alloc (.cells e.cs 24))) := (Kp.refl _ _).alloc _
  have KN := hid known_any
  have RM := hid (fun w => rmay_yes (w := w) wf hb m)
  have WD := hid (fun w => word_yes (w := w) wf hb m)
  have CK := hid (fun w => check_yes (w := w) wf hb m)
  have RWD := hid (fun w => rword_any e w (may_small hb m))
  have OF1 : Hid (∀ w, Calls Try.prog 8 #[.int .u64 (wrd e), .int .i64 b] w fun r w' => r = .returned (.tuple #[.agg e.cs, .int .i64 0]) ∧ Kp (fun _ => False) w w') := fun w => by
    have h := of_yes (w := w) (wrd_u6 hb m) hb (by rw [prt_wrd hb m]; exact m)
    rw [prt_wrd hb m] at h
    exact h
  generalize wrd e = X at *
  have NE : Hid ((!eqE e e) = false) := (by show (!eqE e e) = false; rw [eqE_self]; rfl)
  have RB := hid (fun w => rbits_yes b w hb)
  have OF2 := hid (fun w => of_no (w := w) hx hb p)
  have RO := hid (fun w => rof_no (w := w) hx hb p)
  clear wf hx hb m p
  go_enter Try.func3, Try.ntmps3
  go_wp2_with (first | (refine wpList_load_en rfl (.tmp 3) rfl w.heap.size rfl HB.out ?_))
  refine (RM.out _).mono ?_
  rintro r w1 ⟨rfl, k1⟩
  have K1 := hid (HK.out.trans k1 (fun _ _ x => x))
  have E1 := hid (HB.out.kp k1 (fun x => x))
  go_wp2_with (first | (refine wpList_load_en rfl (.tmp 3) rfl w.heap.size rfl E1.out ?_))
  refine (WD.out _).mono ?_
  rintro r w2 ⟨rfl, k2⟩
  have K2 := hid (K1.out.trans k2 (fun _ _ x => x))
  have E2 := hid (E1.out.kp k2 (fun x => x))
  go_wp2_with fail
  refine (OF1.out _).mono ?_
  rintro r w3 ⟨rfl, k3⟩
  have K3 := hid (K2.out.trans k3 (fun _ _ x => x))
  have E3 := hid (E2.out.kp k3 (fun x => x))
  go_wp2_with (first | (refine wpList_store_en rfl (.tmp 10) (.tmp 32) rfl w3.heap.size rfl (e := zE) (e' := e) rfl (Eb.new w3 zE) ?_; intro w4 b4 j4; have k4 : Kp (fun _ => False) w3 w4 := ((Kp.refl (fun _ => False) w3).alloc _).trans j4 (fun i h1 h2 => by omega); have K4 := hid (K3.out.trans k4 (fun _ _ x => x)); have E4 := hid (E3.out.kp k4 (fun x => x)); have Y4 := hid b4) | (refine wpList_load_en rfl (.tmp 3) rfl w.heap.size rfl E4.out ?_))
  refine (CK.out _).mono ?_
  rintro r w5 ⟨rfl, k5⟩
  have K5 := hid (K4.out.trans k5 (fun _ _ x => x))
  have E5 := hid (E4.out.kp k5 (fun x => x))
  have Y5 := hid (Y4.out.kp k5 (fun x => x))
  go_wp2_with (first | (refine wpList_load_en_g (by rfl) (.tmp 3) rfl w.heap.size rfl E5.out ?_))
  refine (RWD.out _).mono ?_
  rintro r w6 ⟨rfl, k6⟩
  have K6 := hid (K5.out.trans k6 (fun _ _ x => x))
  have E6 := hid (E5.out.kp k6 (fun x => x))
  have Y6 := hid (Y5.out.kp k6 (fun x => x))
  go_wp2_with (first | (refine wpList_load_en_g (by rfl) (.tmp 10) rfl w3.heap.size rfl Y6.out ?_) | (refine wpList_load_en_g (by rfl) (.tmp 3) rfl w.heap.size rfl E6.out ?_) | (refine wpList_ne_en_g (by rfl) (.tmp 49) (.tmp 50) rfl (h := e) (k := e) rfl rfl NE.out ?_))
  refine (OF2.out _).mono ?_
  rintro r w7 ⟨rfl, k7⟩
  have K7 := hid (K6.out.trans k7 (fun _ _ x => x))
  have E7 := hid (E6.out.kp k7 (fun x => x))
  go_wp2_with (first | (refine wpList_store_en rfl (.tmp 12) (.tmp 73) rfl w7.heap.size rfl (e := zE) (e' := zE) rfl (Eb.new w7 zE) ?_; intro w8 b8 j8; have k8 : Kp (fun _ => False) w7 w8 := ((Kp.refl (fun _ => False) w7).alloc _).trans j8 (fun i h1 h2 => by omega); have K8 := hid (K7.out.trans k8 (fun _ _ x => x)); have E8 := hid (E7.out.kp k8 (fun x => x)); have Z8 := hid b8))
  refine (RB.out _).mono ?_
  rintro r w' ⟨rfl, rfl⟩
  go_wp2_with fail
  refine (RO.out _).mono ?_
  rintro r w9 ⟨rfl, k9⟩
  have K9 := hid (K8.out.trans k9 (fun _ _ x => x))
  have E9 := hid (E8.out.kp k9 (fun x => x))
  have Z9 := hid (Z8.out.kp k9 (fun x => x))
  go_wp2_with (first | (refine wpList_store_en rfl (.tmp 14) (.tmp 92) rfl w9.heap.size rfl (e := zE) (e' := zE) rfl (Eb.new w9 zE) ?_; intro w10 b10 j10; have k10 : Kp (fun _ => False) w9 w10 := ((Kp.refl (fun _ => False) w9).alloc _).trans j10 (fun i h1 h2 => by omega); have K10 := hid (K9.out.trans k10 (fun _ _ x => x)); have E10 := hid (E9.out.kp k10 (fun x => x)); have Z10 := hid (Z9.out.kp k10 (fun x => x)); have V10 := hid b10) | (refine wpList_load_en rfl (.tmp 12) rfl w7.heap.size rfl Z10.out ?_) | (refine wpList_eq_en rfl (.tmp 96) (.tmp 97) rfl (h := zE) (k := zE) rfl rfl (eqE_self _) ?_))
  refine (KN.out _).mono ?_
  rintro r w11 ⟨rfl, k11⟩
  have K11 := hid (K10.out.trans k11 (fun _ _ x => x))
  have E11 := hid (E10.out.kp k11 (fun x => x))
  have Z11 := hid (Z10.out.kp k11 (fun x => x))
  have V11 := hid (V10.out.kp k11 (fun x => x))
  go_wp2_with fail
  go_ret
  exact ⟨rfl, K11.out⟩
set_option maxRecDepth 100000 in
set_option maxHeartbeats 4000000 in
theorem words_c (e : En) (x b : Int) (w : World) (wf : e.Wf) (hx : U6 x) (hb : ¬ Bt b) (m : ¬ (Bt b ∧ MayE e b)) : Calls Try.prog 3 #[.agg e.cs, .int .u64 x, .int .i64 b] w fun r w' => r = .returned (.bool true) ∧ Kp (fun _ => False) w w' := by
  have HB := hid (Eb.new w e)
  have HK : Hid (Kp (fun _ => False) w (w.alloc (.cells e.cs 24))) := (Kp.refl _ _).alloc _
  have KN := hid known_any
  have RM := hid (fun w => rmay_no (w := w) wf m)
  have WD := hid (fun w => word_no (w := w) wf m)
  have CK := hid (fun w => check_no (w := w) wf m)
  have RB := hid (fun w => rbits_no b w hb)
  have OF2 := hid (fun w => of_nob x b w hb)
  clear wf hx hb m
  go_enter Try.func3, Try.ntmps3
  go_wp2_with (first | (refine wpList_load_en rfl (.tmp 3) rfl w.heap.size rfl HB.out ?_))
  refine (RM.out _).mono ?_
  rintro r w1 ⟨rfl, k1⟩
  have K1 := hid (HK.out.trans k1 (fun _ _ x => x))
  have E1 := hid (HB.out.kp k1 (fun x => x))
  go_wp2_with (first | (refine wpList_load_en rfl (.tmp 3) rfl w.heap.size rfl E1.out ?_))
  refine (WD.out _).mono ?_
  rintro r w2 ⟨rfl, k2⟩
  have K2 := hid (K1.out.trans k2 (fun _ _ x => x))
  have E2 := hid (E1.out.kp k2 (fun x => x))
  go_wp2_with (first | (refine wpList_load_en rfl (.tmp 3) rfl w.heap.size rfl E2.out ?_))
  refine (CK.out _).mono ?_
  rintro r w3 ⟨rfl, k3⟩
  have K3 := hid (K2.out.trans k3 (fun _ _ x => x))
  have E3 := hid (E2.out.kp k3 (fun x => x))
  go_wp2_with fail
  refine (OF2.out _).mono ?_
  rintro r w4 ⟨rfl, k4⟩
  have K4 := hid (K3.out.trans k4 (fun _ _ x => x))
  have E4 := hid (E3.out.kp k4 (fun x => x))
  go_wp2_with (first | (refine wpList_store_en rfl (.tmp 12) (.tmp 73) rfl w4.heap.size rfl (e := zE) (e' := zE) rfl (Eb.new w4 zE) ?_; intro w5 b5 j5; have k5 : Kp (fun _ => False) w4 w5 := ((Kp.refl (fun _ => False) w4).alloc _).trans j5 (fun i h1 h2 => by omega); have K5 := hid (K4.out.trans k5 (fun _ _ x => x)); have E5 := hid (E4.out.kp k5 (fun x => x)); have Z5 := hid b5))
  refine (RB.out _).mono ?_
  rintro r w' ⟨rfl, rfl⟩
  go_wp2_with (first | (refine wpList_load_en rfl (.tmp 12) rfl w4.heap.size rfl Z5.out ?_) | (refine wpList_eq_en rfl (.tmp 78) (.tmp 79) rfl (h := zE) (k := zE) rfl rfl (eqE_self _) ?_))
  refine (KN.out _).mono ?_
  rintro r w6 ⟨rfl, k6⟩
  have K6 := hid (K5.out.trans k6 (fun _ _ x => x))
  have E6 := hid (E5.out.kp k6 (fun x => x))
  have Z6 := hid (Z5.out.kp k6 (fun x => x))
  go_wp2_with fail
  go_ret
  exact ⟨rfl, K6.out⟩
set_option maxRecDepth 100000 in
set_option maxHeartbeats 4000000 in
theorem words_d (e : En) (x b : Int) (w : World) (wf : e.Wf) (hx : U6 x) (hb : Bt b) (m : ¬ (Bt b ∧ MayE e b)) (p : MayE (prt x) b) : Calls Try.prog 3 #[.agg e.cs, .int .u64 x, .int .i64 b] w fun r w' => r = .returned (.bool true) ∧ Kp (fun _ => False) w w' := by
  have HB := hid (Eb.new w e)
  have HK : Hid (Kp (fun _ => False) w (w.alloc (.cells e.cs 24))) := (Kp.refl _ _).alloc _
  have KN := hid known_any
  have RM := hid (fun w => rmay_no (w := w) wf m)
  have WD := hid (fun w => word_no (w := w) wf m)
  have CK := hid (fun w => check_no (w := w) wf m)
  have RB := hid (fun w => rbits_yes b w hb)
  have OF2 := hid (fun w => of_yes (w := w) hx hb p)
  have RO := hid (fun w => rof_yes (w := w) hx hb p)
  have WD2 := hid (fun w => word_yes (w := w) (prt_wf hx) hb p)
  have hwp := wrd_prt hx hb p
  rw [hwp] at WD2
  generalize prt x = Y at *
  clear hwp
  clear wf hx hb m p
  go_enter Try.func3, Try.ntmps3
  go_wp2_with (first | (refine wpList_load_en rfl (.tmp 3) rfl w.heap.size rfl HB.out ?_))
  refine (RM.out _).mono ?_
  rintro r w1 ⟨rfl, k1⟩
  have K1 := hid (HK.out.trans k1 (fun _ _ x => x))
  have E1 := hid (HB.out.kp k1 (fun x => x))
  go_wp2_with (first | (refine wpList_load_en rfl (.tmp 3) rfl w.heap.size rfl E1.out ?_))
  refine (WD.out _).mono ?_
  rintro r w2 ⟨rfl, k2⟩
  have K2 := hid (K1.out.trans k2 (fun _ _ x => x))
  have E2 := hid (E1.out.kp k2 (fun x => x))
  go_wp2_with (first | (refine wpList_load_en rfl (.tmp 3) rfl w.heap.size rfl E2.out ?_))
  refine (CK.out _).mono ?_
  rintro r w3 ⟨rfl, k3⟩
  have K3 := hid (K2.out.trans k3 (fun _ _ x => x))
  have E3 := hid (E2.out.kp k3 (fun x => x))
  go_wp2_with fail
  refine (OF2.out _).mono ?_
  rintro r w4 ⟨rfl, k4⟩
  have K4 := hid (K3.out.trans k4 (fun _ _ x => x))
  have E4 := hid (E3.out.kp k4 (fun x => x))
  go_wp2_with (first | (refine wpList_store_en rfl (.tmp 12) (.tmp 73) rfl w4.heap.size rfl (e := zE) (e' := Y) rfl (Eb.new w4 zE) ?_; intro w5 b5 j5; have k5 : Kp (fun _ => False) w4 w5 := ((Kp.refl (fun _ => False) w4).alloc _).trans j5 (fun i h1 h2 => by omega); have K5 := hid (K4.out.trans k5 (fun _ _ x => x)); have E5 := hid (E4.out.kp k5 (fun x => x)); have Z5 := hid b5))
  refine (RB.out _).mono ?_
  rintro r w' ⟨rfl, rfl⟩
  go_wp2_with fail
  refine (RO.out _).mono ?_
  rintro r w6 ⟨rfl, k6⟩
  have K6 := hid (K5.out.trans k6 (fun _ _ x => x))
  have E6 := hid (E5.out.kp k6 (fun x => x))
  have Z6 := hid (Z5.out.kp k6 (fun x => x))
  go_wp2_with (first | (refine wpList_store_en rfl (.tmp 14) (.tmp 92) rfl w6.heap.size rfl (e := zE) (e' := Y) rfl (Eb.new w6 zE) ?_; intro w7 b7 j7; have k7 : Kp (fun _ => False) w6 w7 := ((Kp.refl (fun _ => False) w6).alloc _).trans j7 (fun i h1 h2 => by omega); have K7 := hid (K6.out.trans k7 (fun _ _ x => x)); have E7 := hid (E6.out.kp k7 (fun x => x)); have Z7 := hid (Z6.out.kp k7 (fun x => x)); have V7 := hid b7) | (refine wpList_load_en rfl (.tmp 12) rfl w4.heap.size rfl Z7.out ?_))
  refine (WD2.out _).mono ?_
  rintro r w8 ⟨rfl, k8⟩
  have K8 := hid (K7.out.trans k8 (fun _ _ x => x))
  have E8 := hid (E7.out.kp k8 (fun x => x))
  have Z8 := hid (Z7.out.kp k8 (fun x => x))
  have V8 := hid (V7.out.kp k8 (fun x => x))
  go_wp2_with (first | (refine wpList_load_en rfl (.tmp 12) rfl w4.heap.size rfl Z8.out ?_) | (refine wpList_load_en rfl (.tmp 14) rfl w6.heap.size rfl V8.out ?_) | (refine wpList_eq_en rfl (.tmp 112) (.tmp 113) rfl (h := Y) (k := Y) rfl rfl (eqE_self _) ?_))
  refine (KN.out _).mono ?_
  rintro r w9 ⟨rfl, k9⟩
  have K9 := hid (K8.out.trans k9 (fun _ _ x => x))
  have E9 := hid (E8.out.kp k9 (fun x => x))
  have Z9 := hid (Z8.out.kp k9 (fun x => x))
  have V9 := hid (V8.out.kp k9 (fun x => x))
  go_wp2_with fail
  go_ret
  exact ⟨rfl, K9.out⟩
set_option maxRecDepth 100000 in
set_option maxHeartbeats 4000000 in
theorem words_e (e : En) (x b : Int) (w : World) (wf : e.Wf) (hx : U6 x) (hb : Bt b) (m : ¬ (Bt b ∧ MayE e b)) (p : ¬ MayE (prt x) b) : Calls Try.prog 3 #[.agg e.cs, .int .u64 x, .int .i64 b] w fun r w' => r = .returned (.bool true) ∧ Kp (fun _ => False) w w' := by
  have HB := hid (Eb.new w e)
  have HK : Hid (Kp (fun _ => False) w (w.alloc (.cells e.cs 24))) := (Kp.refl _ _).alloc _
  have KN := hid known_any
  have RM := hid (fun w => rmay_no (w := w) wf m)
  have WD := hid (fun w => word_no (w := w) wf m)
  have CK := hid (fun w => check_no (w := w) wf m)
  have RB := hid (fun w => rbits_yes b w hb)
  have OF2 := hid (fun w => of_no (w := w) hx hb p)
  have RO := hid (fun w => rof_no (w := w) hx hb p)
  clear wf hx hb m p
  go_enter Try.func3, Try.ntmps3
  go_wp2_with (first | (refine wpList_load_en rfl (.tmp 3) rfl w.heap.size rfl HB.out ?_))
  refine (RM.out _).mono ?_
  rintro r w1 ⟨rfl, k1⟩
  have K1 := hid (HK.out.trans k1 (fun _ _ x => x))
  have E1 := hid (HB.out.kp k1 (fun x => x))
  go_wp2_with (first | (refine wpList_load_en rfl (.tmp 3) rfl w.heap.size rfl E1.out ?_))
  refine (WD.out _).mono ?_
  rintro r w2 ⟨rfl, k2⟩
  have K2 := hid (K1.out.trans k2 (fun _ _ x => x))
  have E2 := hid (E1.out.kp k2 (fun x => x))
  go_wp2_with (first | (refine wpList_load_en rfl (.tmp 3) rfl w.heap.size rfl E2.out ?_))
  refine (CK.out _).mono ?_
  rintro r w3 ⟨rfl, k3⟩
  have K3 := hid (K2.out.trans k3 (fun _ _ x => x))
  have E3 := hid (E2.out.kp k3 (fun x => x))
  go_wp2_with fail
  refine (OF2.out _).mono ?_
  rintro r w4 ⟨rfl, k4⟩
  have K4 := hid (K3.out.trans k4 (fun _ _ x => x))
  have E4 := hid (E3.out.kp k4 (fun x => x))
  go_wp2_with (first | (refine wpList_store_en rfl (.tmp 12) (.tmp 73) rfl w4.heap.size rfl (e := zE) (e' := zE) rfl (Eb.new w4 zE) ?_; intro w5 b5 j5; have k5 : Kp (fun _ => False) w4 w5 := ((Kp.refl (fun _ => False) w4).alloc _).trans j5 (fun i h1 h2 => by omega); have K5 := hid (K4.out.trans k5 (fun _ _ x => x)); have E5 := hid (E4.out.kp k5 (fun x => x)); have Z5 := hid b5))
  refine (RB.out _).mono ?_
  rintro r w' ⟨rfl, rfl⟩
  go_wp2_with fail
  refine (RO.out _).mono ?_
  rintro r w6 ⟨rfl, k6⟩
  have K6 := hid (K5.out.trans k6 (fun _ _ x => x))
  have E6 := hid (E5.out.kp k6 (fun x => x))
  have Z6 := hid (Z5.out.kp k6 (fun x => x))
  go_wp2_with (first | (refine wpList_store_en rfl (.tmp 14) (.tmp 92) rfl w6.heap.size rfl (e := zE) (e' := zE) rfl (Eb.new w6 zE) ?_; intro w7 b7 j7; have k7 : Kp (fun _ => False) w6 w7 := ((Kp.refl (fun _ => False) w6).alloc _).trans j7 (fun i h1 h2 => by omega); have K7 := hid (K6.out.trans k7 (fun _ _ x => x)); have E7 := hid (E6.out.kp k7 (fun x => x)); have Z7 := hid (Z6.out.kp k7 (fun x => x)); have V7 := hid b7) | (refine wpList_load_en rfl (.tmp 12) rfl w4.heap.size rfl Z7.out ?_) | (refine wpList_eq_en rfl (.tmp 96) (.tmp 97) rfl (h := zE) (k := zE) rfl rfl (eqE_self _) ?_))
  refine (KN.out _).mono ?_
  rintro r w8 ⟨rfl, k8⟩
  have K8 := hid (K7.out.trans k8 (fun _ _ x => x))
  have E8 := hid (E7.out.kp k8 (fun x => x))
  have Z8 := hid (Z7.out.kp k8 (fun x => x))
  have V8 := hid (V7.out.kp k8 (fun x => x))
  go_wp2_with fail
  go_ret
  exact ⟨rfl, K8.out⟩
theorem words_walk (e : En) (x b : Int) (w : World) (wf : e.Wf) (hx : U6 x) : Calls Try.prog 3 #[.agg e.cs, .int .u64 x, .int .i64 b] w fun r w' => r = .returned (.bool true) ∧ Kp (fun _ => False) w w' := by
  by_cases hb : Bt b
  · by_cases m : MayE e b
    · by_cases p : MayE (prt x) b
      · exact words_a e x b w wf hx hb m p
      · exact words_b e x b w wf hx hb m p
    · by_cases p : MayE (prt x) b
      · exact words_d e x b w wf hx hb (fun h => m h.2) p
      · exact words_e e x b w wf hx hb (fun h => m h.2) p
  · exact words_c e x b w wf hx hb (fun h => hb h.1)
end Go.Proofs.Ytkmkhjcmgockkaa
