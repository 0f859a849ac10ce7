/- HuffBack: the law's walk. -/
import Derived.Test.YthpocbpleffdpaaXjX
namespace Go.Proofs.Ythpocbpleffdpaa
open Go.RowKit
set_option linter.unusedVariables false
set_option linter.unusedSimpArgs false
set_option maxRecDepth 100000
set_option maxHeartbeats 16000000 in
theorem law7_ok (w : World) (m : Nat) (hm : m ≤ 14) (hm5 : 5 ≤ m) (ao : Option Addr) (cap : Nat) (B : List Int) (hl : B.length ≤ 500) (hB : ∀ z ∈ B, 0 ≤ z ∧ z < 256) (hs : Src .u8 w ao B) :
    Calls Try.prog 7 #[.slice ao B.length cap, .int .i64 ((m + 1 : Nat) : Int)] w fun e w' => e = .returned (.bool true) ∧ Kp (fun _ => False) w w' := by
  have HS := hid hs
  have HB := hid hB
  obtain ⟨ss, hss⟩ : ∃ ss, ss = B.map (fun z => z % 40) := ⟨_, rfl⟩
  have hsl : ss.length = B.length := by rw [hss, List.length_map]
  have HSG : Hid (∀ j, j < B.length → ss.getD j 0 = B.getD j 0 % 40) := fun j hj => by
    rw [hss, List.getD_eq_getElem?_getD, List.getElem?_map, List.getD_eq_getElem?_getD, List.getElem?_eq_getElem hj]
    rfl
  have HSB : Hid (Sb ss) := fun j hj => by
    rw [HSG.out j (by omega)]
    omega
  clear hs hB hss
  go_enter Try.func7, Try.ntmps7
  go_wp2_with (first
    | (at_make; refine wpList_make_rw 37 38 4 Try.underlying37 info38 (by decide) rfl _ _ rfl 40 rfl rfl (by omega) ?_; intro w1 hrow hb1; have HF : Hid (Fr w w1 w1.heap.size w.heap.size (.slice none 0 0) ss 0) := ⟨OwnI.nil _ _ _ _, hrow, Kp.of_below hb1, ⟨Nat.le_refl _, hrow.lt, Nat.le_refl _⟩⟩; clear hrow hb1))
  generalize w1.heap.size = base at HF
  obtain ⟨Cb, hCb⟩ : ∃ Cb, Cb = w.heap.size := ⟨_, rfl⟩
  rw [← hCb] at HF ⊢
  clear hCb
  go_loopw [6, 7] (fun sv iv wr => ∃ (j : Nat), j ≤ B.length ∧ iv = .int .i64 j ∧ Hid (Fr w wr base Cb sv ss j)) (fun _ i _ => B.length - (intOf i).toNat)
  case atStart => exact ⟨0, Nat.zero_le _, rfl, HF⟩
  case round =>
    clear HF
    obtain ⟨j, hj, rfl, HF⟩ := hrel
    by_cases hjl : j < B.length
    · obtain ⟨b', off', rfl, hc'⟩ := (HS.out.kp HF.out.kp (fun _ _ _ h => h)) (by omega)
      have e1 := hc' j hjl
      obtain ⟨_, _, he0, hc0⟩ := HS.out (by omega)
      cases he0
      have e0 := hc0 j hjl
      have hz := HB.out (B.getD j 0) (by rw [List.getD_eq_getElem?_getD, List.getElem?_eq_getElem hjl]; exact List.getElem_mem _)
      have hg := HSG.out j hjl
      generalize B.getD j 0 = z at e0 e1 hz hg
      clear hc' hc0
      have hcb := ctr_bd HSB.out j (by omega) (z % 40).toNat
      have hbg := HF.out.big
      have hjs : j < ss.length := by omega
      have T1 : Hid ((ss.take j).length + ([z % 40] : List Int).length ≤ 17592186044416) := by show _ ≤ _; simp; omega
      have HG := hid hg
      clear hg
      go_wp2_with (first
        | (at_builtin; refine wpList_append_i 22 3 8 Try.underlying22 infoI (by decide) rfl (.tmp 47) (.tmp 54) rfl base u6 (ss.take j) rfl (HF.out.own.alloc _) _ _ _ [z % 40] rfl rfl (fun e => by cases e) (row_src (tl := []) (Rw.new .i64 3 wr [z % 40])) T1.out (by simp; omega) ?_; intro v2 w2 o2 q2 n2 b2; obtain ⟨k2, r2⟩ := HF.out.mid b2; have e2 := kp_cellh k2 e0 (fun h => h); have c2 := r2.cell (z % 40).toNat (by rw [ctr_len]; omega); have f2 := r2.frozen (z % 40).toNat; have HN := hid (HF.out.next hjs b2 (by rw [HG.out]; exact o2)); rw [HG.out] at HN; generalize (ctr ss j).getD (z % 40).toNat 0 = x at HN c2 hcb; clear k2 r2 o2 q2 n2 b2))
      exact ⟨⟨j + 1, by omega, rfl, HN.out⟩, by simp [intOf]; omega⟩
    · have hjs : j = ss.length := by omega
      rw [hjs] at HF
      have HLN := hid (HF.out.lengths HSB.out (by omega) hm hm5)
      clear hsl HSG HB HS
      go_wp2_with (first
        | (go_at_call 18; refine HLN.out.mono ?_; rintro _ w2 ⟨G, Y, rfl, hpl⟩; have HPL := hid hpl; clear hpl HLN)
        | (go_at_call 23; refine HPL.out.mono ?_; rintro _ X ⟨P, rfl, hmi⟩; have hge := hmi.cmp.1; obtain ⟨av, hav⟩ : ∃ av, av = ctot Y (ctr ss ss.length) 40 := ⟨_, rfl⟩; obtain ⟨bv, hbv⟩ : ∃ bv, bv = ctot (hzl (ctr ss ss.length)) (ctr ss ss.length) 40 := ⟨_, rfl⟩; have HCY := hid (hmi.costY (Kp.refl _ X)); have HCP : Hid (∀ U, Kp (fun _ => False) X U → Calls Try.prog 25 #[.slice (some ⟨P, 0, none⟩) 40 40, .slice (some ⟨Cb, 0, none⟩) 40 40] U fun e w' => e = .returned (.tuple #[.int .u64 (bv : Nat), .int .i64 0]) ∧ Kp (fun _ => False) X w') := (fun U k => by rw [hbv]; exact hmi.costP k); rw [← hav] at HCY hge; rw [← hbv] at hge; have hq1 : ¬ av < bv := (by omega); have hq2 : decide (av < bv) = false := decide_eq_false hq1; have hq3 : decide ((av : Int) < (bv : Int)) = false := decide_eq_false (by omega); have HMI := hid hmi; have HA := hid hav; have HBV := hid hbv; clear hmi HPL hav hbv)
        | (go_at_call 13; refine (num_any _ _).mono ?_; rintro _ _ ⟨rfl, rfl⟩)
        | (go_at_call 25; refine HCY.out.mono ?_; rintro _ X2 ⟨rfl, k2⟩; have HCP2 := hid (HCP.out _ k2); clear k2 HCY)
        | (go_at_call 25; refine HCP2.out.mono ?_; rintro _ X3 ⟨rfl, k3⟩; have HM3 := hid (HMI.out.ok k3); clear k3 HCP HCP2 HMI))
      obtain ⟨zz, hzz⟩ : ∃ zz, zz = ctr ss ss.length := ⟨_, rfl⟩
      obtain ⟨PP, hPP⟩ : ∃ PP, PP = hzl zz := ⟨_, rfl⟩
      have HPc : Hid (∀ U, Kp (fun _ => False) X3 U → ∀ i, i < 40 → U.cell? ⟨P, i, none⟩ = some (.int .i64 (PP.getD i 0))) := fun U k i hi => by
        rw [hPP, hzz]
        exact (HM3.out.rowP.kp k (fun x => x)).cell i (by rw [hzl_len, ctr_len]; exact hi)
      have HGc : Hid (∀ U, Kp (fun _ => False) X3 U → ∀ i, i < 40 → U.cell? ⟨G, i, none⟩ = some (.int .i64 (Y.getD i 0))) := fun U k i hi => (HM3.out.rowY.kp k (fun x => x)).cell i (by rw [HM3.out.ylen]; exact hi)
      have HCc : Hid (∀ U, Kp (fun _ => False) X3 U → ∀ i, i < 40 → U.cell? ⟨Cb, i, none⟩ = some (.int .u32 (zz.getD i 0))) := fun U k i hi => by
        rw [hzz]
        exact (HM3.out.rowC.kp k (fun x => x)).cell i (by rw [ctr_len]; exact hi)
      have HMo : Hid (∀ i k, i < 40 → k < 40 → zz.getD k 0 < zz.getD i 0 → 0 < zz.getD k 0 → Y.getD i 0 ≤ Y.getD k 0) := fun i k hi hk => by
        have := HM3.out.best.mono i k (by rw [ctr_len]; exact hi) (by rw [ctr_len]; exact hk)
        rw [hzz]
        exact this
      have HAB : Hid (shp PP m 40 = true → av = bv) := fun h => by
        rw [hPP, hzz] at h
        rw [HA.out, HBV.out, ← HM3.out.cmp.2.1 h]
      have HAV : Hid (av = lgn Y ss ss.length) := by rw [Hid, HA.out]; exact HM3.out.cmp.2.2
      clear HA HBV hzz hPP HF
      go_loopw [16, 17] (fun dv iv wr => ∃ (i : Nat) (b : Bool), i ≤ 40 ∧ iv = .int .i64 i ∧ dv = .bool b ∧ Hid (b = shp PP m i) ∧ Hid (Kp (fun _ => False) X3 wr)) (fun _ iv _ => 40 - (intOf iv).toNat)
      case atStart => exact ⟨0, true, by omega, rfl, rfl, rfl, Kp.refl _ _⟩
      case round =>
        obtain ⟨i, b, hi, rfl, rfl, HW, HK⟩ := hrel
        by_cases hil : i < 40
        · have di : decide ((i : Int) < 40) = true := decide_eq_true (by omega)
          have di2 : decide (i < 40) = true := decide_eq_true hil
          have cp := HPc.out wr HK.out i hil
          have HN : Hid (shp PP m (i + 1) = (shp PP m i && decide (PP.getD i 0 ≤ ((m + 1 : Nat) : Int)))) := rfl
          generalize PP.getD i 0 = pz at cp HN
          rw [← HW.out] at HN
          cases b with
          | true =>
            have HN2 : Hid (decide (pz ≤ ((m + 1 : Nat) : Int)) = shp PP m (i + 1)) := by rw [Hid, HN.out]; rfl
            clear HN HW
            go_wp2_with fail
            go_loopw [18] (fun iv wr2 => ∃ k : Nat, k ≤ 40 ∧ iv = .int .i64 k ∧ Hid (Kp (fun _ => False) X3 wr2)) (fun iv _ => 40 - (intOf iv).toNat)
            case atStart => exact ⟨0, by omega, rfl, HK.out⟩
            case round =>
              clear HK
              obtain ⟨k, hk, rfl, HK⟩ := hrel
              by_cases hkl : k < 40
              · have ci := HCc.out _ HK.out i hil
                have ck := HCc.out _ HK.out k hkl
                have gi := HGc.out _ HK.out i hil
                have gk := HGc.out _ HK.out k hkl
                have hmn := HMo.out i k hil hkl
                generalize zz.getD i 0 = zi at ci hmn
                generalize zz.getD k 0 = zk at ck hmn
                generalize Y.getD i 0 = yi at gi hmn
                generalize Y.getD k 0 = yk at gk hmn
                by_cases h1 : zk < zi
                · have d1 : decide (zk < zi) = true := decide_eq_true h1
                  by_cases h2 : 0 < zk
                  · have d2 : decide (0 < zk) = true := decide_eq_true h2
                    have h3 : ¬ yk < yi := by have := hmn h1 h2; omega
                    have d3 : decide (yk < yi) = false := decide_eq_false h3
                    clear hmn
                    go_wp2_with fail
                    go_quiet (fail)
                    go_wp2_with fail
                    go_roundw
                    case rel => exact ⟨k + 1, by omega, by go_num, HK.out.trans (drewN_kp _ _ _) (fun _ _ h => h)⟩
                    case measure => simp [intOf]; omega
                  · have d2 : decide (0 < zk) = false := decide_eq_false h2
                    clear hmn
                    go_wp2_with fail
                    go_quiet (fail)
                    go_wp2_with fail
                    go_roundw
                    case rel => exact ⟨k + 1, by omega, by go_num, HK.out.trans (drewN_kp _ _ _) (fun _ _ h => h)⟩
                    case measure => simp [intOf]; omega
                · have d1 : decide (zk < zi) = false := decide_eq_false h1
                  clear hmn
                  go_wp2_with fail
                  go_quiet (fail)
                  go_wp2_with fail
                  go_roundw
                  case rel => exact ⟨k + 1, by omega, by go_num, HK.out.trans (drewN_kp _ _ _) (fun _ _ h => h)⟩
                  case measure => simp [intOf]; omega
              · obtain rfl : k = 40 := by omega
                go_wp2_with fail
                exact ⟨⟨i + 1, decide (pz ≤ ((m + 1 : Nat) : Int)), by omega, rfl, rfl, HN2.out, HK.out⟩, by simp [intOf]; omega⟩
          | false =>
            have HN2 : Hid (false = shp PP m (i + 1)) := by rw [Hid, HN.out]; rfl
            clear HN HW
            go_wp2_with fail
            go_loopw [18] (fun iv wr2 => ∃ k : Nat, k ≤ 40 ∧ iv = .int .i64 k ∧ Hid (Kp (fun _ => False) X3 wr2)) (fun iv _ => 40 - (intOf iv).toNat)
            case atStart => exact ⟨0, by omega, rfl, HK.out⟩
            case round =>
              clear HK
              obtain ⟨k, hk, rfl, HK⟩ := hrel
              by_cases hkl : k < 40
              · have ci := HCc.out _ HK.out i hil
                have ck := HCc.out _ HK.out k hkl
                have gi := HGc.out _ HK.out i hil
                have gk := HGc.out _ HK.out k hkl
                have hmn := HMo.out i k hil hkl
                generalize zz.getD i 0 = zi at ci hmn
                generalize zz.getD k 0 = zk at ck hmn
                generalize Y.getD i 0 = yi at gi hmn
                generalize Y.getD k 0 = yk at gk hmn
                by_cases h1 : zk < zi
                · have d1 : decide (zk < zi) = true := decide_eq_true h1
                  by_cases h2 : 0 < zk
                  · have d2 : decide (0 < zk) = true := decide_eq_true h2
                    have h3 : ¬ yk < yi := by have := hmn h1 h2; omega
                    have d3 : decide (yk < yi) = false := decide_eq_false h3
                    clear hmn
                    go_wp2_with fail
                    go_quiet (fail)
                    go_wp2_with fail
                    go_roundw
                    case rel => exact ⟨k + 1, by omega, by go_num, HK.out.trans (drewN_kp _ _ _) (fun _ _ h => h)⟩
                    case measure => simp [intOf]; omega
                  · have d2 : decide (0 < zk) = false := decide_eq_false h2
                    clear hmn
                    go_wp2_with fail
                    go_quiet (fail)
                    go_wp2_with fail
                    go_roundw
                    case rel => exact ⟨k + 1, by omega, by go_num, HK.out.trans (drewN_kp _ _ _) (fun _ _ h => h)⟩
                    case measure => simp [intOf]; omega
                · have d1 : decide (zk < zi) = false := decide_eq_false h1
                  clear hmn
                  go_wp2_with fail
                  go_quiet (fail)
                  go_wp2_with fail
                  go_roundw
                  case rel => exact ⟨k + 1, by omega, by go_num, HK.out.trans (drewN_kp _ _ _) (fun _ _ h => h)⟩
                  case measure => simp [intOf]; omega
              · obtain rfl : k = 40 := by omega
                go_wp2_with fail
                exact ⟨⟨i + 1, false, by omega, rfl, rfl, HN2.out, HK.out⟩, by simp [intOf]; omega⟩
        · obtain rfl : i = 40 := by omega
          have HM4 := hid (HM3.out.ok HK.out)
          obtain ⟨so, oc, hsv, hso⟩ := HM3.out.own
          have HSO := hid hso
          clear hso
          subst hsv
          have hab : b = true → av = bv := fun hb => HAB.out (by rw [← HW.out]; exact hb)
          have HNEW := hid HM4.out.new
          have hav : av ≤ 7500 := by rw [HAV.out]; exact HM4.out.lgn
          clear HPc HGc HCc HMo HAB HW
          cases b with
          | true =>
            obtain rfl := hab rfl
            clear hab
            go_wp2_with (first
              | (go_at_call 26; refine HNEW.out.mono ?_; rintro _ w1 ⟨g, la, ca, sa, lc, cc, sc, S, rfl, hcd, hlt, k1⟩; have HCD := hid hcd; have HLT := hid hlt; have K1 := hid k1; clear hcd hlt k1)
              | (go_at_call 31; refine (Bz.newO w1).mono ?_; rintro _ w2 ⟨gw, rfl, o1⟩; obtain ⟨so2, oc2, e2, hput⟩ := HM4.out.put HCD.out K1.out o1; cases e2; rw [← HAV.out] at hput; have HPUT := hid hput; clear hput o1)
              | (go_at_call 13; refine (num_any _ _).mono ?_; rintro _ _ ⟨rfl, rfl⟩)
              | (go_at_call 33; refine HPUT.out.mono ?_; rintro _ w3 ⟨rfl, o3⟩; have O3 := hid o3; clear o3)
              | (go_at_call 36; refine (Bz.bytesO w1 w3 gw av (pvn Y ss ss.length) (by omega) O3.out).mono ?_; rintro _ w4 ⟨GB, rfl, hGB, rB, o4⟩; have HNR := hid (Mi.reader HAV.out rB); have O4 := hid o4; clear rB o4)
              | (go_at_call 40; refine HNR.out.mono ?_; rintro _ w5 ⟨gr, GR, rfl, hgr, rR, k5⟩; have O5 := hid (O4.out.ok k5); have RR := hid rR; have HNE : Hid (∀ i, Cdf g la ca sa i → i ≠ gr) := (fun i hi => by have h1 := (HLT.out i hi).2; have h2 := (wro_kp2 O4.out).size; omega); have hgr1 : w1.heap.size ≤ gr := (by have h2 := (wro_kp2 O4.out).size; omega); clear rR k5)
              | (go_at_call 35; refine (Mi.wlen (by omega) O5.out).mono ?_; rintro _ w6 ⟨rfl, o6⟩; have O6 := hid o6; clear o6))
            have RR6 := hid (RR.out.ok O6.out)
            have K6 := hid ((wro_kp2 O5.out).trans (kpB O6.out) (fun _ _ x => x))
            have KW := hid (HM4.out.kp.trans K1.out (fun _ _ x => x))
            have HSS : Hid (∀ U, Kp (fun _ => False) w1 U → Src .i64 U so ss) := fun U k => ((HSO.out.kp HK.out (fun _ _ _ x => x)).kp K1.out (fun _ _ _ x => x)).kp k (fun _ _ _ x => x)
            have HTK : Hid (∀ U j, j < ss.length → Kp (fun _ => False) w1 U → Bz.Rd U gr (some ⟨GR, 0, none⟩) ((av + 7) / 8) (pb Y ss) (lgn Y ss j) → Calls Try.prog 41 #[.pointer (some ⟨g, 0, none⟩), .pointer (some ⟨gr, 0, none⟩)] U fun e w' => e = .returned (.tuple #[.int .i64 (ss.getD j 0), .int .i64 0]) ∧ Bz.Rd w' gr (some ⟨GR, 0, none⟩) ((av + 7) / 8) (pb Y ss) (lgn Y ss (j + 1)) ∧ Kp (fun _ => False) w1 w') := fun U j hj k hr => (HM4.out.take (HCD.out.ok k) hj hr HNE.out).mono (by
              rintro e w' ⟨h1, h2, h3⟩
              exact ⟨h1, h2, k.trans h3 (fun i hi e => by omega)⟩)
            have HN40 := hid HM4.out.few.1
            clear HM4 HSO HNEW HPUT HNR HCD HLT K1 O3 O4 O5 O6 RR HNE HK HM3
            go_loopw [25] (fun iv wr2 => ∃ j : Nat, j ≤ ss.length ∧ iv = .int .i64 j ∧ Hid (Bz.Rd wr2 gr (some ⟨GR, 0, none⟩) ((av + 7) / 8) (pb Y ss) (lgn Y ss j)) ∧ Hid (Kp (fun _ => False) w1 wr2)) (fun iv _ => ss.length - (intOf iv).toNat)
            case atStart => exact ⟨0, Nat.zero_le _, rfl, RR6.out, K6.out⟩
            case round =>
              clear RR6 K6
              obtain ⟨q, hq, rfl, HR, HK⟩ := hrel
              by_cases hql : q < ss.length
              · have HT := hid (HTK.out _ q hql HK.out HR.out)
                obtain ⟨bs, os, rfl, hcs⟩ := HSS.out _ HK.out (by omega)
                have HSC : Hid (∀ U, Kp (fun _ => False) w1 U → U.cell? ⟨bs, os + q, none⟩ = some (.int .i64 (ss.getD q 0))) := fun U k => by
                  obtain ⟨_, _, e, hc⟩ := HSS.out U k (by omega)
                  cases e
                  exact hc q hql
                clear hcs
                generalize ss.getD q 0 = x at HT HSC
                go_wp2_with (first
                  | (go_at_call 41; refine HT.out.mono ?_; rintro _ w7 ⟨rfl, r7, k7⟩; have R7 := hid r7; have K7 := hid k7; have cs := HSC.out w7 k7; clear r7 k7 HT)
                  | (go_at_call 13; refine (num_any _ _).mono ?_; rintro _ _ ⟨rfl, rfl⟩))
                exact ⟨⟨q + 1, by omega, rfl, R7.out, K7.out⟩, by simp [intOf]; omega⟩
              · obtain rfl : q = ss.length := by omega
                have HAT : Hid (Calls Try.prog 42 #[.pointer (some ⟨gr, 0, none⟩)] _ fun e w' => e = .returned (.int .i64 av) ∧ Kp (fun _ => False) w1 w') := (Bz.at_k _ _ _ _ _ _ HR.out).mono (by
                  rintro e w' ⟨h1, h2⟩
                  exact ⟨by rw [h1, HAV.out], HK.out.trans (kpB h2) (fun _ _ x => x)⟩)
                go_wp2_with (first
                  | (go_at_call 42; refine HAT.out.mono ?_; rintro _ w8 ⟨rfl, k8⟩; have K8 := hid k8; clear k8)
                  | (go_at_call 14; refine (works_any _).mono ?_; rintro e w9 ⟨rfl, b9⟩))
                go_ret
                exact ⟨rfl, (KW.out.trans K8.out (fun _ _ x => x)).trans (Kp.of_below b9) (fun _ _ x => x)⟩
          | false =>
            clear hab
            go_wp2_with (first
              | (go_at_call 26; refine HNEW.out.mono ?_; rintro _ w1 ⟨g, la, ca, sa, lc, cc, sc, S, rfl, hcd, hlt, k1⟩; have HCD := hid hcd; have HLT := hid hlt; have K1 := hid k1; clear hcd hlt k1)
              | (go_at_call 31; refine (Bz.newO w1).mono ?_; rintro _ w2 ⟨gw, rfl, o1⟩; obtain ⟨so2, oc2, e2, hput⟩ := HM4.out.put HCD.out K1.out o1; cases e2; rw [← HAV.out] at hput; have HPUT := hid hput; clear hput o1)
              | (go_at_call 13; refine (num_any _ _).mono ?_; rintro _ _ ⟨rfl, rfl⟩)
              | (go_at_call 33; refine HPUT.out.mono ?_; rintro _ w3 ⟨rfl, o3⟩; have O3 := hid o3; clear o3)
              | (go_at_call 36; refine (Bz.bytesO w1 w3 gw av (pvn Y ss ss.length) (by omega) O3.out).mono ?_; rintro _ w4 ⟨GB, rfl, hGB, rB, o4⟩; have HNR := hid (Mi.reader HAV.out rB); have O4 := hid o4; clear rB o4)
              | (go_at_call 40; refine HNR.out.mono ?_; rintro _ w5 ⟨gr, GR, rfl, hgr, rR, k5⟩; have O5 := hid (O4.out.ok k5); have RR := hid rR; have HNE : Hid (∀ i, Cdf g la ca sa i → i ≠ gr) := (fun i hi => by have h1 := (HLT.out i hi).2; have h2 := (wro_kp2 O4.out).size; omega); have hgr1 : w1.heap.size ≤ gr := (by have h2 := (wro_kp2 O4.out).size; omega); clear rR k5)
              | (go_at_call 35; refine (Mi.wlen (by omega) O5.out).mono ?_; rintro _ w6 ⟨rfl, o6⟩; have O6 := hid o6; clear o6))
            have RR6 := hid (RR.out.ok O6.out)
            have K6 := hid ((wro_kp2 O5.out).trans (kpB O6.out) (fun _ _ x => x))
            have KW := hid (HM4.out.kp.trans K1.out (fun _ _ x => x))
            have HSS : Hid (∀ U, Kp (fun _ => False) w1 U → Src .i64 U so ss) := fun U k => ((HSO.out.kp HK.out (fun _ _ _ x => x)).kp K1.out (fun _ _ _ x => x)).kp k (fun _ _ _ x => x)
            have HTK : Hid (∀ U j, j < ss.length → Kp (fun _ => False) w1 U → Bz.Rd U gr (some ⟨GR, 0, none⟩) ((av + 7) / 8) (pb Y ss) (lgn Y ss j) → Calls Try.prog 41 #[.pointer (some ⟨g, 0, none⟩), .pointer (some ⟨gr, 0, none⟩)] U fun e w' => e = .returned (.tuple #[.int .i64 (ss.getD j 0), .int .i64 0]) ∧ Bz.Rd w' gr (some ⟨GR, 0, none⟩) ((av + 7) / 8) (pb Y ss) (lgn Y ss (j + 1)) ∧ Kp (fun _ => False) w1 w') := fun U j hj k hr => (HM4.out.take (HCD.out.ok k) hj hr HNE.out).mono (by
              rintro e w' ⟨h1, h2, h3⟩
              exact ⟨h1, h2, k.trans h3 (fun i hi e => by omega)⟩)
            have HN40 := hid HM4.out.few.1
            clear HM4 HSO HNEW HPUT HNR HCD HLT K1 O3 O4 O5 O6 RR HNE HK HM3
            go_loopw [25] (fun iv wr2 => ∃ j : Nat, j ≤ ss.length ∧ iv = .int .i64 j ∧ Hid (Bz.Rd wr2 gr (some ⟨GR, 0, none⟩) ((av + 7) / 8) (pb Y ss) (lgn Y ss j)) ∧ Hid (Kp (fun _ => False) w1 wr2)) (fun iv _ => ss.length - (intOf iv).toNat)
            case atStart => exact ⟨0, Nat.zero_le _, rfl, RR6.out, K6.out⟩
            case round =>
              clear RR6 K6
              obtain ⟨q, hq, rfl, HR, HK⟩ := hrel
              by_cases hql : q < ss.length
              · have HT := hid (HTK.out _ q hql HK.out HR.out)
                obtain ⟨bs, os, rfl, hcs⟩ := HSS.out _ HK.out (by omega)
                have HSC : Hid (∀ U, Kp (fun _ => False) w1 U → U.cell? ⟨bs, os + q, none⟩ = some (.int .i64 (ss.getD q 0))) := fun U k => by
                  obtain ⟨_, _, e, hc⟩ := HSS.out U k (by omega)
                  cases e
                  exact hc q hql
                clear hcs
                generalize ss.getD q 0 = x at HT HSC
                go_wp2_with (first
                  | (go_at_call 41; refine HT.out.mono ?_; rintro _ w7 ⟨rfl, r7, k7⟩; have R7 := hid r7; have K7 := hid k7; have cs := HSC.out w7 k7; clear r7 k7 HT)
                  | (go_at_call 13; refine (num_any _ _).mono ?_; rintro _ _ ⟨rfl, rfl⟩))
                exact ⟨⟨q + 1, by omega, rfl, R7.out, K7.out⟩, by simp [intOf]; omega⟩
              · obtain rfl : q = ss.length := by omega
                have HAT : Hid (Calls Try.prog 42 #[.pointer (some ⟨gr, 0, none⟩)] _ fun e w' => e = .returned (.int .i64 av) ∧ Kp (fun _ => False) w1 w') := (Bz.at_k _ _ _ _ _ _ HR.out).mono (by
                  rintro e w' ⟨h1, h2⟩
                  exact ⟨by rw [h1, HAV.out], HK.out.trans (kpB h2) (fun _ _ x => x)⟩)
                go_wp2_with (first
                  | (go_at_call 42; refine HAT.out.mono ?_; rintro _ w8 ⟨rfl, k8⟩; have K8 := hid k8; clear k8)
                  | (go_at_call 14; refine (works_any _).mono ?_; rintro e w9 ⟨rfl, b9⟩))
                go_ret
                exact ⟨rfl, (KW.out.trans K8.out (fun _ _ x => x)).trans (Kp.of_below b9) (fun _ _ x => x)⟩
end Go.Proofs.Ythpocbpleffdpaa
