import Derived.Test.YtnccklbnncaeoaaGreatJbq
import Derived.Test.YtnccklbnncaeoaaGreatJbd
/- CacheStates: the walk. -/
namespace Go.Proofs.YtnccklbnncaeoaaGreat
open Go.RowKit
set_option linter.unusedVariables false
set_option linter.unusedSimpArgs false
theorem kbound {bits k : Nat} (hb : 9 ≤ bits ∧ bits ≤ 16) (hk : k ≤ 4095) : k < 268435456 / 2 ^ bits := by
  have hp := pow_le bits hb
  have : 268435456 / 65536 ≤ 268435456 / 2 ^ bits := Nat.div_le_div_left hp.2 (by omega)
  omega
theorem kp_bl {w w' : World} (k : Kp (fun _ => False) w w') : Below w.heap.size w w' := k.below (Nat.le_refl _) (fun _ h => h.elim)
set_option maxRecDepth 100000 in
set_option maxHeartbeats 8000000 in
theorem states_out (pg bt : Int) (ao : Option Addr) (m cap : Nat) (w : World) (hout : pg < 0 ∨ 20 < pg ∨ m < 1 ∨ 512 < m ∨ bt < 9 ∨ 16 < bt) :
    Calls Tryz.prog 8 #[.int .i64 pg, .slice ao m cap, .int .i64 bt] w fun e w' => e = .returned (.bool true) ∧ Kp (fun _ => False) w w' := by
  have HW := hid (works_any w)
  have e0 : (m : Int) < 1 ↔ m < 1 := by omega
  have e1 : (512 : Int) < m ↔ 512 < m := by omega
  by_cases h1 : pg < 0
  · go_enter Tryz.func8, Tryz.ntmps8
    go_wp2_with (first | (go_at_call 10; refine HW.out.mono ?_; rintro _ w1 ⟨rfl, k1⟩))
    go_ret
    exact ⟨rfl, k1⟩
  by_cases h2 : 20 < pg
  · go_enter Tryz.func8, Tryz.ntmps8
    go_wp2_with (first | (go_at_call 10; refine HW.out.mono ?_; rintro _ w1 ⟨rfl, k1⟩))
    go_ret
    exact ⟨rfl, k1⟩
  by_cases h3 : m < 1
  · have h3' : (m : Int) < 1 := e0.2 h3
    go_enter Tryz.func8, Tryz.ntmps8
    go_wp2_with (first | (go_at_call 10; refine HW.out.mono ?_; rintro _ w1 ⟨rfl, k1⟩))
    go_ret
    exact ⟨rfl, k1⟩
  have h3' : ¬ (m : Int) < 1 := fun h => h3 (e0.1 h)
  by_cases h4 : 512 < m
  · have h4' : (512 : Int) < m := e1.2 h4
    go_enter Tryz.func8, Tryz.ntmps8
    go_wp2_with (first | (go_at_call 10; refine HW.out.mono ?_; rintro _ w1 ⟨rfl, k1⟩))
    go_ret
    exact ⟨rfl, k1⟩
  have h4' : ¬ (512 : Int) < m := fun h => h4 (e1.1 h)
  by_cases h5 : bt < 9
  · go_enter Tryz.func8, Tryz.ntmps8
    go_wp2_with (first | (go_at_call 10; refine HW.out.mono ?_; rintro _ w1 ⟨rfl, k1⟩))
    go_ret
    exact ⟨rfl, k1⟩
  by_cases h6 : 16 < bt
  · go_enter Tryz.func8, Tryz.ntmps8
    go_wp2_with (first | (go_at_call 10; refine HW.out.mono ?_; rintro _ w1 ⟨rfl, k1⟩))
    go_ret
    exact ⟨rfl, k1⟩
  omega
theorem src_lt {w : World} {ao : Option Addr} {xs : List Int} (h : Src .u8 w ao xs) (hx : xs ≠ []) : ∀ r off, ao = some ⟨r, off, none⟩ → r < w.heap.size := fun r off e => by
  obtain ⟨b, o, e2, hc⟩ := h (List.length_pos_iff.2 hx)
  rw [e] at e2
  cases e2
  exact block_lt_of_cell (hc 0 (List.length_pos_iff.2 hx))
theorem cvt {w : World} {ao : Option Addr} {len c : Nat} {xs : List Int} (hl : xs.length = len) (h : Src .u8 w ao xs) : (convert 47 9 (.slice ao len c)).run Tryz.prog w = .ok (.string (strOfNums xs)) w := by
  subst hl
  exact run_convert_rw w 47 9 5 Tryz.underlying47 Tryz.underlying5 Tryz.underlying9 ao _ c xs rfl h
theorem back_ldz {bits k : Nat} {zs : List Int} {q2 q3 : Gf} (hz : zs.length = 2 ^ bits) (h2 : q2 = gwr (k * 2 ^ bits) zs ⟨100, zero, []⟩ (pcs (k * 2 ^ bits) zs.length)) (h3 : q3 = qfl q2 []) : ldz q3 bits k = zs ∧ 1 ≤ q2.ps.length := by
  have hp := Nat.two_pow_pos bits
  have hne : zs ≠ [] := fun e => by rw [e] at hz; simp at hz; omega
  obtain ⟨g1, g2⟩ := gwr_all (k * 2 ^ bits) zs ⟨100, zero, []⟩ hne
  rw [← h2] at g1 g2
  have hc : ∀ i, cont q3 i = if k * 2 ^ bits ≤ i ∧ i < k * 2 ^ bits + zs.length then zs.getD (i - k * 2 ^ bits) 0 else 0 := fun i => by
    rw [h3, cont_fl, g2]
    rfl
  have hs : q3.sz = max 100 (k * 2 ^ bits + zs.length) := by rw [h3, qfl_nil]; exact g1
  constructor
  · refine ext_getD (by rw [ldz_len, hz]) (fun j hj => ?_)
    rw [ldz_len] at hj
    rw [ldz_get (fun i hi => ?_) bits k j hj, hc, if_pos (by omega)]
    · congr 1; omega
    · rw [hc, if_neg (by omega)]
  · rw [h2, gwr_len]
    rw [pcs_step _ _ (by omega)]
    simp
theorem splice_take (L xs : List Int) : (splice L 0 xs).take xs.length = xs := by
  unfold splice
  simp
set_option maxRecDepth 100000 in
set_option maxHeartbeats 16000000 in
theorem states_in (k bits : Nat) (ao : Option Addr) (m cap : Nat) (xs : List Int) (w : World) (hk : k ≤ 20) (hm1 : 1 ≤ m) (hm2 : m ≤ 512) (hb : 9 ≤ bits ∧ bits ≤ 16) (hl : xs.length = m) (hcap : m ≤ cap) (hnil : ao = none → cap = 0) (hS : Src .u8 w ao xs) :
    Calls Tryz.prog 8 #[.int .i64 k, .slice ao m cap, .int .i64 bits] w fun e w' => e = .returned (.bool true) ∧ Kp (fun _ => False) w w' := by
  have hkb := kbound hb (k := k) (by omega)
  have hp := pow_le bits hb
  have hxn : xs ≠ [] := fun e => by rw [e] at hl; simp at hl; omega
  have hxl : xs.length ≤ 2 ^ bits := by omega
  have HF : Hid (Calls Tryz.prog 11 #[.int .i64 100, .slice none 0 0] w fun e w' => ∃ g F, e = .returned (ptr g) ∧ Sw nmf g 2 F ⟨100, zero, []⟩ [] w' ∧ (∀ i, F i → w.heap.size ≤ i) ∧ Kp (fun _ => False) w w') := file_nil 100 (by omega) w
  have HNU := hid num_any
  have c1 : ¬ (k : Int) < 0 := by omega
  have c2 : ¬ (20 : Int) < k := by omega
  have c3 : ¬ (m : Int) < 1 := by omega
  have c4 : ¬ (512 : Int) < m := by omega
  have c5 : ¬ (bits : Int) < 9 := by omega
  have c6 : ¬ (16 : Int) < bits := by omega
  have HS := hid hS
  have HSL := hid (src_lt hS hxn)
  have HXN := hid hxn
  have HXL := hid hxl
  have HL := hid hl
  have HKB := hid hkb
  have HBB := hid hb
  have HP := hid hp
  clear hS hxn hxl hkb hp hl hnil
  go_enter Tryz.func8, Tryz.ntmps8
  go_wp2_with fail
  refine HF.out.mono ?_
  rintro _ w1 ⟨g, F, rfl, hs, hF0, kF0⟩
  have hlo := Lo.new (S := nmf) (g := g) (bits := bits) (room := 2) hF0 kF0
  have hv2 := cache_cv (bits := bits) (room := 2) hs HBB.out (by omega)
  have HNEW : Hid (Calls Tryz.prog 15 #[ptr g, .string nmf, .int .i64 bits, .int .i64 2] w1 fun e w' => e = .returned (.tuple #[ptr (w1.heap.size + 2), .int .i64 0]) ∧ w' = wCache w1 nmf g bits 2) := new_good (bits := bits) (room := 2) hs HBB.out (by omega)
  obtain ⟨Q, hQ⟩ : ∃ Q, w1.heap.size + 2 = Q := ⟨_, rfl⟩
  obtain ⟨m0, hm0⟩ : ∃ m, w1.heap.size = m := ⟨_, rfl⟩
  rw [hQ, hm0] at hv2 hlo
  rw [hQ] at HNEW
  have HV2 := hid hv2
  have HLO := hid hlo
  clear hs hv2 HF hm0 hF0 kF0 hlo
  unfold ptr at *
  go_wp2_with fail
  refine HNEW.out.mono ?_
  rintro _ w2 ⟨rfl, hw2⟩
  rw [← hw2] at HV2 HLO
  clear hw2 HNEW
  have HW1 := hid (cw_new HV2.out k xs ao m cap HL.out.symm HXN.out HXL.out HKB.out (HS.out.kp HLO.out.kp (fun _ _ _ h => h)) (fun r off e => by
    have h1 := HSL.out r off e
    exact ⟨fun hx => by have := HLO.out.fc r hx; omega, fun hx => by have := HLO.out.ff r hx; omega⟩) (by show 0 < _; decide) (by have := mu_len (g0 m0); have e : (g0 m0).L.length = 0 := rfl; omega) rfl (by show 0 < 2; decide))
  unfold ptr at *
  go_wp2_with (first
    | (go_at_call 17; refine (HNU.out _ _).mono ?_; rintro e w' ⟨rfl, h⟩; replace h := h.symm; subst h))
  refine HW1.out.mono ?_
  rintro _ w3 ⟨rfl, G1, F1, b, hv3, hc3, hw3⟩
  obtain ⟨i, hone⟩ := one_new hv3 hw3
  have HT1 : Hid (G1.t = 1) := hw3.t
  replace HLO := hid (HLO.out.ch hc3)
  have HV3 := hid hv3
  have HO1 := hid hone
  have HST1 := hid (stands_any hv3 k true false HKB.out (fun b' hb' => by rw [hone.g] at hb'; cases hb'; exact ⟨hone.di, hone.pe, hone.W b⟩) (fun e => by rw [hone.g] at e; cases e))
  clear hv3 hc3 hw3 hone HV2 HW1
  unfold ptr at *
  go_wp2_with (first
    | (go_at_call 17; refine (HNU.out _ _).mono ?_; rintro e w' ⟨rfl, h⟩; replace h := h.symm; subst h))
  refine HST1.out.mono ?_
  rintro _ w4 ⟨rfl, k4⟩
  replace HLO := hid (HLO.out.kp0 k4)
  have HV4 := hid (HV3.out.kp0 k4)
  have HBK := hid (back_any HV4.out (k : Int) (by rw [HO1.out.mu.1]; simp))
  clear HST1 HV3 k4
  unfold ptr at *
  go_wp2_with fail
  refine HBK.out.mono ?_
  intro e w5 hb5
  unfold BaP at hb5
  rw [if_pos (mayn_of HKB.out), Int.toNat_natCast, HO1.out.kg] at hb5
  obtain ⟨z, j, G2, q2, ft2, F2, rfl, hv5, hc5, ho, hmu, hd⟩ := hb5
  obtain ⟨rfl, hrc, hf⟩ := ho.ftn rfl
  change ft2 = [] at hf
  subst hf
  have hmu2 : j + mu G2 ≤ mu G1 := by simpa using hmu
  obtain ⟨hone2, hq2⟩ := one_back HO1.out hrc hmu2 (hd rfl b (by simp))
  have hj : j ≤ 1 := by rw [HO1.out.mu.1] at hmu2; simp at hmu2; omega
  have hzl : (splice (ldz ⟨100, zero, []⟩ bits k) 0 xs).length = 2 ^ bits := by
    have := HXL.out
    have := ldz_len ⟨100, zero, []⟩ bits k
    unfold splice
    simp
    omega
  replace HLO := hid (HLO.out.ch hc5)
  have HV5 := hid hv5
  have HO2 := hid hone2
  have HT2 : Hid (G2.t = 1) := Eq.trans hrc.stb.t HT1.out
  have HJ := hid hj
  have HQ2 := hid hq2
  have HZL := hid hzl
  have HST2 := hid (stands_any hv5 k false true HKB.out (fun b' hb' => by rw [hone2.g] at hb'; cases hb'; exact ⟨hone2.di, hone2.pe, hone2.W b⟩) (fun e => by rw [hone2.g] at e; cases e))
  clear hv5 hc5 hone2 hj hq2 hzl hmu hmu2 hd hrc ho HBK HV4 HO1
  unfold ptr at *
  go_wp2_with (first
    | (go_at_call 17; refine (HNU.out _ _).mono ?_; rintro e w' ⟨rfl, h⟩; replace h := h.symm; subst h))
  refine HST2.out.mono ?_
  rintro _ w6 ⟨rfl, k6⟩
  replace HLO := hid (HLO.out.kp0 k6)
  have HV6 := hid (HV5.out.kp0 k6)
  have HPE := hid (pending_w HV6.out.sw)
  obtain ⟨pm, hpm⟩ : ∃ pm, q2.ps.length = pm + 1 := ⟨q2.ps.length - 1, by have := (back_ldz HZL.out HQ2.out rfl).2; omega⟩
  rw [hpm] at HPE
  have hpn : ¬ ((pm : Int) + 1 = 0) := by omega
  clear HST2 HV5 k6
  unfold ptr at *
  go_wp2_with fail
  refine HPE.out.mono ?_
  rintro _ w7 ⟨rfl, k7⟩
  replace HLO := hid (HLO.out.kp0 k7)
  have HV7 := hid (HV6.out.kp0 k7)
  have HFL := hid (flushall_any HV7.out (by rw [HO2.out.mu.1]; have := HJ.out; simp; omega))
  clear HPE HV6 k7
  unfold ptr at *
  go_wp2_with fail
  refine HFL.out.mono ?_
  rintro e w8 ⟨z, j2, G3, q3, ft3, F3, rfl, hv8, hc8, ho, hmu, hz⟩
  obtain ⟨rfl, hrc, hf⟩ := ho.ftn rfl
  change ft3 = [] at hf
  subst hf
  obtain ⟨hcl, hP, k1, G1', q1', ft1', hj2, hrc1, hmu1, -, -, hfl, hq3, hft⟩ := hz rfl
  rw [HO2.out.mu.1] at hmu1
  simp only [Bool.false_eq_true, if_false] at hmu1
  obtain rfl : k1 = 0 := by omega
  have hx := rc0 hrc1
  have hxG : G1' = G2 := congrArg Xt.G hx
  have hxq : q1' = q2 := congrArg Xt.q hx
  have hxf : ft1' = [] := congrArg Xt.ft hx
  subst hxG hxq hxf
  have hbB : b ∈ G3.B := by rw [hfl.les.B]; exact HV7.out.cm.lb b (by rw [HO2.out.L]; simp)
  have hone3 := one_flush HO2.out hv8.iv hfl.les (hcl b hbB).2 hv8.cm.ks.nin
  replace HLO := hid (HLO.out.ch hc8)
  have HV8 := hid hv8
  have HO3 := hid hone3
  have HT3 : Hid (G3.t = 1) := hfl.les.t.trans HT2.out
  have HJ2 : Hid (j2 = 1) := by show _ = _; omega
  have HLD := hid (back_ldz HZL.out HQ2.out hq3).1
  have hps : q3.ps.length = 0 := by rw [hq3, qfl_nil]; rfl
  have HPS := hid hps
  have HST3 := hid (stands_any hv8 k false false HKB.out (fun b' hb' => by rw [hone3.g] at hb'; cases hb'; exact ⟨hone3.di, hone3.pe, hone3.W b⟩) (fun e => by rw [hone3.g] at e; cases e))
  clear hv8 hc8 ho hmu hz hrc hcl hP hj2 hrc1 hmu1 hfl hq3 hft hx hbB hone3 hps HFL HV7 HO2 hpn HQ2
  unfold ptr at *
  go_wp2_with (first
    | (go_at_call 17; refine (HNU.out _ _).mono ?_; rintro e w' ⟨rfl, h⟩; replace h := h.symm; subst h))
  refine HST3.out.mono ?_
  rintro _ w9 ⟨rfl, k9⟩
  replace HLO := hid (HLO.out.kp0 k9)
  have HV9 := hid (HV8.out.kp0 k9)
  have HPE := hid (pending_w HV9.out.sw)
  rw [HPS.out] at HPE
  clear HST3 HV8 k9
  unfold ptr at *
  go_wp2_with fail
  refine HPE.out.mono ?_
  rintro _ w10 ⟨rfl, k10⟩
  replace HLO := hid (HLO.out.kp0 k10)
  have HV10 := hid (HV9.out.kp0 k10)
  obtain ⟨ab, aof, rfl⟩ : ∃ b o, ao = some ⟨b, o, none⟩ := by
    obtain ⟨b, o, e, _⟩ := HS.out (List.length_pos_iff.2 HXN.out)
    exact ⟨b, o, e⟩
  have hOW : OwnI .u8 5 (w10.alloc (.cells #[] 5)) w10.heap.size (.slice (some ⟨w10.heap.size, 0, none⟩) 0 0) [] := .inr ⟨w10.heap.size, 0, [], rfl, Nat.le_refl _, St.new 5 w10 #[], rfl, by unfold maxLen; omega⟩
  have hka : Kp (fun _ => False) w10 (w10.alloc (.cells #[] 5)) := (Kp.refl _ _).alloc _
  have HOW := hid hOW
  have HKA := hid hka
  have HSR := hid ((HS.out.kp HLO.out.kp (fun _ _ _ h => h)).kp hka (fun _ _ _ h => h))
  have HLB : Hid (([] : List Int).length + xs.length ≤ 17592186044416) := by
    have := HL.out
    show _ ≤ _
    simp
    omega
  clear HPE HV9 k10 hOW hka
  go_wp2_with (first | (at_builtin; refine wpList_append_i (κ := .u8) 47 5 1 Tryz.underlying47 Tryz.info5 (by decide) rfl (.tmp 104) (.tmp 105) rfl w10.heap.size (.slice (some ⟨w10.heap.size, 0, none⟩) 0 0) [] rfl HOW.out (some ⟨ab, aof, none⟩) m cap xs rfl HL.out (fun e => by cases e) HSR.out HLB.out HKA.out.size ?_; intro v' w11 p1 p2 p3 p4; rw [List.nil_append] at p1))
  obtain ⟨gb, cap2, tl, rfl, hgb, hrw, hlen2, hcap2⟩ : ∃ gb cap2 tl, v' = .slice (some ⟨gb, 0, none⟩) m cap2 ∧ w10.heap.size ≤ gb ∧ Rw .u8 5 w11 gb (xs ++ tl) ∧ (xs ++ tl).length = cap2 ∧ cap2 ≤ maxLen := by
    rcases p1 with ⟨_, e⟩ | ⟨gb, cap2, tl, e, h1, h2, h3, h4⟩
    · exact absurd e HXN.out
    · exact ⟨gb, cap2, tl, by rw [← HL.out]; exact e, h1, h2, h3, h4⟩
  have K11 : Kp (fun _ => False) w10 w11 := HKA.out.trans (Kp.of_grown p2 (F := fun j => j = w10.heap.size) (fun j e => by simp [Value.ownBlock] at e; exact e.symm)) (fun j hj e => by omega)
  have hw10 := HLO.out.kp.size
  replace HLO := hid (HLO.out.kp0 K11)
  have HV11 := hid (HV10.out.kp0 K11)
  have HRW : Hid (∃ ys, ys.length = m ∧ Rw .u8 5 w11 gb (ys ++ tl)) := ⟨xs, HL.out, hrw⟩
  have HGB : Hid (∀ i, (Fc Q G3 i ∨ F3 i) → i < gb) := fun i hi => by
    rcases hi with hi | hi
    · have := HV10.out.cm.lt hi; omega
    · have := HV10.out.sw.lt hi; omega
  have HGW : Hid (w.heap.size ≤ gb) := Nat.le_trans hw10 hgb
  clear p1 p2 p3 p4 hrw hlen2 HOW HSR HLB HKA K11 HV10 hcap
  unfold maxLen at hcap2
  go_wp2_with fail
  go_loopw [11] (fun vi wr => ∃ n : Nat, vi = .int .i64 n ∧ n ≤ m ∧ (∃ ys, ys.length = m ∧ Rw .u8 5 wr gb (ys ++ tl)) ∧ Kp (fun i => i = gb) w11 wr) (fun vi _ => m - (intOf vi).toNat)
  case atStart => exact ⟨0, rfl, Nat.zero_le _, HRW.out, Kp.refl _ _⟩
  case round =>
    obtain ⟨n, rfl, hn, ⟨ys, hy1, hy2⟩, hkp⟩ := hrel
    by_cases hlt : n < m
    · have hlt' : (n : Int) < (m : Int) := by omega
      have yc := hy2.cell n (by simp; omega)
      have yf := hy2.frozen n
      have HY1 := hid hy1
      have HY2 := hid hy2
      have HKP := hid hkp
      clear hy1 hy2 hkp
      go_wp2_with fail
      refine ⟨⟨n + 1, by simp, by omega, ⟨ys.set n ?E, ?A, ?B⟩, HKP.out.trans (kp_setCell wr gb n _ (fun i => i = gb) rfl) (fun _ _ h => h)⟩, by simp [intOf]; omega⟩
      case B =>
        rw [← List.set_append_left _ _ (by rw [HY1.out]; exact hlt)]
        exact HY2.out.set n _
      case A => rw [List.length_set]; exact HY1.out
    · obtain rfl : n = m := by omega
      have hloW := HLO.out
      have kW : Kp (fun i => i = gb) w11 wr := hkp
      have hvW : Cv nmf g bits 2 Q (2 + j + j2) G3 q3 [] F3 wr := HV11.out.kp kW (fun i hi e => by have := HGB.out i (.inl hi); omega) (fun i hi e => by have := HGB.out i (.inr hi); omega)
      have loW : Lo w Q G3 F3 wr := ⟨hloW.fc, hloW.ff, hloW.kp.trans kW (fun i hi e => by have := HGW.out; omega)⟩
      have hsrc : Src .u8 wr (some ⟨gb, 0, none⟩) ys := Src.mk (fun t ht => by
        rw [Nat.zero_add, hy2.cell t (by simp; omega)]
        congr 2
        simp [List.getD, List.getElem?_append_left ht, ht])
      have hyn : ys ≠ [] := fun e => by rw [e] at hy1; simp at hy1; omega
      have HV12 := hid hvW
      replace HLO := hid loW
      have hmu := HO3.out.mu.1
      have hyl : ys.length ≤ 2 ^ bits := by have := HXL.out; have := HL.out; omega
      have HW2 := hid (one_wr hvW HO3.out ys (some ⟨gb, 0, none⟩) n cap2 hy1.symm hyn hyl HKB.out hsrc (fun r off e => by
        cases e
        exact ⟨fun hx => by have := HGB.out gb (.inl hx); omega, fun hx => by have := HGB.out gb (.inr hx); omega⟩) (by rw [HT3.out]; decide) (by rw [hmu]; have := HJ.out; have := HJ2.out; simp; omega))
      clear hy1 hy2 hkp hloW kW hvW loW hsrc hyn hmu hyl HGB HGW HRW HV11
      unfold ptr at *
      go_wp2_with fail
      refine HW2.out.mono ?_
      rintro _ w13 ⟨rfl, G4, F4, hv13, hc13, hone4, ht4⟩
      have HT4 : Hid (G4.t = 2) := by show _ = _; rw [ht4, HT3.out]
      replace HLO := hid (HLO.out.ch hc13)
      have HV13 := hid hv13
      have HO4 := hid hone4
      have HD1 := hid (cdrop_any hv13 (k : Int))
      clear HW2 hv13 hc13 hone4 HV12 HO3
      unfold ptr at *
      go_wp2_with (first
        | (go_at_call 17; refine (HNU.out _ _).mono ?_; rintro e w' ⟨rfl, h⟩; replace h := h.symm; subst h))
      refine HD1.out.mono ?_
      intro e w14 hd
      unfold DrP at hd
      rw [if_pos (mayn_of HKB.out), Int.toNat_natCast, HO4.out.kg] at hd
      obtain ⟨rfl, lv, M, hM, hv14, hc14⟩ := hd
      have hgone := one_gone (lv := lv) HO4.out hM
      have HT5 : Hid ((gLet (gWn G4 b) lv M b).t = 2) := (let_t _ _ _ _).trans HT4.out
      generalize gLet (gWn G4 b) lv M b = G5 at hv14 hc14 hgone HT5
      replace HLO := hid (HLO.out.ch hc14)
      have HV14 := hid hv14
      have HGO := hid hgone
      have HD2 := hid (cdrop_any hv14 (k : Int))
      clear HD1 hv14 hc14 hgone HV13 HO4 hM
      unfold ptr at *
      go_wp2_with (first
        | (go_at_call 17; refine (HNU.out _ _).mono ?_; rintro e w' ⟨rfl, h⟩; replace h := h.symm; subst h))
      refine HD2.out.mono ?_
      intro e w15 hd
      unfold DrP at hd
      rw [if_pos (mayn_of HKB.out), Int.toNat_natCast, HGO.out.g] at hd
      obtain ⟨rfl, h15⟩ := hd
      replace h15 := h15.symm
      subst h15
      have HB2 := hid (back_any HV14.out (k : Int) (by have := mu_len G5; rw [HGO.out.L] at this; have := HJ.out; have := HJ2.out; simp at *; omega))
      clear HD2
      unfold ptr at *
      go_wp2_with (first
        | (go_at_call 17; refine (HNU.out _ _).mono ?_; rintro e w' ⟨rfl, h⟩; replace h := h.symm; subst h))
      refine HB2.out.mono ?_
      intro e w16 hd
      unfold BaP at hd
      rw [if_pos (mayn_of HKB.out), Int.toNat_natCast, HGO.out.g] at hd
      obtain ⟨rfl, h15⟩ := hd
      replace h15 := h15.symm
      subst h15
      have HST4 := hid (stands_any HV14.out k false false HKB.out (fun b' hb' => HGO.out.s b' hb') (fun _ => ⟨rfl, rfl⟩))
      clear HB2
      unfold ptr at *
      go_wp2_with (first
        | (go_at_call 17; refine (HNU.out _ _).mono ?_; rintro e w' ⟨rfl, h⟩; replace h := h.symm; subst h))
      refine HST4.out.mono ?_
      rintro _ w17 ⟨rfl, k17⟩
      replace HLO := hid (HLO.out.kp0 k17)
      have HV17 := hid (HV14.out.kp0 k17)
      have HRD := hid (gone_read HV17.out HGO.out (n := n) (by have := HXL.out; have := HL.out; omega) HKB.out (by rw [HT5.out]; decide) (by have := mu_len G5; rw [HGO.out.L] at this; have := HJ.out; have := HJ2.out; simp at *; omega))
      rw [HLD.out, ← HL.out, splice_take, HL.out] at HRD
      clear HST4 HV14 k17
      unfold ptr at *
      go_wp2_with fail
      refine HRD.out.mono ?_
      rintro _ w18 ⟨v, G6, F6, rfl, hown, hc18⟩
      replace HLO := hid (HLO.out.ch hc18)
      obtain ⟨g6, cap6, tl6, rfl, h6⟩ : ∃ g6 cap6 tl6, v = .slice (some ⟨g6, 0, none⟩) n cap6 ∧ Rw .u8 5 w18 g6 (xs ++ tl6) := by
        rcases hown with ⟨_, e⟩ | ⟨gb, cap2, tl, e, h1, h2, h3, h4⟩
        · exact absurd e HXN.out
        · exact ⟨gb, cap2, tl, by rw [← HL.out]; exact e, h2⟩
      have hs6 : Src .u8 w18 (some ⟨g6, 0, none⟩) xs := Src.mk (fun t ht => by
        rw [Nat.zero_add, h6.cell t (by simp; omega)]
        congr 2
        simp [List.getD, List.getElem?_append_left ht, ht])
      have hcv1 := cvt (c := cap6) HL.out hs6
      have hcv2 := cvt (c := cap) HL.out (HS.out.kp HLO.out.kp (fun _ _ _ h => h))
      have HWO := hid (works_any w18)
      clear hown hc18 h6 hs6 HRD HV17 HGO
      go_wp2_with (first
        | (go_at_call 17; refine (HNU.out _ _).mono ?_; rintro e w' ⟨rfl, h⟩; replace h := h.symm; subst h)
        | (go_at_call 10; refine HWO.out.mono ?_; rintro _ w19 ⟨rfl, k19⟩))
      go_ret
      exact ⟨rfl, HLO.out.kp.trans k19 (fun _ _ h => h)⟩
end Go.Proofs.YtnccklbnncaeoaaGreat
/- CacheRoom: a read, a write. -/
namespace Go.Proofs.YtnccklbnncaeoaaGreat
open Go.RowKit
set_option linter.unusedVariables false
set_option linter.unusedSimpArgs false
set_option linter.constructorNameAsVariable false
/-- Where CacheRoom stands. -/
structure Rs (w0 : World) (g Q bits room us wr lim : Nat) (G : Gc) (q : Gf) (F : Nat → Prop) (N : Nat) (w : World) : Prop where
  v : Cv nmf g bits room Q N G q [] F w
  r : Rm wr G
  t : G.t = us
  u : N + mu G ≤ lim
  lo : Lo w0 Q G F w
section
variable {w0 w : World} {g Q bits room us wr lim N : Nat} {G : Gc} {q : Gf} {F : Nat → Prop}
theorem Rs.kp0 {w' : World} (h : Rs w0 g Q bits room us wr lim G q F N w) (k : Kp (fun _ => False) w w') : Rs w0 g Q bits room us wr lim G q F N w' :=
  ⟨h.v.kp0 k, h.r, h.t, h.u, h.lo.kp0 k⟩
theorem cch_kp {w' : World} (k : Kp (fun _ => False) w w') : Cch Q G G F F w w' := ⟨k.mono (fun _ _ h => h.elim), fun _ h => .inl h, fun _ h => .inl h⟩
/-- Marks that stand beside the cache and the file. -/
def Mkd (m : Nat) (Ds : List Nat) (Q : Nat) (G : Gc) (F : Nat → Prop) (w : World) : Prop := Ds.Nodup ∧ ∀ D ∈ Ds, m ≤ D ∧ w.heap[D]? = some (.deferred (some [])) ∧ ¬ Fc Q G D ∧ ¬ F D
theorem Mkd.ch {m : Nat} {Ds : List Nat} {G' : Gc} {F' : Nat → Prop} {w' : World} (h : Mkd m Ds Q G F w) (c : Cch Q G G' F F' w w') : Mkd m Ds Q G' F' w' :=
  ⟨h.1, fun D hD => by
    obtain ⟨h0, h1, h2, h3⟩ := h.2 D hD
    have hl := (Array.getElem?_eq_some_iff.1 h1).1
    refine ⟨h0, (c.kp.block D hl (fun e => e.elim h2 h3)).trans h1, fun e => ?_, fun e => ?_⟩
    · rcases c.fc D e with h4 | h4
      · exact h2 h4
      · omega
    · rcases c.ff D e with h4 | h4
      · exact h3 h4
      · omega⟩
theorem Mkd.new {m D : Nat} {Ds : List Nat} {w' : World} (h : Mkd m Ds Q G F w) (hv : ∀ i, (Fc Q G i ∨ F i) → i < w.heap.size) (k : Kp (fun _ => False) w w') (hm : m ≤ w.heap.size) (hD : w.heap.size ≤ D) (hd : w'.heap[D]? = some (.deferred (some []))) : Mkd m (D :: Ds) Q G F w' := by
  refine ⟨List.nodup_cons.2 ⟨fun e => ?_, h.1⟩, fun E hE => ?_⟩
  · have := (Array.getElem?_eq_some_iff.1 (h.2 D e).2.1).1
    omega
  · rcases List.mem_cons.1 hE with rfl | hE
    · exact ⟨by omega, hd, fun e => by have := hv E (.inl e); omega, fun e => by have := hv E (.inr e); omega⟩
    · obtain ⟨h0, h1, h2, h3⟩ := h.2 E hE
      exact ⟨h0, (k.block E (Array.getElem?_eq_some_iff.1 h1).1 (fun e => e)).trans h1, h2, h3⟩
theorem Rs.up (h : Rs w0 g Q bits room us wr lim G q F N w) : Rs w0 g Q bits room us wr (lim + 1) G q F N w := ⟨h.v, h.r, h.t, by have := h.u; omega, h.lo⟩
theorem Rm.up (h : Rm wr G) : Rm (wr + 1) G := ⟨h.W, by have := h.b; omega, h.l, h.p⟩
theorem mayn_lt {bits : Nat} {k : Int} (h : mayn bits k = true) (hk : k < 12) : k.toNat < 12 := by
  unfold mayn at h
  rw [Bool.and_eq_true] at h
  have h1 := of_decide_eq_true h.1
  omega
theorem Rs.read (h : Rs w0 g Q bits room us wr lim G q F N w) (pg at0 n : Int) (hp : pg < 12) (ha : at0 ≤ 9223372036854775807) (hu : us ≤ 1000) (hl : lim ≤ 8000) :
    Calls Tryz.prog 28 #[ptr Q, .int .i64 pg, .int .i64 at0, .int .i64 n] w fun e w' => ∃ v z, e = .returned (.tuple #[v, .int .i64 z]) ∧
      ((z = 0 ∧ ∃ G' q' F' N', Rs w0 g Q bits room (us + 1) wr lim G' q' F' N' w' ∧ Cch Q G G' F F' w w') ∨ (z ≠ 0 ∧ ∃ G' q' F' N', Rs w0 g Q bits room us wr lim G' q' F' N' w' ∧ Cch Q G G' F F' w w')) := by
  refine (read_any h.v pg at0 n ha (by rw [h.t]; omega) (by have := h.u; omega)).mono ?_
  intro e w' hr
  cases hr using RdR.el with
  | bad h1 k => exact ⟨_, _, rfl, .inr ⟨by decide, _, _, _, _, h.kp0 k, cch_kp k⟩⟩
  | fail a1 a2 a3 hz ho a6 a7 a8 => exact absurd (ho.ftn rfl).1 hz
  | ok a1 a2 hus hbL hy hown hno hvv hc =>
    obtain ⟨hR, hf, hm, ht⟩ := use_rm h.v h.r hus (mayn_lt a1 hp)
    subst hf
    exact ⟨_, _, rfl, .inl ⟨rfl, _, _, _, _, ⟨hvv, hR, by rw [ht, h.t], by have := h.u; omega, h.lo.ch hc⟩, hc⟩⟩
theorem Rs.write (h : Rs w0 g Q bits room us wr lim G q F N w) (pg at0 : Int) (xs : List Int) (ao : Option Addr) (m cap : Nat) (hm : m = xs.length) (hm6 : m ≤ 5000) (hS : Src .u8 w0 ao xs) (hx : ∀ r off, ao = some ⟨r, off, none⟩ → 0 < m → r < w0.heap.size) (hp : pg < 12) (ha : at0 ≤ 9223372036854775807) (hu : us ≤ 1000) (hl : lim ≤ 8000) :
    Calls Tryz.prog 22 #[ptr Q, .int .i64 pg, .int .i64 at0, .slice ao m cap] w fun e w' => ∃ z, e = .returned (.int .i64 z) ∧
      ((z = 0 ∧ ∃ G' q' F' N', Rs w0 g Q bits room (us + 1) (wr + 1) (lim + 1) G' q' F' N' w' ∧ Cch Q G G' F F' w w') ∨ (z ≠ 0 ∧ ∃ G' q' F' N', Rs w0 g Q bits room us wr (lim + 1) G' q' F' N' w' ∧ Cch Q G G' F F' w w')) := by
  refine (cwrite_all h.v pg at0 xs ao m cap hm (by omega) (hS.kp h.lo.kp (fun _ _ _ e => e)) (fun h0 r off e => ?_) ha (by rw [h.t]; omega) (by have := h.u; omega)).mono ?_
  · have := hx r off e (by omega)
    exact ⟨fun hi => by have := h.lo.fc r hi; omega, fun hi => by have := h.lo.ff r hi; omega⟩
  intro e w' hw
  cases hw using WrR.el with
  | bad h1 k => exact ⟨_, rfl, .inr ⟨by decide, _, _, _, _, (h.kp0 k).up, cch_kp k⟩⟩
  | fail a1 a2 a3 hz ho a6 a7 a8 => exact absurd (ho.ftn rfl).1 hz
  | nil a1 a2 hus hbL he hvv hc =>
    obtain ⟨hR, hf, hm, ht⟩ := use_rm h.v h.r hus (mayn_lt a1 hp)
    subst hf
    exact ⟨_, rfl, .inl ⟨rfl, _, _, _, _, ⟨hvv, hR.up, by rw [ht, h.t], by have := h.u; omega, h.lo.ch hc⟩, hc⟩⟩
  | ok a1 a2 hus hbL hy a6 hL hvv hc =>
    obtain ⟨hR, hf, hm, ht⟩ := use_rm h.v h.r hus (mayn_lt a1 hp)
    subst hf
    obtain ⟨hR2, hm2⟩ := wr_rm hR hbL (hL.nodup_iff.1 hvv.cm.ln.nodup) hL
    exact ⟨_, rfl, .inl ⟨rfl, _, _, _, _, ⟨hvv, hR2, by show _ + 0 = _; exact ht.trans (by rw [h.t]), by have := h.u; omega, h.lo.ch hc⟩, hc⟩⟩
/-- What Counts tells keeps what the statement asks. -/
theorem Rs.tell (h : Rs w0 g Q bits room us wr lim G q F N w) : G.L.length ≤ room ∧ G.n1 + G.n2 = us ∧ G.n3 ≤ wr ∧ G.L.length ≤ G.n2 := by
  have := h.r.b
  exact ⟨h.v.lr, h.v.tt.trans h.t, by omega, h.r.l⟩
end
end Go.Proofs.YtnccklbnncaeoaaGreat
/- CachePlain: what each call keeps. -/
namespace Go.Proofs.YtnccklbnncaeoaaGreat
open Go.RowKit
set_option linter.unusedVariables false
set_option linter.unusedSimpArgs false
set_option linter.constructorNameAsVariable false
/-- The plain bytes as what is read at each place. -/
def vof (xs : List Int) (p : Nat) : Int := xs.getD p 0
/-- Where CachePlain stands: a cache over its store, what is read through it is xs. -/
structure Ps (w0 : World) (g Q bits room M lim : Nat) (xs : List Int) (G : Gc) (q : Gf) (F : Nat → Prop) (N : Nat) (w : World) : Prop where
  v : Cv nmf g bits room Q N G q [] F w
  vw : Vw bits M G q (vof xs)
  t : G.t ≤ lim
  u : N ≤ 2 + 50 * lim
  lo : Lo w0 Q G F w
theorem vof_splice (xs ys : List Int) (o : Nat) (h : o + ys.length ≤ xs.length) : ovv (vof xs) o ys = vof (splice xs o ys) := ovv_splice xs ys o h
theorem splice_nil (xs : List Int) (o : Nat) : splice xs o [] = xs := by unfold splice; simp
theorem vof_take {bits k : Nat} {zs xs : List Int} (hz : zs.length = 2 ^ bits) (h : ∀ j, j < 2 ^ bits → zs.getD j 0 = vof xs (k * 2 ^ bits + j)) (hx : (k + 1) * 2 ^ bits ≤ xs.length) (a n : Nat) (han : a + n ≤ 2 ^ bits) : (zs.drop a).take n = (xs.drop (k * 2 ^ bits + a)).take n := by
  have hk : (k + 1) * 2 ^ bits = k * 2 ^ bits + 2 ^ bits := by rw [Nat.add_mul, Nat.one_mul]
  apply List.ext_getElem
  · simp only [List.length_take, List.length_drop]; omega
  · intro i h1 h2
    simp only [List.length_take, List.length_drop] at h1 h2
    have h3 := h (a + i) (by omega)
    unfold vof at h3
    rw [List.getD_eq_getElem?_getD, List.getD_eq_getElem?_getD, List.getElem?_eq_getElem (by omega), List.getElem?_eq_getElem (by omega)] at h3
    simp only [Option.getD_some] at h3
    rw [List.getElem_take, List.getElem_take, List.getElem_drop, List.getElem_drop]
    rw [h3]
    congr 1
    omega
section
variable {w0 w : World} {g Q bits room M lim N : Nat} {G : Gc} {q : Gf} {F : Nat → Prop} {xs : List Int}
theorem Ps.kp0 {w' : World} (h : Ps w0 g Q bits room M lim xs G q F N w) (k : Kp (fun _ => False) w w') : Ps w0 g Q bits room M lim xs G q F N w' :=
  ⟨h.v.kp0 k, h.vw, h.t, h.u, h.lo.kp0 k⟩
theorem Ps.up (h : Ps w0 g Q bits room M lim xs G q F N w) : Ps w0 g Q bits room M (lim + 1) xs G q F N w := ⟨h.v, h.vw, by have := h.t; omega, by have := h.u; omega, h.lo⟩
theorem Ps.hN (h : Ps w0 g Q bits room M lim xs G q F N w) (hr : room ≤ 20) (hl : lim ≤ 160) : N + mu G + 2 ≤ 8999 := by
  have := h.u
  have := mu_len G
  have := h.v.lr
  omega
theorem page_le {bits k M : Nat} (h : k < 12) (hM : 12 * 2 ^ bits ≤ M) : (k + 1) * 2 ^ bits ≤ M := Nat.le_trans (Nat.mul_le_mul_right _ (by omega)) hM
theorem Ps.read (h : Ps w0 g Q bits room M lim xs G q F N w) (pg at0 n : Int) (hp : pg < 12) (ha : at0 ≤ 9223372036854775807) (hr : room ≤ 20) (hl : lim ≤ 160) (hM : 12 * 2 ^ bits ≤ M) (hx : xs.length = 12 * 2 ^ bits) :
    Calls Tryz.prog 28 #[ptr Q, .int .i64 pg, .int .i64 at0, .int .i64 n] w fun e w' => ∃ v z, e = .returned (.tuple #[v, .int .i64 z]) ∧ (∃ G' q' F' N', Ps w0 g Q bits room M (lim + 1) xs G' q' F' N' w' ∧ Cch Q G G' F F' w w' ∧ (∀ j, v.ownBlock = some j → ¬ Fc Q G' j ∧ ¬ F' j)) ∧
      (z = 0 → ∃ k a m : Nat, pg = k ∧ at0 = a ∧ n = m ∧ k < 12 ∧ a + m ≤ 2 ^ bits ∧ OwnI .u8 5 w' w.heap.size v ((xs.drop (k * 2 ^ bits + a)).take m)) ∧ (z ≠ 0 → v = .slice none 0 0) := by
  have ht := h.t
  refine (read_any h.v pg at0 n ha (by omega) (by have := h.hN hr hl; omega)).mono ?_
  intro e w' hr'
  cases hr' using RdR.el with
  | bad h1 k => exact ⟨_, _, rfl, ⟨_, _, _, _, (h.kp0 k).up, cch_kp k, fun j hj => by cases hj⟩, fun h0 => absurd h0 (by decide), fun _ => rfl⟩
  | fail a1 a2 a3 hz ho a6 a7 a8 => exact absurd (ho.ftn rfl).1 hz
  | ok a1 a2 hus hbL hy hown hno hvv hc =>
    have hk12 := mayn_lt a1 hp
    obtain ⟨hw, hf, hk1, htt, hnk, hyl⟩ := h.vw.use h.v hus (page_le hk12 hM)
    subst hf
    have hwn := a2
    unfold withn at hwn
    rw [Bool.and_eq_true, Bool.and_eq_true] at hwn
    have b1 := of_decide_eq_true hwn.1
    have b2 := of_decide_eq_true hwn.2.1
    have b3 := of_decide_eq_true hwn.2.2
    unfold mayn at a1
    rw [Bool.and_eq_true] at a1
    have b4 := of_decide_eq_true a1.1
    refine ⟨_, _, rfl, ⟨_, _, _, _, ⟨hvv, hw, by omega, by have := h.u; omega, h.lo.ch hc⟩, hc, hno⟩, fun _ => ⟨pg.toNat, at0.toNat, n.toNat, by omega, by omega, by omega, hk12, by omega, ?_⟩, fun h0 => absurd rfl h0⟩
    have hkp := hw.kp _ hbL _ _ hy
    rw [hnk] at hkp
    rw [← vof_take (hvv.ylL _ hbL _ _ hy) hkp (page_le hk12 (by omega)) at0.toNat n.toNat (by omega)]
    exact hown
theorem Ps.write (h : Ps w0 g Q bits room M lim xs G q F N w) (pg at0 : Int) (ys : List Int) (ao : Option Addr) (m cap : Nat) (hm : m = ys.length) (hm6 : m ≤ 5000) (hS : Src .u8 w0 ao ys) (hsx : ∀ r off, ao = some ⟨r, off, none⟩ → 0 < m → r < w0.heap.size) (hp : pg < 12) (ha : at0 ≤ 9223372036854775807) (hr : room ≤ 20) (hl : lim ≤ 160) (hM : 12 * 2 ^ bits ≤ M) (hx : xs.length = 12 * 2 ^ bits) :
    Calls Tryz.prog 22 #[ptr Q, .int .i64 pg, .int .i64 at0, .slice ao m cap] w fun e w' => ∃ z, e = .returned (.int .i64 z) ∧
      ((z = 0 ∧ ∃ k a : Nat, pg = k ∧ at0 = a ∧ k < 12 ∧ a + m ≤ 2 ^ bits ∧ ∃ G' q' F' N', Ps w0 g Q bits room M (lim + 1) (splice xs (k * 2 ^ bits + a) ys) G' q' F' N' w' ∧ Cch Q G G' F F' w w') ∨ (z ≠ 0 ∧ ∃ G' q' F' N', Ps w0 g Q bits room M (lim + 1) xs G' q' F' N' w' ∧ Cch Q G G' F F' w w')) := by
  have ht := h.t
  refine (cwrite_all h.v pg at0 ys ao m cap hm (by omega) (hS.kp h.lo.kp (fun _ _ _ e => e)) (fun h0 r off e => ?_) ha (by omega) (by have := h.hN hr hl; omega)).mono ?_
  · have := hsx r off e (by omega)
    exact ⟨fun hi => by have := h.lo.fc r hi; omega, fun hi => by have := h.lo.ff r hi; omega⟩
  intro e w' hw
  have facts : ∀ (a1 : mayn bits pg = true) (a2 : withn bits at0 ys.length = true), pg = (pg.toNat : Int) ∧ at0 = (at0.toNat : Int) ∧ pg.toNat < 12 ∧ at0.toNat + m ≤ 2 ^ bits := fun a1 a2 => by
    have hk12 := mayn_lt a1 hp
    unfold withn at a2
    rw [Bool.and_eq_true, Bool.and_eq_true] at a2
    have b1 := of_decide_eq_true a2.1
    have b3 := of_decide_eq_true a2.2.2
    unfold mayn at a1
    rw [Bool.and_eq_true] at a1
    have b4 := of_decide_eq_true a1.1
    refine ⟨by omega, by omega, hk12, by omega⟩
  cases hw using WrR.el with
  | bad h1 k => exact ⟨_, rfl, .inr ⟨by decide, _, _, _, _, (h.kp0 k).up, cch_kp k⟩⟩
  | fail a1 a2 a3 hz ho a6 a7 a8 => exact absurd (ho.ftn rfl).1 hz
  | nil a1 a2 hus hbL he hvv hc =>
    obtain ⟨f1, f2, f3, f4⟩ := facts a1 a2
    obtain ⟨hw, hf, hk1, htt, hnk, hyl⟩ := h.vw.use h.v hus (page_le f3 hM)
    subst hf
    subst he
    refine ⟨_, rfl, .inl ⟨rfl, pg.toNat, at0.toNat, f1, f2, f3, f4, _, _, _, _, ⟨hvv, ?_, by omega, by have := h.u; omega, h.lo.ch hc⟩, hc⟩⟩
    rw [splice_nil]; exact hw
  | ok a1 a2 hus hbL hy a6 hL hvv hc =>
    rename_i k1 b i zs lv L H q1 ft1 F1
    obtain ⟨f1, f2, f3, f4⟩ := facts a1 a2
    obtain ⟨hw, hf, hk1, htt, hnk, hyl⟩ := h.vw.use h.v hus (page_le f3 hM)
    subst hf
    have hpl : (pg.toNat + 1) * 2 ^ bits ≤ 12 * 2 ^ bits := page_le f3 (Nat.le_refl _)
    rw [Nat.add_mul] at hpl
    have hnin : Nin H.c H.L := fun x hx y hy e => hvv.ninL x (hL.mem_iff.2 hx) y (hL.mem_iff.2 hy) (by
      show (upd H.c b { H.c b with di := true } x).n = (upd H.c b { H.c b with di := true } y).n
      rw [(di_c H b true x).1, (di_c H b true y).1]; exact e)
    refine ⟨_, rfl, .inl ⟨rfl, pg.toNat, at0.toNat, f1, f2, f3, f4, _, _, _, _, ⟨hvv, ?_, ?_, by have := h.u; omega, h.lo.ch hc⟩, hc⟩⟩
    · rw [← vof_splice xs ys _ (by omega), ← hnk]
      exact hw.wr hnin hbL hy (hyl i zs hy) (by omega) hL
    · show _ ≤ _
      exact Nat.le_trans (Nat.le_of_eq htt) (by omega)
theorem Ps.after (h : Ps w0 g Q bits room M lim xs G q F N w) (p o : Int) :
    Calls Tryz.prog 23 #[ptr Q, .int .i64 p, .int .i64 o] w fun e w' => ∃ z, e = .returned (.int .i64 z) ∧ ∃ G' F', Ps w0 g Q bits room M lim xs G' q F' N w' ∧ Cch Q G G' F F' w w' := by
  refine (after_any h.v p o).mono ?_
  intro e w' ha
  cases ha using AfR.el with
  | arg h1 k => exact ⟨_, rfl, _, _, h.kp0 k, cch_kp k⟩
  | same h1 h2 h3 k => exact ⟨_, rfl, _, _, h.kp0 k, cch_kp k⟩
  | nil h1 h2 h3 h4 k => exact ⟨_, rfl, _, _, h.kp0 k, cch_kp k⟩
  | loop h1 h2 h3 h4 h5 h6 k => exact ⟨_, rfl, _, _, h.kp0 k, cch_kp k⟩
  | idle h1 h2 h3 h4 h5 h6 k => exact ⟨_, rfl, _, _, h.kp0 k, cch_kp k⟩
  | ok h1 h2 h3 h4 h5 h6 h7 h8 h9 h10 =>
    rename_i s a b G2
    refine ⟨_, rfl, _, _, ⟨h9, h.vw.af (fun x hx => ?_) h8, ?_, h.u, h.lo.ch h10⟩, h10⟩
    · have := h.v.cm.lt (i := x) (.inr (.inr (.inr (.inr (.inr ⟨x, h.v.cm.lb x hx, .inl rfl⟩)))))
      omega
    · have e : (gAf G2 a b).t = G.t := by
        rcases h8 with ⟨_, rfl⟩ | ⟨_, wm, rm, _, _, _, rfl⟩
        · rfl
        · rfl
      rw [e]; exact h.t
theorem Ps.back (h : Ps w0 g Q bits room M lim xs G q F N w) (p : Int) (hr : room ≤ 20) (hl : lim ≤ 160) :
    Calls Tryz.prog 24 #[ptr Q, .int .i64 p] w fun e w' => ∃ z, e = .returned (.int .i64 z) ∧ ∃ G' q' F' N', Ps w0 g Q bits room M (lim + 1) xs G' q' F' N' w' ∧ Cch Q G G' F F' w w' := by
  refine (back_any h.v p (by have := h.hN hr hl; omega)).mono ?_
  intro e w' hb
  unfold BaP at hb
  split at hb
  · split at hb
    · obtain ⟨z, j1, G2, q2, ft2, F2, rfl, hv, hc, ho, hmu, hd⟩ := hb
      obtain ⟨rfl, hrc, hf⟩ := ho.ftn rfl
      change ft2 = [] at hf
      subst hf
      have hmu2 : j1 + mu G2 ≤ mu G := by simpa using hmu
      have hl2 := mu_len G
      have hl3 := h.v.lr
      have ht : G2.t = G.t := hrc.stb.t
      exact ⟨_, rfl, _, _, _, _, ⟨hv, h.vw.rc hrc h.v.ninL h.v.ylL, by have := h.t; omega, by have := h.u; omega, h.lo.ch hc⟩, hc⟩
    · obtain ⟨rfl, rfl⟩ := hb
      exact ⟨_, rfl, _, _, _, _, h.up, Cch.refl _ _ _ _⟩
  · obtain ⟨rfl, rfl⟩ := hb
    exact ⟨_, rfl, _, _, _, _, h.up, Cch.refl _ _ _ _⟩
theorem Ps.flush (h : Ps w0 g Q bits room M lim xs G q F N w) (hr : room ≤ 20) (hl : lim ≤ 160) :
    Calls Tryz.prog 25 #[ptr Q] w fun e w' => e = .returned (.int .i64 0) ∧ ∃ G' q' F' N', Sw nmf g N' F' q' [] w' ∧ Lo w0 Q G' F' w' ∧ Cch Q G G' F F' w w' ∧ q'.ps = [] ∧ q'.sz ≤ M ∧ Zb q' ∧ ∀ p, cont q' p = vof xs p := by
  refine (flushall_any h.v (h.hN hr hl)).mono ?_
  rintro e w' ⟨z, k, G', q', ft', F', rfl, hv, hc, ho, hmu, hz⟩
  obtain ⟨rfl, hrc, hf⟩ := ho.ftn rfl
  change ft' = [] at hf
  subst hf
  obtain ⟨hcl, hP, k1, G1, q1, ft1, rfl, hrc1, hmu1, hd1, hfk, hfl, hq, hft⟩ := hz rfl
  obtain rfl : ft1 = [] := by
    have h1 := hrc1.ftn rfl
    exact h1
  have hw := h.vw.rc hrc h.v.ninL h.v.ylL
  refine ⟨rfl, G', q', F', _, hv.sw, h.lo.ch hc, hc, ?_, hw.sz, hw.zb, fun p => hw.all (fun b hb => hv.yL hb) (fun b hb => (hcl b (hv.cm.lb b hb)).1) p⟩
  rw [hq, qfl_nil]
end
/-- Where the loop stands: the cache, and the plain bytes beside it. -/
structure Pk (w0 : World) (g Q bits room M m p lim : Nat) (xs : List Int) (G : Gc) (q : Gf) (F : Nat → Prop) (N : Nat) (w : World) : Prop where
  ps : Ps w0 g Q bits room M lim xs G q F N w
  xl : xs.length = 12 * m
  rw : Rw .u8 5 w p xs
  nf : ¬ Fc Q G p ∧ ¬ F p
  p0 : w0.heap.size ≤ p
section
variable {w0 w : World} {g Q bits room M m p lim N : Nat} {G : Gc} {q : Gf} {F : Nat → Prop} {xs : List Int}
theorem Pk.kp0 {w' : World} (h : Pk w0 g Q bits room M m p lim xs G q F N w) (k : Kp (fun _ => False) w w') : Pk w0 g Q bits room M m p lim xs G q F N w' :=
  ⟨h.ps.kp0 k, h.xl, h.rw.kp k (fun e => e), h.nf, h.p0⟩
theorem Rw.ltS {k : IntKind} {t : TypeId} {b : Nat} {L : List Int} (h : Rw k t w b L) : b < w.heap.size := (Array.getElem?_eq_some_iff.1 h).1
theorem Pk.ch {G' : Gc} {q' : Gf} {F' : Nat → Prop} {N' lim' : Nat} {w' : World} (h : Pk w0 g Q bits room M m p lim xs G q F N w) (h2 : Ps w0 g Q bits room M lim' xs G' q' F' N' w') (c : Cch Q G G' F F' w w') : Pk w0 g Q bits room M m p lim' xs G' q' F' N' w' := by
  have hl := Rw.ltS h.rw
  refine ⟨h2, h.xl, h.rw.kp c.kp (fun e => e.elim h.nf.1 h.nf.2), ⟨fun e => ?_, fun e => ?_⟩, h.p0⟩
  · rcases c.fc p e with e | e
    · exact h.nf.1 e
    · omega
  · rcases c.ff p e with e | e
    · exact h.nf.2 e
    · omega
theorem Pk.read (h : Pk w0 g Q bits room M m p lim xs G q F N w) (pg at0 n : Int) (hp : pg < 12) (ha : at0 ≤ 9223372036854775807) (hr : room ≤ 20) (hl : lim ≤ 160) (hM : 12 * m ≤ M) (hm : 2 ^ bits = m) :
    Calls Tryz.prog 28 #[ptr Q, .int .i64 pg, .int .i64 at0, .int .i64 n] w fun e w' => ∃ v z, e = .returned (.tuple #[v, .int .i64 z]) ∧ (∃ G' q' F' N', Pk w0 g Q bits room M m p (lim + 1) xs G' q' F' N' w') ∧ Kp (fun i => Fc Q G i ∨ F i) w w' ∧
      (z = 0 → ∃ k a t : Nat, pg = k ∧ at0 = a ∧ n = t ∧ k < 12 ∧ a + t ≤ m ∧ OwnI .u8 5 w' w.heap.size v ((xs.drop (k * m + a)).take t)) ∧ (z ≠ 0 → v = .slice none 0 0) := by
  subst hm
  refine (h.ps.read pg at0 n hp ha hr hl hM h.xl).mono ?_
  rintro e w' ⟨v, z, rfl, ⟨G', q', F', N', h1, h2, _⟩, h4, h5⟩
  exact ⟨v, z, rfl, ⟨G', q', F', N', h.ch h1 h2⟩, h2.kp, h4, h5⟩
theorem Pk.write (h : Pk w0 g Q bits room M m p lim xs G q F N w) (pg at0 : Int) (ys : List Int) (ao : Option Addr) (t cap : Nat) (ht : t = ys.length) (ht6 : t ≤ 5000) (hS : Src .u8 w0 ao ys) (hsx : ∀ r off, ao = some ⟨r, off, none⟩ → 0 < t → r < w0.heap.size) (hp : pg < 12) (ha : at0 ≤ 9223372036854775807) (hr : room ≤ 20) (hl : lim ≤ 160) (hM : 12 * m ≤ M) (hm : 2 ^ bits = m) :
    Calls Tryz.prog 22 #[ptr Q, .int .i64 pg, .int .i64 at0, .slice ao t cap] w fun e w' => ∃ z, e = .returned (.int .i64 z) ∧ Kp (fun _ => False) w0 w' ∧ Kp (fun i => Fc Q G i ∨ F i) w w' ∧
      ((z = 0 ∧ ∃ k a : Nat, pg = k ∧ at0 = a ∧ k < 12 ∧ a + t ≤ m ∧ Rw .u8 5 w' p xs ∧ ∃ G' q' F' N', ∀ w'', Rw .u8 5 w'' p (splice xs (k * m + a) ys) → Kp (fun i => i = p) w' w'' → Pk w0 g Q bits room M m p (lim + 1) (splice xs (k * m + a) ys) G' q' F' N' w'') ∨ (z ≠ 0 ∧ ∃ G' q' F' N', Pk w0 g Q bits room M m p (lim + 1) xs G' q' F' N' w')) := by
  subst hm
  refine (h.ps.write pg at0 ys ao t cap ht ht6 hS hsx hp ha hr hl hM h.xl).mono ?_
  rintro e w' ⟨z, rfl, ⟨rfl, k, a, rfl, rfl, hk, hat, G', q', F', N', h1, c⟩ | ⟨hz, G', q', F', N', h1, h2⟩⟩
  · have hl := Rw.ltS h.rw
    have nf : ¬ Fc Q G' p ∧ ¬ F' p := ⟨fun e => by
      rcases c.fc p e with e | e
      · exact h.nf.1 e
      · omega, fun e => by
      rcases c.ff p e with e | e
      · exact h.nf.2 e
      · omega⟩
    have hxl := h.xl
    have hk1 : (k + 1) * 2 ^ bits ≤ 12 * 2 ^ bits := page_le hk (Nat.le_refl _)
    rw [Nat.add_mul] at hk1
    refine ⟨_, rfl, h1.lo.kp, c.kp, .inl ⟨rfl, k, a, rfl, rfl, hk, hat, h.rw.kp c.kp (fun e => e.elim h.nf.1 h.nf.2), G', q', F', N', fun w'' hr2 k2 => ?_⟩⟩
    refine ⟨⟨h1.v.kp k2 (fun i hi e => nf.1 (e ▸ hi)) (fun i hi e => nf.2 (e ▸ hi)), h1.vw, h1.t, h1.u, ⟨h1.lo.fc, h1.lo.ff, h1.lo.kp.trans k2 (fun i hi e => by have := h.p0; omega)⟩⟩, ?_, hr2, nf, h.p0⟩
    unfold splice
    simp only [List.length_append, List.length_take, List.length_drop]
    omega
  · exact ⟨_, rfl, h1.lo.kp, h2.kp, .inr ⟨hz, G', q', F', N', h.ch h1 h2⟩⟩
theorem Pk.after (h : Pk w0 g Q bits room M m p lim xs G q F N w) (a o : Int) :
    Calls Tryz.prog 23 #[ptr Q, .int .i64 a, .int .i64 o] w fun e w' => ∃ z, e = .returned (.int .i64 z) ∧ Kp (fun i => Fc Q G i ∨ F i) w w' ∧ ∃ G' F', Pk w0 g Q bits room M m p lim xs G' q F' N w' := by
  refine (h.ps.after a o).mono ?_
  rintro e w' ⟨z, rfl, G', F', h1, h2⟩
  exact ⟨z, rfl, h2.kp, G', F', h.ch h1 h2⟩
theorem Pk.back (h : Pk w0 g Q bits room M m p lim xs G q F N w) (a : Int) (hr : room ≤ 20) (hl : lim ≤ 160) :
    Calls Tryz.prog 24 #[ptr Q, .int .i64 a] w fun e w' => ∃ z, e = .returned (.int .i64 z) ∧ ∃ G' q' F' N', Pk w0 g Q bits room M m p (lim + 1) xs G' q' F' N' w' := by
  refine (h.ps.back a hr hl).mono ?_
  rintro e w' ⟨z, rfl, G', q', F', N', h1, h2⟩
  exact ⟨z, rfl, G', q', F', N', h.ch h1 h2⟩
theorem from_fact {kp m a t : Nat} (hk : kp < 12) (hat : a + t ≤ m) (hm : m ≤ 4096) : kp * m + a + t ≤ 12 * m ∧ wrap64 (wrap64 ((kp : Int) * (m : Int)) + (a : Int)) = ((kp * m + a : Nat) : Int) := by
  have hk1 : (kp + 1) * m ≤ 12 * m := Nat.mul_le_mul_right _ (by omega)
  rw [Nat.add_mul, Nat.one_mul] at hk1
  obtain ⟨P, hP⟩ : ∃ P, kp * m = P := ⟨_, rfl⟩
  have hPI : (kp : Int) * (m : Int) = (P : Int) := by rw [← hP]; simp
  rw [hPI]
  rw [hP] at hk1 ⊢
  refine ⟨by omega, ?_⟩
  unfold wrap64
  omega
theorem wrap_ot {o t m : Nat} (h : o + t ≤ 12 * m) (hm : m ≤ 4096) : wrap64 ((o : Int) + (t : Int)) = ((o + t : Nat) : Int) := by
  unfold wrap64
  omega
theorem no_more {o t n : Nat} (h : o + t ≤ n) : o ≤ n := by omega
theorem cpy_fact {ys : List Int} {o t n : Nat} (hy : ys.length = t) (h : o + t ≤ n) : o + ys.length ≤ n ∧ ys.length = Nat.min t (n - o) := by
  refine ⟨by omega, ?_⟩
  rw [hy]
  exact (Nat.min_eq_left (by omega)).symm
theorem no_room {o t n : Nat} (h : o + t ≤ n) (h2 : n ≤ o) : t ≤ 0 := by omega
theorem cut_len {L : List Int} {o t n : Nat} (hl : L.length = n) (h : o + t ≤ n) : (List.take t (List.drop o L)).length = t := by
  simp only [List.length_take, List.length_drop]
  omega
theorem own_src {base : Nat} {v : Value} {L : List Int} (h : OwnI .u8 5 w base v L) : ∃ ao c, v = .slice ao L.length c ∧ Src .u8 w ao L := by
  rcases h with ⟨rfl, rfl⟩ | ⟨b, c, tl, rfl, h1, h2, h3, h4⟩
  · exact ⟨none, 0, rfl, fun h => absurd h (by simp)⟩
  · refine ⟨_, c, rfl, Src.mk (fun i hi => ?_)⟩
    rw [Nat.zero_add, h2.cell i (by rw [List.length_append]; omega), List.getD_eq_getElem?_getD, List.getD_eq_getElem?_getD, List.getElem?_append_left hi]
/-- A piece of a row. -/
theorem rw_cut {L : List Int} (h : Rw .u8 5 w p L) (o t : Nat) (ht : o + t ≤ L.length) : Src .u8 w (some ⟨p, o, none⟩) ((L.drop o).take t) := Src.mk (fun i hi => by
  simp only [List.length_take, List.length_drop] at hi
  rw [h.cell (o + i) (by omega)]
  congr 2
  have h1 : i < t := by omega
  simp [List.getD, List.getElem?_take, h1, List.getElem?_drop])
/-- Behind the flush: the store tells the plain bytes. -/
structure Pf (w0 : World) (g M p : Nat) (xs : List Int) (q : Gf) (F : Nat → Prop) (N : Nat) (w : World) : Prop where
  sw : Sw nmf g N F q [] w
  rw : Rw .u8 5 w p xs
  kp : Kp (fun _ => False) w0 w
  ps : q.ps = []
  sz : q.sz ≤ M
  zb : Zb q
  ct : ∀ i, cont q i = vof xs i
theorem Pf.kp0 {w' : World} (h : Pf w0 g M p xs q F N w) (k : Kp (fun _ => False) w w') : Pf w0 g M p xs q F N w' :=
  ⟨h.sw.kp0 k, h.rw.kp k (fun e => e), h.kp.trans k (fun _ _ e => e), h.ps, h.sz, h.zb, h.ct⟩
theorem Pk.flush (h : Pk w0 g Q bits room M m p lim xs G q F N w) (hr : room ≤ 20) (hl : lim ≤ 160) :
    Calls Tryz.prog 25 #[ptr Q] w fun e w' => e = .returned (.int .i64 0) ∧ ∃ q' F' N', Pf w0 g M p xs q' F' N' w' := by
  refine (h.ps.flush hr hl).mono ?_
  rintro e w' ⟨rfl, G', q', F', N', hs, lo, c, h1, h2, h3, h4⟩
  exact ⟨rfl, q', F', N', hs, h.rw.kp c.kp (fun e => e.elim h.nf.1 h.nf.2), lo.kp, h1, h2, h3, h4⟩
/-- What the file tells, laid over noughts up to where the plain bytes end, is the plain bytes. -/
theorem Pf.same (h : Pf w0 g M p xs q F N w) (j : Nat) (hj : xs.length ≤ q.sz + j) : ((rdz q 0 q.sz) ++ List.replicate j 0).take xs.length = xs := by
  have hl : (rdz q 0 q.sz).length = q.sz := by unfold rdz; simp
  apply List.ext_getElem
  · simp only [List.length_take, List.length_append, List.length_replicate, hl]; omega
  · intro i h1 h2
    rw [List.getElem_take]
    have h3 := h.ct i
    unfold vof at h3
    rw [List.getD_eq_getElem?_getD, List.getElem?_eq_getElem h2, Option.getD_some] at h3
    rw [← h3]
    by_cases hi : i < q.sz
    · rw [List.getElem_append_left (by rw [hl]; exact hi)]
      unfold rdz cont
      simp
    · rw [List.getElem_append_right (by rw [hl]; omega), List.getElem_replicate]
      exact (h.zb i (by omega)).symm
end
end Go.Proofs.YtnccklbnncaeoaaGreat
/- CachePlain: bytes that are grown. -/
namespace Go.Proofs.YtnccklbnncaeoaaGreat
open Go.RowKit
set_option linter.unusedVariables false
set_option linter.unusedSimpArgs false
/-- append onto a row that has no room, as one step: the row stays, a new one is made. -/
theorem wpList_append_full {P : Program} {κ : IntKind} {w : World} {ops : Array Oper} {rest : List Oper} {o : Oper} {a : Act} {Q : Exit → Act → World → Prop} (T ε : TypeId) (bytes : Nat) (hT : P.underlying T = some (.slice ε)) (hinfo : (P.info? ε).map (fun i => (i.zero, i.size, i.bytes)) = some (some (.int κ 0), 1, bytes)) (hb8 : bytes ≤ 8) (hgd : o.guard = none) (s x : Operand)
    (ho : o.op = .call { callee := .builtin .append, args := #[s, x], argTypes := #[T, T] })
    (g n : Nat) (xs : List Int) (hxl : n = xs.length) (hs : a.eval s = .slice (some ⟨g, 0, none⟩) n n) (hr : Rw κ ε w g xs)
    (ad : Addr) (m c : Nat) (news : List Int) (hx : a.eval x = .slice (some ad) m c) (hl : news.length = m) (hsrc : Src κ w (some ad) news) (hne : 0 < m)
    (hb : xs.length + news.length ≤ 17592186044416)
    (h : ∀ v' w', OwnI κ ε w' w.heap.size v' (xs ++ news) → Kp (fun _ => False) w w' → wpList P ops Q rest (a.put o.dst v') w') : wpList P ops Q (o :: rest) a w := by
  obtain ⟨i, hi, hz, hsize, hby⟩ := info_parts hinfo
  subst hl hxl
  refine wpList_plain hgd fun K hK => ?_
  have hsz : (P.info? ε).map (·.size) = some 1 := by rw [hi]; simp [hsize]
  have hnews : ∀ j u, (news.map (Value.int κ))[j]? = some u → w.cell? (ad.add j) = some u := srcs (by
    intro j hj
    obtain ⟨b, off, e, hc⟩ := hsrc (by omega)
    cases e
    rw [add_o]
    exact hc j hj)
  have holds : ∀ j u, (xs.map (Value.int κ))[j]? = some u → w.cell? ((⟨g, 0, none⟩ : Addr).add j) = some u := srcs (by
    intro j hj
    rw [add_z, hr.cell j hj])
  have hrun := run_append_grow (P := P) w T o.type ε i (.int κ 0) hT hi hz ⟨g, 0, none⟩ xs.length xs.length (xs.map (Value.int κ)) (by simp [hsize]) holds ad news.length c (news.map (Value.int κ)) (by simp [hsize]) hnews (by omega) (by omega) (growslice_fits (by omega) (bytes_le (by omega) (by omega)))
  have hge := grownCap_ge w (xs.length + news.length) xs.length ε
  unfold Oper.wp execOp
  simp only [ho, resolve, invoke, builtin, Sem.run_bind, Sem.run_pure, Result.andThen_ok, List.map_toArray, List.map_cons, List.map_nil, hs, hx, hrun]
  refine hK _ _ (h _ _ (.inr ⟨w.heap.size, grownCap w (xs.length + news.length) xs.length ε, List.replicate (grownCap w (xs.length + news.length) xs.length ε - (xs.length + news.length)) 0, by simp, Nat.le_refl _, ?_, by simp; omega, grownCap_le_maxLen w _ _ ε (by unfold maxLen; omega)⟩) ?_)
  · show (w.drew.alloc _).heap[w.heap.size]? = _
    rw [show w.heap.size = w.drew.heap.size from rfl, heap_alloc_new, show (Value.int κ 0).cells = #[.int κ 0] from rfl, show (List.map (Value.int κ) xs).toArray ++ (List.map (Value.int κ) news).toArray = (List.map (Value.int κ) (xs ++ news)).toArray from by simp, arr_rest]
  · exact (Kp.refl (fun _ => False) w).drew.alloc _
/-- Grown bytes: as they were, or in a new row. -/
def Gst (w : World) (g : Nat) (xs : List Int) (j : Nat) (v : Value) (w' : World) : Prop :=
  Kp (fun _ => False) w w' ∧ ((j = 0 ∧ v = .slice (some ⟨g, 0, none⟩) xs.length xs.length) ∨ (0 < j ∧ OwnI .u8 5 w' w.heap.size v (xs ++ List.replicate j 0)))
theorem Gst.shape {w : World} {g j : Nat} {xs : List Int} {v : Value} {w' : World} (hg : Rw .u8 5 w g xs) (h : Gst w g xs j v w') : ∃ b c, v = .slice (some ⟨b, 0, none⟩) (xs.length + j) c ∧ xs.length + j ≤ c ∧ c ≤ maxLen + xs.length ∧ Src .u8 w' (some ⟨b, 0, none⟩) (xs ++ List.replicate j 0) := by
  obtain ⟨k, ⟨rfl, rfl⟩ | ⟨hj, ho⟩⟩ := h
  · refine ⟨g, xs.length, rfl, by omega, by omega, ?_⟩
    rw [List.replicate_zero, List.append_nil]
    exact Src.mk (fun i hi => by rw [Nat.zero_add]; exact (hg.kp k (fun h => h)).cell i hi)
  · rcases ho with ⟨_, e⟩ | ⟨b, c, tl, rfl, h1, h2, h3, h4⟩
    · have := congrArg List.length e
      simp at this
      omega
    · refine ⟨b, c, by simp, by simp at h3; omega, by omega, Src.mk (fun i hi => ?_)⟩
      rw [Nat.zero_add, h2.cell i (by rw [List.length_append]; omega), List.getD_eq_getElem?_getD, List.getD_eq_getElem?_getD, List.getElem?_append_left hi]
set_option maxRecDepth 100000 in
set_option maxHeartbeats 4000000 in
theorem grown_any (w : World) (g L : Nat) (xs : List Int) (n : Nat) (hL : L = xs.length) (hg : Rw .u8 5 w g xs) (hxl : L ≤ 1000000) (hn : n ≤ 1000000) :
    Calls Tryz.prog 32 #[.slice (some ⟨g, 0, none⟩) L L, .int .i64 n] w fun e w' => ∃ j b c, e = .returned (.slice (some ⟨b, 0, none⟩) (L + j) c) ∧ (L + j = max L n) ∧ L + j ≤ c ∧ Src .u8 w' (some ⟨b, 0, none⟩) (xs ++ List.replicate j 0) ∧ Kp (fun _ => False) w w' := by
  have HL := hid hL
  have HG := hid hg
  have HS0 : Hid (∃ j, L + j ≤ max L n ∧ Gst w g xs j (.slice (some ⟨g, 0, none⟩) L L) w) := ⟨0, by omega, Kp.refl _ _, .inl ⟨rfl, by rw [hL]⟩⟩
  clear hL hg
  go_enter Tryz.func32, Tryz.ntmps32
  go_wp2_with fail
  go_loopw [0] (fun vi wr => ∃ j, L + j ≤ max L n ∧ Gst w g xs j vi wr) (fun vi _ => n - (match vi with | .slice _ k _ => k | _ => 0))
  case atStart => exact HS0.out
  case round =>
    obtain ⟨j, hj, hst⟩ := hrel
    have hsh := hst.shape HG.out
    rw [← HL.out] at hsh
    obtain ⟨b, c, rfl, hc1, hc2, hsr⟩ := hsh
    by_cases hlt : L + j < n
    · have hlt' : ((L + j : Nat) : Int) < (n : Int) := by omega
      have HST := hid hst
      have HB : Hid (xs.length + j ≤ 2000000) := by show _ ≤ _; have := HL.out; omega
      clear hst hsr hc1 hc2
      have kal : Kp (fun _ => False) wr (wr.alloc (.cells #[.int .u8 0] 5)) := (Kp.refl _ _).alloc _
      have HKA := hid kal
      have HSR := hid (src1 wr 0)
      clear kal
      rcases HST.out.2 with ⟨hj0, hv⟩ | ⟨hj0, hown⟩
      · subst hj0
        obtain ⟨rfl, rfl⟩ : g = b ∧ L = c := by
          injection hv with h1 h2 h3
          injection h1 with h1
          injection h1 with h1
          exact ⟨h1.symm, (h3.trans HL.out.symm).symm⟩
        have HRW : Hid (Rw .u8 5 (wr.alloc (.cells #[.int .u8 0] 5)) g xs) := (HG.out.kp HST.out.1 (fun h => h)).kp HKA.out (fun h => h)
        have HK0 := hid HST.out.1
        clear HST hv
        simp only [Nat.add_zero] at hlt' ⊢
        go_wp2_with (first | (at_builtin; refine wpList_append_full (κ := .u8) 47 5 1 Tryz.underlying47 Tryz.info5 (by decide) rfl (.tmp 9) (.tmp 10) rfl g L xs HL.out rfl HRW.out ⟨wr.heap.size, 0, none⟩ 1 1 [0] rfl rfl HSR.out (by decide) (by have := HB.out; simp; omega) ?_; intro v' w1 h1 h2))
        have HG2 : Hid (Gst w g xs 1 v' w1) := ⟨(HK0.out.trans HKA.out (fun _ _ h => h)).trans h2 (fun _ _ h => h), .inr ⟨by decide, ownI_base h1 (by have := HK0.out.size; have := HKA.out.size; omega)⟩⟩
        have HSH := HG2.out.shape HG.out
        rw [← HL.out] at HSH
        obtain ⟨b', c', rfl, _, _, _⟩ := HSH
        exact ⟨⟨1, by omega, HG2.out⟩, by simp; omega⟩
      · have HOW : Hid (OwnI .u8 5 (wr.alloc (.cells #[.int .u8 0] 5)) w.heap.size (.slice (some ⟨b, 0, none⟩) (L + j) c) (xs ++ List.replicate j 0)) := hown.kp HKA.out (fun _ _ h => h)
        have HLT := hid HOW.out.lt
        have HK0 := hid HST.out.1
        have HBE : Hid (w.heap.size ≤ (wr.alloc (.cells #[.int .u8 0] 5)).heap.size) := by show _ ≤ _; have := HK0.out.size; have := HKA.out.size; omega
        have HAP : Hid ((xs ++ List.replicate j 0) ++ [0] = xs ++ List.replicate (j + 1) 0) := by show _ = _; rw [List.append_assoc, ← List.replicate_succ']
        clear hown HST
        go_wp2_with (first | (at_builtin; refine wpList_append_i (κ := .u8) 47 5 1 Tryz.underlying47 Tryz.info5 (by decide) rfl (.tmp 9) (.tmp 10) rfl w.heap.size (.slice (some ⟨b, 0, none⟩) (L + j) c) (xs ++ List.replicate j 0) rfl HOW.out (some ⟨wr.heap.size, 0, none⟩) 1 1 [0] rfl rfl (fun e => by cases e) HSR.out (by have := HB.out; simp; omega) HBE.out ?_; intro v' w1 h1 h2 h3 h4))
        rw [HAP.out] at h1
        have HG2 : Hid (Gst w g xs (j + 1) v' w1) := ⟨(HK0.out.trans HKA.out (fun _ _ h => h)).trans (Kp.of_grown h2 (F := fun i => w.heap.size ≤ i) (fun i e => (HLT.out i e).1)) (fun i hi e => absurd hi (by omega)), .inr ⟨by omega, h1⟩⟩
        have HSH := HG2.out.shape HG.out
        rw [← HL.out] at HSH
        obtain ⟨b', c', rfl, _, _, _⟩ := HSH
        exact ⟨⟨j + 1, by omega, HG2.out⟩, by simp; omega⟩
    · have hlt' : ¬ ((L + j : Nat) : Int) < (n : Int) := by omega
      have HR : Hid (∃ j' b' c', (Ending.returned (.slice (some ⟨b, 0, none⟩) (L + j) c)) = .returned (.slice (some ⟨b', 0, none⟩) (L + j') c') ∧ (L + j' = max L n) ∧ L + j' ≤ c' ∧ Src .u8 wr (some ⟨b', 0, none⟩) (xs ++ List.replicate j' 0) ∧ Kp (fun _ => False) w wr) := ⟨j, b, c, rfl, by omega, hc1, hsr, hst.1⟩
      clear hst hsr hc1 hc2
      go_wp2_with fail
      go_ret
      exact HR.out
end Go.Proofs.YtnccklbnncaeoaaGreat
