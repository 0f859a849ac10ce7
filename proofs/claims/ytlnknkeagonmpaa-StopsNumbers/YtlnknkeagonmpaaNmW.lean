/- The walk through StopsNumbers. -/
import Derived.Test.YtlnknkeagonmpaaKw
namespace Go.Proofs.Ytlnknkeagonmpaa
open Go.RowKit

theorem src_kp {κ : IntKind} {w w' : World} {ao : Option Addr} {zs : List Int} (h : Src κ w ao zs) (k : Kp (fun _ => False) w w') : Src κ w' ao zs := by
  intro hp
  obtain ⟨b, off, e, hc⟩ := h hp
  exact ⟨b, off, e, fun i hi => kp_cell k (hc i hi) (fun h => h)⟩
theorem own_some {w : World} {base : Nat} {v : Value} {zs : List Int} {z : Int} (h : OwnI .i64 3 w base v (zs ++ [z])) : ∃ G cap, v = .slice (some ⟨G, 0, none⟩) (zs.length + 1) cap ∧ zs.length + 1 ≤ cap ∧ base ≤ G ∧ Src .i64 w (some ⟨G, 0, none⟩) zs ∧ w.cell? ⟨G, zs.length, none⟩ = some (.int .i64 z) := by
  rcases h with ⟨_, h2⟩ | ⟨G, cap, tl, rfl, h1, h2, h3, h4⟩
  · simp at h2
  · refine ⟨G, cap, by simp, ?_, h1, fun _ => ⟨G, 0, rfl, fun i hi => ?_⟩, ?_⟩
    · simp at h3; omega
    · have := h2.cell i (by simp; omega)
      rw [Nat.zero_add, this]
      simp [List.getD, hi, List.getElem?_append]
    · have := h2.cell zs.length (by simp)
      rw [this]
      simp [List.getD]
theorem pnd_le {fs : List Fe} {M : Nat} (h : ∀ f ∈ fs, f.2.2.ps.length ≤ M) : pnd fs ≤ fs.length * M := by
  unfold pnd
  induction fs with
  | nil => simp
  | cons f fs ih =>
    rw [List.map_cons, List.sum_cons, List.length_cons, Nat.add_mul]
    have h1 := h f (by simp)
    have h2 := ih (fun x hx => h x (by simp [hx]))
    omega
theorem mst_len (m : List (ByteArray × Nat)) (t : Pu) : (mst m t).length ≤ m.length + 1 := by
  have h1 : (mcr m t.name).length ≤ m.length + 1 := by
    unfold mcr
    split <;> simp
  have h2 : (mwr (mcr m t.name) t.name t.at0 (pulen t)).length = (mcr m t.name).length := by
    unfold mwr mup
    split <;> simp
  unfold mst
  split
  · unfold mfl mup
    rw [List.length_map, h2]
    exact h1
  · rw [h2]
    exact h1
theorem mpl_len (ts : List Pu) (m : List (ByteArray × Nat)) : (ts.foldl mst m).length ≤ m.length + ts.length := by
  induction ts generalizing m with
  | nil => simp
  | cons t ts ih =>
    have h1 := ih (mst m t)
    have h2 := mst_len m t
    rw [List.foldl_cons, List.length_cons]
    omega
/-- Is one of these below 0? -/
def bads (zs : List Int) : Bool := zs.any (fun z => decide (z < 0))
theorem bads_next (zs : List Int) (k : Nat) (hk : k < zs.length) : bads (zs.take (k + 1)) = (bads (zs.take k) || decide (zs.getD k 0 < 0)) := by
  rw [List.take_add_one, List.getElem?_eq_getElem hk, List.getD_eq_getElem?_getD, List.getElem?_eq_getElem hk]
  show (zs.take k ++ [zs[k]]).any _ = _
  rw [List.any_append]
  simp [bads]
theorem bads_true {zs : List Int} (h : bads zs = true) : ¬ ∀ z ∈ zs, 0 ≤ z := by
  intro h2
  obtain ⟨z, hz, h3⟩ := List.any_eq_true.1 h
  have := h2 z hz
  simp at h3
  omega
theorem bads_false {zs : List Int} (h : bads zs = false) : ∀ z ∈ zs, 0 ≤ z := by
  intro z hz
  have := List.any_eq_false.1 h z hz
  simpa using this
theorem atf_pos (P q : Nat) : ∀ z ∈ lst P (atf P q), 0 ≤ z := by
  intro z hz
  unfold lst at hz
  obtain ⟨i, _, rfl⟩ := List.mem_map.1 hz
  unfold atf
  omega
set_option maxRecDepth 100000 in
set_option maxHeartbeats 40000000 in
theorem numbers_walk (ts : List Pu) (a0 : Option Addr) (cap0 : Nat) (a1 : Option Addr) (n1 cap1 : Nat) (zs : List Int) (n : Int) (w : World) (hS : PuS w a0 ts) (hw : ∀ t ∈ ts, Pwf w.heap.size w t) (hn1 : n1 = zs.length) (hZ : Src .i64 w a1 zs) (hz1 : a1 = none → cap1 = 0) (hnl : -9223372036854775808 ≤ n) (hnu : n ≤ 9223372036854775807) :
    Calls Try.prog 3 #[.slice a0 ts.length cap0, .slice a1 n1 cap1, .int .i64 n] w fun e w' => e = .returned (.bool true) ∧ Kp (fun _ => False) w w' := by
  have HS := hid hS
  have HW := hid hw
  have HN := hid hn1
  have HZ := hid hZ
  have HZ1 := hid hz1
  clear hS hw hn1 hZ hz1
  go_enter Try.func3, Try.ntmps3
  go_wp2_with fail
  refine (vast_any w.heap.size ts a0 cap0 w HS.out HW.out).mono ?_
  rintro _ w0 ⟨b, rfl, hfew, hw0⟩
  subst w0
  cases b with
  | true =>
    go_wp2_with fail
    refine (known_any w).mono ?_
    rintro _ w1 ⟨rfl, k1⟩
    have K1 := hid k1
    clear k1
    go_wp2_with fail
    go_ret
    exact ⟨rfl, K1.out⟩
  | false =>
    by_cases h300 : 300 < n1
    · have h3i : (300 : Int) < (n1 : Int) := by omega
      go_wp2_with fail
      refine (known_any w).mono ?_
      rintro _ w1 ⟨rfl, k1⟩
      have K1 := hid k1
      clear k1
      go_wp2_with fail
      go_ret
      exact ⟨rfl, K1.out⟩
    · have h3i : ¬ (300 : Int) < (n1 : Int) := by omega
      have HFW := hid (hfew rfl)
      clear hfew
      go_wp2_with fail
      refine (both_any ts a0 cap0 w HS.out HW.out HFW.out).mono ?_
      rintro _ w1 ⟨g, fm, g', rfl, hbx, k1⟩
      obtain ⟨D, fv, steps, fs, es, c, D', fv', steps', gs, hb⟩ := hbx
      have hPb : pnd fs ≤ 1000000000 := by
        have h1 := pnd_le hb.b4
        have h2 : fs.length ≤ 60 := by
          have h4 := mpl_len ts []
          have h5 := (BoX.pnd hb).2
          have h6 := hb.l.len
          have h7 := HFW.out.1
          have h8 : (mpl ts).length ≤ [].length + ts.length := h4
          rw [List.length_nil] at h8
          omega
        have h3 := Nat.mul_le_mul_right (40000 * 180) h2
        omega
      have HSR := hid hb.s
      have HRR := hid hb.r
      have HPR := hid hb.l.pnd
      have K1 := hid k1
      clear hb k1
      go_wp2_with fail
      refine (rpending_any D' w1 g' fv' steps' gs HRR.out).mono ?_
      rintro _ w2 ⟨rfl, hw2⟩
      subst w2
      rw [← HPR.out]
      have HZ2 := hid (src_kp HZ.out K1.out)
      clear HRR HPR HZ HS HW HFW
      go_wp2_with fail
      go_loop [10, 11] (fun bv iv => ∃ k : Nat, k ≤ n1 ∧ iv = .int .i64 k ∧ bv = .bool (bads (zs.take k))) (fun _ iv => n1 - (intOf iv).toNat)
      case atStart => exact ⟨0, Nat.zero_le _, rfl, rfl⟩
      case round =>
        obtain ⟨k, hk, rfl, rfl⟩ := hrel
        by_cases hlt : k < n1
        · have hli : (k : Int) < (n1 : Int) := by omega
          obtain ⟨b1, o1, e1, hc1⟩ := HZ2.out (by have := HN.out; omega)
          have y1 := hc1 k (by have := HN.out; omega)
          have HNX := hid (bads_next zs k (by have := HN.out; omega))
          subst e1
          clear hc1
          generalize zs.getD k 0 = z at *
          cases hbk : bads (zs.take k)
          · rw [hbk] at HNX
            go_wp2_with fail
            exact ⟨⟨k + 1, by omega, by simp, by rw [HNX.out]; simp⟩, by simp only [intOf]; omega⟩
          · rw [hbk] at HNX
            go_wp2_with fail
            exact ⟨⟨k + 1, by omega, by simp, by rw [HNX.out]; simp⟩, by simp only [intOf]; omega⟩
        · obtain rfl : k = n1 := by omega
          have hli : ¬ (k : Int) < (k : Int) := by omega
          rw [List.take_of_length_le (by have := HN.out; omega)]
          have hz1s := K1.out.size
          go_wp2_with (first
            | (at_builtin; refine wpList_append_i (κ := .i64) 23 3 8 Try.underlying23 info3 (by decide) rfl (.const (.slice none 0 0)) (.tmp 54) rfl w1.heap.size (.slice none 0 0) [] rfl (OwnI.nil _ _ _ _) a1 k cap1 zs (by first | rfl | simp [Act.eval]) HN.out.symm HZ1.out HZ2.out (by have := HN.out; simp; omega) (Nat.le_refl _) ?_; intro v3 w3 o3 g3 l3 b3; rw [List.nil_append] at o3; have O3 := hid o3; have K3 : Hid (Kp (fun _ => False) w1 w3) := Kp.of_below b3; clear o3 g3 l3 b3)
            | (at_builtin; refine wpList_append_i (κ := .i64) 23 3 8 Try.underlying23 info3 (by decide) rfl (.tmp 55) (.tmp 56) rfl w1.heap.size v3 zs rfl (O3.out.kp ((Kp.refl (fun _ => False) _).alloc _) (fun _ _ h => h)) (some ⟨w3.heap.size, 0, none⟩) 1 1 [4242] (by first | rfl | simp [Act.eval]) rfl (fun h => by cases h) (Rw.src (Rw.new .i64 3 w3 [4242])) (by have := HN.out; simp; omega) (by have := K3.out.size; simp; omega) ?_; intro v4 w4 o4 g4 l4 b4; obtain ⟨G, mc, hv4, hmc, hG, sm, cm⟩ := own_some o4; subst hv4; have HSM := hid sm; have HCM := hid cm; have hkk := HN.out; rw [← hkk]; rw [← hkk] at hmc HCM; have K4 : Hid (Kp (fun _ => False) w1 w4) := ((K3.out.alloc _).below (Nat.le_refl _) (fun _ h => h.elim)).trans b4 |> Kp.of_below; clear o4 g4 l4 b4 sm cm hkk O3 K3))
          have HSW : ∀ W, Hid (Kp (fun _ => False) w4 W) → Sr D W g fm fv steps fs [] es c := fun W hW => HSR.out.kp (K4.out.trans hW.out (fun _ _ h => h)) (fun _ _ h => h) (fun _ _ h => h)
          have HMW : ∀ W, Hid (Kp (fun _ => False) w4 W) → Src .i64 W (some ⟨G, 0, none⟩) zs := fun W hW => src_kp HSM.out hW.out
          have HPW : ∀ W, Hid (Kp (fun _ => False) w4 W) → Src .i64 W a1 zs := fun W hW => src_kp HZ2.out (K4.out.trans hW.out (fun _ _ h => h))
          have HCW : ∀ W, Hid (Kp (fun _ => False) w4 W) → W.cell? ⟨G, k, none⟩ = some (.int .i64 4242) := fun W hW => kp_cell hW.out HCM.out (fun h => h)
          have K04 := hid (K1.out.trans K4.out (fun _ _ h => h))
          have hk0 : k ≤ 1000000000000 := by omega
          have hk300 : k ≤ 300 := by omega
          obtain ⟨P, hP⟩ : ∃ P, P = pnd fs := ⟨_, rfl⟩
          have HP := hid hP
          rw [← hP]
          rw [← hP] at hPb
          clear HSR HSM HZ2 HCM hP hz1s hlt hk h300
          cases hbad : bads zs with
          | true =>
            by_cases hP62 : 62 < P
            · have hPi : (62 : Int) < (P : Int) := by omega
              by_cases hneg : n < 0
              · skip
                refine (count_any D w4 g fm fv steps fs [] es c (HSW w4 (Kp.refl _ _)) (by rw [← HP.out]; exact hPb)).mono ?_
                rintro _ w5 ⟨rfl, k5⟩
                rw [← HP.out, if_neg (by omega), if_neg (by omega)]
                have K5 := hid k5
                clear k5
                go_wp2_with fail
                refine (plain_bad D w5 g fm fv steps fs [] es c (HSW w5 K5) (some ⟨G, 0, none⟩) zs k mc HN.out hk0 (bads_true hbad) (HMW w5 K5)).mono ?_
                rintro _ w6 ⟨rfl, hw6⟩
                subst w6
                go_wp2_with fail
                refine (number_bad D w5 g fm fv steps fs [] es c (HSW w5 K5) (some ⟨G, 0, none⟩) zs k mc HN.out hk0 (bads_true hbad) (HMW w5 K5)).mono ?_
                rintro _ w7 ⟨rfl, hw7⟩
                subst w7
                have K7 := K5
                go_wp2_with fail
                refine (at_neg D w5 g fm fv steps fs [] es c (HSW w5 K7) n hneg).mono ?_
                rintro _ w8 ⟨rfl, k8⟩
                have K8 := hid (K7.out.trans k8 (fun _ _ h => h))
                clear k8
                go_wp2_with fail
                refine (lsame_any (some ⟨G, 0, none⟩) a1 k k mc cap1 zs zs w8 (HMW w8 K8) (HPW w8 K8) HN.out HN.out hk0).mono ?_
                rintro _ w9 ⟨rfl, k9⟩
                rw [show (decide (zs = zs)) = true by simp]
                have K9 := hid (K8.out.trans k9 (fun _ _ h => h))
                have y9 := HCW w9 K9
                clear k9
                go_wp2_with fail
                refine (known_any w9).mono ?_
                rintro _ wz ⟨rfl, kz⟩
                have Kz := hid ((K04.out.trans K9.out (fun _ _ h => h)).trans kz (fun _ _ h => h))
                clear kz
                go_wp2_with fail
                go_ret
                exact ⟨rfl, Kz.out⟩
              · obtain ⟨q, rfl⟩ := Int.eq_ofNat_of_zero_le (show 0 ≤ n by omega)
                refine (count_any D w4 g fm fv steps fs [] es c (HSW w4 (Kp.refl _ _)) (by rw [← HP.out]; exact hPb)).mono ?_
                rintro _ w5 ⟨rfl, k5⟩
                rw [← HP.out, if_neg (by omega), if_neg (by omega)]
                have K5 := hid k5
                clear k5
                go_wp2_with fail
                refine (plain_bad D w5 g fm fv steps fs [] es c (HSW w5 K5) (some ⟨G, 0, none⟩) zs k mc HN.out hk0 (bads_true hbad) (HMW w5 K5)).mono ?_
                rintro _ w6 ⟨rfl, hw6⟩
                subst w6
                go_wp2_with fail
                refine (number_bad D w5 g fm fv steps fs [] es c (HSW w5 K5) (some ⟨G, 0, none⟩) zs k mc HN.out hk0 (bads_true hbad) (HMW w5 K5)).mono ?_
                rintro _ w7 ⟨rfl, hw7⟩
                subst w7
                have K7 := K5
                go_wp2_with fail
                refine (at_long D w5 g fm fv steps fs [] es c (HSW w5 K7) q (by rw [← HP.out]; omega) (by rw [← HP.out]; exact hPb)).mono ?_
                rintro _ w8 ⟨rfl, k8⟩
                have K8 := hid (K7.out.trans k8 (fun _ _ h => h))
                clear k8
                go_wp2_with fail
                refine (lsame_any (some ⟨G, 0, none⟩) a1 k k mc cap1 zs zs w8 (HMW w8 K8) (HPW w8 K8) HN.out HN.out hk0).mono ?_
                rintro _ w9 ⟨rfl, k9⟩
                rw [show (decide (zs = zs)) = true by simp]
                have K9 := hid (K8.out.trans k9 (fun _ _ h => h))
                have y9 := HCW w9 K9
                clear k9
                go_wp2_with fail
                refine (known_any w9).mono ?_
                rintro _ wz ⟨rfl, kz⟩
                have Kz := hid ((K04.out.trans K9.out (fun _ _ h => h)).trans kz (fun _ _ h => h))
                clear kz
                go_wp2_with fail
                go_ret
                exact ⟨rfl, Kz.out⟩
            · have hPi : ¬ (62 : Int) < (P : Int) := by omega
              have hpw := pow_i64 P (by omega)
              have hp1 : (1 : Int) ≤ (2 : Int) ^ P := by exact_mod_cast Nat.one_le_two_pow
              by_cases hneg : n < 0
              · skip
                refine (count_any D w4 g fm fv steps fs [] es c (HSW w4 (Kp.refl _ _)) (by rw [← HP.out]; exact hPb)).mono ?_
                rintro _ w5 ⟨rfl, k5⟩
                rw [← HP.out, if_pos (by omega), if_pos (by omega)]
                have K5 := hid k5
                clear k5
                go_wp2_with fail
                refine (plain_bad D w5 g fm fv steps fs [] es c (HSW w5 K5) (some ⟨G, 0, none⟩) zs k mc HN.out hk0 (bads_true hbad) (HMW w5 K5)).mono ?_
                rintro _ w6 ⟨rfl, hw6⟩
                subst w6
                go_wp2_with fail
                refine (number_bad D w5 g fm fv steps fs [] es c (HSW w5 K5) (some ⟨G, 0, none⟩) zs k mc HN.out hk0 (bads_true hbad) (HMW w5 K5)).mono ?_
                rintro _ w7 ⟨rfl, hw7⟩
                subst w7
                have K7 := K5
                go_wp2_with fail
                refine (at_neg D w5 g fm fv steps fs [] es c (HSW w5 K7) n hneg).mono ?_
                rintro _ w8 ⟨rfl, k8⟩
                have K8 := hid (K7.out.trans k8 (fun _ _ h => h))
                clear k8
                go_wp2_with fail
                refine (lsame_any (some ⟨G, 0, none⟩) a1 k k mc cap1 zs zs w8 (HMW w8 K8) (HPW w8 K8) HN.out HN.out hk0).mono ?_
                rintro _ w9 ⟨rfl, k9⟩
                rw [show (decide (zs = zs)) = true by simp]
                have K9 := hid (K8.out.trans k9 (fun _ _ h => h))
                have y9 := HCW w9 K9
                clear k9
                go_wp2_with fail
                refine (known_any w9).mono ?_
                rintro _ wz ⟨rfl, kz⟩
                have Kz := hid ((K04.out.trans K9.out (fun _ _ h => h)).trans kz (fun _ _ h => h))
                clear kz
                go_wp2_with fail
                go_ret
                exact ⟨rfl, Kz.out⟩
              · obtain ⟨q, rfl⟩ := Int.eq_ofNat_of_zero_le (show 0 ≤ n by omega)
                by_cases hin : q < 2 ^ P
                · have hini : (q : Int) < (2 : Int) ^ P := by exact_mod_cast hin
                  refine (count_any D w4 g fm fv steps fs [] es c (HSW w4 (Kp.refl _ _)) (by rw [← HP.out]; exact hPb)).mono ?_
                  rintro _ w5 ⟨rfl, k5⟩
                  rw [← HP.out, if_pos (by omega), if_pos (by omega)]
                  have K5 := hid k5
                  clear k5
                  go_wp2_with fail
                  refine (plain_bad D w5 g fm fv steps fs [] es c (HSW w5 K5) (some ⟨G, 0, none⟩) zs k mc HN.out hk0 (bads_true hbad) (HMW w5 K5)).mono ?_
                  rintro _ w6 ⟨rfl, hw6⟩
                  subst w6
                  go_wp2_with fail
                  refine (number_bad D w5 g fm fv steps fs [] es c (HSW w5 K5) (some ⟨G, 0, none⟩) zs k mc HN.out hk0 (bads_true hbad) (HMW w5 K5)).mono ?_
                  rintro _ w7 ⟨rfl, hw7⟩
                  subst w7
                  have K7 := K5
                  go_wp2_with fail
                  refine (at_any D w5 g fm fv steps fs [] es c (HSW w5 K7) (by rw [← HP.out]; omega) q (by rw [← HP.out]; omega)).mono ?_
                  rintro _ w8 ⟨G2, rfl, hG2, hr2, k8⟩
                  rw [← HP.out] at hr2
                  rw [← HP.out]
                  have HR2 := hid hr2
                  clear hr2 hG2
                  have K8 := hid (K7.out.trans k8 (fun _ _ h => h))
                  clear k8
                  go_wp2_with fail
                  refine (lsame_any (some ⟨G, 0, none⟩) a1 k k mc cap1 zs zs w8 (HMW w8 K8) (HPW w8 K8) HN.out HN.out hk0).mono ?_
                  rintro _ w9 ⟨rfl, k9⟩
                  rw [show (decide (zs = zs)) = true by simp]
                  have K9 := hid (K8.out.trans k9 (fun _ _ h => h))
                  have HQ9 := hid (Rw.kp (κ := .i64) (t := 3) HR2.out k9 (fun h => h))
                  have y9 := HCW w9 K9
                  clear k9
                  go_wp2_with fail
                  have hzl : ∀ z ∈ lst P (atf P q), 0 ≤ z := atf_pos P q
                  refine (number_any D w9 g fm fv steps fs [] es c (HSW w9 K9) (by rw [← HP.out]; omega) (some ⟨G2, 0, none⟩) (lst P (atf P q)) P P (lst_len _ _).symm (by omega) hzl (Rw.src HQ9.out)).mono ?_
                  rintro _ wc ⟨rfl, kc⟩
                  rw [← HP.out, nbr_back P q hin]
                  have Kc := hid (K9.out.trans kc (fun _ _ h => h))
                  have HQc := hid (Rw.kp (κ := .i64) (t := 3) HQ9.out kc (fun h => h))
                  clear kc
                  go_wp2_with fail
                  refine (lplain_any P hPb (some ⟨G2, 0, none⟩) (lst P (atf P q)) P P wc (lst_len _ _).symm (by omega) hzl (Rw.src HQc.out)).mono ?_
                  rintro _ wd ⟨G4, rfl, hG4, hr4, kd⟩
                  rw [lst_ext (wayf_at P q)] at hr4
                  have Kd := hid (Kc.out.trans kd (fun _ _ h => h))
                  have HQd := hid (Rw.kp (κ := .i64) (t := 3) HQc.out kd (fun h => h))
                  have HR4 := hid hr4
                  clear kd hr4 hG4
                  go_wp2_with fail
                  refine (lsame_any (some ⟨G2, 0, none⟩) (some ⟨G4, 0, none⟩) P P P P (lst P (atf P q)) (lst P (atf P q)) wd (Rw.src HQd.out) (Rw.src HR4.out) (lst_len _ _).symm (lst_len _ _).symm (by omega)).mono ?_
                  rintro _ we ⟨rfl, ke⟩
                  rw [show (decide (lst P (atf P q) = lst P (atf P q))) = true by simp]
                  have Ke := hid (Kd.out.trans ke (fun _ _ h => h))
                  clear ke
                  go_wp2_with fail
                  refine (known_any we).mono ?_
                  rintro _ wz ⟨rfl, kz⟩
                  have Kz := hid ((K04.out.trans Ke.out (fun _ _ h => h)).trans kz (fun _ _ h => h))
                  clear kz
                  go_wp2_with fail
                  go_ret
                  exact ⟨rfl, Kz.out⟩
                · have hini : ¬ (q : Int) < (2 : Int) ^ P := by (have : 2 ^ P ≤ q := by omega); (have : (2 : Int) ^ P ≤ (q : Int) := by exact_mod_cast this); omega
                  refine (count_any D w4 g fm fv steps fs [] es c (HSW w4 (Kp.refl _ _)) (by rw [← HP.out]; exact hPb)).mono ?_
                  rintro _ w5 ⟨rfl, k5⟩
                  rw [← HP.out, if_pos (by omega), if_pos (by omega)]
                  have K5 := hid k5
                  clear k5
                  go_wp2_with fail
                  refine (plain_bad D w5 g fm fv steps fs [] es c (HSW w5 K5) (some ⟨G, 0, none⟩) zs k mc HN.out hk0 (bads_true hbad) (HMW w5 K5)).mono ?_
                  rintro _ w6 ⟨rfl, hw6⟩
                  subst w6
                  go_wp2_with fail
                  refine (number_bad D w5 g fm fv steps fs [] es c (HSW w5 K5) (some ⟨G, 0, none⟩) zs k mc HN.out hk0 (bads_true hbad) (HMW w5 K5)).mono ?_
                  rintro _ w7 ⟨rfl, hw7⟩
                  subst w7
                  have K7 := K5
                  go_wp2_with fail
                  refine (at_rng D w5 g fm fv steps fs [] es c (HSW w5 K7) q (by rw [← HP.out]; omega) (by rw [← HP.out]; exact hPb) (by rw [← HP.out]; omega)).mono ?_
                  rintro _ w8 ⟨rfl, k8⟩
                  have K8 := hid (K7.out.trans k8 (fun _ _ h => h))
                  clear k8
                  go_wp2_with fail
                  refine (lsame_any (some ⟨G, 0, none⟩) a1 k k mc cap1 zs zs w8 (HMW w8 K8) (HPW w8 K8) HN.out HN.out hk0).mono ?_
                  rintro _ w9 ⟨rfl, k9⟩
                  rw [show (decide (zs = zs)) = true by simp]
                  have K9 := hid (K8.out.trans k9 (fun _ _ h => h))
                  have y9 := HCW w9 K9
                  clear k9
                  go_wp2_with fail
                  refine (known_any w9).mono ?_
                  rintro _ wz ⟨rfl, kz⟩
                  have Kz := hid ((K04.out.trans K9.out (fun _ _ h => h)).trans kz (fun _ _ h => h))
                  clear kz
                  go_wp2_with fail
                  go_ret
                  exact ⟨rfl, Kz.out⟩
          | false =>
            by_cases hP62 : 62 < P
            · have hPi : (62 : Int) < (P : Int) := by omega
              by_cases hneg : n < 0
              · skip
                refine (count_any D w4 g fm fv steps fs [] es c (HSW w4 (Kp.refl _ _)) (by rw [← HP.out]; exact hPb)).mono ?_
                rintro _ w5 ⟨rfl, k5⟩
                rw [← HP.out, if_neg (by omega), if_neg (by omega)]
                have K5 := hid k5
                clear k5
                go_wp2_with fail
                refine (plain_any D w5 g fm fv steps fs [] es c (HSW w5 K5) (by rw [← HP.out]; exact hPb) (some ⟨G, 0, none⟩) zs k mc HN.out hk0 (bads_false hbad) (HMW w5 K5)).mono ?_
                rintro _ w6 ⟨G1, rfl, hG1, hr1, k6⟩
                rw [← HP.out] at hr1
                rw [← HP.out]
                have K6 := hid (K5.out.trans k6 (fun _ _ h => h))
                have HR1 := hid hr1
                clear k6 hr1 hG1
                go_wp2_with fail
                refine (number_long D w6 g fm fv steps fs [] es c (HSW w6 K6) (by rw [← HP.out]; omega) (by rw [← HP.out]; exact hPb) (some ⟨G, 0, none⟩) zs k mc HN.out hk0 (bads_false hbad) (HMW w6 K6)).mono ?_
                rintro _ w7 ⟨rfl, k7⟩
                have K7 := hid (K6.out.trans k7 (fun _ _ h => h))
                have HR7 := hid (Rw.kp (κ := .i64) (t := 3) HR1.out k7 (fun h => h))
                clear k7 HR1
                go_wp2_with fail
                refine (at_neg D w7 g fm fv steps fs [] es c (HSW w7 K7) n hneg).mono ?_
                rintro _ w8 ⟨rfl, k8⟩
                have K8 := hid (K7.out.trans k8 (fun _ _ h => h))
                have HR8 := hid (Rw.kp (κ := .i64) (t := 3) HR7.out k8 (fun h => h))
                clear k8
                go_wp2_with fail
                refine (lsame_any (some ⟨G, 0, none⟩) a1 k k mc cap1 zs zs w8 (HMW w8 K8) (HPW w8 K8) HN.out HN.out hk0).mono ?_
                rintro _ w9 ⟨rfl, k9⟩
                rw [show (decide (zs = zs)) = true by simp]
                have K9 := hid (K8.out.trans k9 (fun _ _ h => h))
                have HR9 := hid (Rw.kp (κ := .i64) (t := 3) HR8.out k9 (fun h => h))
                have y9 := HCW w9 K9
                clear k9
                go_wp2_with fail
                refine (lplain_any P hPb a1 zs k cap1 w9 HN.out hk0 (bads_false hbad) (HPW w9 K9)).mono ?_
                rintro _ wa ⟨G3, rfl, hG3, hr3, ka⟩
                have Ka := hid (K9.out.trans ka (fun _ _ h => h))
                have HRa := hid (Rw.kp (κ := .i64) (t := 3) HR9.out ka (fun h => h))
                have HR3 := hid hr3
                clear ka hr3 hG3 y9
                go_wp2_with fail
                refine (lsame_any (some ⟨G1, 0, none⟩) (some ⟨G3, 0, none⟩) P P P P (lst P (wayf zs)) (lst P (wayf zs)) wa (Rw.src HRa.out) (Rw.src HR3.out) (lst_len _ _).symm (lst_len _ _).symm (by omega)).mono ?_
                rintro _ wb ⟨rfl, kb⟩
                rw [show (decide (lst P (wayf zs) = lst P (wayf zs))) = true by simp]
                have Kb := hid (Ka.out.trans kb (fun _ _ h => h))
                clear kb
                go_wp2_with fail
                refine (known_any wb).mono ?_
                rintro _ wz ⟨rfl, kz⟩
                have Kz := hid ((K04.out.trans Kb.out (fun _ _ h => h)).trans kz (fun _ _ h => h))
                clear kz
                go_wp2_with fail
                go_ret
                exact ⟨rfl, Kz.out⟩
              · obtain ⟨q, rfl⟩ := Int.eq_ofNat_of_zero_le (show 0 ≤ n by omega)
                refine (count_any D w4 g fm fv steps fs [] es c (HSW w4 (Kp.refl _ _)) (by rw [← HP.out]; exact hPb)).mono ?_
                rintro _ w5 ⟨rfl, k5⟩
                rw [← HP.out, if_neg (by omega), if_neg (by omega)]
                have K5 := hid k5
                clear k5
                go_wp2_with fail
                refine (plain_any D w5 g fm fv steps fs [] es c (HSW w5 K5) (by rw [← HP.out]; exact hPb) (some ⟨G, 0, none⟩) zs k mc HN.out hk0 (bads_false hbad) (HMW w5 K5)).mono ?_
                rintro _ w6 ⟨G1, rfl, hG1, hr1, k6⟩
                rw [← HP.out] at hr1
                rw [← HP.out]
                have K6 := hid (K5.out.trans k6 (fun _ _ h => h))
                have HR1 := hid hr1
                clear k6 hr1 hG1
                go_wp2_with fail
                refine (number_long D w6 g fm fv steps fs [] es c (HSW w6 K6) (by rw [← HP.out]; omega) (by rw [← HP.out]; exact hPb) (some ⟨G, 0, none⟩) zs k mc HN.out hk0 (bads_false hbad) (HMW w6 K6)).mono ?_
                rintro _ w7 ⟨rfl, k7⟩
                have K7 := hid (K6.out.trans k7 (fun _ _ h => h))
                have HR7 := hid (Rw.kp (κ := .i64) (t := 3) HR1.out k7 (fun h => h))
                clear k7 HR1
                go_wp2_with fail
                refine (at_long D w7 g fm fv steps fs [] es c (HSW w7 K7) q (by rw [← HP.out]; omega) (by rw [← HP.out]; exact hPb)).mono ?_
                rintro _ w8 ⟨rfl, k8⟩
                have K8 := hid (K7.out.trans k8 (fun _ _ h => h))
                have HR8 := hid (Rw.kp (κ := .i64) (t := 3) HR7.out k8 (fun h => h))
                clear k8
                go_wp2_with fail
                refine (lsame_any (some ⟨G, 0, none⟩) a1 k k mc cap1 zs zs w8 (HMW w8 K8) (HPW w8 K8) HN.out HN.out hk0).mono ?_
                rintro _ w9 ⟨rfl, k9⟩
                rw [show (decide (zs = zs)) = true by simp]
                have K9 := hid (K8.out.trans k9 (fun _ _ h => h))
                have HR9 := hid (Rw.kp (κ := .i64) (t := 3) HR8.out k9 (fun h => h))
                have y9 := HCW w9 K9
                clear k9
                go_wp2_with fail
                refine (lplain_any P hPb a1 zs k cap1 w9 HN.out hk0 (bads_false hbad) (HPW w9 K9)).mono ?_
                rintro _ wa ⟨G3, rfl, hG3, hr3, ka⟩
                have Ka := hid (K9.out.trans ka (fun _ _ h => h))
                have HRa := hid (Rw.kp (κ := .i64) (t := 3) HR9.out ka (fun h => h))
                have HR3 := hid hr3
                clear ka hr3 hG3 y9
                go_wp2_with fail
                refine (lsame_any (some ⟨G1, 0, none⟩) (some ⟨G3, 0, none⟩) P P P P (lst P (wayf zs)) (lst P (wayf zs)) wa (Rw.src HRa.out) (Rw.src HR3.out) (lst_len _ _).symm (lst_len _ _).symm (by omega)).mono ?_
                rintro _ wb ⟨rfl, kb⟩
                rw [show (decide (lst P (wayf zs) = lst P (wayf zs))) = true by simp]
                have Kb := hid (Ka.out.trans kb (fun _ _ h => h))
                clear kb
                go_wp2_with fail
                refine (known_any wb).mono ?_
                rintro _ wz ⟨rfl, kz⟩
                have Kz := hid ((K04.out.trans Kb.out (fun _ _ h => h)).trans kz (fun _ _ h => h))
                clear kz
                go_wp2_with fail
                go_ret
                exact ⟨rfl, Kz.out⟩
            · have hPi : ¬ (62 : Int) < (P : Int) := by omega
              have hpw := pow_i64 P (by omega)
              have hp1 : (1 : Int) ≤ (2 : Int) ^ P := by exact_mod_cast Nat.one_le_two_pow
              by_cases hneg : n < 0
              · skip
                refine (count_any D w4 g fm fv steps fs [] es c (HSW w4 (Kp.refl _ _)) (by rw [← HP.out]; exact hPb)).mono ?_
                rintro _ w5 ⟨rfl, k5⟩
                rw [← HP.out, if_pos (by omega), if_pos (by omega)]
                have K5 := hid k5
                clear k5
                go_wp2_with fail
                refine (plain_any D w5 g fm fv steps fs [] es c (HSW w5 K5) (by rw [← HP.out]; exact hPb) (some ⟨G, 0, none⟩) zs k mc HN.out hk0 (bads_false hbad) (HMW w5 K5)).mono ?_
                rintro _ w6 ⟨G1, rfl, hG1, hr1, k6⟩
                rw [← HP.out] at hr1
                rw [← HP.out]
                have K6 := hid (K5.out.trans k6 (fun _ _ h => h))
                have HR1 := hid hr1
                clear k6 hr1 hG1
                go_wp2_with fail
                refine (number_any D w6 g fm fv steps fs [] es c (HSW w6 K6) (by rw [← HP.out]; omega) (some ⟨G, 0, none⟩) zs k mc HN.out hk0 (bads_false hbad) (HMW w6 K6)).mono ?_
                rintro _ w7 ⟨rfl, k7⟩
                rw [← HP.out]
                have hnb := nbr_lt zs P
                have hnb1 : ((nbr zs P : Nat) : Int) < (2 : Int) ^ P := by exact_mod_cast hnb
                have hnb0 : (0 : Int) ≤ ((nbr zs P : Nat) : Int) := by omega
                generalize nbr zs P = nb at *
                have K7 := hid (K6.out.trans k7 (fun _ _ h => h))
                have HR7 := hid (Rw.kp (κ := .i64) (t := 3) HR1.out k7 (fun h => h))
                clear k7 HR1
                go_wp2_with fail
                refine (at_neg D w7 g fm fv steps fs [] es c (HSW w7 K7) n hneg).mono ?_
                rintro _ w8 ⟨rfl, k8⟩
                have K8 := hid (K7.out.trans k8 (fun _ _ h => h))
                have HR8 := hid (Rw.kp (κ := .i64) (t := 3) HR7.out k8 (fun h => h))
                clear k8
                go_wp2_with fail
                refine (lsame_any (some ⟨G, 0, none⟩) a1 k k mc cap1 zs zs w8 (HMW w8 K8) (HPW w8 K8) HN.out HN.out hk0).mono ?_
                rintro _ w9 ⟨rfl, k9⟩
                rw [show (decide (zs = zs)) = true by simp]
                have K9 := hid (K8.out.trans k9 (fun _ _ h => h))
                have HR9 := hid (Rw.kp (κ := .i64) (t := 3) HR8.out k9 (fun h => h))
                have y9 := HCW w9 K9
                clear k9
                go_wp2_with fail
                refine (lplain_any P hPb a1 zs k cap1 w9 HN.out hk0 (bads_false hbad) (HPW w9 K9)).mono ?_
                rintro _ wa ⟨G3, rfl, hG3, hr3, ka⟩
                have Ka := hid (K9.out.trans ka (fun _ _ h => h))
                have HRa := hid (Rw.kp (κ := .i64) (t := 3) HR9.out ka (fun h => h))
                have HR3 := hid hr3
                clear ka hr3 hG3 y9
                go_wp2_with fail
                refine (lsame_any (some ⟨G1, 0, none⟩) (some ⟨G3, 0, none⟩) P P P P (lst P (wayf zs)) (lst P (wayf zs)) wa (Rw.src HRa.out) (Rw.src HR3.out) (lst_len _ _).symm (lst_len _ _).symm (by omega)).mono ?_
                rintro _ wb ⟨rfl, kb⟩
                rw [show (decide (lst P (wayf zs) = lst P (wayf zs))) = true by simp]
                have Kb := hid (Ka.out.trans kb (fun _ _ h => h))
                clear kb
                go_wp2_with fail
                refine (known_any wb).mono ?_
                rintro _ wz ⟨rfl, kz⟩
                have Kz := hid ((K04.out.trans Kb.out (fun _ _ h => h)).trans kz (fun _ _ h => h))
                clear kz
                go_wp2_with fail
                go_ret
                exact ⟨rfl, Kz.out⟩
              · obtain ⟨q, rfl⟩ := Int.eq_ofNat_of_zero_le (show 0 ≤ n by omega)
                by_cases hin : q < 2 ^ P
                · have hini : (q : Int) < (2 : Int) ^ P := by exact_mod_cast hin
                  refine (count_any D w4 g fm fv steps fs [] es c (HSW w4 (Kp.refl _ _)) (by rw [← HP.out]; exact hPb)).mono ?_
                  rintro _ w5 ⟨rfl, k5⟩
                  rw [← HP.out, if_pos (by omega), if_pos (by omega)]
                  have K5 := hid k5
                  clear k5
                  go_wp2_with fail
                  refine (plain_any D w5 g fm fv steps fs [] es c (HSW w5 K5) (by rw [← HP.out]; exact hPb) (some ⟨G, 0, none⟩) zs k mc HN.out hk0 (bads_false hbad) (HMW w5 K5)).mono ?_
                  rintro _ w6 ⟨G1, rfl, hG1, hr1, k6⟩
                  rw [← HP.out] at hr1
                  rw [← HP.out]
                  have K6 := hid (K5.out.trans k6 (fun _ _ h => h))
                  have HR1 := hid hr1
                  clear k6 hr1 hG1
                  go_wp2_with fail
                  refine (number_any D w6 g fm fv steps fs [] es c (HSW w6 K6) (by rw [← HP.out]; omega) (some ⟨G, 0, none⟩) zs k mc HN.out hk0 (bads_false hbad) (HMW w6 K6)).mono ?_
                  rintro _ w7 ⟨rfl, k7⟩
                  rw [← HP.out]
                  have hnb := nbr_lt zs P
                  have hnb1 : ((nbr zs P : Nat) : Int) < (2 : Int) ^ P := by exact_mod_cast hnb
                  have hnb0 : (0 : Int) ≤ ((nbr zs P : Nat) : Int) := by omega
                  generalize nbr zs P = nb at *
                  have K7 := hid (K6.out.trans k7 (fun _ _ h => h))
                  have HR7 := hid (Rw.kp (κ := .i64) (t := 3) HR1.out k7 (fun h => h))
                  clear k7 HR1
                  go_wp2_with fail
                  refine (at_any D w7 g fm fv steps fs [] es c (HSW w7 K7) (by rw [← HP.out]; omega) q (by rw [← HP.out]; omega)).mono ?_
                  rintro _ w8 ⟨G2, rfl, hG2, hr2, k8⟩
                  rw [← HP.out] at hr2
                  rw [← HP.out]
                  have HR2 := hid hr2
                  clear hr2 hG2
                  have K8 := hid (K7.out.trans k8 (fun _ _ h => h))
                  have HR8 := hid (Rw.kp (κ := .i64) (t := 3) HR7.out k8 (fun h => h))
                  clear k8
                  go_wp2_with fail
                  refine (lsame_any (some ⟨G, 0, none⟩) a1 k k mc cap1 zs zs w8 (HMW w8 K8) (HPW w8 K8) HN.out HN.out hk0).mono ?_
                  rintro _ w9 ⟨rfl, k9⟩
                  rw [show (decide (zs = zs)) = true by simp]
                  have K9 := hid (K8.out.trans k9 (fun _ _ h => h))
                  have HR9 := hid (Rw.kp (κ := .i64) (t := 3) HR8.out k9 (fun h => h))
                  have HQ9 := hid (Rw.kp (κ := .i64) (t := 3) HR2.out k9 (fun h => h))
                  have y9 := HCW w9 K9
                  clear k9
                  go_wp2_with fail
                  refine (lplain_any P hPb a1 zs k cap1 w9 HN.out hk0 (bads_false hbad) (HPW w9 K9)).mono ?_
                  rintro _ wa ⟨G3, rfl, hG3, hr3, ka⟩
                  have Ka := hid (K9.out.trans ka (fun _ _ h => h))
                  have HRa := hid (Rw.kp (κ := .i64) (t := 3) HR9.out ka (fun h => h))
                  have HR3 := hid hr3
                  have HQa := hid (Rw.kp (κ := .i64) (t := 3) HQ9.out ka (fun h => h))
                  clear ka hr3 hG3 y9
                  go_wp2_with fail
                  refine (lsame_any (some ⟨G1, 0, none⟩) (some ⟨G3, 0, none⟩) P P P P (lst P (wayf zs)) (lst P (wayf zs)) wa (Rw.src HRa.out) (Rw.src HR3.out) (lst_len _ _).symm (lst_len _ _).symm (by omega)).mono ?_
                  rintro _ wb ⟨rfl, kb⟩
                  rw [show (decide (lst P (wayf zs) = lst P (wayf zs))) = true by simp]
                  have Kb := hid (Ka.out.trans kb (fun _ _ h => h))
                  have HQb := hid (Rw.kp (κ := .i64) (t := 3) HQa.out kb (fun h => h))
                  clear kb
                  go_wp2_with fail
                  have hzl : ∀ z ∈ lst P (atf P q), 0 ≤ z := atf_pos P q
                  refine (number_any D wb g fm fv steps fs [] es c (HSW wb Kb) (by rw [← HP.out]; omega) (some ⟨G2, 0, none⟩) (lst P (atf P q)) P P (lst_len _ _).symm (by omega) hzl (Rw.src HQb.out)).mono ?_
                  rintro _ wc ⟨rfl, kc⟩
                  rw [← HP.out, nbr_back P q hin]
                  have Kc := hid (Kb.out.trans kc (fun _ _ h => h))
                  have HQc := hid (Rw.kp (κ := .i64) (t := 3) HQb.out kc (fun h => h))
                  clear kc
                  go_wp2_with fail
                  refine (lplain_any P hPb (some ⟨G2, 0, none⟩) (lst P (atf P q)) P P wc (lst_len _ _).symm (by omega) hzl (Rw.src HQc.out)).mono ?_
                  rintro _ wd ⟨G4, rfl, hG4, hr4, kd⟩
                  rw [lst_ext (wayf_at P q)] at hr4
                  have Kd := hid (Kc.out.trans kd (fun _ _ h => h))
                  have HQd := hid (Rw.kp (κ := .i64) (t := 3) HQc.out kd (fun h => h))
                  have HR4 := hid hr4
                  clear kd hr4 hG4
                  go_wp2_with fail
                  refine (lsame_any (some ⟨G2, 0, none⟩) (some ⟨G4, 0, none⟩) P P P P (lst P (atf P q)) (lst P (atf P q)) wd (Rw.src HQd.out) (Rw.src HR4.out) (lst_len _ _).symm (lst_len _ _).symm (by omega)).mono ?_
                  rintro _ we ⟨rfl, ke⟩
                  rw [show (decide (lst P (atf P q) = lst P (atf P q))) = true by simp]
                  have Ke := hid (Kd.out.trans ke (fun _ _ h => h))
                  clear ke
                  go_wp2_with fail
                  refine (known_any we).mono ?_
                  rintro _ wz ⟨rfl, kz⟩
                  have Kz := hid ((K04.out.trans Ke.out (fun _ _ h => h)).trans kz (fun _ _ h => h))
                  clear kz
                  go_wp2_with fail
                  go_ret
                  exact ⟨rfl, Kz.out⟩
                · have hini : ¬ (q : Int) < (2 : Int) ^ P := by (have : 2 ^ P ≤ q := by omega); (have : (2 : Int) ^ P ≤ (q : Int) := by exact_mod_cast this); omega
                  refine (count_any D w4 g fm fv steps fs [] es c (HSW w4 (Kp.refl _ _)) (by rw [← HP.out]; exact hPb)).mono ?_
                  rintro _ w5 ⟨rfl, k5⟩
                  rw [← HP.out, if_pos (by omega), if_pos (by omega)]
                  have K5 := hid k5
                  clear k5
                  go_wp2_with fail
                  refine (plain_any D w5 g fm fv steps fs [] es c (HSW w5 K5) (by rw [← HP.out]; exact hPb) (some ⟨G, 0, none⟩) zs k mc HN.out hk0 (bads_false hbad) (HMW w5 K5)).mono ?_
                  rintro _ w6 ⟨G1, rfl, hG1, hr1, k6⟩
                  rw [← HP.out] at hr1
                  rw [← HP.out]
                  have K6 := hid (K5.out.trans k6 (fun _ _ h => h))
                  have HR1 := hid hr1
                  clear k6 hr1 hG1
                  go_wp2_with fail
                  refine (number_any D w6 g fm fv steps fs [] es c (HSW w6 K6) (by rw [← HP.out]; omega) (some ⟨G, 0, none⟩) zs k mc HN.out hk0 (bads_false hbad) (HMW w6 K6)).mono ?_
                  rintro _ w7 ⟨rfl, k7⟩
                  rw [← HP.out]
                  have hnb := nbr_lt zs P
                  have hnb1 : ((nbr zs P : Nat) : Int) < (2 : Int) ^ P := by exact_mod_cast hnb
                  have hnb0 : (0 : Int) ≤ ((nbr zs P : Nat) : Int) := by omega
                  generalize nbr zs P = nb at *
                  have K7 := hid (K6.out.trans k7 (fun _ _ h => h))
                  have HR7 := hid (Rw.kp (κ := .i64) (t := 3) HR1.out k7 (fun h => h))
                  clear k7 HR1
                  go_wp2_with fail
                  refine (at_rng D w7 g fm fv steps fs [] es c (HSW w7 K7) q (by rw [← HP.out]; omega) (by rw [← HP.out]; exact hPb) (by rw [← HP.out]; omega)).mono ?_
                  rintro _ w8 ⟨rfl, k8⟩
                  have K8 := hid (K7.out.trans k8 (fun _ _ h => h))
                  have HR8 := hid (Rw.kp (κ := .i64) (t := 3) HR7.out k8 (fun h => h))
                  clear k8
                  go_wp2_with fail
                  refine (lsame_any (some ⟨G, 0, none⟩) a1 k k mc cap1 zs zs w8 (HMW w8 K8) (HPW w8 K8) HN.out HN.out hk0).mono ?_
                  rintro _ w9 ⟨rfl, k9⟩
                  rw [show (decide (zs = zs)) = true by simp]
                  have K9 := hid (K8.out.trans k9 (fun _ _ h => h))
                  have HR9 := hid (Rw.kp (κ := .i64) (t := 3) HR8.out k9 (fun h => h))
                  have y9 := HCW w9 K9
                  clear k9
                  go_wp2_with fail
                  refine (lplain_any P hPb a1 zs k cap1 w9 HN.out hk0 (bads_false hbad) (HPW w9 K9)).mono ?_
                  rintro _ wa ⟨G3, rfl, hG3, hr3, ka⟩
                  have Ka := hid (K9.out.trans ka (fun _ _ h => h))
                  have HRa := hid (Rw.kp (κ := .i64) (t := 3) HR9.out ka (fun h => h))
                  have HR3 := hid hr3
                  clear ka hr3 hG3 y9
                  go_wp2_with fail
                  refine (lsame_any (some ⟨G1, 0, none⟩) (some ⟨G3, 0, none⟩) P P P P (lst P (wayf zs)) (lst P (wayf zs)) wa (Rw.src HRa.out) (Rw.src HR3.out) (lst_len _ _).symm (lst_len _ _).symm (by omega)).mono ?_
                  rintro _ wb ⟨rfl, kb⟩
                  rw [show (decide (lst P (wayf zs) = lst P (wayf zs))) = true by simp]
                  have Kb := hid (Ka.out.trans kb (fun _ _ h => h))
                  clear kb
                  go_wp2_with fail
                  refine (known_any wb).mono ?_
                  rintro _ wz ⟨rfl, kz⟩
                  have Kz := hid ((K04.out.trans Kb.out (fun _ _ h => h)).trans kz (fun _ _ h => h))
                  clear kz
                  go_wp2_with fail
                  go_ret
                  exact ⟨rfl, Kz.out⟩
end Go.Proofs.Ytlnknkeagonmpaa
