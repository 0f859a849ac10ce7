/- HuffPlain: the law's walk, whole. -/
import Derived.Test.YthpocbpleffdpaaNf
namespace Go.Proofs.Ythpocbpleffdpaa
open Go.RowKit
set_option linter.unusedVariables false
set_option linter.unusedSimpArgs false
set_option maxRecDepth 100000
theorem pos_ct {zs : List Int} (hz : Ct zs) {i : Nat} (hi : i < zs.length) : i ∉ Pm.pos zs ↔ zs.getD i 0 = 0 := by
  rw [Pm.pos_mem]
  have := hz.at i
  constructor
  · intro h
    have : ¬ 0 < zs.getD i 0 := fun h2 => h ⟨hi, h2⟩
    omega
  · intro h h2
    omega
theorem rep_get (n i : Nat) : (List.replicate n (0 : Int)).getD i 0 = 0 := by
  rw [List.getD_eq_getElem?_getD, List.getElem?_replicate]
  split <;> rfl
/-- Huffman's lengths are such as the counts ask for. -/
theorem hzl_fit {zs : List Int} (hl : zs.length ≤ 320) (hz : Ct zs) : ∀ i, i < zs.length → 0 ≤ (hzl zs).getD i 0 ∧ (hzl zs).getD i 0 ≤ ((319 : Nat) : Int) ∧ ((hzl zs).getD i 0 = 0 ↔ zs.getD i 0 = 0) := by
  intro i hi
  have hp := Pm.pos_le zs
  by_cases h2 : 2 ≤ (Pm.pos zs).length
  · obtain ⟨h, _, h3, _⟩ := Pm.hzl_many (by omega) h2
    by_cases hm : i ∈ Pm.pos zs
    · have a1 := h.one i hm
      have a2 := h3 i hm
      have a3 := (Pm.pos_mem.1 hm).2
      exact ⟨by omega, by omega, ⟨fun e => by omega, fun e => by omega⟩⟩
    · rw [h.zero i hm]
      exact ⟨by omega, by omega, ⟨fun _ => (pos_ct hz hi).1 hm, fun _ => rfl⟩⟩
  · rcases (show (Pm.pos zs).length = 0 ∨ (Pm.pos zs).length = 1 by omega) with h0 | h0
    · have e := List.length_eq_zero_iff.1 h0
      rw [Pm.hzl_none e, rep_get]
      exact ⟨by omega, by omega, ⟨fun _ => (pos_ct hz hi).1 (by rw [e]; simp), fun _ => rfl⟩⟩
    · obtain ⟨s, e⟩ := List.length_eq_one_iff.1 h0
      rw [Pm.hzl_one e]
      have hs : s ∈ Pm.pos zs := by rw [e]; simp
      have hs2 := Pm.pos_mem.1 hs
      by_cases his : i = s
      · subst his
        rw [List.getD_eq_getElem?_getD, List.getElem?_set_self (by rw [List.length_replicate]; exact hs2.1)]
        have := hs2.2
        exact ⟨by simp, by simp, ⟨fun e => by simp at e, fun e => by omega⟩⟩
      · rw [List.getD_eq_getElem?_getD, List.getElem?_set_ne (fun e => his e.symm), ← List.getD_eq_getElem?_getD, rep_get]
        exact ⟨by omega, by omega, ⟨fun _ => (pos_ct hz hi).1 (by rw [e]; simpa using his), fun _ => rfl⟩⟩
theorem hzl_few {zs : List Int} (h2 : (Pm.pos zs).length < 2) : Pm.ltot zs (hzl zs) = (Pm.base zs).getD 0 0 := by
  rcases (show (Pm.pos zs).length = 0 ∨ (Pm.pos zs).length = 1 by omega) with h0 | h0
  · have e := List.length_eq_zero_iff.1 h0
    unfold Pm.ltot Pm.base
    rw [e]
    rfl
  · obtain ⟨s, e⟩ := List.length_eq_one_iff.1 h0
    have hs : s ∈ Pm.pos zs := by rw [e]; simp
    have hs2 := Pm.pos_mem.1 hs
    unfold Pm.ltot Pm.base
    rw [Pm.hzl_one e, e]
    simp only [List.map_cons, List.map_nil, List.sum_cons, List.sum_nil]
    rw [List.getD_eq_getElem?_getD, List.getElem?_set_self (by rw [List.length_replicate]; exact hs2.1)]
    simp [Pm.srt, Pm.ins]
theorem hzl_wi {zs : List Int} (hl : zs.length ≤ 320) (hz : Ct zs) : Wi 320 (hzl zs) := by
  intro z hm
  obtain ⟨i, hi, rfl⟩ := List.mem_iff_getElem.1 hm
  rw [hzl_len] at hi
  have := hzl_fit hl hz i hi
  rw [List.getD_eq_getElem?_getD, List.getElem?_eq_getElem (by rw [hzl_len]; exact hi)] at this
  simp only [Option.getD_some] at this
  omega
set_option maxHeartbeats 8000000 in
theorem law5_long (ao bo : Option Addr) (cap bcap m n : Nat) (w : World) (hn : 320 < n) (hn2 : n ≤ 4000000000000000000) :
    Calls Try.prog 5 #[.slice ao n cap, .slice bo m bcap] w fun e w' => e = .returned (.bool true) ∧ Kp (fun _ => False) w w' := by
  have HP := hid (plain_long w ao cap n hn hn2)
  have HNU := hid num_any
  have HWK := hid works_any
  have hd1 : (320 : Int) < (n : Int) := by omega
  have hd2 : decide ((320 : Int) < (n : Int)) = true := by simp; omega
  clear hn hn2
  go_enter Try.func5, Try.ntmps5
  go_wp2_with fail
  refine HP.out.mono ?_
  rintro e w1 ⟨rfl, rfl⟩
  go_wp2_with (first | (go_at_call 13; refine (HNU.out _ _).mono ?_; rintro e1 wx ⟨rfl, rfl⟩) | (go_at_call 14; refine (HWK.out _).mono ?_; rintro e w5 ⟨rfl, b5⟩))
  go_ret
  exact ⟨rfl, Kp.of_below b5⟩
set_option maxHeartbeats 8000000 in
theorem law5_ok (ao bo : Option Addr) (cap bcap m : Nat) (zs ls : List Int) (w : World) (hl : zs.length ≤ 320) (hz : Ct zs) (ha : Src .u32 w ao zs) (h2 : ls.length = m) (hm : m ≤ 4000000000000000000) (hb : Src .i64 w bo ls) :
    Calls Try.prog 5 #[.slice ao zs.length cap, .slice bo m bcap] w fun e w' => e = .returned (.bool true) ∧ Kp (fun _ => False) w w' := by
  obtain ⟨n, hn⟩ : ∃ n, n = zs.length := ⟨_, rfl⟩
  obtain ⟨p, hp⟩ : ∃ p, p = (Pm.pos zs).length := ⟨_, rfl⟩
  have hpn := Pm.pos_le zs
  have hlz := hzl_len zs
  have hzc : ctot (hzl zs) zs n = Pm.ltot zs (hzl zs) := by rw [hn]; exact ctot_ltot _ _
  obtain ⟨cv, hcv⟩ : ∃ cv, cv = ctot (hzl zs) zs n := ⟨_, rfl⟩
  have HPL : Hid (Calls Try.prog 23 #[.slice ao n cap] w fun e w' => e = .returned (.tuple #[.slice (some ⟨w.heap.size, 0, none⟩) n n, .int .i64 0]) ∧ Rw .i64 3 w' w.heap.size (hzl zs) ∧ Kp (fun _ => False) w w') := by rw [hn]; exact plain_ok w ao cap zs hl hz ha
  have HA : Hid (∀ U, Kp (fun _ => False) w U → Src .u32 U ao zs) := fun U k => ha.kp k (fun _ _ _ x => x)
  have HB : Hid (∀ U, Kp (fun _ => False) w U → Src .i64 U bo ls) := fun U k => hb.kp k (fun _ _ _ x => x)
  have HF : Hid (∀ U, Kp (fun _ => False) w U → Src .i64 U (some ⟨w.heap.size, 0, none⟩) (hzl zs) → Calls Try.prog 20 #[.slice (some ⟨w.heap.size, 0, none⟩) n n, .slice ao n cap, .int .i64 319] U fun e w' => e = .returned (.bool true) ∧ Kp (fun _ => False) U w') := fun U k hs => fits_any U (some ⟨w.heap.size, 0, none⟩) ao n cap n 319 (hzl zs) zs (by omega) (by omega) (by omega) (by omega) (by rw [hn]; exact hzl_fit hl hz) hz hs (HA.out U k)
  have HR : Hid (∀ U, Kp (fun _ => False) w U → Src .i64 U (some ⟨w.heap.size, 0, none⟩) (hzl zs) → Calls Try.prog 21 #[.slice (some ⟨w.heap.size, 0, none⟩) n n, .slice ao n cap] U fun e w' => e = .returned (.int .u64 (cv : Int)) ∧ Kp (fun _ => False) U w') := fun U k hs => by
    rw [hcv]
    exact rcost_any U (some ⟨w.heap.size, 0, none⟩) ao n cap n (hzl zs) zs (by omega) (by omega) (by omega) (hzl_wi hl hz) hz hs (HA.out U k)
  have HLE : Hid (∀ U, Kp (fun _ => False) w U → Calls Try.prog 22 #[.int .i64 320, .slice ao n cap] U fun e w' => e = .returned (.int .u64 (cv : Int)) ∧ Kp (fun _ => False) U w') := fun U k => by
    rw [hcv, hzc, hn]
    by_cases h2 : 2 ≤ (Pm.pos zs).length
    · obtain ⟨_, _, h3, _⟩ := Pm.hzl_many (by omega) h2
      obtain ⟨h4, h5⟩ := Pm.hzl_cost (L := 320) (by omega) h2 (by decide) (fun s hs => by have := h3 s hs; omega)
      rw [h5]
      exact least_many U ao cap 320 zs hl hz (HA.out U k) (by decide) (by decide) h2 h4
    · rw [hzl_few (by omega)]
      exact least_few U ao cap 320 zs hl hz (HA.out U k) (by omega)
  have HSM : Hid (∀ U, Kp (fun _ => False) w U → Calls Try.prog 19 #[.slice ao n cap] U fun e w' => e = .returned (.int .i64 (p : Int)) ∧ U = w') := fun U k => by
    rw [hn, hp]
    exact some_any U ao cap zs (by omega) hz (HA.out U k)
  have HTR : Hid (∀ U, Kp (fun _ => False) w U → Src .i64 U (some ⟨w.heap.size, 0, none⟩) (hzl zs) → 1 < p → Calls Try.prog 24 #[.slice (some ⟨w.heap.size, 0, none⟩) n n] U fun e w' => e = .returned (.bool true) ∧ U = w') := fun U k hs h1 => by
    obtain ⟨h, _, h3, nc, n0, n1, n2⟩ := Pm.hzl_many (zs := zs) (by omega) (by omega)
    have hc0 : Pm.lcnt zs (hzl zs) 0 = 0 := by
      unfold Pm.lcnt
      rw [List.filter_eq_nil_iff.2]
      · rfl
      · intro s hs
        have := h.one s hs
        simp only [decide_eq_true_eq]
        omega
    have hbd : ∀ d, nc d ≤ 2000000 := by
      intro d
      have key : ∀ q d, 320 ≤ d + q → nc d ≤ 321 * (q + 1) := by
        intro q
        induction q with
        | zero => intro d hd; have := n2 d (by omega); omega
        | succ q ih =>
          intro d hd
          have h5 := n1 d
          have h6 := ih (d + 1) (by omega)
          have h7 : Pm.lcnt zs (hzl zs) d ≤ 320 := by
            unfold Pm.lcnt
            have := List.length_filter_le (fun s => decide (((hzl zs).getD s 0).toNat = d)) (Pm.pos zs)
            omega
          omega
      by_cases hd : 320 ≤ d
      · have := n2 d (by omega); omega
      · have := key (320 - d) d (by omega)
        have : 321 * (320 - d + 1) ≤ 321 * 321 := Nat.mul_le_mul_left _ (by omega)
        omega
    refine tree_any U (some ⟨w.heap.size, 0, none⟩) n n (hzl zs) nc (by omega) (by omega) hs ?_ ?_ (n2 321 (by omega)) hbd
    · have := n1 0
      rw [hc0] at this
      simp only [Nat.zero_add] at this
      omega
    · intro d hd
      have e := lc_lcnt h hd
      rw [hn, e]
      exact n1 d
  have HT : Hid (∀ (A : Act) (Y : World), A.tmps = e65 ao n cap bo m bcap (fun i => A.tmps.getD i undef) → A.defers = [] → Kp (fun _ => False) w Y → c65.wp Try.prog (bodyPost Try.prog Try.f5 (fun e w' => e = .returned (.bool true) ∧ Kp (fun _ => False) w w')) A Y) := by
    intro A Y ht hd k
    obtain ⟨f, rfl⟩ := act_of ht hd
    by_cases hmn : m = n
    · subst hmn
      exact t5_eq w Y ao bo cap bcap m zs ls f k (by omega) hn.symm h2 hz (HA.out Y k) (HB.out Y k)
    · exact t5_ne w Y ao bo cap bcap n m zs ls f k (by omega) hn.symm h2 hm (HB.out Y k) hmn
  have HNU := hid num_any
  rw [← hn] at hl ⊢
  clear ha hb hz h2 hm hlz hzc hcv hp hpn HA HB
  clear hn
  refine calls_of_wp (c := cA5) Try.func5 (by kernel_rfl) ?_
  simp only [Try.ntmps5, List.size_toArray, List.length_cons, List.length_nil, Nat.reduceAdd, Nat.reduceSub, Array.replicate_succ, Array.replicate_zero, List.push_toArray, List.append_toArray, List.nil_append, List.cons_append]
  unfold cA5
  generalize hQ : bodyPost _ _ _ = QQ
  go_wp2_with fail
  refine HPL.out.mono ?_
  rintro e w1 ⟨rfl, r1, k1⟩
  have R1 : Hid (∀ U, Kp (fun _ => False) w1 U → Src .i64 U (some ⟨w.heap.size, 0, none⟩) (hzl zs)) := fun U k => r1.src.kp k (fun _ _ _ x => x)
  have K1 := hid k1
  clear r1 k1 HPL
  generalize w.heap.size = G at *
  have hd1 : ¬ (320 : Int) < (n : Int) := by omega
  have hd2 : decide ((320 : Int) < (n : Int)) = false := by simp; omega
  have hd3 : ¬ 320 < n := by omega
  go_wp2_with (first | (go_at_call 13; refine (HNU.out _ _).mono ?_; rintro e1 wx ⟨rfl, rfl⟩))
  refine (HF.out w1 K1.out (R1.out w1 (Kp.refl _ _))).mono ?_
  rintro e w2 ⟨rfl, k2⟩
  have K12 := hid k2
  have K2 := hid (K1.out.trans k2 (fun _ _ x => x))
  clear k2
  go_wp2_with fail
  refine (HR.out w2 K2.out (R1.out w2 K12.out)).mono ?_
  rintro e w3 ⟨rfl, k3⟩
  have K13 := hid (K12.out.trans k3 (fun _ _ x => x))
  have K3 := hid (K2.out.trans k3 (fun _ _ x => x))
  clear k3
  go_wp2_with fail
  refine (HLE.out w3 K3.out).mono ?_
  rintro e w4 ⟨rfl, k4⟩
  have K14 := hid (K13.out.trans k4 (fun _ _ x => x))
  have K4 := hid (K3.out.trans k4 (fun _ _ x => x))
  clear k4
  go_wp2_with fail
  refine (HSM.out w4 K4.out).mono ?_
  rintro e w5 ⟨rfl, rfl⟩
  by_cases hp1 : 1 < p
  · have hq1 : decide ((1 : Int) < (p : Int)) = true := by simp; omega
    have HTT := hid (HTR.out w4 K4.out (R1.out w4 K14.out) hp1)
    go_wp2_with fail
    refine HTT.out.mono ?_
    rintro e w5 ⟨rfl, rfl⟩
    go_wp2_with fail
    subst hQ
    exact HT.out _ w4 (by kernel_rfl) rfl K4.out
  · have hq1 : decide ((1 : Int) < (p : Int)) = false := by simp; omega
    have hq2 : ¬ (1 : Int) < (p : Int) := by omega
    go_wp2_with fail
    subst hQ
    exact HT.out _ w4 (by kernel_rfl) rfl K4.out
end Go.Proofs.Ythpocbpleffdpaa
