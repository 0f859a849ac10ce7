/- HuffLeast: the law's walk, its other cases. -/
import Derived.Test.YthpocbpleffdpaaSf
namespace Go.Proofs.Ythpocbpleffdpaa
open Go.RowKit
set_option linter.unusedVariables false
set_option linter.unusedSimpArgs false
set_option maxRecDepth 100000

set_option maxHeartbeats 8000000 in
theorem law4_over (w : World) (m : Nat) (hm : m ≤ 14) (ao : Option Addr) (cap : Nat) (zs : List Int) (hl : zs.length ≤ 320) (hz : Ct zs) (hg : 2 ^ (m + 1) < (lv zs zs.length).length) (hs : Src .u32 w ao zs) (hnil : ao = none → cap = 0) :
    Calls Try.prog 4 #[.int .i64 ((m + 1 : Nat) : Int), .slice ao zs.length cap] w fun e w' => e = .returned (.bool true) ∧ Kp (fun _ => False) w w' := by
  have HL : Hid (∀ (U : World) (a : Option Addr) (c : Nat), Src .u32 U a zs → Calls Try.prog 18 #[.int .i64 ((m + 1 : Nat) : Int), .slice a zs.length c] U fun e w' => e = .returned (.tuple #[.slice none 0 0, .int .i64 130]) ∧ Kp (fun _ => False) U w') := fun U a c h => lengths_over U m hm a c zs hl hz h hg
  have HSM : Hid (∀ U, Kp (fun _ => False) w U → Calls Try.prog 19 #[.slice ao zs.length cap] U fun e w' => e = .returned (.int .i64 ((lv zs zs.length).length : Nat)) ∧ U = w') := fun U k => by
    rw [Pm.lv_plen]
    exact some_any U ao cap zs (by omega) hz (hs.kp k (fun _ _ _ x => x))
  obtain ⟨hwr, _, _⟩ := two_wrap hm
  generalize (lv zs zs.length).length = p at *
  generalize 2 ^ (m + 1) = P at *
  have HW := hid hwr
  clear hwr
  have HNU := hid num_any
  have HWK := hid works_any
  have T1 : Hid (([] : List Int).length + zs.length ≤ 35184372088832) := by show _ ≤ _; simp; omega
  have T2 : Hid (([] ++ zs : List Int).length + ([7] : List Int).length ≤ 35184372088832) := by show _ ≤ _; simp; omega
  have HNIL : Hid (ao = none → cap = 0) := hnil
  have hsrc0 : Src .u32 (w.alloc (.cells #[] 38)) ao zs := hs.below ((Below.refl _ _).alloc (Nat.le_refl _) _)
  have HS := hid hs
  clear hnil hs
  go_enter Try.func4, Try.ntmps4
  go_wp2_with (first
    | (at_builtin; refine wpList_append_4 37 38 4 Try.underlying37 info38 (by decide) rfl (.tmp 9) (.tmp 10) rfl w.heap.size (.slice (some ⟨w.heap.size, 0, none⟩) 0 0) [] rfl (own_empty .u32 38 w) _ _ _ zs rfl rfl HNIL.out hsrc0 T1.out (by simp) ?_; intro v1 w1 o1 q1 n1 b1)
    | (at_builtin; refine wpList_append_4 37 38 4 Try.underlying37 info38 (by decide) rfl (.tmp 11) (.tmp 12) rfl w.heap.size v1 ([] ++ zs) rfl (o1.alloc _) _ _ _ [7] rfl rfl (fun e => by cases e) (row_src (tl := []) (Rw.new .u32 38 w1 [7])) T2.out (by have := b1.size; simp at this ⊢; omega) ?_; intro v2 w2 o2 q2 n2 b2; obtain ⟨G, c, tl, rfl, hG, hrow, hc1, hc2⟩ := own_form2 o2; have k2 : Below w.heap.size w w2 := (((Below.refl w.heap.size w).alloc (Nat.le_refl _) _).trans b1).alloc (by have := b1.size; simp at this ⊢; omega) _ |>.trans b2; have HR := hid hrow; have HK := hid (Kp.of_below (F := fun _ => False) k2); clear q1 n1 b1 q2 n2 b2 o1 o2 hrow k2 hsrc0)
    | (go_at_call 18; refine (HL.out w2 (some ⟨G, 0, none⟩) c (row_src HR.out)).mono ?_; rintro _ w3 ⟨rfl, k3⟩; have K3 := hid k3; clear k3))
  have HR3 : Hid (Rw .u32 38 w3 G (zs ++ (7 :: tl))) := HR.out.kp K3.out (fun h => h)
  have HK3 := hid (HK.out.trans K3.out (fun _ _ h => h))
  have hcc := hc1
  clear HR HK HNIL T1 T2 hG hc2 HL
  go_loopw [8] (fun iv wr => ∃ j : Nat, j ≤ zs.length ∧ iv = .int .i64 j ∧ Hid (Kp (fun _ => False) w3 wr)) (fun i _ => zs.length - (intOf i).toNat)
  case atStart => exact ⟨0, Nat.zero_le _, rfl, Kp.refl _ _⟩
  case round =>
    obtain ⟨j, hj, rfl, HB⟩ := hrel
    by_cases hjl : j < zs.length
    · obtain ⟨b', off', rfl, hc'⟩ := (HS.out.kp (HK3.out.trans HB.out (fun _ _ h => h)) (fun _ _ _ h => h)) (by omega)
      have e1 := (HR3.out.kp HB.out (fun h => h)).cell j (by simp; omega)
      have e2 := hc' j hjl
      have e3 : (zs ++ (7 :: tl)).getD j 0 = zs.getD j 0 := by simp [List.getD, List.getElem?_append_left hjl]
      rw [e3] at e1
      generalize zs.getD j 0 = z at e1 e2
      clear hc' e3
      go_wp2_with fail
      go_quiet (fail)
      go_wp2_with fail
      go_roundw
      case rel => exact ⟨j + 1, by omega, by go_num, HB.out.trans (drewN_kp _ _ _) (fun _ _ h => h)⟩
      case measure => simp [intOf]; omega
    · obtain rfl : j = zs.length := by omega
      have c7 : wr.cell? ⟨G, zs.length, none⟩ = some (.int .u32 7) := by
        rw [(HR3.out.kp HB.out (fun h => h)).cell zs.length (by simp)]
        simp [List.getD]
      have HKW := hid (HK3.out.trans HB.out (fun _ _ h => h))
      have HSQ : Hid (∀ q, Calls Try.prog 19 #[.slice ao zs.length cap] (wr.drewN q) fun e w' => e = .returned (.int .i64 (p : Nat)) ∧ wr.drewN q = w') := fun q => HSM.out _ (HKW.out.trans (drewN_kp _ _ _) (fun _ _ h => h))
      go_wp2_with fail
      go_quiet (first | (go_at_call 19; refine Calls.quiet_of_same ((HSQ.out _).mono (fun _ _ h => ⟨h.1, h.2.symm⟩))))
      rw [HW.out]
      go_wp2_with (first
        | (go_at_call 13; refine (HNU.out _ _).mono ?_; rintro e w9 ⟨rfl, rfl⟩)
        | (go_at_call 14; refine (HWK.out _).mono ?_; rintro e w5 ⟨rfl, b5⟩))
      go_ret
      exact ⟨rfl, (HKW.out.trans (drewN_kp _ _ _) (fun _ _ h => h)).trans (Kp.of_below b5) (fun _ _ h => h)⟩

set_option maxHeartbeats 8000000 in
theorem law4_none (w : World) (m : Nat) (hm : m ≤ 14) (ao : Option Addr) (cap : Nat) (zs : List Int) (hl : zs.length ≤ 320) (hz : Ct zs) (hg : (lv zs zs.length).length ≤ 2 ^ (m + 1)) (hp : (Pm.pos zs).length = 0) (hs : Src .u32 w ao zs) (hnil : ao = none → cap = 0) :
    Calls Try.prog 4 #[.int .i64 ((m + 1 : Nat) : Int), .slice ao zs.length cap] w fun e w' => e = .returned (.bool true) ∧ Kp (fun _ => False) w w' := by
  have HL : Hid (∀ (U : World) (a : Option Addr) (c : Nat), Src .u32 U a zs → Calls Try.prog 18 #[.int .i64 ((m + 1 : Nat) : Int), .slice a zs.length c] U fun e w' => ∃ G Y, U.heap.size ≤ G ∧ e = .returned (.tuple #[.slice (some ⟨G, 0, none⟩) zs.length zs.length, .int .i64 0]) ∧ Rw .i64 3 w' G Y ∧ Kp (fun _ => False) U w' ∧ Good zs m Y) := fun U a c h => lengths_good U m hm a c zs hl hz h hg
  have hpl := Pm.lv_plen zs
  have hrow := row_enough hg
  have HSM : Hid (∀ U, Kp (fun _ => False) w U → Calls Try.prog 19 #[.slice ao zs.length cap] U fun e w' => e = .returned (.int .i64 ((Pm.pos zs).length : Nat)) ∧ U = w') := fun U k => some_any U ao cap zs (by omega) hz (hs.kp k (fun _ _ _ x => x))
  obtain ⟨cv, hcv⟩ : ∃ cv, cv = lst zs m := ⟨_, rfl⟩
  have HLE0 : Hid (∀ U, Kp (fun _ => False) w U → Calls Try.prog 22 #[.int .i64 ((m + 1 : Nat) : Int), .slice ao zs.length cap] U fun e w' => e = .returned (.int .u64 (cv : Int)) ∧ Kp (fun _ => False) U w') := fun U k => by
    rw [hcv]
    unfold lst
    by_cases h2 : 2 ≤ (Pm.pos zs).length
    · have := least_many U ao cap (m + 1) zs hl hz (hs.kp k (fun _ _ _ x => x)) (by omega) (by omega) h2 (by rw [Nat.add_sub_cancel]; exact hrow)
      rw [Nat.add_sub_cancel] at this
      rw [if_pos h2]
      exact this
    · rw [if_neg h2]
      exact least_few U ao cap (m + 1) zs hl hz (hs.kp k (fun _ _ _ x => x)) (by omega)
  have HG0 : Hid (∀ Y, Good zs m Y → Wi 15 Y ∧ (2 ≤ (Pm.pos zs).length → wgt Y = 32768) ∧ ((Pm.pos zs).length = 1 → wgt Y = 16384) ∧ ctot Y zs zs.length = cv) := fun Y g => ⟨fun z hzm => by
    obtain ⟨i, h1, rfl⟩ := List.mem_iff_getElem.1 hzm
    have h3 := g.fit i (by rw [← g.len]; exact h1)
    rw [List.getD_eq_getElem?_getD, List.getElem?_eq_getElem h1] at h3
    simp only [Option.getD_some] at h3
    omega, g.two, g.one, by rw [hcv]; exact g.cost⟩
  obtain ⟨hwr, _, _⟩ := two_wrap hm
  rw [hpl] at hg
  have HP := hid hp
  generalize hpp : (Pm.pos zs).length = p at *
  have HPP := hid hpp
  generalize 2 ^ (m + 1) = P at *
  have HW := hid hwr
  have HZ := hid hz
  clear hwr hpl hrow hcv hpp hz
  have HNU := hid num_any
  have HWK := hid works_any
  have T1 : Hid (([] : List Int).length + zs.length ≤ 35184372088832) := by show _ ≤ _; simp; omega
  have T2 : Hid (([] ++ zs : List Int).length + ([7] : List Int).length ≤ 35184372088832) := by show _ ≤ _; simp; omega
  have HNIL : Hid (ao = none → cap = 0) := hnil
  have hsrc0 : Src .u32 (w.alloc (.cells #[] 38)) ao zs := hs.below ((Below.refl _ _).alloc (Nat.le_refl _) _)
  have HS := hid hs
  clear hnil hs
  go_enter Try.func4, Try.ntmps4
  go_wp2_with (first
    | (at_builtin; refine wpList_append_4 37 38 4 Try.underlying37 info38 (by decide) rfl (.tmp 9) (.tmp 10) rfl w.heap.size (.slice (some ⟨w.heap.size, 0, none⟩) 0 0) [] rfl (own_empty .u32 38 w) _ _ _ zs rfl rfl HNIL.out hsrc0 T1.out (by simp) ?_; intro v1 w1 o1 q1 n1 b1)
    | (at_builtin; refine wpList_append_4 37 38 4 Try.underlying37 info38 (by decide) rfl (.tmp 11) (.tmp 12) rfl w.heap.size v1 ([] ++ zs) rfl (o1.alloc _) _ _ _ [7] rfl rfl (fun e => by cases e) (row_src (tl := []) (Rw.new .u32 38 w1 [7])) T2.out (by have := b1.size; simp at this ⊢; omega) ?_; intro v2 w2 o2 q2 n2 b2; obtain ⟨G, c, tl, rfl, hG, hrow, hc1, hc2⟩ := own_form2 o2; have k2 : Below w.heap.size w w2 := (((Below.refl w.heap.size w).alloc (Nat.le_refl _) _).trans b1).alloc (by have := b1.size; simp at this ⊢; omega) _ |>.trans b2; have HR := hid hrow; have HK := hid (Kp.of_below (F := fun _ => False) k2); clear q1 n1 b1 q2 n2 b2 o1 o2 hrow k2 hsrc0)
    | (go_at_call 18; refine (HL.out w2 (some ⟨G, 0, none⟩) c (row_src HR.out)).mono ?_; rintro _ w3 ⟨G', Y, hG', rfl, hY, k3, hgd⟩; have K3 := hid k3; have RY := hid hY; have GD := hid hgd; clear k3 hY hgd hG'))
  have HR3 : Hid (Rw .u32 38 w3 G (zs ++ (7 :: tl))) := HR.out.kp K3.out (fun h => h)
  have HK3 := hid (HK.out.trans K3.out (fun _ _ h => h))
  have hcc := hc1
  clear HR HK HNIL T1 T2 hG hc2 HL
  go_loopw [8] (fun iv wr => ∃ j : Nat, j ≤ zs.length ∧ iv = .int .i64 j ∧ Hid (Kp (fun _ => False) w3 wr)) (fun i _ => zs.length - (intOf i).toNat)
  case atStart => exact ⟨0, Nat.zero_le _, rfl, Kp.refl _ _⟩
  case round =>
    obtain ⟨j, hj, rfl, HB⟩ := hrel
    by_cases hjl : j < zs.length
    · obtain ⟨b', off', rfl, hc'⟩ := (HS.out.kp (HK3.out.trans HB.out (fun _ _ h => h)) (fun _ _ _ h => h)) (by omega)
      have e1 := (HR3.out.kp HB.out (fun h => h)).cell j (by simp; omega)
      have e2 := hc' j hjl
      have e3 : (zs ++ (7 :: tl)).getD j 0 = zs.getD j 0 := by simp [List.getD, List.getElem?_append_left hjl]
      rw [e3] at e1
      generalize zs.getD j 0 = z at e1 e2
      clear hc' e3
      go_wp2_with fail
      go_quiet (fail)
      go_wp2_with fail
      go_roundw
      case rel => exact ⟨j + 1, by omega, by go_num, HB.out.trans (drewN_kp _ _ _) (fun _ _ h => h)⟩
      case measure => simp [intOf]; omega
    · obtain rfl : j = zs.length := by omega
      have c7 : wr.cell? ⟨G, zs.length, none⟩ = some (.int .u32 7) := by
        rw [(HR3.out.kp HB.out (fun h => h)).cell zs.length (by simp)]
        simp [List.getD]
      have HKW := hid (HK3.out.trans HB.out (fun _ _ h => h))
      have HWI := hid (HG0.out Y GD.out).1
      have HC1 := hid (HG0.out Y GD.out).2.2.2
      have HT1 := hid (HG0.out Y GD.out).2
      have HWT : Hid (∀ U, Kp (fun _ => False) w3 U → False → True) := fun _ _ _ => trivial
      have HLE : Hid (∀ U, Kp (fun _ => False) w3 U → Calls Try.prog 22 #[.int .i64 ((m + 1 : Nat) : Int), .slice ao zs.length cap] U fun e w' => e = .returned (.int .u64 (cv : Int)) ∧ Kp (fun _ => False) U w') := fun U k => HLE0.out U (HK3.out.trans k (fun _ _ x => x))
      have HF : Hid (∀ U, Kp (fun _ => False) w3 U → Calls Try.prog 20 #[.slice (some ⟨G', 0, none⟩) zs.length zs.length, .slice ao zs.length cap, .int .i64 ((m + 1 : Nat) : Int)] U fun e w' => e = .returned (.bool true) ∧ Kp (fun _ => False) U w') := fun U k => fits_any U (some ⟨G', 0, none⟩) ao zs.length cap zs.length (m + 1) Y zs (by omega) (by omega) GD.out.len rfl GD.out.fit HZ.out (RY.out.kp k (fun h => h)).src (HS.out.kp (HK3.out.trans k (fun _ _ x => x)) (fun _ _ _ x => x))
      have HC : Hid (∀ U, Kp (fun _ => False) w3 U → Calls Try.prog 21 #[.slice (some ⟨G', 0, none⟩) zs.length zs.length, .slice ao zs.length cap] U fun e w' => e = .returned (.int .u64 (cv : Int)) ∧ Kp (fun _ => False) U w') := fun U k => by
        rw [← HC1.out]
        exact rcost_any U (some ⟨G', 0, none⟩) ao zs.length cap zs.length Y zs (by omega) GD.out.len rfl (fun z h => by have := HWI.out z h; omega) HZ.out (RY.out.kp k (fun h => h)).src (HS.out.kp (HK3.out.trans k (fun _ _ x => x)) (fun _ _ _ x => x))
      have HSQ : Hid (∀ q, Calls Try.prog 19 #[.slice ao zs.length cap] (wr.drewN q) fun e w' => e = .returned (.int .i64 (p : Nat)) ∧ wr.drewN q = w') := fun q => HSM.out _ (HKW.out.trans (drewN_kp _ _ _) (fun _ _ h => h))
      have KQ : Hid (∀ q, Kp (fun _ => False) w3 (wr.drewN q)) := fun q => HB.out.trans (drewN_kp _ _ _) (fun _ _ h => h)
      clear HLE0 HG0 HC1 HZ HWI GD RY HS
      subst hp
      go_wp2_with fail
      go_quiet (first | (go_at_call 19; refine Calls.quiet_of_same ((HSQ.out _).mono (fun _ _ h => ⟨h.1, h.2.symm⟩))))
      rw [HW.out]
      go_wp2_with (first
        | (go_at_call 13; refine (HNU.out _ _).mono ?_; rintro e w9 ⟨rfl, rfl⟩)
        | (go_at_call 20; refine (HF.out _ (KQ.out _)).mono ?_; rintro e wa ⟨rfl, ka⟩; have KA := hid ((KQ.out _).trans ka (fun _ _ x => x)); clear ka)
        | (go_at_call 21; refine (HC.out _ KA.out).mono ?_; rintro e wb ⟨rfl, kb⟩; have KB := hid (KA.out.trans kb (fun _ _ x => x)); clear kb)
        | (go_at_call 22; refine (HLE.out _ KB.out).mono ?_; rintro e wc ⟨rfl, kc⟩; have KC := hid (KB.out.trans kc (fun _ _ x => x)); clear kc)
        | (go_at_call 19; refine (HSM.out _ (HK3.out.trans KC.out (fun _ _ x => x))).mono ?_; rintro e w9 ⟨rfl, rfl⟩)
        | (go_at_call 15; refine (HWT.out _ KC.out).mono ?_; rintro e w9 ⟨rfl, rfl⟩)
        | (go_at_call 14; refine (HWK.out _).mono ?_; rintro e w5 ⟨rfl, b5⟩))
      go_ret
      exact ⟨rfl, (HK3.out.trans KC.out (fun _ _ h => h)).trans (Kp.of_below b5) (fun _ _ h => h)⟩
end Go.Proofs.Ythpocbpleffdpaa
