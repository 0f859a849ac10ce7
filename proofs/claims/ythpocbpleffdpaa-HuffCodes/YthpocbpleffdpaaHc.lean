/- HuffCodes: the walk. -/
import Derived.Test.YthpocbpleffdpaaWk
namespace Go.Proofs.Ythpocbpleffdpaa
open Go.RowKit
set_option linter.unusedVariables false
set_option linter.unusedSimpArgs false
set_option maxRecDepth 100000 in
set_option maxHeartbeats 8000000 in
/-- Lengths that are refused. -/
theorem hc_bad (a0 : Option Addr) (c0 : Nat) (zs : List Int) (w : World) (hl : zs.length ≤ 17592186044400) (hs : Src .i64 w a0 zs) (hnil : a0 = none → c0 = 0) (hb : bad zs ≠ 0) :
    Calls Try.prog 3 #[.slice a0 zs.length c0] w fun e w' => e = .returned (.bool true) ∧ Below w.heap.size w w' := by
  have hm : may zs = bad zs := may_bad hb
  have HS := hid hs
  have HLE := hid (lent_any a0 c0 zs w hl hs hnil)
  have HW : Hid (∀ U G c tl, Rw .i64 3 U G (zs ++ (77 :: tl)) → Calls Try.prog 9 #[.slice (some ⟨G, 0, none⟩) zs.length c] U fun e w' => e = .returned (.tuple #[.int .i64 0, .int .i64 (bad zs)]) ∧ Below U.heap.size U w') := fun U G c tl h => by
    have := hweight_any (some ⟨G, 0, none⟩) c zs U (by omega) (row_src h)
    rw [if_neg hb] at this
    exact this
  have HC : Hid (∀ U G c tl, Rw .i64 3 U G (zs ++ (77 :: tl)) → Calls Try.prog 10 #[.slice (some ⟨G, 0, none⟩) zs.length c] U fun e w' => e = .returned (.tuple #[.slice none 0 0, .int .i64 (bad zs)]) ∧ Below U.heap.size U w') := fun U G c tl h => by
    have := codes_bad (some ⟨G, 0, none⟩) c zs U (row_src h) (by rw [hm]; exact hb) (by omega)
    rw [hm] at this
    exact this
  have HK : Hid (∀ U G c tl, zs.length + 1 ≤ c → Rw .i64 3 U G (zs ++ (77 :: tl)) → Src .i64 U a0 zs → Calls Try.prog 11 #[.slice (some ⟨G, 0, none⟩) zs.length c, .slice a0 zs.length c0] U fun e w' => e = .returned (.bool true) ∧ Below U.heap.size U w') := fun U G c tl h1 h2 h3 => kept_eq G c a0 c0 zs tl U hl h1 h2 h3
  have HCH : Hid (∀ U, Src .i64 U a0 zs → Calls Try.prog 12 #[.slice a0 zs.length c0] U fun e w' => e = .returned (.int .i64 (bad zs)) ∧ U = w') := fun U h => check_any a0 c0 zs U (by omega) h
  have HNU := hid num_any
  have HWK := hid works_any
  have h1 : (bad zs != 0) = true := by simpa using hb
  have h2 : (bad zs == 0) = false := by simpa using hb
  clear hs hm hnil hb
  generalize bad zs = b at *
  go_enter Try.func3, Try.ntmps3
  go_wp2_with (first
    | (go_at_call 8; refine HLE.out.mono ?_; rintro e w1 ⟨G, c, tl, rfl, hG, r1, hc1, hc2, b1⟩; have R1 := hid r1; have B1 := hid b1; have C1 := hid hc1; clear r1 b1 hc1 hc2 hG)
    | (go_at_call 9; refine (HW.out w1 G c tl R1.out).mono ?_; rintro e w2 ⟨rfl, b2⟩; have R2 := hid (R1.out.below b2 R1.out.lt); have B2 := hid (B1.out.trans (b2.mono B1.out.size)); clear b2)
    | (go_at_call 10; refine (HC.out w2 G c tl R2.out).mono ?_; rintro e w3 ⟨rfl, b3⟩; have R3 := hid (R2.out.below b3 R2.out.lt); have B3 := hid (B2.out.trans (b3.mono B2.out.size)); clear b3)
    | (go_at_call 11; refine (HK.out w3 G c tl C1.out R3.out (HS.out.below B3.out)).mono ?_; rintro e w4 ⟨rfl, b4⟩; have B4 := hid (B3.out.trans (b4.mono B3.out.size)); clear b4)
    | (go_at_call 12; refine (HCH.out w4 (HS.out.below B4.out)).mono ?_; rintro e w9 ⟨rfl, rfl⟩)
    | (go_at_call 13; refine (HNU.out _ _).mono ?_; rintro e w9 ⟨rfl, rfl⟩)
    | (go_at_call 14; refine (HWK.out _).mono ?_; rintro e w5 ⟨rfl, b5⟩; have B5 := hid (B4.out.trans (b5.mono B4.out.size)); clear b5))
  go_ret
  exact ⟨rfl, B5.out⟩
set_option maxRecDepth 100000 in
set_option maxHeartbeats 8000000 in
/-- Lengths of too great a weight. -/
theorem hc_over (a0 : Option Addr) (c0 : Nat) (zs : List Int) (w : World) (hs : Src .i64 w a0 zs) (hnil : a0 = none → c0 = 0) (hb : bad zs = 0) (hm0 : may zs ≠ 0) :
    Calls Try.prog 3 #[.slice a0 zs.length c0] w fun e w' => e = .returned (.bool true) ∧ Below w.heap.size w w' := by
  obtain ⟨hw, hl⟩ := bad_zero hb
  have hm : may zs = 130 := by
    unfold may at hm0 ⊢
    rw [if_pos hb] at hm0 ⊢
    split at hm0
    · rename_i h; rw [if_pos h]
    · exact absurd rfl hm0
  have HS := hid hs
  have HLE := hid (lent_any a0 c0 zs w (by omega) hs hnil)
  have HW : Hid (∀ U G c tl, Rw .i64 3 U G (zs ++ (77 :: tl)) → Calls Try.prog 9 #[.slice (some ⟨G, 0, none⟩) zs.length c] U fun e w' => e = .returned (.tuple #[.int .i64 (wgt zs : Int), .int .i64 0]) ∧ Below U.heap.size U w') := fun U G c tl h => by
    have := hweight_any (some ⟨G, 0, none⟩) c zs U (by omega) (row_src h)
    rw [if_pos hb, hb] at this
    exact this
  have HC : Hid (∀ U G c tl, Rw .i64 3 U G (zs ++ (77 :: tl)) → Calls Try.prog 10 #[.slice (some ⟨G, 0, none⟩) zs.length c] U fun e w' => e = .returned (.tuple #[.slice none 0 0, .int .i64 130]) ∧ Below U.heap.size U w') := fun U G c tl h => by
    have := codes_bad (some ⟨G, 0, none⟩) c zs U (row_src h) hm0 (by omega)
    rw [hm] at this
    exact this
  have HK : Hid (∀ U G c tl, zs.length + 1 ≤ c → Rw .i64 3 U G (zs ++ (77 :: tl)) → Src .i64 U a0 zs → Calls Try.prog 11 #[.slice (some ⟨G, 0, none⟩) zs.length c, .slice a0 zs.length c0] U fun e w' => e = .returned (.bool true) ∧ Below U.heap.size U w') := fun U G c tl h1 h2 h3 => kept_eq G c a0 c0 zs tl U (by omega) h1 h2 h3
  have HCH : Hid (∀ U, Src .i64 U a0 zs → Calls Try.prog 12 #[.slice a0 zs.length c0] U fun e w' => e = .returned (.int .i64 0) ∧ U = w') := fun U h => by
    have := check_any a0 c0 zs U (by omega) h
    rw [hb] at this
    exact this
  have HRW : Hid (∀ U, Src .i64 U a0 zs → Calls Try.prog 15 #[.slice a0 zs.length c0] U fun e w' => e = .returned (.int .i64 (wgt zs : Int)) ∧ U = w') := fun U h => rweight_any a0 c0 zs U (by omega) h hw
  have HMY : Hid (∀ U, Src .i64 U a0 zs → Calls Try.prog 16 #[.slice a0 zs.length c0] U fun e w' => e = .returned (.int .i64 130) ∧ U = w') := fun U h => by
    have := may_any a0 c0 zs U (by omega) h
    rw [hm] at this
    exact this
  have HNU := hid num_any
  have HWK := hid works_any
  clear hs hm hm0 hnil hb hw
  generalize (wgt zs : Int) = g at *
  go_enter Try.func3, Try.ntmps3
  go_wp2_with (first
    | (go_at_call 8; refine HLE.out.mono ?_; rintro e w1 ⟨G, c, tl, rfl, hG, r1, hc1, hc2, b1⟩; have R1 := hid r1; have B1 := hid b1; have C1 := hid hc1; clear r1 b1 hc1 hc2 hG)
    | (go_at_call 9; refine (HW.out w1 G c tl R1.out).mono ?_; rintro e w2 ⟨rfl, b2⟩; have R2 := hid (R1.out.below b2 R1.out.lt); have B2 := hid (B1.out.trans (b2.mono B1.out.size)); clear b2)
    | (go_at_call 10; refine (HC.out w2 G c tl R2.out).mono ?_; rintro e w3 ⟨rfl, b3⟩; have R3 := hid (R2.out.below b3 R2.out.lt); have B3 := hid (B2.out.trans (b3.mono B2.out.size)); clear b3)
    | (go_at_call 11; refine (HK.out w3 G c tl C1.out R3.out (HS.out.below B3.out)).mono ?_; rintro e w4 ⟨rfl, b4⟩; have B4 := hid (B3.out.trans (b4.mono B3.out.size)); clear b4)
    | (go_at_call 12; refine (HCH.out w4 (HS.out.below B4.out)).mono ?_; rintro e w9 ⟨rfl, rfl⟩)
    | (go_at_call 15; refine (HRW.out w4 (HS.out.below B4.out)).mono ?_; rintro e w9 ⟨rfl, rfl⟩)
    | (go_at_call 16; refine (HMY.out w4 (HS.out.below B4.out)).mono ?_; rintro e w9 ⟨rfl, rfl⟩)
    | (go_at_call 13; refine (HNU.out _ _).mono ?_; rintro e w9 ⟨rfl, rfl⟩)
    | (go_at_call 14; refine (HWK.out _).mono ?_; rintro e w5 ⟨rfl, b5⟩; have B5 := hid (B4.out.trans (b5.mono B4.out.size)); clear b5))
  go_ret
  exact ⟨rfl, B5.out⟩
set_option maxRecDepth 100000 in
set_option maxHeartbeats 8000000 in
/-- Lengths that have codes. -/
theorem hc_ok (a0 : Option Addr) (c0 : Nat) (zs : List Int) (w : World) (hs : Src .i64 w a0 zs) (hnil : a0 = none → c0 = 0) (hm : may zs = 0) :
    Calls Try.prog 3 #[.slice a0 zs.length c0] w fun e w' => e = .returned (.bool true) ∧ Below w.heap.size w w' := by
  have hb : bad zs = 0 := by
    by_cases h : bad zs = 0
    · exact h
    · exact absurd (may_bad h ▸ hm) h
  obtain ⟨hw, hl⟩ := bad_zero hb
  have HS := hid hs
  have hcl : (codes zs).length = zs.length := pc_length zs 16 0
  have HLE := hid (lent_any a0 c0 zs w (by omega) hs hnil)
  have HW : Hid (∀ U G c tl, Rw .i64 3 U G (zs ++ (77 :: tl)) → Calls Try.prog 9 #[.slice (some ⟨G, 0, none⟩) zs.length c] U fun e w' => e = .returned (.tuple #[.int .i64 (wgt zs : Int), .int .i64 0]) ∧ Below U.heap.size U w') := fun U G c tl h => by
    have := hweight_any (some ⟨G, 0, none⟩) c zs U (by omega) (row_src h)
    rw [if_pos hb, hb] at this
    exact this
  have HC : Hid (∀ U G c tl, Rw .i64 3 U G (zs ++ (77 :: tl)) → Calls Try.prog 10 #[.slice (some ⟨G, 0, none⟩) zs.length c] U fun e w' => ∃ g, e = .returned (.tuple #[.slice (some ⟨g, 0, none⟩) zs.length zs.length, .int .i64 0]) ∧ U.heap.size ≤ g ∧ Rw .u64 35 w' g (codes zs) ∧ Below U.heap.size U w') := fun U G c tl h => codes_ok (some ⟨G, 0, none⟩) c zs U (row_src h) hm hw hl
  have HK : Hid (∀ U G c tl, zs.length + 1 ≤ c → Rw .i64 3 U G (zs ++ (77 :: tl)) → Src .i64 U a0 zs → Calls Try.prog 11 #[.slice (some ⟨G, 0, none⟩) zs.length c, .slice a0 zs.length c0] U fun e w' => e = .returned (.bool true) ∧ Below U.heap.size U w') := fun U G c tl h1 h2 h3 => kept_eq G c a0 c0 zs tl U (by omega) h1 h2 h3
  have HCH : Hid (∀ U, Src .i64 U a0 zs → Calls Try.prog 12 #[.slice a0 zs.length c0] U fun e w' => e = .returned (.int .i64 0) ∧ U = w') := fun U h => by
    have := check_any a0 c0 zs U (by omega) h
    rw [hb] at this
    exact this
  have HRW : Hid (∀ U, Src .i64 U a0 zs → Calls Try.prog 15 #[.slice a0 zs.length c0] U fun e w' => e = .returned (.int .i64 (wgt zs : Int)) ∧ U = w') := fun U h => rweight_any a0 c0 zs U (by omega) h hw
  have HMY : Hid (∀ U, Src .i64 U a0 zs → Calls Try.prog 16 #[.slice a0 zs.length c0] U fun e w' => e = .returned (.int .i64 0) ∧ U = w') := fun U h => by
    have := may_any a0 c0 zs U (by omega) h
    rw [hm] at this
    exact this
  have HRC : Hid (∀ U, Src .i64 U a0 zs → Calls Try.prog 17 #[.slice a0 zs.length c0] U fun e w' => e = .returned (.slice (some ⟨U.heap.size, 0, none⟩) zs.length zs.length) ∧ Rw .u64 35 w' U.heap.size (codes zs) ∧ Below U.heap.size U w') := fun U h => rcodes_any a0 c0 zs U hl h
  have HNU := hid num_any
  have HWK := hid works_any
  clear hs hm hnil hb hw
  generalize (wgt zs : Int) = gw at *
  go_enter Try.func3, Try.ntmps3
  go_wp2_with (first
    | (go_at_call 8; refine HLE.out.mono ?_; rintro e w1 ⟨G, c, tl, rfl, hG, r1, hc1, hc2, b1⟩; have R1 := hid r1; have B1 := hid b1; have C1 := hid hc1; clear r1 b1 hc1 hc2 hG)
    | (go_at_call 9; refine (HW.out w1 G c tl R1.out).mono ?_; rintro e w2 ⟨rfl, b2⟩; have R2 := hid (R1.out.below b2 R1.out.lt); have B2 := hid (B1.out.trans (b2.mono B1.out.size)); clear b2)
    | (go_at_call 10; refine (HC.out w2 G c tl R2.out).mono ?_; rintro e w3 ⟨g, rfl, hg, k3, b3⟩; have K3 := hid k3; have R3 := hid (R2.out.below b3 R2.out.lt); have B3 := hid (B2.out.trans (b3.mono B2.out.size)); clear b3 k3 hg)
    | (go_at_call 11; refine (HK.out w3 G c tl C1.out R3.out (HS.out.below B3.out)).mono ?_; rintro e w4 ⟨rfl, b4⟩; have K4 := hid (K3.out.below b4 K3.out.lt); have B4 := hid (B3.out.trans (b4.mono B3.out.size)); clear b4)
    | (go_at_call 12; refine (HCH.out w4 (HS.out.below B4.out)).mono ?_; rintro e w9 ⟨rfl, rfl⟩)
    | (go_at_call 15; refine (HRW.out w4 (HS.out.below B4.out)).mono ?_; rintro e w9 ⟨rfl, rfl⟩)
    | (go_at_call 16; refine (HMY.out w4 (HS.out.below B4.out)).mono ?_; rintro e w9 ⟨rfl, rfl⟩)
    | (go_at_call 17; refine (HRC.out w4 (HS.out.below B4.out)).mono ?_; rintro e w5 ⟨rfl, k5, b5⟩; have T5 := hid k5; have K5 := hid (K4.out.below b5 K4.out.lt); have B5 := hid (B4.out.trans (b5.mono B4.out.size)); clear b5 k5)
    | (go_at_call 13; refine (HNU.out _ _).mono ?_; rintro e w9 ⟨rfl, rfl⟩))
  generalize w4.heap.size = g2 at *
  have HX : Hid (Src .u64 w5 (some ⟨g, 0, none⟩) (codes zs) ∧ Src .u64 w5 (some ⟨g2, 0, none⟩) (codes zs)) := ⟨K5.out.src, T5.out.src⟩
  clear HLE HW HC HK HCH HRW HMY HRC K5 T5 R1 R2 R3 K3 K4 B1 B2 B3 B4 C1
  go_loopw [9] (fun iv wr => ∃ j : Nat, j ≤ zs.length ∧ iv = .int .i64 j ∧ Below w5.heap.size w5 wr) (fun i _ => zs.length - (intOf i).toNat)
  case atStart => exact ⟨0, Nat.zero_le _, rfl, Below.refl _ _⟩
  case round =>
    obtain ⟨j, hj, rfl, hB⟩ := hrel
    by_cases hjl : j < zs.length
    · obtain ⟨b1, o1, e1', hc⟩ := (HX.out.1.below hB) (by omega)
      obtain ⟨b2, o2, e2', hc'⟩ := (HX.out.2.below hB) (by omega)
      cases e1'
      cases e2'
      have e1 := hc j (by omega)
      have e2 := hc' j (by omega)
      rw [Nat.zero_add] at e1 e2
      generalize (codes zs).getD j 0 = z at e1 e2
      clear hc hc'
      have HB := hid hB
      clear hB
      go_wp2_with fail
      go_quiet (fail)
      go_wp2_with fail
      go_roundw
      case rel => exact ⟨j + 1, by omega, by go_num, HB.out.trans (below_drewN _ _ _)⟩
      case measure => simp [intOf]; omega
    · have HB := hid hB
      clear hB
      go_wp2_with (first | (go_at_call 14; refine (HWK.out _).mono ?_; rintro e w6 ⟨rfl, b6⟩))
      go_ret
      have hW := B5.out.trans (HB.out.mono B5.out.size)
      exact ⟨rfl, hW.trans (b6.mono hW.size)⟩
/-- HuffCodes, whatever the lengths. -/
theorem hc_any (a0 : Option Addr) (c0 : Nat) (zs : List Int) (w : World) (hl : zs.length ≤ 17592186044400) (hs : Src .i64 w a0 zs) (hnil : a0 = none → c0 = 0) :
    Calls Try.prog 3 #[.slice a0 zs.length c0] w fun e w' => e = .returned (.bool true) ∧ Below w.heap.size w w' := by
  by_cases hb : bad zs = 0
  · by_cases hm : may zs = 0
    · exact hc_ok a0 c0 zs w hs hnil hm
    · exact hc_over a0 c0 zs w hs hnil hb hm
  · exact hc_bad a0 c0 zs w hl hs hnil hb
end Go.Proofs.Ythpocbpleffdpaa
