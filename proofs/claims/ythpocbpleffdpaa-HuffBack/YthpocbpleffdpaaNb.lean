/- The law's fits and tree. -/
import Derived.Test.YthpocbpleffdpaaNa
namespace Go.Proofs.Ythpocbpleffdpaa
open Go.RowKit
set_option linter.unusedVariables false
set_option linter.unusedSimpArgs false
set_option maxRecDepth 100000
set_option maxHeartbeats 4000000 in
theorem fits_any (w : World) (ao bo : Option Addr) (cap bcap n : Nat) (mo : Nat) (ls zs : List Int) (hn : n ≤ 1000000) (hmo : mo ≤ 1000000) (h1 : ls.length = n) (h2 : zs.length = n) (hf : ∀ i, i < n → 0 ≤ ls.getD i 0 ∧ ls.getD i 0 ≤ (mo : Int) ∧ (ls.getD i 0 = 0 ↔ zs.getD i 0 = 0)) (hz : Ct zs) (hs : Src .i64 w ao ls) (hb : Src .u32 w bo zs) :
    Calls Try.prog 20 #[.slice ao n cap, .slice bo n bcap, .int .i64 (mo : Int)] w fun e w' => e = .returned (.bool true) ∧ Kp (fun _ => False) w w' := by
  have HS := hid hs
  have HB := hid hb
  have HF := hid hf
  have HZ := hid hz
  have H1 := hid h1
  have H2 := hid h2
  clear hs hb hf hz h1 h2
  go_enter Try.func20, Try.ntmps20
  go_wp2_with fail
  go_loopw [7] (fun iv wr => ∃ i : Nat, i ≤ n ∧ iv = .int .i64 i ∧ Hid (Kp (fun _ => False) w wr)) (fun i _ => n - (intOf i).toNat)
  case atStart => exact ⟨0, Nat.zero_le _, rfl, Kp.refl _ _⟩
  case round =>
    obtain ⟨i, hi, rfl, HK⟩ := hrel
    by_cases hil : i < n
    · obtain ⟨b, off, rfl, hc⟩ := HS.out (by have := H1.out; omega)
      obtain ⟨b2, off2, rfl, hc2⟩ := HB.out (by have := H2.out; omega)
      have c1 := kp_cellh HK.out (hc i (by have := H1.out; omega)) (fun h => h)
      have c2 := kp_cellh HK.out (hc2 i (by have := H2.out; omega)) (fun h => h)
      obtain ⟨f1, f2, f3⟩ := HF.out i hil
      have hy := HZ.out.at i
      obtain ⟨x, hxe⟩ : ∃ x : Nat, ls.getD i 0 = (x : Int) := ⟨(ls.getD i 0).toNat, by omega⟩
      obtain ⟨y, hye⟩ : ∃ y : Nat, zs.getD i 0 = (y : Int) := ⟨(zs.getD i 0).toNat, by omega⟩
      rw [hxe] at c1 f1 f2 f3
      rw [hye] at c2 f3 hy
      clear hxe hye hc hc2
      by_cases hx0 : x = 0
      · subst hx0
        obtain rfl : y = 0 := by omega
        clear f1 f2 f3 hy
        go_wp2_with fail
        go_quiet (fail)
        go_wp2_with fail
        go_roundw
        case rel => exact ⟨i + 1, by omega, by go_num, HK.out.trans (drewN_kp _ _ _) (fun _ _ h => h)⟩
        case measure => simp [intOf]; omega
      · have g1 : (x : Int) ≠ 0 := by omega
        have g2 : (y : Int) ≠ 0 := by omega
        have g3 : ((x : Int) == 0) = false := by simpa using g1
        have g4 : ((y : Int) == 0) = false := by simpa using g2
        have g5 : decide ((mo : Int) < (x : Int)) = false := by simp; omega
        have g6 : decide (mo < x) = false := by simp; omega
        have g7 : ¬ mo < x := by omega
        have g8 : decide ((x : Int) < 0) = false := by simp
        clear f1 f2 f3 hy
        go_wp2_with fail
        go_quiet (fail)
        go_wp2_with fail
        go_roundw
        case rel => exact ⟨i + 1, by omega, by go_num, HK.out.trans (drewN_kp _ _ _) (fun _ _ h => h)⟩
        case measure => simp [intOf]; omega
    · obtain rfl : i = n := by omega
      go_wp2_with fail
      go_ret
      exact ⟨rfl, HK.out⟩
/-- How many of the first j are d. -/
def lc (ls : List Int) (d : Nat) : Nat → Nat
  | 0 => 0
  | j + 1 => lc ls d j + (if ls.getD j 0 = (d : Int) then 1 else 0)
theorem lc_le (ls : List Int) (d : Nat) : ∀ j, lc ls d j ≤ j
  | 0 => Nat.le_refl _
  | j + 1 => by have := lc_le ls d j; simp only [lc]; split <;> omega
theorem lc_range (ls : List Int) (d : Nat) : ∀ n, lc ls d n = ((List.range n).filter (fun i => decide (ls.getD i 0 = (d : Int)))).length
  | 0 => rfl
  | n + 1 => by
    rw [lc, lc_range ls d n, List.range_succ, List.filter_append, List.length_append]
    congr 1
    by_cases h : ls.getD n 0 = (d : Int)
    · rw [if_pos h, List.filter_cons_of_pos (by simpa using h)]; rfl
    · rw [if_neg h, List.filter_cons_of_neg (by simpa using h)]; rfl
theorem lc_lcnt {zs ls : List Int} (h : Pm.Hz zs ls) {d : Nat} (hd : 1 ≤ d) : lc ls d zs.length = Pm.lcnt zs ls d := by
  rw [lc_range]
  unfold Pm.lcnt Pm.pos
  rw [List.filter_filter]
  congr 1
  refine List.filter_congr (fun i hi => ?_)
  have hi2 : i < zs.length := List.mem_range.1 hi
  by_cases hp : 0 < zs.getD i 0
  · have h1 := h.one i (Pm.pos_mem.2 ⟨hi2, hp⟩)
    rw [decide_eq_true hp, Bool.and_true]
    exact decide_eq_decide.2 ⟨fun e => by omega, fun e => by omega⟩
  · have h1 := h.zero i (fun hm => hp (Pm.pos_mem.1 hm).2)
    rw [decide_eq_false hp, Bool.and_false]
    exact decide_eq_false (by omega)
set_option maxHeartbeats 4000000 in
theorem tree_any (w : World) (ao : Option Addr) (cap n : Nat) (ls : List Int) (nc : Nat → Nat) (hn : n ≤ 1000000) (h1 : ls.length = n) (hs : Src .i64 w ao ls) (n1 : nc 1 = 2) (hst : ∀ d, 1 ≤ d → nc (d + 1) + 2 * lc ls d n = 2 * nc d) (hz : nc 321 = 0) (hbd : ∀ d, nc d ≤ 2000000) :
    Calls Try.prog 24 #[.slice ao n cap] w fun e w' => e = .returned (.bool true) ∧ w = w' := by
  have HS := hid hs
  have HST := hid hst
  have HZ := hid hz
  have HN1 := hid n1
  have HBD := hid hbd
  have H1 := hid h1
  clear hs hst hz n1 hbd h1
  go_enter Try.func24, Try.ntmps24
  go_wp2_with fail
  go_loopw [3, 4, 5] (fun sv dv xv wr => ∃ d m : Nat, d ≤ 320 ∧ m ≤ 1000000 ∧ dv = .int .i64 d ∧ sv = .int .i64 m ∧ w = wr ∧ Hid (2 * m = nc (d + 1))) (fun _ d _ _ => (intOf d).toNat)
  case atStart => exact ⟨320, 0, Nat.le_refl _, Nat.zero_le _, rfl, rfl, rfl, by show _ = _; rw [HZ.out]⟩
  case round =>
    obtain ⟨d, m, hd, hm, rfl, rfl, rfl, HM⟩ := hrel
    by_cases hd0 : 0 < d
    · go_wp2_with fail
      go_loopw [3, 5] (fun sv iv wx => ∃ i s : Nat, i ≤ n ∧ s ≤ m + i ∧ iv = .int .i64 i ∧ sv = .int .i64 s ∧ w = wx ∧ Hid (s = m + lc ls d i)) (fun _ i _ => n - (intOf i).toNat)
      case atStart => exact ⟨0, m, Nat.zero_le _, by omega, rfl, rfl, rfl, rfl⟩
      case round =>
        obtain ⟨i, s, hi, hsm, rfl, rfl, rfl, HI⟩ := hrel
        by_cases hil : i < n
        · obtain ⟨b, off, rfl, hc⟩ := HS.out (by have := H1.out; omega)
          have c1 := hc i (by have := H1.out; omega)
          have HL : Hid (lc ls d (i + 1) = lc ls d i + (if ls.getD i 0 = (d : Int) then 1 else 0)) := rfl
          generalize ls.getD i 0 = x at *
          clear hc
          by_cases hx : x = (d : Int)
          · rw [if_pos hx] at HL
            subst hx
            have HI2 : Hid (s + 1 = m + lc ls d (i + 1)) := by have := HI.out; have := HL.out; show _ = _; omega
            clear HI HL
            go_wp2_with fail
            go_roundw
            case rel => exact ⟨i + 1, s + 1, by omega, by omega, by go_num, by go_num, by first | rfl | trivial, HI2.out⟩
            case measure => simp [intOf]; omega
          · rw [if_neg hx] at HL
            have HI2 : Hid (s = m + lc ls d (i + 1)) := by have := HI.out; have := HL.out; show _ = _; omega
            have hx2 : (x == (d : Int)) = false := by simpa using hx
            clear HI HL
            go_wp2_with fail
            go_roundw
            case rel => exact ⟨i + 1, s, by omega, by omega, by go_num, rfl, by first | rfl | trivial, HI2.out⟩
            case measure => simp [intOf]; omega
        · obtain rfl : i = n := by omega
          have HSN : Hid (s = nc d) := by
            have h1 := HI.out
            have h2 := HM.out
            have h3 := HST.out d (by omega)
            show _ = _
            omega
          obtain ⟨q, hq⟩ : ∃ q, nc d = 2 * q := by
            by_cases h1 : d = 1
            · subst h1; exact ⟨1, HN1.out⟩
            · have h3 := HST.out (d - 1) (by omega)
              rw [show d - 1 + 1 = d by omega] at h3
              exact ⟨nc (d - 1) - lc ls (d - 1) i, by omega⟩
          have hq1 : q ≤ 1000000 := by have := HBD.out d; omega
          obtain rfl : s = 2 * q := by have := HSN.out; omega
          have HQ := hid hq
          clear hq HI HSN hsm
          go_wp2_with fail
          refine ⟨⟨d - 1, q, by omega, hq1, ?_, rfl, trivial, ?_⟩, by simp [intOf]; omega⟩
          · rw [show ((d - 1 : Nat) : Int) = (d : Int) - 1 by omega]
          · show _ = _
            rw [show d - 1 + 1 = d by omega, HQ.out]
    · obtain rfl : d = 0 := by omega
      have h1 := HM.out
      have h2 := HN1.out
      rw [Nat.zero_add] at h1
      obtain rfl : m = 1 := by omega
      clear h1 h2 HM
      go_wp2_with fail
      go_ret
      exact ⟨rfl, rfl⟩
end Go.Proofs.Ythpocbpleffdpaa
