/- HuffCoding: the law's walk: the symbols. -/
import Derived.Test.YthpocbpleffdpaaEc
namespace Go.Proofs.Ythpocbpleffdpaa
open Go.RowKit Go.Shelf
set_option linter.unusedVariables false
set_option linter.unusedSimpArgs false
set_option maxRecDepth 100000
set_option maxHeartbeats 8000000 in
theorem w19 (w X : World) (T1 g : Nat) (la ca sa a0 a1 a2 : Option Addr) (lc cc sc c0 c1 c2 : Nat) (zs S ss B : List Int) (skip leave : Int) (gw : Nat) (nv fe : Int) (f : Nat → Value) (h : Cx w X T1 g la ca sa a0 a1 a2 lc cc sc c0 c1 c2 zs S ss B skip leave)
    (HC : ∀ (A : Act) (Y : World), A.tmps = e24 T1 g gw nv fe (bd zs ss ss.length) (fun i => A.tmps.getD i undef) → A.defers = [] → Kp (fun _ => False) X Y → c246.wp Try.prog (bodyPost Try.prog Try.f6 (fun e w' => e = .returned (.bool true) ∧ Kp (fun _ => False) w w')) A Y) :
    c196.wp Try.prog (bodyPost Try.prog Try.f6 (fun e w' => e = .returned (.bool true) ∧ Kp (fun _ => False) w w')) { tmps := e19 T1 g gw nv fe f, defers := [] } X := by
  have hbz : bad zs = 0 := by
    by_cases hh : bad zs = 0
    · exact hh
    · exact absurd (may_bad hh ▸ h.hm) hh
  obtain ⟨hwi, hzl⟩ := bad_zero hbz
  have HWI := hid hwi
  have HCX := hid h
  have HCC := hid HC
  have hsl := h.h1
  clear h HC hwi hbz
  obtain ⟨n, hn⟩ : ∃ n, n = zs.length := ⟨_, rfl⟩
  obtain ⟨m, hm⟩ : ∃ m, m = ss.length := ⟨_, rfl⟩
  have HN := hid hn
  have HM := hid hm
  rw [← hn] at hzl
  rw [← hm] at hsl HCC
  clear hn hm
  unfold c196 e19
  generalize hQ : bodyPost _ _ _ = QQ
  go_wp2_with fail
  go_loopw [10, 11] (fun s10 s11 wr => ∃ j : Nat, j ≤ m ∧ s10 = .bool (bd zs ss j) ∧ s11 = .int .i64 (j : Int) ∧ Hid (Kp (fun _ => False) X wr)) (fun _ s11 _ => m - (intOf s11).toNat)
  case atStart => exact ⟨0, by omega, rfl, rfl, Kp.refl _ _⟩
  case round =>
    obtain ⟨j, hj, rfl, rfl, HKW⟩ := hrel
    have CY := HCX.out.same HKW.out
    have t0 : wr.cell? ⟨T1, 0, none⟩ = some (.slice a0 n c0) := by rw [HN.out]; exact CY.sT.cell 0
    have t1 : wr.cell? ⟨T1, 1, none⟩ = some (.slice a1 m c1) := by rw [HM.out]; exact CY.sT.cell 1
    by_cases hlt : j < m
    · have HBD : Hid (bd zs ss (j + 1) = (bd zs ss j || !hasb zs (ss.getD j 0))) := rfl
      cases hq : bd zs ss j with
      | true =>
        rw [hq] at HBD
        have hb1 : bd zs ss (j + 1) = true := by rw [HBD.out]; rfl
        clear CY
        go_wp2_with fail
        go_quiet (fail)
        go_wp2_with fail
        go_roundw
        case rel => exact ⟨j + 1, by omega, by rw [hb1], by go_num, HKW.out.trans (drewN_kp _ _ _) (fun _ _ h => h)⟩
        case measure => simp [intOf]; omega
      | false =>
        rw [hq] at HBD
        obtain ⟨b1, o1, e1, hc1⟩ := CY.s1 (by have := HM.out; omega)
        have cs := hc1 j (by have := HM.out; omega)
        obtain ⟨s, hs⟩ : ∃ s, s = ss.getD j 0 := ⟨_, rfl⟩
        rw [← hs] at cs HBD
        subst e1
        clear hc1
        by_cases hs0 : s < 0
        · have hb1 : bd zs ss (j + 1) = true := by rw [HBD.out]; unfold hasb; rw [decide_eq_false (by omega)]; rfl
          clear CY hs
          go_wp2_with fail
          go_quiet (fail)
          go_wp2_with fail
          go_roundw
          case rel => exact ⟨j + 1, by omega, by rw [hb1], by go_num, HKW.out.trans (drewN_kp _ _ _) (fun _ _ h => h)⟩
          case measure => simp [intOf]; omega
        · obtain ⟨k, rfl⟩ := Int.eq_ofNat_of_zero_le (show 0 ≤ s by omega)
          by_cases hsn : k < n
          · obtain ⟨b0, o0, e0, hc0⟩ := CY.s0 (by have := HN.out; omega)
            have ck := hc0 k (by have := HN.out; omega)
            have hz0 : 0 ≤ zs.getD k 0 := by
              have := HN.out
              exact (HWI.out (zs.getD k 0) (by rw [List.getD_eq_getElem?_getD, List.getElem?_eq_getElem (show k < zs.length by omega)]; exact List.getElem_mem _)).1
            have hb1 : bd zs ss (j + 1) = (zs.getD k 0 == 0) := by
              have hnn := HN.out
              rw [HBD.out]
              unfold hasb
              rw [Int.toNat_natCast, decide_eq_true (by omega), decide_eq_true (show ((k : Nat) : Int) < (zs.length : Int) by omega)]
              by_cases hz : zs.getD k 0 = 0
              · rw [hz]; rfl
              · rw [decide_eq_true (by omega)]; simpa using hz
            generalize zs.getD k 0 = z at *
            subst e0
            have hd1 : decide ((n : Int) ≤ (k : Int)) = false := by simp; omega
            have hd2 : decide (n ≤ k) = false := by simp; omega
            have hd3 : ¬ n ≤ k := by omega
            have hd4 : decide ((k : Int) < 0) = false := by simp
            clear hc0 CY hs
            go_wp2_with fail
            go_quiet (fail)
            go_wp2_with fail
            go_roundw
            case rel => exact ⟨j + 1, by omega, by rw [hb1], by go_num, HKW.out.trans (drewN_kp _ _ _) (fun _ _ h => h)⟩
            case measure => simp [intOf]; omega
          · have hb1 : bd zs ss (j + 1) = true := by
              have hnn := HN.out
              rw [HBD.out]; unfold hasb; rw [decide_eq_false (show ¬ (((k : Nat) : Int) < (zs.length : Int)) by omega)]; simp
            have hd1 : decide ((n : Int) ≤ (k : Int)) = true := by simp; omega
            have hd2 : decide (n ≤ k) = true := by simp; omega
            have hd3 : n ≤ k := by omega
            have hd4 : decide ((k : Int) < 0) = false := by simp
            clear CY hs
            go_wp2_with fail
            go_quiet (fail)
            go_wp2_with fail
            go_roundw
            case rel => exact ⟨j + 1, by omega, by rw [hb1], by go_num, HKW.out.trans (drewN_kp _ _ _) (fun _ _ h => h)⟩
            case measure => simp [intOf]; omega
    · obtain rfl : j = m := by omega
      clear CY
      go_wp2_with fail
      subst hQ
      exact HCC.out _ wr (by kernel_rfl) rfl HKW.out
end Go.Proofs.Ythpocbpleffdpaa
