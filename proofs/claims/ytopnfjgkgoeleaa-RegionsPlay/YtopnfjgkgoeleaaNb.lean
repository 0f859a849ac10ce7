/- regions: beyond. -/
import Derived.Test.YtopnfjgkgoeleaaNa
import Derived.WalkMore
namespace Go.Proofs.Ytopnfjgkgoeleaa
open Go.RowKit
set_option linter.unusedVariables false
set_option linter.unusedSimpArgs false
set_option maxRecDepth 100000 in
set_option maxHeartbeats 4000000 in
theorem beyond_any (L : List Rn) (ao : Option Addr) (n c : Nat) (p : Int) (w : World) (hn : n = L.length) (hc : n ≤ c) (hn2 : n ≤ 100000) (hS : Srcr w ao L) (hL : Srt L) :
    Calls Try.prog 59 #[.slice ao n c, .int .i64 p] w fun e w' => e = .returned (.int .i64 ((bey L p : Nat) : Int)) ∧ Below w.heap.size w w' := by
  have HN := hid hn
  have HS := hid hS
  have HL := hid hL
  clear hn hS hL
  go_enter Try.func59, Try.ntmps59
  go_wp2_with fail
  go_step3
  go_wp2_with fail
  try go_step3
  go_wp2_with fail
  go_loopw [5, 6] (fun l h wr => ∃ lo hi : Nat, lo ≤ hi ∧ hi ≤ n ∧ l = .int .i64 (lo : Int) ∧ h = .int .i64 (hi : Int) ∧ (∀ j, j < lo → (L.getD j zRn).e ≤ p) ∧ (∀ j, hi ≤ j → j < n → p < (L.getD j zRn).e) ∧ Below w.heap.size w wr) (fun l h _ => (intOf h - intOf l).toNat)
  case atStart => exact ⟨0, n, Nat.zero_le _, Nat.le_refl _, rfl, rfl, fun j hj => by omega, fun j h1 h2 => by omega, Below.refl _ _⟩
  case round =>
    obtain ⟨lo, hi, h1, h2, rfl, rfl, g1, g2, hb⟩ := hrel
    have HB := hid hb
    have G1 := hid g1
    have G2 := hid g2
    clear hb g1 g2
    obtain ⟨m, hm⟩ : ∃ m : Nat, m = (lo + hi) / 2 := ⟨_, rfl⟩
    have hq : Int.tdiv ((lo : Int) + (hi : Int)) 2 = (m : Int) := by rw [hm, Int.tdiv_eq_ediv_of_nonneg (by omega)]; omega
    by_cases he : lo = hi
    · subst he
      go_wp2_with fail
      rw [Exit.noGoto_ret]
      go_ret
      refine ⟨ret_int ?_, HB.out⟩
      rw [bey_eq HL.out (i := lo) ⟨by have := HN.out; omega, G1.out, fun j h3 h4 => G2.out j h3 (by have := HN.out; omega)⟩]
    · have hmlt : m < hi := by omega
      have hml : lo ≤ m := by omega
      have HM := hid hm
      clear hm
      obtain ⟨gb, off, rfl, hgb, x0, x1, x2⟩ := (HS.out.below HB.out).at (i := m) (by have := HN.out; omega)
      have HY := hid (HL.out.may (i := m) (by have := HN.out; omega))
      obtain ⟨x, hx⟩ : ∃ x, x = L.getD m zRn := ⟨_, rfl⟩
      rw [← hx] at x0 x1 x2 HY
      have HE : Hid (∀ W, Calls Try.prog 42 #[.agg x.cs] W fun e w' => e = .returned (.int .i64 x.e) ∧ Below W.heap.size W w') := fun W => end_any x W HY.out
      have hlo : ∀ j, j < m → (L.getD j zRn).e ≤ x.e := fun j hj => by
        have := HL.out.lt hj (by have := HN.out; omega)
        have := HY.out
        unfold Mayr at this
        rw [← hx] at *
        unfold Rn.e at *
        omega
      have hhi : ∀ j, m < j → j < n → x.e ≤ (L.getD j zRn).e := fun j hj hjn => by
        have h5 := HL.out.lt hj (by have := HN.out; omega)
        have := HL.out.may (i := j) (by have := HN.out; omega)
        unfold Mayr at this
        rw [← hx] at h5
        unfold Rn.e at *
        omega
      have HLO := hid hlo
      have HHI := hid hhi
      have HX := hid hx
      clear hlo hhi hx
      unfold Rn.cs at HE
      generalize hxe : x.e = xe at HE HLO HHI
      have HXE := hid hxe
      clear hxe
      by_cases hgt : p < xe
      · go_wp2_with (first | (go_at_call 42; refine (HE.out _).mono ?_; rintro e w1 ⟨rfl, b1⟩; have B1 := hid b1; clear b1))
        go_roundw
        case rel => exact ⟨lo, m, hml, by omega, rfl, rfl, G1.out, fun j h3 h4 => by
          by_cases e : j = m
          · rw [e, ← HX.out, HXE.out]; exact hgt
          · have := HHI.out j (by omega) h4; omega, HB.out.trans (B1.out.mono HB.out.size)⟩
        case measure => simp [intOf]; omega
      · go_wp2_with (first | (go_at_call 42; refine (HE.out _).mono ?_; rintro e w1 ⟨rfl, b1⟩; have B1 := hid b1; clear b1))
        go_roundw
        case rel => exact ⟨m + 1, hi, by omega, h2, by go_num, rfl, fun j h3 => by
          by_cases e : j = m
          · rw [e, ← HX.out, HXE.out]; omega
          · have := HLO.out j (by omega); omega, G2.out, HB.out.trans (B1.out.mono HB.out.size)⟩
        case measure => simp [intOf]; omega
end Go.Proofs.Ytopnfjgkgoeleaa
