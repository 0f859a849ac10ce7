/- later: holds. -/
import Derived.Test.YtgfondgejimkkaaLw
namespace Go.Proofs.Ytgfondgejimkkaa
open Go.RowKit
set_option linter.unusedVariables false
set_option linter.unusedSimpArgs false
set_option maxRecDepth 100000 in
set_option maxHeartbeats 8000000 in
theorem holds_any (w : World) (ao : Option Addr) (n cap : Nat) (l : List Rn) (p : Int) (hl : l.length = n) (hn : n ≤ 1000) (hm : ∀ x ∈ l, Mayr x) (hs : Srcr w ao l) (hp : Bt l p) (hp2 : 0 ≤ p ∧ p ≤ 72057594037927936) :
    Calls Try.prog 26 #[.slice ao n cap, .int .i64 p] w fun e w' => e = .returned (.bool true) ∧ Kp (fun _ => False) w w' := by
  have HL := hid hl
  have HM := hid hm
  have HS := hid hs
  have HP := hid hp
  obtain ⟨hpa, hpb⟩ := hp2
  clear hl hm hs hp
  go_enter Try.func26, Try.ntmps26
  go_wp2_with fail
  go_loopw [5] (fun i wr => ∃ (k : Nat), i = .int .i64 (k : Int) ∧ k ≤ n ∧ Hid (Kp (fun _ => False) w wr) ∧ Hid (¬ Bt (l.take k) p)) (fun i _ => n - (intOf i).toNat)
  case atStart => exact ⟨0, rfl, Nat.zero_le _, Kp.refl _ _, fun h => by rw [List.take_zero] at h; exact Bt.nil h⟩
  case round =>
    obtain ⟨k, rfl, hk, HK, HI⟩ := hrel
    by_cases hlt : k < n
    · have hkl : k < l.length := by have := HL.out; omega
      obtain ⟨gb, off, rfl, hgb, x0, x1⟩ := (HS.out.kp HK.out (fun _ _ _ _ h => h)).at (i := k) hkl
      have HTS := hid (take_snocr hkl)
      have hxm := HM.out _ (gd_mem hkl)
      generalize l.getD k zRn = x at *
      obtain ⟨xa, xn⟩ := x
      unfold Mayr Rn.e at hxm
      dsimp only at x0 x1 hxm
      have hw : xa ≤ p → IntKind.i64.wrap (p - xa) = p - xa := fun h => by rw [IntKind.wrap_i64]; omega
      have HNX : Hid (¬ (xa ≤ p ∧ p < xa + xn) → ¬ Bt (l.take (k + 1)) p) := fun hn hb => by
        rw [HTS.out, bt_append, bt_cons] at hb
        rcases hb with hb | hb | hb
        · exact HI.out hb
        · exact hn hb
        · exact Bt.nil hb
      by_cases h1 : xa ≤ p
      · have hw1 := hw h1
        by_cases h2 : p - xa < xn
        · go_wp2_with fail
          go_quiet (fail)
          go_wp2_with fail
          go_ret
          exact ⟨rfl, HK.out.trans (drewN_kp _ _ _) (fun _ _ h => h)⟩
        · go_wp2_with fail
          go_quiet (fail)
          go_wp2_with fail
          go_roundw
          case rel => exact ⟨k + 1, by go_num, hlt, HK.out.trans (drewN_kp _ _ _) (fun _ _ h => h), HNX.out (by omega)⟩
          case measure => simp [intOf]; omega
      · have d1 : decide (xa ≤ p) = false := by simpa using h1
        go_wp2_with fail
        go_quiet (fail)
        go_wp2_with fail
        go_roundw
        case rel => exact ⟨k + 1, by go_num, hlt, HK.out.trans (drewN_kp _ _ _) (fun _ _ h => h), HNX.out (by omega)⟩
        case measure => simp [intOf]; omega
    · obtain rfl : k = n := by omega
      have hno : False := HI.out (by rw [List.take_of_length_le (by have := HL.out; omega)]; exact HP.out)
      exact hno.elim
end Go.Proofs.Ytgfondgejimkkaa
