/- present; Lengths of 15 bits at most, where Huffman's lengths are within. -/
import Derived.Test.YthpocbpleffdpaaPr
import Derived.Test.YthpocbpleffdpaaLen
namespace Go.Proofs.Ythpocbpleffdpaa
open Go.RowKit

set_option maxHeartbeats 2000000 in
set_option maxRecDepth 100000 in
theorem present_any (w : World) (ao : Option Addr) (cap : Nat) (zs : List Int) (hl : zs.length ≤ 1000000) (hz : ∀ z ∈ zs, 0 ≤ z ∧ z < 4294967296) (hs : Src .u32 w ao zs) :
    Calls Try.prog 49 #[.slice ao zs.length cap] w fun e w' => e = .returned (.int .i64 ((lv zs zs.length).length : Nat)) ∧ w = w' := by
  have HS := hid hs
  have HZ := hid hz
  clear hs hz
  go_enter Try.func49, Try.ntmps49
  go_wp2_with fail
  go_loopw [3, 8] (fun sv iv wr => ∃ i m : Nat, i ≤ zs.length ∧ iv = .int .i64 i ∧ sv = .int .i64 m ∧ m ≤ i ∧ w = wr ∧ Hid (m = (lv zs i).length)) (fun _ i _ => zs.length - (intOf i).toNat)
  case atStart => exact ⟨0, 0, Nat.zero_le _, rfl, rfl, Nat.le_refl _, rfl, rfl⟩
  case round =>
    obtain ⟨i, m, hi, rfl, rfl, hmi, rfl, HM⟩ := hrel
    by_cases hil : i < zs.length
    · obtain ⟨b, off, rfl, hc⟩ := HS.out (by omega)
      have c := hc i hil
      have hzi := HZ.out (zs.getD i 0) (by simp [List.getD, hil])
      obtain ⟨y, hy⟩ : ∃ y : Nat, zs.getD i 0 = (y : Int) := ⟨(zs.getD i 0).toNat, by omega⟩
      rw [hy] at c hzi
      have HY := hid hy
      clear hy hc
      by_cases hp : 0 < y
      · have H1 : Hid (m + 1 = (lv zs (i + 1)).length) := by
          show m + 1 = _
          rw [lv_yes (by rw [HY.out]; omega), List.length_append, ← HM.out]
          rfl
        clear HM
        go_wp2_with fail
        exact ⟨⟨i + 1, m + 1, by omega, rfl, rfl, by omega, (by first | rfl | trivial), H1.out⟩, by simp [intOf]; omega⟩
      · have H1 : Hid (m = (lv zs (i + 1)).length) := by
          show m = _
          rw [lv_no (by rw [HY.out]; omega)]
          exact HM.out
        clear HM
        go_wp2_with fail
        exact ⟨⟨i + 1, m, by omega, rfl, rfl, by omega, (by first | rfl | trivial), H1.out⟩, by simp [intOf]; omega⟩
    · obtain rfl : i = zs.length := by omega
      go_wp2_with fail
      go_ret
      exact ⟨by rw [← HM.out]; rfl, rfl⟩

theorem hzl_len (zs : List Int) : (hzl zs).length = zs.length := by
  unfold hzl
  split
  · simp
  · split
    · rw [snk_len]; simp
    · rw [snk_len]; simp

set_option maxHeartbeats 2000000 in
set_option maxRecDepth 100000 in
theorem lengths_15 (w : World) (ao : Option Addr) (cap : Nat) (zs : List Int) (hl : zs.length ≤ 320) (hz : ∀ z ∈ zs, 0 ≤ z ∧ z < 4294967296) (hs : Src .u32 w ao zs) (hw : Wi 15 (hzl zs)) :
    Calls Try.prog 18 #[.int .i64 15, .slice ao zs.length cap] w fun e w' => e = .returned (.tuple #[.slice (some ⟨w.heap.size, 0, none⟩) zs.length zs.length, .int .i64 0]) ∧ Rw .i64 3 w' w.heap.size (hzl zs) ∧ Kp (fun _ => False) w w' := by
  have hlv : (lv zs zs.length).length ≤ 320 := Nat.le_trans (lv_len zs zs.length) hl
  have hsW := fun q => hs.kp (drewN_kp (fun _ => False) w q) (fun _ _ _ h => h)
  have HP : Hid (∀ q, Calls Try.prog 49 #[.slice ao zs.length cap] (w.drewN q) fun e w' => e = .returned (.int .i64 ((lv zs zs.length).length : Nat)) ∧ w.drewN q = w') := fun q => present_any (w.drewN q) ao cap zs (by omega) hz (hsW q)
  have HQ : Hid (∀ q, Calls Try.prog 50 #[.slice ao zs.length cap] (w.drewN q) fun e w' => e = .returned (.slice (some ⟨w.heap.size, 0, none⟩) zs.length zs.length) ∧ Rw .i64 3 w' w.heap.size (hzl zs) ∧ Kp (fun _ => False) w w') := fun q => by
    have e : (w.drewN q).heap.size = w.heap.size := by
      have h1 := drewN_kp (fun _ => False) w q
      induction q with
      | zero => rfl
      | succ q ih => exact ih (drewN_kp (fun _ => False) w q)
    have := plain_any (w.drewN q) ao cap zs (by omega) hz (hsW q)
    rw [e] at this
    exact this.mono (fun e w' h => ⟨h.1, h.2.1, (drewN_kp (fun _ => False) w q).trans h.2.2 (fun _ _ h => h)⟩)
  have HI : Hid (∀ W, Rw .i64 3 W w.heap.size (hzl zs) → Calls Try.prog 51 #[.slice (some ⟨w.heap.size, 0, none⟩) zs.length zs.length, .int .i64 15] W fun e w' => e = .returned (.bool true) ∧ W = w') := fun W hW => by
    have := within_any (some ⟨w.heap.size, 0, none⟩) zs.length (hzl zs) 15 W (by rw [hzl_len]; omega) hW.src
    rw [hzl_len, decide_eq_true hw] at this
    exact this
  clear hsW hs hw hz
  generalize (lv zs zs.length).length = m at *
  go_enter Try.func18, Try.ntmps18
  go_wp2_with fail
  go_quiet (first | (go_at_call 49; refine Calls.quiet_of_same ((HP.out _).mono (fun _ _ h => ⟨h.1, h.2.symm⟩))))
  go_wp2_with (first
    | (go_at_call 50; refine (HQ.out _).mono ?_; rintro _ w1 ⟨rfl, R1, K1⟩; have HR := hid (And.intro R1 K1); have HT := hid (HI.out w1 R1); clear R1 K1)
    | (go_at_call 51; refine HT.out.mono ?_; rintro _ _ ⟨rfl, rfl⟩))
  go_ret2
  exact ⟨rfl, HR.out.1, HR.out.2⟩

/-- Huffman's lengths at 5, 9, 1, 1. -/
theorem hzl_known : hzl [5, 9, 1, 1] = [2, 1, 3, 3] := by kernel_rfl
theorem wi_known : Wi 15 (hzl [5, 9, 1, 1]) := by
  rw [hzl_known]
  intro z hz
  simp at hz
  rcases hz with rfl | rfl | rfl <;> decide
end Go.Proofs.Ythpocbpleffdpaa
