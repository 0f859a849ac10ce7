/- Lengths (18), whole. -/
import Derived.Test.YthpocbpleffdpaaSc
import Derived.Test.YthpocbpleffdpaaNg
namespace Go.Proofs.Ythpocbpleffdpaa
open Go.RowKit

theorem two_wrap {m : Nat} (hm : m ≤ 14) : wrap64 ((2 : Int) ^ (m + 1)) = ((2 ^ (m + 1) : Nat) : Int) ∧ 2 ≤ 2 ^ (m + 1) ∧ 2 ^ (m + 1) ≤ 32768 := by
  have h : m = 0 ∨ m = 1 ∨ m = 2 ∨ m = 3 ∨ m = 4 ∨ m = 5 ∨ m = 6 ∨ m = 7 ∨ m = 8 ∨ m = 9 ∨ m = 10 ∨ m = 11 ∨ m = 12 ∨ m = 13 ∨ m = 14 := by omega
  rcases h with rfl | rfl | rfl | rfl | rfl | rfl | rfl | rfl | rfl | rfl | rfl | rfl | rfl | rfl | rfl <;> exact ⟨by kernel_rfl, by decide, by decide⟩

/-- The least most is out of bounds. -/
theorem lengths_low (w : World) (mz : Int) (hm : mz < 1) (ao : Option Addr) (cap n : Nat) :
    Calls Try.prog 18 #[.int .i64 mz, .slice ao n cap] w fun e w' => e = .returned (.tuple #[.slice none 0 0, .int .i64 2]) ∧ Kp (fun _ => False) w w' := by
  go_enter Try.func18, Try.ntmps18
  go_wp2_with fail
  go_ret2
  exact ⟨rfl, Kp.refl _ _⟩
theorem lengths_high (w : World) (mz : Int) (hm : 15 < mz) (ao : Option Addr) (cap n : Nat) :
    Calls Try.prog 18 #[.int .i64 mz, .slice ao n cap] w fun e w' => e = .returned (.tuple #[.slice none 0 0, .int .i64 2]) ∧ Kp (fun _ => False) w w' := by
  go_enter Try.func18, Try.ntmps18
  go_wp2_with fail
  go_ret2
  exact ⟨rfl, Kp.refl _ _⟩
theorem lengths_long (w : World) (mz : Int) (h1 : 1 ≤ mz) (h2 : mz ≤ 15) (ao : Option Addr) (cap n : Nat) (hl : 320 < n) (hn : n ≤ 4000000000000000000) :
    Calls Try.prog 18 #[.int .i64 mz, .slice ao n cap] w fun e w' => e = .returned (.tuple #[.slice none 0 0, .int .i64 3]) ∧ Kp (fun _ => False) w w' := by
  go_enter Try.func18, Try.ntmps18
  go_wp2_with fail
  go_ret2
  exact ⟨rfl, Kp.refl _ _⟩
set_option maxHeartbeats 2000000 in
set_option maxRecDepth 100000 in
theorem lengths_over (w : World) (m : Nat) (hm : m ≤ 14) (ao : Option Addr) (cap : Nat) (zs : List Int) (hl : zs.length ≤ 320) (hz : ∀ z ∈ zs, 0 ≤ z ∧ z < 4294967296) (hs : Src .u32 w ao zs) (hw : 2 ^ (m + 1) < (lv zs zs.length).length) :
    Calls Try.prog 18 #[.int .i64 ((m + 1 : Nat) : Int), .slice ao zs.length cap] w fun e w' => e = .returned (.tuple #[.slice none 0 0, .int .i64 130]) ∧ Kp (fun _ => False) w w' := by
  have hlv : (lv zs zs.length).length ≤ 320 := Nat.le_trans (lv_len zs zs.length) hl
  have hsW := fun q => hs.kp (drewN_kp (fun _ => False) w q) (fun _ _ _ h => h)
  have HP : Hid (∀ q, Calls Try.prog 49 #[.slice ao zs.length cap] (w.drewN q) fun e w' => e = .returned (.int .i64 ((lv zs zs.length).length : Nat)) ∧ w.drewN q = w') := fun q => present_any (w.drewN q) ao cap zs (by omega) hz (hsW q)
  obtain ⟨hwr, _, _⟩ := two_wrap hm
  clear hsW hs hz
  generalize (lv zs zs.length).length = nl at *
  generalize 2 ^ (m + 1) = P at *
  have HW := hid hwr
  clear hwr
  go_enter Try.func18, Try.ntmps18
  go_wp2_with fail
  go_quiet (first | (go_at_call 49; refine Calls.quiet_of_same ((HP.out _).mono (fun _ _ h => ⟨h.1, h.2.symm⟩))))
  rw [HW.out]
  go_wp2_with fail
  go_ret2
  exact ⟨rfl, drewN_kp _ _ _⟩
set_option maxHeartbeats 2000000 in
set_option maxRecDepth 100000 in
/-- Huffman's lengths, where they are within. -/
theorem lengths_plain (w : World) (m : Nat) (hm : m ≤ 14) (ao : Option Addr) (cap : Nat) (zs : List Int) (hl : zs.length ≤ 320) (hz : ∀ z ∈ zs, 0 ≤ z ∧ z < 4294967296) (hs : Src .u32 w ao zs) (hw : (lv zs zs.length).length ≤ 2 ^ (m + 1)) (hi : Wi (m + 1 : Nat) (hzl zs)) :
    Calls Try.prog 18 #[.int .i64 ((m + 1 : Nat) : Int), .slice ao zs.length cap] w fun e w' => e = .returned (.tuple #[.slice (some ⟨w.heap.size, 0, none⟩) zs.length zs.length, .int .i64 0]) ∧ Rw .i64 3 w' w.heap.size (hzl zs) ∧ Kp (fun _ => False) w w' := by
  have hlv : (lv zs zs.length).length ≤ 320 := Nat.le_trans (lv_len zs zs.length) hl
  have hsW := fun q => hs.kp (drewN_kp (fun _ => False) w q) (fun _ _ _ h => h)
  have HP : Hid (∀ q, Calls Try.prog 49 #[.slice ao zs.length cap] (w.drewN q) fun e w' => e = .returned (.int .i64 ((lv zs zs.length).length : Nat)) ∧ w.drewN q = w') := fun q => present_any (w.drewN q) ao cap zs (by omega) hz (hsW q)
  have HQ : Hid (∀ q, Calls Try.prog 50 #[.slice ao zs.length cap] (w.drewN q) fun e w' => e = .returned (.slice (some ⟨w.heap.size, 0, none⟩) zs.length zs.length) ∧ Rw .i64 3 w' w.heap.size (hzl zs) ∧ Kp (fun _ => False) w w') := fun q => by
    have e : (w.drewN q).heap.size = w.heap.size := by
      induction q with
      | zero => rfl
      | succ q ih => exact ih
    have := plain_any (w.drewN q) ao cap zs (by omega) hz (hsW q)
    rw [e] at this
    exact this.mono (fun e w' h => ⟨h.1, h.2.1, (drewN_kp (fun _ => False) w q).trans h.2.2 (fun _ _ h => h)⟩)
  have HI : Hid (∀ W, Rw .i64 3 W w.heap.size (hzl zs) → Calls Try.prog 51 #[.slice (some ⟨w.heap.size, 0, none⟩) zs.length zs.length, .int .i64 ((m + 1 : Nat) : Int)] W fun e w' => e = .returned (.bool true) ∧ W = w') := fun W hW => by
    have := within_any (some ⟨w.heap.size, 0, none⟩) zs.length (hzl zs) (m + 1 : Nat) W (by rw [hzl_len]; omega) hW.src
    rw [hzl_len, decide_eq_true hi] at this
    exact this
  obtain ⟨hwr, _, _⟩ := two_wrap hm
  clear hsW hs hi hz
  generalize (lv zs zs.length).length = nl at *
  generalize 2 ^ (m + 1) = P at *
  have HW := hid hwr
  clear hwr
  go_enter Try.func18, Try.ntmps18
  go_wp2_with fail
  go_quiet (first | (go_at_call 49; refine Calls.quiet_of_same ((HP.out _).mono (fun _ _ h => ⟨h.1, h.2.symm⟩))))
  rw [HW.out]
  go_wp2_with (first
    | (go_at_call 50; refine (HQ.out _).mono ?_; rintro _ w1 ⟨rfl, R1, K1⟩; have HR := hid (And.intro R1 K1); have HT := hid (HI.out w1 R1); clear R1 K1)
    | (go_at_call 51; refine HT.out.mono ?_; rintro _ _ ⟨rfl, rfl⟩))
  go_ret2
  exact ⟨rfl, HR.out.1, HR.out.2⟩
set_option maxHeartbeats 2000000 in
set_option maxRecDepth 100000 in
/-- The coins' lengths, where Huffman's are not within. -/
theorem lengths_spent (w : World) (m : Nat) (hm : m ≤ 14) (ao : Option Addr) (cap : Nat) (zs : List Int) (hl : zs.length ≤ 320) (hz : ∀ z ∈ zs, 0 ≤ z ∧ z < 4294967296) (hs : Src .u32 w ao zs) (hw : (lv zs zs.length).length ≤ 2 ^ (m + 1)) (hi : ¬ Wi (m + 1 : Nat) (hzl zs)) (h0 : 1 < (lv zs zs.length).length) (hr : 2 * ((lv zs zs.length).length - 1) ≤ (Pm.row (Pm.base zs) m).length) :
    Calls Try.prog 18 #[.int .i64 ((m + 1 : Nat) : Int), .slice ao zs.length cap] w fun e w' => ∃ G, w.heap.size ≤ G ∧ e = .returned (.tuple #[.slice (some ⟨G, 0, none⟩) zs.length zs.length, .int .i64 0]) ∧ Rw .i64 3 w' G (spl zs m) ∧ Kp (fun _ => False) w w' := by
  have hlv : (lv zs zs.length).length ≤ 320 := Nat.le_trans (lv_len zs zs.length) hl
  have hsW := fun q => hs.kp (drewN_kp (fun _ => False) w q) (fun _ _ _ h => h)
  have HP : Hid (∀ q, Calls Try.prog 49 #[.slice ao zs.length cap] (w.drewN q) fun e w' => e = .returned (.int .i64 ((lv zs zs.length).length : Nat)) ∧ w.drewN q = w') := fun q => present_any (w.drewN q) ao cap zs (by omega) hz (hsW q)
  have HQ : Hid (∀ q, Calls Try.prog 50 #[.slice ao zs.length cap] (w.drewN q) fun e w' => e = .returned (.slice (some ⟨w.heap.size, 0, none⟩) zs.length zs.length) ∧ Rw .i64 3 w' w.heap.size (hzl zs) ∧ Kp (fun _ => False) w w') := fun q => by
    have e : (w.drewN q).heap.size = w.heap.size := by
      induction q with
      | zero => rfl
      | succ q ih => exact ih
    have := plain_any (w.drewN q) ao cap zs (by omega) hz (hsW q)
    rw [e] at this
    exact this.mono (fun e w' h => ⟨h.1, h.2.1, (drewN_kp (fun _ => False) w q).trans h.2.2 (fun _ _ h => h)⟩)
  have HI : Hid (∀ W, Rw .i64 3 W w.heap.size (hzl zs) → Calls Try.prog 51 #[.slice (some ⟨w.heap.size, 0, none⟩) zs.length zs.length, .int .i64 ((m + 1 : Nat) : Int)] W fun e w' => e = .returned (.bool false) ∧ W = w') := fun W hW => by
    have := within_any (some ⟨w.heap.size, 0, none⟩) zs.length (hzl zs) (m + 1 : Nat) W (by rw [hzl_len]; omega) hW.src
    rw [hzl_len, decide_eq_false hi] at this
    exact this
  have HSP : Hid (∀ W, Kp (fun _ => False) w W → Calls Try.prog 52 #[.int .i64 ((m + 1 : Nat) : Int), .slice ao zs.length cap] W fun e w' => e = .returned (.slice (some ⟨W.heap.size, 0, none⟩) zs.length zs.length) ∧ w.heap.size ≤ W.heap.size ∧ Rw .i64 3 w' W.heap.size (spl zs m) ∧ Kp (fun _ => False) w w') := fun W k => (spent_any W m hm ao cap zs hl hz (hs.kp k (fun _ _ _ h => h)) h0 hr).mono (fun e w' x => ⟨x.1, k.size, x.2.1, k.trans x.2.2 (fun _ _ h => h)⟩)
  obtain ⟨hwr, _, _⟩ := two_wrap hm
  clear hsW hs hi hz hr h0
  generalize (lv zs zs.length).length = nl at *
  generalize 2 ^ (m + 1) = P at *
  have HW := hid hwr
  clear hwr
  go_enter Try.func18, Try.ntmps18
  go_wp2_with fail
  go_quiet (first | (go_at_call 49; refine Calls.quiet_of_same ((HP.out _).mono (fun _ _ h => ⟨h.1, h.2.symm⟩))))
  rw [HW.out]
  go_wp2_with (first
    | (go_at_call 50; refine (HQ.out _).mono ?_; rintro _ w1 ⟨rfl, R1, K1⟩; have HT := hid (HI.out w1 R1); have HS := hid (HSP.out w1 K1); clear R1 K1)
    | (go_at_call 51; refine HT.out.mono ?_; rintro _ _ ⟨rfl, rfl⟩)
    | (go_at_call 52; refine HS.out.mono ?_; rintro _ w2 ⟨rfl, hsz, R2, K2⟩))
  go_ret2
  exact ⟨_, hsz, rfl, R2, K2⟩
end Go.Proofs.Ythpocbpleffdpaa
