/- The reference's Check, Checks and Expand. -/
import Derived.Test.YtofmoggejfopiaaXp
namespace Go.Proofs.Ytofmoggejfopiaa
open Go.RowKit

set_option maxRecDepth 100000 in
set_option maxHeartbeats 1000000 in
theorem rcheck_any (y l d : Int) (w : World) : Calls Try.prog 20 #[.agg #[.int .u8 y, .int .i64 l, .int .i64 d]] w fun e w' => e = .returned (.int .i64 (chkN (y, l, d))) ∧ Below w.heap.size w w' := by
  have HA : Hid (Below w.heap.size w (w.alloc (.cells #[.int .u8 y, .int .i64 l, .int .i64 d] 25))) := (Below.refl _ _).alloc (Nat.le_refl _) _
  by_cases hl : l = 0
  · subst hl
    by_cases hd : d = 0
    · subst hd
      have hc : chkN (y, 0, 0) = 0 := by simp [chkN, okT]
      rw [hc]
      clear hc
      go_enter Try.func20, Try.ntmps20
      go_wp2
      go_ret
      exact ⟨rfl, HA.out⟩
    · have hd1 : (d == 0) = false := beq_eq_false_iff_ne.2 hd
      have hc : chkN (y, 0, d) = 2 := by unfold chkN okT; rw [if_neg (by simp; omega)]
      rw [hc]
      clear hc
      by_cases hy : y = 0
      · subst hy
        go_enter Try.func20, Try.ntmps20
        go_wp2
        go_ret
        exact ⟨rfl, HA.out⟩
      · have hy2 : (y != 0) = true := by rw [bne_iff_ne]; exact hy
        go_enter Try.func20, Try.ntmps20
        go_wp2
        go_ret
        exact ⟨rfl, HA.out⟩
  · have hl1 : (l == 0) = false := beq_eq_false_iff_ne.2 hl
    by_cases hy : y = 0
    · subst hy
      by_cases h1 : l < 3
      · have hc : chkN (0, l, d) = 2 := by unfold chkN okT; rw [if_neg (by simp; omega)]
        rw [hc]
        clear hc
        go_enter Try.func20, Try.ntmps20
        go_wp2
        go_ret
        exact ⟨rfl, HA.out⟩
      · by_cases h2 : 258 < l
        · have hc : chkN (0, l, d) = 2 := by unfold chkN okT; rw [if_neg (by simp; omega)]
          rw [hc]
          clear hc
          go_enter Try.func20, Try.ntmps20
          go_wp2
          go_ret
          exact ⟨rfl, HA.out⟩
        · by_cases h3 : d < 1
          · have hc : chkN (0, l, d) = 2 := by unfold chkN okT; rw [if_neg (by simp; omega)]
            rw [hc]
            clear hc
            go_enter Try.func20, Try.ntmps20
            go_wp2
            go_ret
            exact ⟨rfl, HA.out⟩
          · by_cases h4 : 32768 < d
            · have hc : chkN (0, l, d) = 2 := by unfold chkN okT; rw [if_neg (by simp; omega)]
              rw [hc]
              clear hc
              go_enter Try.func20, Try.ntmps20
              go_wp2
              go_ret
              exact ⟨rfl, HA.out⟩
            · have hc : chkN (0, l, d) = 0 := by unfold chkN okT; rw [if_pos (by simp; omega)]
              rw [hc]
              clear hc
              go_enter Try.func20, Try.ntmps20
              go_wp2
              go_ret
              exact ⟨rfl, HA.out⟩
    · have hy2 : (y != 0) = true := by rw [bne_iff_ne]; exact hy
      have hc : chkN (y, l, d) = 2 := by unfold chkN okT; rw [if_neg (by simp; omega)]
      rw [hc]
      clear hc
      go_enter Try.func20, Try.ntmps20
      go_wp2
      go_ret
      exact ⟨rfl, HA.out⟩
set_option maxRecDepth 100000 in
set_option maxHeartbeats 2000000 in
theorem checks_any (ts : List Tok) (ao : Option Addr) (N cap : Nat) (w : World) (hNe : N = ts.length) (hN : N ≤ 100000000) (hS : TSrc w ao ts) :
    Calls Try.prog 21 #[.slice ao N cap] w fun e w' => e = .returned (.int .i64 (refN ts)) ∧ Below w.heap.size w w' := by
  have HNE : Hid (N = ts.length) := hNe
  have HS : Hid (TSrc w ao ts) := hS
  clear hNe hS
  go_enter Try.func21, Try.ntmps21
  go_wp2_with fail
  go_loopw [3] (fun u3 wr => ∃ k : Nat, k ≤ N ∧ u3 = .int .i64 (k : Int) ∧ okK ts k ∧ Below w.heap.size w wr) (fun u3 _ => N - (intOf u3).toNat)
  case atStart => exact ⟨0, Nat.zero_le _, rfl, fun j hj => absurd hj (by omega), Below.refl _ _⟩
  case round =>
    obtain ⟨k, hk, rfl, hok, hb⟩ := hrel
    have HOK : Hid (okK ts k) := hok
    have HBL : Hid (Below w.heap.size w wr) := hb
    clear hok hb
    by_cases hlt : k < N
    · obtain ⟨gb, off, rfl, hcs⟩ := (HS.out.below HBL.out) (by have := HNE.out; omega)
      obtain ⟨x0, x1, x2⟩ := hcs k (by have := HNE.out; omega)
      obtain ⟨⟨y, l, d⟩, ht⟩ : ∃ t, t = ts.getD k zt := ⟨_, rfl⟩
      rw [← ht] at x0 x1 x2
      dsimp only at x0 x1 x2
      have HT : Hid ((y, l, d) = ts.getD k zt) := ht
      clear hcs ht
      go_wp2_with fail
      refine (rcheck_any y l d _).mono ?_
      rintro e w1 ⟨rfl, b1⟩
      have HB1 : Hid (Below w.heap.size w w1) := HBL.out.trans (b1.mono HBL.out.size)
      clear b1
      by_cases hc : okT (y, l, d) = true
      · have hc2 : chkN (y, l, d) = 0 := by unfold chkN; rw [if_pos hc]
        rw [hc2]
        clear hc2
        go_wp2
        exact ⟨⟨k + 1, hlt, by simp, HOK.out.succ (by rw [← HT.out]; exact hc), HB1.out⟩, by simp [intOf]; omega⟩
      · have hc2 : chkN (y, l, d) = 2 := by unfold chkN; rw [if_neg hc]
        rw [hc2]
        clear hc2
        go_wp2
        go_ret
        exact ⟨ret_int (refN_bad (k := k) (by have := HNE.out; omega) (by rw [← HT.out]; simpa using hc)).symm, HB1.out⟩
    · obtain rfl : k = N := by omega
      have hr := refN_ok (by rw [← HNE.out]; exact HOK.out)
      rw [← HNE.out] at hr
      by_cases hbig : 1048576 < k
      · rw [if_pos hbig] at hr
        have HR : Hid (refN ts = 3) := hr
        have hb2 : (1048576 : Int) < (k : Int) := by omega
        clear hr
        go_wp2
        go_ret
        exact ⟨ret_int HR.out.symm, HBL.out⟩
      · rw [if_neg hbig] at hr
        have HR : Hid (refN ts = 0) := hr
        have hb2 : ¬ (1048576 : Int) < (k : Int) := by omega
        clear hr
        go_wp2
        go_ret
        exact ⟨ret_int HR.out.symm, HBL.out⟩
end Go.Proofs.Ytofmoggejfopiaa
