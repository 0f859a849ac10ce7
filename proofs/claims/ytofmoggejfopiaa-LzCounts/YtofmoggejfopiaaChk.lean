/- Tokens that may be: Check, refused; rows of tokens that are read. -/
import Derived.Test.YtofmoggejfopiaaBase
namespace Go.Proofs.Ytofmoggejfopiaa
open Go.RowKit

def zt : Tok := (0, 0, 0)
/-- The tokens that lie at an address. -/
def TSrc (w : World) (ao : Option Addr) (ts : List Tok) : Prop := 0 < ts.length → ∃ b off, ao = some ⟨b, off, none⟩ ∧ ∀ i, i < ts.length →
  w.cell? ⟨b, off + i * 3, none⟩ = some (.int .u8 (ts.getD i zt).1) ∧ w.cell? ⟨b, off + i * 3 + 1, none⟩ = some (.int .i64 (ts.getD i zt).2.1) ∧ w.cell? ⟨b, off + i * 3 + 2, none⟩ = some (.int .i64 (ts.getD i zt).2.2)
theorem TSrc.nil (w : World) (ao : Option Addr) : TSrc w ao [] := fun h => absurd h (by simp)
theorem TSrc.below {w w' : World} {ao : Option Addr} {ts : List Tok} (h : TSrc w ao ts) (hb : Below w.heap.size w w') : TSrc w' ao ts := by
  intro hp
  obtain ⟨b, off, e, hc⟩ := h hp
  refine ⟨b, off, e, fun i hi => ?_⟩
  obtain ⟨h0, h1, h2⟩ := hc i hi
  exact ⟨(hb.cell (block_lt_of_cell h0)).trans h0, (hb.cell (block_lt_of_cell h1)).trans h1, (hb.cell (block_lt_of_cell h2)).trans h2⟩
/-- A token may be. -/
def okT (t : Tok) : Bool := decide (t.2.1 = 0 ∧ t.2.2 = 0 ∨ (t.1 = 0 ∧ (3 ≤ t.2.1 ∧ t.2.1 ≤ 258) ∧ (1 ≤ t.2.2 ∧ t.2.2 ≤ 32768)))
set_option maxRecDepth 100000 in
set_option maxHeartbeats 400000 in
theorem isLength_any (n : Int) (w : World) : Calls Try.prog 41 #[.int .i64 n] w fun e w' => e = .returned (.bool (decide (3 ≤ n ∧ n ≤ 258))) ∧ w' = w := by
  by_cases h : 3 ≤ n
  · go_enter Try.func41, Try.ntmps41
    go_wp2
    go_ret
    exact ⟨ret_bool (by simp [h]), rfl⟩
  · go_enter Try.func41, Try.ntmps41
    go_wp2
    go_ret
    exact ⟨ret_bool (by simp; omega), rfl⟩
set_option maxRecDepth 100000 in
set_option maxHeartbeats 400000 in
theorem isDistance_any (n : Int) (w : World) : Calls Try.prog 42 #[.int .i64 n] w fun e w' => e = .returned (.bool (decide (1 ≤ n ∧ n ≤ 32768))) ∧ w' = w := by
  by_cases h : 1 ≤ n
  · go_enter Try.func42, Try.ntmps42
    go_wp2
    go_ret
    exact ⟨ret_bool (by simp [h]), rfl⟩
  · go_enter Try.func42, Try.ntmps42
    go_wp2
    go_ret
    exact ⟨ret_bool (by simp; omega), rfl⟩
theorem okT_false {t : Tok} (h : okT t = false) : ¬ (t.2.1 = 0 ∧ t.2.2 = 0 ∨ (t.1 = 0 ∧ (3 ≤ t.2.1 ∧ t.2.1 ≤ 258) ∧ (1 ≤ t.2.2 ∧ t.2.2 ≤ 32768))) := by simpa [okT] using h
/-- What Check answers. -/
def chkN (t : Tok) : Int := if okT t = true then 0 else 2
set_option maxRecDepth 100000 in
set_option maxHeartbeats 1000000 in
theorem check_any (y l d : Int) (w : World) : Calls Try.prog 19 #[.agg #[.int .u8 y, .int .i64 l, .int .i64 d]] w fun e w' => e = .returned (.int .i64 (chkN (y, l, d))) ∧ Below w.heap.size w w' := by
  have hA : Below w.heap.size w (w.alloc (.cells #[.int .u8 y, .int .i64 l, .int .i64 d] 25)) := (Below.refl _ _).alloc (Nat.le_refl _) _
  have HA : Hid (Below w.heap.size w (w.alloc (.cells #[.int .u8 y, .int .i64 l, .int .i64 d] 25))) := hA
  clear hA
  by_cases hl : l = 0
  · subst hl
    by_cases hd : d = 0
    · subst hd
      have hc : chkN (y, 0, 0) = 0 := by simp [chkN, okT]
      rw [hc]
      clear hc
      go_enter Try.func19, Try.ntmps19
      go_wp2
      go_ret
      exact ⟨rfl, HA.out⟩
    · have hd1 : (d == 0) = false := beq_eq_false_iff_ne.2 hd
      have hc : chkN (y, 0, d) = 2 := by unfold chkN okT; rw [if_neg (by simp; omega)]
      rw [hc]
      clear hc
      by_cases hy : y = 0
      · subst hy
        go_enter Try.func19, Try.ntmps19
        go_wp2_with (first | (go_at_call 41; refine (isLength_any _ _).mono ?_; rintro e w' ⟨rfl, rfl⟩) | (go_at_call 42; refine (isDistance_any _ _).mono ?_; rintro e w' ⟨rfl, rfl⟩))
        all_goals
          go_ret
          exact ⟨rfl, HA.out⟩
      · have hy1 : (y == 0) = false := beq_eq_false_iff_ne.2 hy
        have hy2 : (y != 0) = true := by rw [bne_iff_ne]; exact hy
        go_enter Try.func19, Try.ntmps19
        go_wp2_with (first | (go_at_call 41; refine (isLength_any _ _).mono ?_; rintro e w' ⟨rfl, rfl⟩) | (go_at_call 42; refine (isDistance_any _ _).mono ?_; rintro e w' ⟨rfl, rfl⟩))
        all_goals
          go_ret
          exact ⟨rfl, HA.out⟩
  · have hl1 : (l == 0) = false := beq_eq_false_iff_ne.2 hl
    by_cases hy : y = 0
    · subst hy
      by_cases hl2 : 3 ≤ l ∧ l ≤ 258
      · by_cases hd2 : 1 ≤ d ∧ d ≤ 32768
        · have hc : chkN (0, l, d) = 0 := by unfold chkN okT; rw [if_pos (by simp; omega)]
          rw [hc]
          have e1 : decide (3 ≤ l ∧ l ≤ 258) = true := by simpa using hl2
          have e2 : decide (1 ≤ d ∧ d ≤ 32768) = true := by simpa using hd2
          clear hc hl2 hd2
          go_enter Try.func19, Try.ntmps19
          go_wp2_with (first | (go_at_call 41; refine (isLength_any _ _).mono ?_; rintro e w' ⟨rfl, rfl⟩; rw [e1]) | (go_at_call 42; refine (isDistance_any _ _).mono ?_; rintro e w' ⟨rfl, rfl⟩; rw [e2]))
          go_ret
          exact ⟨rfl, HA.out⟩
        · have hc : chkN (0, l, d) = 2 := by unfold chkN okT; rw [if_neg (by simp; omega)]
          rw [hc]
          have e1 : decide (3 ≤ l ∧ l ≤ 258) = true := by simpa using hl2
          have e2 : decide (1 ≤ d ∧ d ≤ 32768) = false := decide_eq_false hd2
          clear hc hl2 hd2
          go_enter Try.func19, Try.ntmps19
          go_wp2_with (first | (go_at_call 41; refine (isLength_any _ _).mono ?_; rintro e w' ⟨rfl, rfl⟩; rw [e1]) | (go_at_call 42; refine (isDistance_any _ _).mono ?_; rintro e w' ⟨rfl, rfl⟩; rw [e2]))
          go_ret
          exact ⟨rfl, HA.out⟩
      · have hc : chkN (0, l, d) = 2 := by unfold chkN okT; rw [if_neg (by simp; omega)]
        rw [hc]
        have e1 : decide (3 ≤ l ∧ l ≤ 258) = false := decide_eq_false hl2
        clear hc hl2
        go_enter Try.func19, Try.ntmps19
        go_wp2_with (first | (go_at_call 41; refine (isLength_any _ _).mono ?_; rintro e w' ⟨rfl, rfl⟩; rw [e1]) | (go_at_call 42; refine (isDistance_any _ _).mono ?_; rintro e w' ⟨rfl, rfl⟩))
        go_ret
        exact ⟨rfl, HA.out⟩
    · have hy2 : (y != 0) = true := by rw [bne_iff_ne]; exact hy
      have hc : chkN (y, l, d) = 2 := by unfold chkN okT; rw [if_neg (by simp; omega)]
      rw [hc]
      clear hc
      go_enter Try.func19, Try.ntmps19
      go_wp2_with fail
      go_ret
      exact ⟨rfl, HA.out⟩
end Go.Proofs.Ytofmoggejfopiaa
