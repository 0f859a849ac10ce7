/- granules: has, asked, which granules are meant. -/
import Derived.Test.YteenlifdamhffaaDoorNf
namespace Go.Proofs.YteenlifdamhffaaDoor
open Go.RowKit
set_option linter.unusedVariables false
set_option linter.unusedSimpArgs false
theorem frm_mono {gr a b : Nat} (h : a ≤ b) : frm gr a ≤ frm gr b := by
  unfold frm
  exact Nat.div_le_div_right (by omega)
theorem bit_one (y k : Nat) (hy : y < T64) : bits .and .u64 ((y : Int) / 2 ^ k) 1 = (if y.testBit k then 1 else 0) := by
  have e : (y : Int) / 2 ^ k = ((y / 2 ^ k : Nat) : Int) := by rw [Int.natCast_ediv, Int.natCast_pow]; rfl
  have h1 := bits_and_u64_nat (y / 2 ^ k) 1 (Nat.lt_of_le_of_lt (Nat.div_le_self _ _) hy) (by decide)
  rw [e]
  refine Eq.trans h1 ?_
  rw [Nat.and_one_is_mod]
  have h2 : y.testBit k = decide (y / 2 ^ k % 2 = 1) := by rw [Nat.testBit_eq_decide_div_mod_eq]
  rw [h2]
  by_cases h3 : y / 2 ^ k % 2 = 1
  · rw [decide_eq_true h3, h3]; rfl
  · rw [decide_eq_false h3, show y / 2 ^ k % 2 = 0 by omega]; rfl
set_option maxRecDepth 100000 in
set_option maxHeartbeats 1000000 in
theorem has_any (r L c g : Nat) (ws : List Nat) (w : World) (hL : L = ws.length) (hW : W64 ws) (hg : g < 64 * ws.length) (hb : ws.length ≤ 1000000000) (hr : Rw .u64 102 w r (up ws)) :
    Calls Tryd.prog 61 #[.slice (some ⟨r, 0, none⟩) L c, .int .i64 g] w fun e w' => e = .returned (.bool (dty ws g)) ∧ w' = w := by
  have yc := hr.cell (g / 64) (by rw [up_len]; omega)
  rw [up_get] at yc
  have hy := hW.get (g / 64)
  have hbit := bit_one (ws.getD (g / 64) 0) (g % 64) hy
  have hd : dty ws g = (ws.getD (g / 64) 0).testBit (g % 64) := rfl
  generalize ws.getD (g / 64) 0 = y at *
  have hil : ¬ L ≤ g / 64 := by omega
  have hmin : min (g % 64) 64 = g % 64 := Nat.min_eq_left (by omega)
  rw [hd]
  clear hd hr hy hW
  cases hbv : y.testBit (g % 64) with
  | true =>
    rw [hbv, if_pos rfl] at hbit
    go_enter Tryd.func61, Tryd.ntmps61
    go_wp2_with fail
    go_ret
    exact ⟨rfl, rfl⟩
  | false =>
    rw [hbv] at hbit
    simp at hbit
    go_enter Tryd.func61, Tryd.ntmps61
    go_wp2_with fail
    go_ret
    exact ⟨rfl, rfl⟩
/-- What refuses a call about n bytes from a place on. -/
def askc (sz : Nat) (a n : Int) : Int := if a < 0 ∨ n < 0 then 2 else if (sz : Int) - a < n then 4 else 0
theorem askc_0 {sz : Nat} {a n : Int} (h : askc sz a n = 0) : ∃ b m : Nat, a = b ∧ n = m ∧ b + m ≤ sz := by
  unfold askc at h
  split at h
  · omega
  · split at h
    · omega
    · exact ⟨a.toNat, n.toNat, by omega, by omega, by omega⟩
set_option maxRecDepth 100000 in
set_option maxHeartbeats 1000000 in
theorem asked_any (Q r sz gr : Nat) (ws : List Nat) (w : World) (h : Bm w Q r sz gr ws) (a n : Int) (ha : a ≤ 9223372036854775807) :
    Calls Tryd.prog 58 #[ptr Q, .int .i64 a, .int .i64 n] w fun e w' => e = .returned (.int .i64 (askc sz a n)) ∧ Kp (fun _ => False) w w' := by
  have HN := hid (none_some Q (sz : Int) (gr : Int) w (h.st.cell 0) (h.st.cell 1))
  rw [h.may] at HN
  have HH := hid h
  have hsz := h.szb
  clear h
  unfold ptr askc
  by_cases h1 : a < 0
  · rw [if_pos (.inl h1)]
    go_enter Tryd.func58, Tryd.ntmps58
    go_wp2_with (first | (go_at_call 44; refine HN.out.mono ?_; rintro _ w1 ⟨rfl, k⟩))
    go_ret
    exact ⟨rfl, k⟩
  · by_cases h2 : n < 0
    · rw [if_pos (.inr h2)]
      go_enter Tryd.func58, Tryd.ntmps58
      go_wp2_with (first | (go_at_call 44; refine HN.out.mono ?_; rintro _ w1 ⟨rfl, k⟩))
      go_ret
      exact ⟨rfl, k⟩
    · rw [if_neg (by omega)]
      by_cases h3 : (sz : Int) - a < n
      · rw [if_pos h3]
        go_enter Tryd.func58, Tryd.ntmps58
        go_wp2_with (first | (go_at_call 44; refine HN.out.mono ?_; rintro _ w1 ⟨rfl, k⟩; have c0 := (HH.out.kp0 k).st.cell 0; simp at c0))
        go_ret
        exact ⟨rfl, k⟩
      · rw [if_neg h3]
        go_enter Tryd.func58, Tryd.ntmps58
        go_wp2_with (first | (go_at_call 44; refine HN.out.mono ?_; rintro _ w1 ⟨rfl, k⟩; have c0 := (HH.out.kp0 k).st.cell 0; simp at c0))
        go_ret
        exact ⟨rfl, k⟩
set_option maxRecDepth 100000 in
theorem size_any (Q r sz gr : Nat) (ws : List Nat) (w : World) (h : Bm w Q r sz gr ws) : Calls Tryd.prog 33 #[ptr Q] w fun e w' => e = .returned (.tuple #[.int .i64 sz, .int .i64 gr]) ∧ Kp (fun _ => False) w w' := by
  have HN := hid (none_some Q (sz : Int) (gr : Int) w (h.st.cell 0) (h.st.cell 1))
  rw [h.may] at HN
  have HH := hid h
  clear h
  unfold ptr
  go_enter Tryd.func33, Tryd.ntmps33
  go_wp2_with (first | (go_at_call 44; refine HN.out.mono ?_; rintro _ w1 ⟨rfl, k⟩; have c0 := (HH.out.kp0 k).st.cell 0; have c1 := (HH.out.kp0 k).st.cell 1; simp at c0 c1))
  go_quiet (fail)
  go_wp2_with fail
  go_ret2
  exact ⟨rfl, k.trans (drewN_kp _ _ _) (fun _ _ h => h)⟩
end Go.Proofs.YteenlifdamhffaaDoor
