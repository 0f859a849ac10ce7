/- container/heap's up and down over a line. -/
import Derived.Test.YtgfondgejimkkaaLs
namespace Go.Proofs.Ytgfondgejimkkaa
open Go.RowKit

theorem find_less (B : Nat) (w : World) : Sem.run Try.prog (method 251 70 (ptr B) "Less") w = .ok (108, ptr B) w := by kernel_rfl
theorem find_swap (B : Nat) (w : World) : Sem.run Try.prog (method 251 70 (ptr B) "Swap") w = .ok (111, ptr B) w := by kernel_rfl
theorem find_len (B : Nat) (w : World) : Sem.run Try.prog (method 251 70 (ptr B) "Len") w = .ok (34, ptr B) w := by kernel_rfl
theorem find_push (B : Nat) (w : World) : Sem.run Try.prog (method 251 70 (ptr B) "Push") w = .ok (110, ptr B) w := by kernel_rfl
theorem find_pop (B : Nat) (w : World) : Sem.run Try.prog (method 251 70 (ptr B) "Pop") w = .ok (109, ptr B) w := by kernel_rfl

set_option maxHeartbeats 4000000 in
set_option maxRecDepth 100000 in
theorem up_any (c : Nat → Rn) (w : World) (base B : Nat) (v : Value) (L : List Nat) (h : Ln c w base B v L) (m j : Nat) (hml : m ≤ L.length) (hj : j < m) (hu : Hu (kf (key c) L) m j) :
    Calls Try.prog 66 #[.iface 70 (ptr B), .int .i64 j] w fun e w' => e = .returned (.tuple #[]) ∧ ∃ L', Mv m L L' ∧ Ln c w' base B v L' ∧ Hx (kf (key c) L') 0 m ∧ Kp (LnF v L) w w' := by
  have mL := find_less B
  have mS := find_swap B
  have hm : L.length ≤ 9223372036854775807 := by obtain ⟨_, _, _, h⟩ := h.len; exact h
  go_enter Try.func66, Try.ntmps66
  go_wp2
  go_loopw [1] (fun vj wr => ∃ (k : Nat) (L' : List Nat), vj = .int .i64 k ∧ k < m ∧ Hid (Mv m L L' ∧ Ln c wr base B v L' ∧ Hu (kf (key c) L') m k ∧ Kp (LnF v L) w wr)) (fun vj _ => (intOf vj).toNat)
  case atStart => exact ⟨j, L, rfl, hj, Mv.refl _ _, h, hu, Kp.refl _ _⟩
  case round =>
    obtain ⟨k, L', rfl, hk, HH⟩ := hrel
    cases k with
    | zero =>
      go_wp2
      go_end0
      exact ⟨rfl, L', HH.out.1, HH.out.2.1, HH.out.2.2.1.fin (.inl rfl), HH.out.2.2.2⟩
    | succ k =>
      have hP := HH.out.2.1
      have hMl := HH.out.1.len
      have HL : Hid (Calls Try.prog 108 #[ptr B, .int .i64 ((k : Int) + 1), .int .i64 ((k : Int) / 2)] wr fun e w' => e = .returned (.bool (decide (kf (key c) L' (k + 1) < kf (key c) L' (k / 2)))) ∧ ∃ q, w' = wr.drewN q) := less_any c wr base B v L' hP (k + 1) (k / 2) (by omega) (by omega)
      have HS : Hid (∀ q, Calls Try.prog 111 #[ptr B, .int .i64 ((k : Int) / 2), .int .i64 ((k : Int) + 1)] (wr.drewN q) fun e w' => e = .returned (.tuple #[]) ∧ Ln c w' base B v (lsw L' (k / 2) (k + 1)) ∧ Kp (LnF v L) (wr.drewN q) w') := fun q => (swap_any c (wr.drewN q) base B v L' (hP.kp (drewN_kp (fun _ => False) wr q) (fun h => h) (fun _ _ h => h) (fun _ _ h => h)) (k / 2) (k + 1) (by omega) (by omega) (by omega)).mono (fun e w' hw => ⟨hw.1, hw.2.1, hw.2.2.mono (fun k _ e => LnF.perm HH.out.1.perm e)⟩)
      clear hP
      go_wp2_with (first
        | (go_at_call 108; refine HL.out.mono ?_; rintro _ _ ⟨rfl, q, rfl⟩)
        | (go_at_call 111; refine (HS.out q).mono ?_; rintro _ w3 ⟨rfl, P3, K3⟩))
      · rename_i hh
        have hge : kf (key c) L' ((k + 1 - 1) / 2) ≤ kf (key c) L' (k + 1) := by
          rcases hh with hh | hh
          · simp at hh; omega
          · simp at hh; exact hh
        go_end0
        exact ⟨rfl, L', HH.out.1, HH.out.2.1.kp (drewN_kp (fun _ => False) wr q) (fun h => h) (fun _ _ h => h) (fun _ _ h => h), HH.out.2.2.1.fin (.inr hge), HH.out.2.2.2.trans (drewN_kp (fun _ => False) wr q) (fun _ _ h => False.elim h)⟩
      · rename_i hh
        have hlt : kf (key c) L' (k + 1) < kf (key c) L' ((k + 1 - 1) / 2) := by
          have := hh.2
          simp at this
          exact this
        refine ⟨⟨k / 2, lsw L' (k / 2) (k + 1), rfl, by omega, HH.out.1.sw (by omega) (by omega) hml, P3, ?_, (HH.out.2.2.2.trans (drewN_kp (fun _ => False) wr q) (fun _ _ h => False.elim h)).trans K3 (fun _ _ h => h)⟩, by simp [intOf]; omega⟩
        rw [kf_lsw (key c) L' _ _ (by omega) (by omega)]
        exact HH.out.2.2.1.step (by omega) hk (Nat.le_of_lt hlt)

/-- A bool comes back. -/
def RB (e : Ending) : Prop := ∃ b, e = .returned (.bool b)
theorem less_at (c : Nat → Rn) (w : World) (base B : Nat) (v : Value) (L : List Nat) (h : Ln c w base B v L) : Hid (∀ W, Kp (fun _ => False) w W → ∀ (x y : Int) (i j : Nat) (b : Bool), x = (i : Int) → y = (j : Int) → i < L.length → j < L.length → b = decide (kf (key c) L i < kf (key c) L j) →
    Calls Try.prog 108 #[ptr B, .int .i64 x, .int .i64 y] W fun e w' => e = .returned (.bool b) ∧ ∃ q, w' = W.drewN q) := by
  intro W k x y i j b hx hy hi hj hb
  subst hx hy hb
  exact less_any c W base B v L (h.kp k (fun h => h) (fun _ _ h => h) (fun _ _ h => h)) i j hi hj
theorem swap_at (c : Nat → Rn) (w : World) (base B : Nat) (v : Value) (L : List Nat) (h : Ln c w base B v L) (L0 : List Nat) (hp : L.Perm L0) : Hid (∀ W, Kp (fun _ => False) w W → ∀ (x y : Int) (i j : Nat), x = (i : Int) → y = (j : Int) → i < L.length → j < L.length → i ≠ j →
    Calls Try.prog 111 #[ptr B, .int .i64 x, .int .i64 y] W fun e w' => e = .returned (.tuple #[]) ∧ Ln c w' base B v (lsw L i j) ∧ Kp (LnF v L0) W w') := by
  intro W k x y i j hx hy hi hj hij
  subst hx hy
  exact (swap_any c W base B v L (h.kp0 k) i j hi hj hij).mono (fun e w' hw => ⟨hw.1, hw.2.1, hw.2.2.mono (fun k _ e => LnF.perm hp e)⟩)

set_option maxHeartbeats 4000000 in
set_option maxRecDepth 100000 in
theorem down_any (c : Nat → Rn) (w : World) (base B : Nat) (v : Value) (L : List Nat) (h : Ln c w base B v L) (lo i0 n : Nat) (hn : n ≤ L.length) (hi0 : i0 ≤ L.length) (hL : L.length < 4611686018427387904) (hd : Hd (kf (key c) L) lo n i0) :
    Calls Try.prog 84 #[.iface 70 (ptr B), .int .i64 i0, .int .i64 n] w fun e w' => RB e ∧ ∃ L', Mv n L L' ∧ Ln c w' base B v L' ∧ Hx (kf (key c) L') lo n ∧ Kp (LnF v L) w w' := by
  have mL := find_less B
  have mS := find_swap B
  go_enter Try.func84, Try.ntmps84
  go_wp2
  go_loopw [7] (fun vj wr => ∃ (k : Nat) (L' : List Nat), vj = .int .i64 k ∧ k ≤ L.length ∧ Hid (Mv n L L' ∧ Ln c wr base B v L' ∧ Hd (kf (key c) L') lo n k ∧ Kp (LnF v L) w wr)) (fun vj _ => L.length - (intOf vj).toNat)
  case atStart => exact ⟨i0, L, rfl, hi0, Mv.refl _ _, h, hd, Kp.refl _ _⟩
  case round =>
    obtain ⟨k, L', rfl, hk, HH⟩ := hrel
    have hP := HH.out.2.1
    have hMl := HH.out.1.len
    have HL := less_at c wr base B v L' hP
    have HS := swap_at c wr base B v L' hP L HH.out.1.perm
    clear hP
    by_cases h1 : 2 * k + 1 < n
    · by_cases h2 : 2 * k + 2 < n
      · by_cases hl : kf (key c) L' (2 * k + 2) < kf (key c) L' (2 * k + 1)
        · have hch : ∀ x, 0 < x → x < n → (x - 1) / 2 = k → kf (key c) L' (2 * k + 2) ≤ kf (key c) L' x := by (intro x hx0 hxn hp; rcases (show x = 2 * k + 1 ∨ x = 2 * k + 2 by omega) with e | e <;> subst e <;> omega)
          by_cases hs : kf (key c) L' (2 * k + 2) < kf (key c) L' k
          · go_wp2_with (first
              | (go_at_call 108; refine (HL.out _ (Kp.refl _ _) _ _ (2 * k + 2) (2 * k + 1) true (by omega) (by omega) (by omega) (by omega) (by simp; omega)).mono ?_; rintro _ _ ⟨rfl, q0, rfl⟩)
              | (go_at_call 108; refine (HL.out _ (drewN_kp (fun _ => False) wr q0) _ _ (2 * k + 2) k true (by omega) (by omega) (by omega) (by omega) (by simp; omega)).mono ?_; rintro _ _ ⟨rfl, q1, rfl⟩)
              | (go_at_call 111; refine (HS.out _ (drewN_kp (fun _ => False) wr (q0 + q1)) _ _ k (2 * k + 2) (by omega) (by omega) (by omega) (by omega) (by omega)).mono ?_; rintro _ w3 ⟨rfl, P3, K3⟩))
            have K4 : Kp (LnF v L) w w3 := (HH.out.2.2.2.trans (drewN_kp (fun _ => False) wr (q0 + q1)) (fun _ _ h => False.elim h)).trans K3 (fun _ _ h => h)
            refine ⟨⟨2 * k + 2, lsw L' k (2 * k + 2), by go_num, by omega, HH.out.1.sw (by omega) (by omega) hn, P3, ?_, K4⟩, by simp [intOf]; omega⟩
            rw [kf_lsw (key c) L' _ _ (by omega) (by omega)]
            exact HH.out.2.2.1.step (by omega) (by omega) (Nat.le_of_lt hs) hch
          · go_wp2_with (first
              | (go_at_call 108; refine (HL.out _ (Kp.refl _ _) _ _ (2 * k + 2) (2 * k + 1) true (by omega) (by omega) (by omega) (by omega) (by simp; omega)).mono ?_; rintro _ _ ⟨rfl, q0, rfl⟩)
              | (go_at_call 108; refine (HL.out _ (drewN_kp (fun _ => False) wr q0) _ _ (2 * k + 2) k false (by omega) (by omega) (by omega) (by omega) (by simp; omega)).mono ?_; rintro _ _ ⟨rfl, q1, rfl⟩)
              | fail)
            have K4 : Kp (fun _ => False) wr _ := (drewN_kp (fun _ => False) wr (q0 + q1))
            go_ret
            exact ⟨⟨_, rfl⟩, L', HH.out.1, HH.out.2.1.kp K4 (fun h => h) (fun _ _ h => h) (fun _ _ h => h), HH.out.2.2.1.fin (fun x h0 hx hp => Nat.le_trans (Nat.le_of_not_lt hs) (hch x h0 hx hp)), HH.out.2.2.2.trans K4 (fun _ _ h => False.elim h)⟩
        · have hch : ∀ x, 0 < x → x < n → (x - 1) / 2 = k → kf (key c) L' (2 * k + 1) ≤ kf (key c) L' x := by (intro x hx0 hxn hp; rcases (show x = 2 * k + 1 ∨ x = 2 * k + 2 by omega) with e | e <;> subst e <;> omega)
          by_cases hs : kf (key c) L' (2 * k + 1) < kf (key c) L' k
          · go_wp2_with (first
              | (go_at_call 108; refine (HL.out _ (Kp.refl _ _) _ _ (2 * k + 2) (2 * k + 1) false (by omega) (by omega) (by omega) (by omega) (by simp; omega)).mono ?_; rintro _ _ ⟨rfl, q0, rfl⟩)
              | (go_at_call 108; refine (HL.out _ (drewN_kp (fun _ => False) wr q0) _ _ (2 * k + 1) k true (by omega) (by omega) (by omega) (by omega) (by simp; omega)).mono ?_; rintro _ _ ⟨rfl, q1, rfl⟩)
              | (go_at_call 111; refine (HS.out _ (drewN_kp (fun _ => False) wr (q0 + q1)) _ _ k (2 * k + 1) (by omega) (by omega) (by omega) (by omega) (by omega)).mono ?_; rintro _ w3 ⟨rfl, P3, K3⟩))
            have K4 : Kp (LnF v L) w w3 := (HH.out.2.2.2.trans (drewN_kp (fun _ => False) wr (q0 + q1)) (fun _ _ h => False.elim h)).trans K3 (fun _ _ h => h)
            refine ⟨⟨2 * k + 1, lsw L' k (2 * k + 1), by go_num, by omega, HH.out.1.sw (by omega) (by omega) hn, P3, ?_, K4⟩, by simp [intOf]; omega⟩
            rw [kf_lsw (key c) L' _ _ (by omega) (by omega)]
            exact HH.out.2.2.1.step (by omega) (by omega) (Nat.le_of_lt hs) hch
          · go_wp2_with (first
              | (go_at_call 108; refine (HL.out _ (Kp.refl _ _) _ _ (2 * k + 2) (2 * k + 1) false (by omega) (by omega) (by omega) (by omega) (by simp; omega)).mono ?_; rintro _ _ ⟨rfl, q0, rfl⟩)
              | (go_at_call 108; refine (HL.out _ (drewN_kp (fun _ => False) wr q0) _ _ (2 * k + 1) k false (by omega) (by omega) (by omega) (by omega) (by simp; omega)).mono ?_; rintro _ _ ⟨rfl, q1, rfl⟩)
              | fail)
            have K4 : Kp (fun _ => False) wr _ := (drewN_kp (fun _ => False) wr (q0 + q1))
            go_ret
            exact ⟨⟨_, rfl⟩, L', HH.out.1, HH.out.2.1.kp K4 (fun h => h) (fun _ _ h => h) (fun _ _ h => h), HH.out.2.2.1.fin (fun x h0 hx hp => Nat.le_trans (Nat.le_of_not_lt hs) (hch x h0 hx hp)), HH.out.2.2.2.trans K4 (fun _ _ h => False.elim h)⟩
      · have hch : ∀ x, 0 < x → x < n → (x - 1) / 2 = k → kf (key c) L' (2 * k + 1) ≤ kf (key c) L' x := by (intro x hx0 hxn hp; obtain rfl : x = 2 * k + 1 := (by omega); exact Nat.le_refl _)
        by_cases hs : kf (key c) L' (2 * k + 1) < kf (key c) L' k
        · go_wp2_with (first
            | (go_at_call 108; refine (HL.out _ (Kp.refl _ _) _ _ (2 * k + 1) k true (by omega) (by omega) (by omega) (by omega) (by simp; omega)).mono ?_; rintro _ _ ⟨rfl, q1, rfl⟩)
            | (go_at_call 111; refine (HS.out _ (drewN_kp (fun _ => False) wr q1) _ _ k (2 * k + 1) (by omega) (by omega) (by omega) (by omega) (by omega)).mono ?_; rintro _ w3 ⟨rfl, P3, K3⟩))
          have K4 : Kp (LnF v L) w w3 := (HH.out.2.2.2.trans (drewN_kp (fun _ => False) wr q1) (fun _ _ h => False.elim h)).trans K3 (fun _ _ h => h)
          refine ⟨⟨2 * k + 1, lsw L' k (2 * k + 1), by go_num, by omega, HH.out.1.sw (by omega) (by omega) hn, P3, ?_, K4⟩, by simp [intOf]; omega⟩
          rw [kf_lsw (key c) L' _ _ (by omega) (by omega)]
          exact HH.out.2.2.1.step (by omega) (by omega) (Nat.le_of_lt hs) hch
        · go_wp2_with (first
            | (go_at_call 108; refine (HL.out _ (Kp.refl _ _) _ _ (2 * k + 1) k false (by omega) (by omega) (by omega) (by omega) (by simp; omega)).mono ?_; rintro _ _ ⟨rfl, q1, rfl⟩)
            | fail)
          have K4 : Kp (fun _ => False) wr _ := (drewN_kp (fun _ => False) wr q1)
          go_ret
          exact ⟨⟨_, rfl⟩, L', HH.out.1, HH.out.2.1.kp K4 (fun h => h) (fun _ _ h => h) (fun _ _ h => h), HH.out.2.2.1.fin (fun x h0 hx hp => Nat.le_trans (Nat.le_of_not_lt hs) (hch x h0 hx hp)), HH.out.2.2.2.trans K4 (fun _ _ h => False.elim h)⟩
    · go_wp2
      go_ret
      exact ⟨⟨_, rfl⟩, L', HH.out.1, HH.out.2.1, HH.out.2.2.1.fin (fun x h0 hx hp => by omega), HH.out.2.2.2⟩
set_option maxHeartbeats 4000000 in
set_option maxRecDepth 100000 in
theorem down_stay (c : Nat → Rn) (w : World) (base B : Nat) (v : Value) (L : List Nat) (h : Ln c w base B v L) (i0 n : Nat) (hn : n ≤ L.length) (hi0 : i0 < n) (hL : L.length < 4611686018427387904) (hc : ∀ k, 0 < k → k < n → (k - 1) / 2 = i0 → kf (key c) L i0 ≤ kf (key c) L k) :
    Calls Try.prog 84 #[.iface 70 (ptr B), .int .i64 i0, .int .i64 n] w fun e w' => e = .returned (.bool false) ∧ Kp (fun _ => False) w w' := by
  have mL := find_less B
  have HL := less_at c w base B v L h
  have HC := hid hc
  clear hc h
  go_enter Try.func84, Try.ntmps84
  go_wp2
  go_loopw [7] (fun vj wr => vj = .int .i64 (i0 : Int) ∧ wr = w) (fun vj _ => 0)
  case atStart => exact ⟨rfl, rfl⟩
  case round =>
    obtain ⟨rfl, rfl⟩ := hrel
    by_cases h1 : 2 * i0 + 1 < n
    · have c1 := HC.out (2 * i0 + 1) (by omega) h1 (by omega)
      by_cases h2 : 2 * i0 + 2 < n
      · have c2 := HC.out (2 * i0 + 2) (by omega) h2 (by omega)
        by_cases hl : kf (key c) L (2 * i0 + 2) < kf (key c) L (2 * i0 + 1)
        · go_wp2_with (first
            | (go_at_call 108; refine (HL.out _ (Kp.refl _ _) _ _ (2 * i0 + 2) (2 * i0 + 1) true (by omega) (by omega) (by omega) (by omega) (by simp; omega)).mono ?_; rintro _ _ ⟨rfl, q0, rfl⟩)
            | (go_at_call 108; refine (HL.out _ (drewN_kp (fun _ => False) wr q0) _ _ (2 * i0 + 2) i0 false (by omega) (by omega) (by omega) (by omega) (by simp; omega)).mono ?_; rintro _ _ ⟨rfl, q1, rfl⟩)
            | fail)
          go_ret
          exact ⟨by simp, drewN_kp _ _ _⟩
        · go_wp2_with (first
            | (go_at_call 108; refine (HL.out _ (Kp.refl _ _) _ _ (2 * i0 + 2) (2 * i0 + 1) false (by omega) (by omega) (by omega) (by omega) (by simp; omega)).mono ?_; rintro _ _ ⟨rfl, q0, rfl⟩)
            | (go_at_call 108; refine (HL.out _ (drewN_kp (fun _ => False) wr q0) _ _ (2 * i0 + 1) i0 false (by omega) (by omega) (by omega) (by omega) (by simp; omega)).mono ?_; rintro _ _ ⟨rfl, q1, rfl⟩)
            | fail)
          go_ret
          exact ⟨by simp, drewN_kp _ _ _⟩
      · go_wp2_with (first
          | (go_at_call 108; refine (HL.out _ (Kp.refl _ _) _ _ (2 * i0 + 1) i0 false (by omega) (by omega) (by omega) (by omega) (by simp; omega)).mono ?_; rintro _ _ ⟨rfl, q1, rfl⟩)
          | fail)
        go_ret
        exact ⟨by simp, drewN_kp _ _ _⟩
    · go_wp2
      go_ret
      exact ⟨by simp, Kp.refl _ _⟩
end Go.Proofs.Ytgfondgejimkkaa
