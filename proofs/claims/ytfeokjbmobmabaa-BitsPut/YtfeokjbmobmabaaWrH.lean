/- Contracts of the writer's calls Align and Raw. -/
import Derived.Test.YtfeokjbmobmabaaWrG
namespace Go.Proofs.Ytfeokjbmobmabaa
open Go.RowKit

theorem Wr.parts {w : World} {g : Nat} {sl : Value} {N v : Nat} (h : Wr w g sl N v) : ∃ ao cap k m y, sl = .slice ao k cap ∧ k = N / 8 ∧ m = N - 8 * (N / 8) ∧ y = v / 256 ^ (N / 8) ∧ St 29 w g #[.slice ao k cap, .int .u64 (y : Int), .int .i64 (m : Int)] ∧ OwnI w 0 (.slice ao k cap) (dig 256 v (N / 8)) := by
  obtain ⟨ao, cap, rfl, _⟩ := h.2.2.1.slice
  obtain ⟨_, hs, ho, _⟩ := h
  rw [dig_length] at hs ho
  exact ⟨ao, cap, N / 8, _, _, by rw [dig_length], rfl, rfl, rfl, hs, ho⟩

set_option maxHeartbeats 400000 in
theorem align_any (g : Nat) (sl : Value) (N v : Nat) (w : World) (hN : N ≤ 1000000000) (h : Wr w g sl N v) :
    Calls Try.prog 19 #[.pointer (some ⟨g, 0, none⟩)] w fun e w' => e = .returned (.int .i64 0) ∧ Put' w w' g sl (8 * ((N + 7) / 8)) v := by
  obtain ⟨ao, cap, k, m, y, e, hk, hm, hy, hs, ho⟩ := h.parts
  have c2 : w.cell? ⟨g, 2, none⟩ = some (.int .i64 m) := hs.cell 2
  have hm8 : m < 8 := by omega
  by_cases h0 : m = 0
  · have HP : Hid (Put' w w g sl (8 * ((N + 7) / 8)) v) := by
      show Put' w w g sl (8 * ((N + 7) / 8)) v
      rw [show 8 * ((N + 7) / 8) = N by omega]; exact Put'.refl h
    subst h0
    clear h hk hy hs ho hm e
    go_enter Try.func19, Try.ntmps19
    go_wp2
    go_ret
    exact ⟨rfl, HP.out⟩
  · have hm1 : 0 < m := by omega
    obtain ⟨q, hq⟩ : ∃ q, q = 8 - m := ⟨_, rfl⟩
    have hq2 : (8 : Int) - (m : Int) = (q : Int) := by omega
    have HC : Hid (Calls Try.prog 41 #[.pointer (some ⟨g, 0, none⟩), .int .u64 0, .int .i64 q] w fun e w' => e = .returned (.tuple #[]) ∧ Put' w w' g sl (8 * ((N + 7) / 8)) v) := by
      have := put_walk g sl 0 q N v w hN (by omega) (Nat.pow_pos (by omega)) h
      rw [Nat.zero_mul, Nat.add_zero, show N + q = 8 * ((N + 7) / 8) by omega] at this
      exact this
    clear h hk hy hs ho hm e hq
    go_enter Try.func19, Try.ntmps19
    go_wp2_with fail
    refine HC.out.mono ?_
    rintro e w' ⟨rfl, hp⟩
    go_wp2
    go_ret
    exact ⟨rfl, hp⟩
set_option maxHeartbeats 400000 in
theorem align_nil (w : World) : Calls Try.prog 19 #[.pointer none] w fun e w' => e = .returned (.int .i64 1) ∧ w = w' := by
  go_enter Try.func19, Try.ntmps19
  go_wp2
  go_ret
  exact ⟨rfl, rfl⟩

theorem raw_dig (v N : Nat) (B : List Int) (hv : v < 2 ^ N) (hN : N = 8 * (N / 8)) (hb : Byt B) : dig 256 (v + und 256 B * 2 ^ N) (N / 8 + B.length) = dig 256 v (N / 8) ++ B := by
  have e : 2 ^ N = 256 ^ (N / 8) := by rw [pow_256, ← hN]
  rw [e] at hv ⊢
  rw [dig_join 256 v _ _ _ (by omega) hv, dig_und 256 B (byt_range hb)]
theorem raw_lt (v N : Nat) (B : List Int) (hv : v < 2 ^ N) (hb : Byt B) : v + und 256 B * 2 ^ N < 2 ^ (N + 8 * B.length) := by
  have h1 := und_lt 256 B (byt_range hb)
  rw [pow_256] at h1
  rw [Nat.pow_add]
  have : und 256 B * 2 ^ N + 2 ^ N ≤ 2 ^ N * 2 ^ (8 * B.length) := by rw [← Nat.succ_mul, Nat.mul_comm]; exact Nat.mul_le_mul_left _ h1
  omega

set_option maxHeartbeats 400000 in
theorem rawW_ok (g : Nat) (sl : Value) (N v : Nat) (ao : Option Addr) (c : Nat) (B : List Int) (w : World) (hN : N ≤ 1000000000) (h8 : N % 8 = 0) (hB : B.length ≤ 1000000000) (hb : Byt B) (hsrc : Src w ao B) (hnil : ao = none → c = 0) (h : Wr w g sl N v) :
    Calls Try.prog 20 #[.pointer (some ⟨g, 0, none⟩), .slice ao B.length c] w fun e w' => e = .returned (.int .i64 0) ∧ Put' w w' g sl (N + 8 * B.length) (v + und 256 B * 2 ^ N) := by
  have hne := h.2.2.2
  have hv := h.1
  obtain ⟨a1, cap, k, m, y, rfl, hk, hm, hy, hs, ho⟩ := h.parts
  obtain rfl : m = 0 := by omega
  have hy0 : y = 0 := by
    have := word_lt v N hv (N / 8) (by omega)
    rw [← hy, ← hm, Nat.pow_zero] at this
    omega
  subst hy0
  have c0 : w.cell? ⟨g, 0, none⟩ = some (.slice a1 k cap) := hs.cell 0
  have c2 : w.cell? ⟨g, 2, none⟩ = some (.int .i64 0) := hs.cell 2
  have f0 := hs.frozen 0
  have HO : Hid (OwnI w 0 (.slice a1 k cap) (dig 256 v (N / 8))) := ho
  have HL : Hid ((dig 256 v (N / 8)).length + B.length ≤ 140737488355328) := by show _ ≤ _; rw [dig_length]; omega
  have HNIL : Hid (ao = none → c = 0) := hnil
  have HE : Hid (∀ sl2 w2, OwnI w2 0 sl2 (dig 256 v (N / 8) ++ B) → w.grownBy w2 (Value.slice a1 k cap).ownBlock → (∀ b, sl2.ownBlock = some b → (Value.slice a1 k cap).ownBlock = some b ∨ w.heap.size ≤ b) → St 29 w2 g #[.slice a1 k cap, .int .u64 0, .int .i64 0] ∧ Put' w (w2.setCell ⟨g, 0, none⟩ sl2) g (.slice a1 k cap) (N + 8 * B.length) (v + und 256 B * 2 ^ N)) := by
    intro sl2 w2 o2 g2 n2
    have K2 : Kp (fun i => i = g ∨ (Value.slice a1 k cap).ownBlock = some i) w w2 := Kp.of_grown g2 (fun i e => .inr e)
    have K3 : Kp (fun i => (Value.slice a1 k cap).ownBlock = some i) w w2 := Kp.of_grown g2 (fun i e => e)
    have s2 := hs.kp K3 hne
    have hne2 : sl2.ownBlock ≠ some g := by
      intro e
      rcases n2 g e with h | h
      · exact hne h
      · have := hs.lt; omega
    have hlen : (N + 8 * B.length) / 8 = N / 8 + B.length := by omega
    refine ⟨by simpa using s2, sl2, ⟨raw_lt v N B hv hb, ?_, ?_, hne2⟩, K2.setCell g 0 _ (.inl rfl), n2⟩
    · rw [hlen]
      have hw0 : (v + und 256 B * 2 ^ N) / 256 ^ (N / 8 + B.length) = 0 := by
        apply Nat.div_eq_of_lt
        rw [pow_256, show 8 * (N / 8 + B.length) = N + 8 * B.length by omega]
        exact raw_lt v N B hv hb
      rw [hw0, show N + 8 * B.length - 8 * (N / 8 + B.length) = 0 by omega]
      have := s2.set 0 sl2
      simpa using this
    · rw [hlen, raw_dig v N B hv (by omega) hb]
      exact o2.kp (kp_setCell w2 g 0 _ (fun i => i = g) rfl) (fun b hb2 e => hne2 (by rw [← e]; exact hb2))
  clear h hk hy ho hm hs hnil hne
  go_enter Try.func20, Try.ntmps20
  go_wp2_with (at_builtin; refine wpList_append_i rfl (.tmp 16) (.tmp 17) rfl 0 (.slice a1 k cap) (dig 256 v (N / 8)) rfl HO.out _ _ _ B rfl rfl HNIL.out hsrc HL.out (Nat.zero_le _) ?_; intro sl2 w2 o2 g2 n2 b2; obtain ⟨s2, hp⟩ := HE.out sl2 w2 o2 g2 n2; obtain ⟨a2, cap2, rfl, _⟩ := o2.slice; have d0 : w2.cell? ⟨g, 0, none⟩ = some (.slice a1 k cap) := s2.cell 0; have e0 := s2.frozen 0; have HP : Hid (Put' w (w2.setCell ⟨g, 0, none⟩ _) g _ _ _) := hp; clear hp o2 g2 n2 b2)
  go_ret
  exact ⟨rfl, by rw [← List.length_append]; exact HP.out⟩
set_option maxHeartbeats 400000 in
theorem rawW_odd (g : Nat) (sl : Value) (N v : Nat) (ao : Option Addr) (c n : Nat) (w : World) (h8 : N % 8 ≠ 0) (h : Wr w g sl N v) :
    Calls Try.prog 20 #[.pointer (some ⟨g, 0, none⟩), .slice ao n c] w fun e w' => e = .returned (.int .i64 120) ∧ w = w' := by
  obtain ⟨a1, cap, k, m, y, e, hk, hm, hy, hs, ho⟩ := h.parts
  have c2 : w.cell? ⟨g, 2, none⟩ = some (.int .i64 m) := hs.cell 2
  have hm1 : 0 < m := by omega
  clear h hk hy hs ho hm e
  go_enter Try.func20, Try.ntmps20
  go_wp2
  go_ret
  exact ⟨rfl, rfl⟩
set_option maxHeartbeats 400000 in
theorem rawW_nil (ao : Option Addr) (c n : Nat) (w : World) : Calls Try.prog 20 #[.pointer none, .slice ao n c] w fun e w' => e = .returned (.int .i64 1) ∧ w = w' := by
  go_enter Try.func20, Try.ntmps20
  go_wp2
  go_ret
  exact ⟨rfl, rfl⟩

end Go.Proofs.Ytfeokjbmobmabaa
