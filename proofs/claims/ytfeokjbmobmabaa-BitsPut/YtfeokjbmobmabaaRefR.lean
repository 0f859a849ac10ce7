/- Contracts of the reference's reader: Peek, Take, Skip, Align, Raw. -/
import Derived.Test.YtfeokjbmobmabaaRefD
namespace Go.Proofs.Ytfeokjbmobmabaa
open Go.RowKit

/-- The reference's reader: T bits that say V, at the bit p. -/
structure Rf (w : World) (gr bL cap V T p : Nat) : Prop where
  st : St 51 w gr #[.slice (some ⟨bL, 0, none⟩) T cap, .int .i64 (p : Int)]
  src : Src w (some ⟨bL, 0, none⟩) (dig 2 V T)
  hcap : T ≤ cap
  hp : p ≤ T
  hT : T ≤ 1000000
  hV : V < 2 ^ T
  apart : bL ≠ gr
theorem Rf.kp {F : Nat → Prop} {w w' : World} {gr bL cap V T p : Nat} (h : Rf w gr bL cap V T p) (k : Kp F w w') (hg : ¬ F gr) (hb : ¬ F bL) : Rf w' gr bL cap V T p :=
  ⟨h.st.kp k hg, h.src.kp k (fun b off e => by cases e; exact hb), h.hcap, h.hp, h.hT, h.hV, h.apart⟩
theorem Rf.ok {w w' : World} {gr bL cap V T p : Nat} (h : Rf w gr bL cap V T p) (k : Ok' w w') : Rf w' gr bL cap V T p := h.kp k (fun x => x) (fun x => x)
theorem Rf.num {w : World} {gr bL cap V T p : Nat} (h : Rf w gr bL cap V T p) (k c : Nat) (hk : p + k ≤ T) (h64 : k ≤ 64) (A : Nat) (hA : cap ≠ p → A = p) :
    Calls Try.prog 39 #[.slice (some ⟨bL, A, none⟩) k c] w fun e w' => e = .returned (.int .u64 ((V / 2 ^ p % 2 ^ k : Nat) : Int)) ∧ w' = w := by
  have hs : Src w (some ⟨bL, A, none⟩) (dig 2 (V / 2 ^ p) k) := by
    by_cases hc : cap = p
    · have := h.hcap
      obtain rfl : k = 0 := by omega
      exact Src.nil _ _
    · rw [hA hc]
      have h1 := (h.src.drop p).take k
      rw [dig_drop 2 V T p h.hp, dig_take 2 _ _ _ (by omega), Nat.zero_add] at h1
      exact h1
  have := number_any (some ⟨bL, A, none⟩) c (dig 2 (V / 2 ^ p) k) w (by rw [dig_length]; omega) (dig_bit _ _) hs
  rw [und_dig, dig_length] at this
  refine this.mono ?_
  rintro e w' ⟨rfl, rfl⟩
  exact ⟨rfl, rfl⟩
theorem Rf.small {w : World} {gr bL cap V T p : Nat} (h : Rf w gr bL cap V T p) (n : Nat) : V / 2 ^ p % 2 ^ (min n (T - p)) = V / 2 ^ p % 2 ^ n := by
  have h1 : V / 2 ^ p < 2 ^ (T - p) := by
    rw [Nat.div_lt_iff_lt_mul (Nat.pow_pos (by omega)), ← Nat.pow_add, show T - p + p = T by have := h.hp; omega]; exact h.hV
  by_cases hn : n ≤ T - p
  · rw [Nat.min_eq_left hn]
  · rw [Nat.min_eq_right (by omega), Nat.mod_eq_of_lt h1, Nat.mod_eq_of_lt (Nat.lt_of_lt_of_le h1 (Nat.pow_le_pow_right (by omega) (by omega)))]

set_option maxHeartbeats 1000000 in
theorem rpeek_x (gr bL cap V T p n X M : Nat) (w : World) (hn : n ≤ 57) (h : Rf w gr bL cap V T p) (HX : Hid (X = V / 2 ^ p % 2 ^ M ∧ M = min n (T - p))) :
    Calls Try.prog 28 #[.pointer (some ⟨gr, 0, none⟩), .int .i64 n] w fun e w' => e = .returned (.tuple #[.int .u64 (X : Int), .int .i64 (M : Int), .int .i64 0]) ∧ Ok' w w' := by
  have c0 : w.cell? ⟨gr, 0, none⟩ = some (.slice (some ⟨bL, 0, none⟩) T cap) := h.st.cell 0
  have c1 : w.cell? ⟨gr, 1, none⟩ = some (.int .i64 p) := h.st.cell 1
  have hT := h.hT
  have hpT := h.hp
  have hcap := h.hcap
  obtain ⟨q, hq⟩ : ∃ q, q = T - p := ⟨_, rfl⟩
  obtain ⟨s, hs⟩ : ∃ s, s = p + M := ⟨_, rfl⟩
  have hMq : M = min n q := by have := HX.out; omega
  have a1 : IntKind.i64.wrap ((T : Int) - (p : Int)) = (q : Int) := by rw [IntKind.wrap_i64]; omega
  have a2 : IntKind.i64.wrap ((p : Int) + (M : Int)) = (s : Int) := by rw [IntKind.wrap_i64]; omega
  have hs1 : (s : Int) ≤ (cap : Int) := by omega
  have hs2 : p ≤ s := by omega
  have hs3 : s - p = M := by omega
  have hMb : M ≤ 57 := by omega
  have HC : Hid (∀ w1, Ok' w w1 → ∀ k c A, (cap ≠ p → A = p) → Calls Try.prog 39 #[.slice (some ⟨bL, A, none⟩) M c] (w1.drewN k) fun e w' => e = .returned (.int .u64 (X : Int)) ∧ w' = w1.drewN k) := by
    intro w1 k1 k c A hA
    have := ((h.ok k1).ok (drewN_kp _ w1 k)).num M c (by omega) (by omega) A hA
    rw [← HX.out.1] at this
    exact this
  have HM : Hid (M = min n q ∧ q = T - p ∧ s = p + M) := ⟨hMq, hq, hs⟩
  by_cases hca : cap = p
  · subst hca
    by_cases hnq : q < n
    · obtain rfl : M = q := by omega
      clear hMq hq hs
      go_enter Try.func28, Try.ntmps28
      go_wp2
      go_quiet (fail)
      go_wp2
      have k1 := drewN_kp (fun _ => False) w nq
      generalize w.drewN nq = w1 at k1 ⊢
      have d0 : w1.cell? ⟨gr, 0, none⟩ = some (.slice (some ⟨bL, 0, none⟩) T _) := (h.ok k1).st.cell 0
      have d1 : w1.cell? ⟨gr, 1, none⟩ = some (.int .i64 _) := (h.ok k1).st.cell 1
      clear c0 c1
      go_quiet (first | (go_at_call 39; refine Calls.quiet_of_same (HC.out w1 k1 _ _ 0 (fun e => absurd rfl e))))
      go_wp2
      go_ret3
      exact ⟨rfl, k1.trans (drewN_kp _ _ _) (fun _ _ x => x)⟩
    · obtain rfl : M = n := by omega
      clear hMq hq hs
      go_enter Try.func28, Try.ntmps28
      go_wp2
      go_quiet (fail)
      go_wp2
      have k1 := drewN_kp (fun _ => False) w nq
      generalize w.drewN nq = w1 at k1 ⊢
      have d0 : w1.cell? ⟨gr, 0, none⟩ = some (.slice (some ⟨bL, 0, none⟩) T _) := (h.ok k1).st.cell 0
      have d1 : w1.cell? ⟨gr, 1, none⟩ = some (.int .i64 _) := (h.ok k1).st.cell 1
      clear c0 c1
      go_quiet (first | (go_at_call 39; refine Calls.quiet_of_same (HC.out w1 k1 _ _ 0 (fun e => absurd rfl e))))
      go_wp2
      go_ret3
      exact ⟨rfl, k1.trans (drewN_kp _ _ _) (fun _ _ x => x)⟩
  · by_cases hnq : q < n
    · obtain rfl : M = q := by omega
      clear hMq hq hs
      go_enter Try.func28, Try.ntmps28
      go_wp2
      go_quiet (fail)
      go_wp2
      have k1 := drewN_kp (fun _ => False) w nq
      generalize w.drewN nq = w1 at k1 ⊢
      have d0 : w1.cell? ⟨gr, 0, none⟩ = some (.slice (some ⟨bL, 0, none⟩) T _) := (h.ok k1).st.cell 0
      have d1 : w1.cell? ⟨gr, 1, none⟩ = some (.int .i64 _) := (h.ok k1).st.cell 1
      clear c0 c1
      go_quiet (first | (go_at_call 39; refine Calls.quiet_of_same (HC.out w1 k1 _ _ p (fun _ => rfl))))
      go_wp2
      go_ret3
      exact ⟨rfl, k1.trans (drewN_kp _ _ _) (fun _ _ x => x)⟩
    · obtain rfl : M = n := by omega
      clear hMq hq hs
      go_enter Try.func28, Try.ntmps28
      go_wp2
      go_quiet (fail)
      go_wp2
      have k1 := drewN_kp (fun _ => False) w nq
      generalize w.drewN nq = w1 at k1 ⊢
      have d0 : w1.cell? ⟨gr, 0, none⟩ = some (.slice (some ⟨bL, 0, none⟩) T _) := (h.ok k1).st.cell 0
      have d1 : w1.cell? ⟨gr, 1, none⟩ = some (.int .i64 _) := (h.ok k1).st.cell 1
      clear c0 c1
      go_quiet (first | (go_at_call 39; refine Calls.quiet_of_same (HC.out w1 k1 _ _ p (fun _ => rfl))))
      go_wp2
      go_ret3
      exact ⟨rfl, k1.trans (drewN_kp _ _ _) (fun _ _ x => x)⟩

end Go.Proofs.Ytfeokjbmobmabaa
