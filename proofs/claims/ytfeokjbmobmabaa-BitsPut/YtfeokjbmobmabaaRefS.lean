/- Contracts of the reference's reader, further: Take, Skip, Align. -/
import Derived.Test.YtfeokjbmobmabaaRefR
namespace Go.Proofs.Ytfeokjbmobmabaa
open Go.RowKit

theorem rf_set {w w1 : World} {gr bL cap V T p : Nat} (h : Rf w1 gr bL cap V T p) (s : Nat) (hs : s ≤ T) (k : Kp (fun i => i = gr) w w1) : Rf (w1.setCell ⟨gr, 1, none⟩ (.int .i64 (s : Int))) gr bL cap V T s ∧ Kp (fun i => i = gr) w (w1.setCell ⟨gr, 1, none⟩ (.int .i64 (s : Int))) := by
  have K1 : Kp (fun i => i = gr) w1 (w1.setCell ⟨gr, 1, none⟩ (.int .i64 (s : Int))) := (Kp.refl (fun i => i = gr) w1).setCell (F := fun i => i = gr) gr 1 _ rfl
  refine ⟨⟨?_, h.src.kp K1 (fun b off e => by cases e; exact h.apart), h.hcap, hs, h.hT, h.hV, h.apart⟩, k.trans K1 (fun _ _ x => x)⟩
  have := h.st.set 1 (.int .i64 (s : Int))
  simpa using this

set_option maxHeartbeats 1000000 in
theorem rtake_x (gr bL cap V T p n X : Nat) (w : World) (hn : n ≤ 57) (h : Rf w gr bL cap V T p) (hl : p + n ≤ T) (HX : Hid (X = V / 2 ^ p % 2 ^ n)) :
    Calls Try.prog 42 #[.pointer (some ⟨gr, 0, none⟩), .int .i64 n] w fun e w' => e = .returned (.tuple #[.int .u64 (X : Int), .int .i64 0]) ∧ Rf w' gr bL cap V T (p + n) ∧ Kp (fun i => i = gr) w w' := by
  have c0 : w.cell? ⟨gr, 0, none⟩ = some (.slice (some ⟨bL, 0, none⟩) T cap) := h.st.cell 0
  have c1 : w.cell? ⟨gr, 1, none⟩ = some (.int .i64 p) := h.st.cell 1
  have hT := h.hT
  have hpT := h.hp
  have hcap := h.hcap
  obtain ⟨q, hq⟩ : ∃ q, q = T - p := ⟨_, rfl⟩
  obtain ⟨s, hs⟩ : ∃ s, s = p + n := ⟨_, rfl⟩
  have a1 : IntKind.i64.wrap ((T : Int) - (p : Int)) = (q : Int) := by rw [IntKind.wrap_i64]; omega
  have a2 : IntKind.i64.wrap ((p : Int) + (n : Int)) = (s : Int) := by rw [IntKind.wrap_i64]; omega
  have a3 : (p : Int) + (n : Int) = (s : Int) := by omega
  have hqn : ¬ ((q : Int) < (n : Int)) := by omega
  have hs1 : (s : Int) ≤ (cap : Int) := by omega
  have hs2 : p ≤ s := by omega
  have hs3 : s - p = n := by omega
  have hsb : s ≤ 1000000 := by omega
  have HC : Hid (∀ w1, Ok' w w1 → ∀ k c A, (cap ≠ p → A = p) → Calls Try.prog 39 #[.slice (some ⟨bL, A, none⟩) n c] (w1.drewN k) fun e w' => e = .returned (.int .u64 (X : Int)) ∧ w' = w1.drewN k) := by
    intro w1 k1 k c A hA
    have := ((h.ok k1).ok (drewN_kp _ w1 k)).num n c hl (by omega) A hA
    rw [← HX.out] at this
    exact this
  have HS : Hid (∀ w1, Ok' w w1 → Rf (w1.setCell ⟨gr, 1, none⟩ (.int .i64 s)) gr bL cap V T (p + n) ∧ Kp (fun i => i = gr) w (w1.setCell ⟨gr, 1, none⟩ (.int .i64 s))) := by
    intro w1 k1
    rw [← hs]
    exact rf_set (h.ok k1) s (by omega) (k1.mono (fun _ _ x => x.elim))
  by_cases hca : cap = p
  · subst hca
    clear hq hs
    go_enter Try.func42, Try.ntmps42
    go_wp2
    go_quiet (fail)
    go_wp2
    have k1 := drewN_kp (fun _ => False) w nq
    generalize w.drewN nq = w1 at k1 ⊢
    have d0 : w1.cell? ⟨gr, 0, none⟩ = some (.slice (some ⟨bL, 0, none⟩) T _) := (h.ok k1).st.cell 0
    have d1 : w1.cell? ⟨gr, 1, none⟩ = some (.int .i64 _) := (h.ok k1).st.cell 1
    clear c0 c1
    go_quiet (first | (go_at_call 39; refine Calls.quiet_of_same (HC.out w1 k1 _ _ 0 (fun e => absurd rfl e))))
    have k2 : Ok' w (w1.drewN nq) := k1.trans (drewN_kp _ w1 nq) (fun _ _ x => x)
    generalize w1.drewN nq = w2 at k2 ⊢
    have e1 : w2.cell? ⟨gr, 1, none⟩ = some (.int .i64 _) := (h.ok k2).st.cell 1
    have f1 := (h.ok k2).st.frozen 1
    clear d0 d1
    go_wp2
    go_ret2
    exact ⟨rfl, HS.out w2 k2⟩
  · clear hq hs
    go_enter Try.func42, Try.ntmps42
    go_wp2
    go_quiet (fail)
    go_wp2
    have k1 := drewN_kp (fun _ => False) w nq
    generalize w.drewN nq = w1 at k1 ⊢
    have d0 : w1.cell? ⟨gr, 0, none⟩ = some (.slice (some ⟨bL, 0, none⟩) T _) := (h.ok k1).st.cell 0
    have d1 : w1.cell? ⟨gr, 1, none⟩ = some (.int .i64 _) := (h.ok k1).st.cell 1
    clear c0 c1
    go_quiet (first | (go_at_call 39; refine Calls.quiet_of_same (HC.out w1 k1 _ _ p (fun _ => rfl))))
    have k2 : Ok' w (w1.drewN nq) := k1.trans (drewN_kp _ w1 nq) (fun _ _ x => x)
    generalize w1.drewN nq = w2 at k2 ⊢
    have e1 : w2.cell? ⟨gr, 1, none⟩ = some (.int .i64 _) := (h.ok k2).st.cell 1
    have f1 := (h.ok k2).st.frozen 1
    clear d0 d1
    go_wp2
    go_ret2
    exact ⟨rfl, HS.out w2 k2⟩

set_option maxHeartbeats 400000 in
theorem rtake_short (gr bL cap V T p n : Nat) (w : World) (hn : n ≤ 57) (h : Rf w gr bL cap V T p) (hl : T < p + n) :
    Calls Try.prog 42 #[.pointer (some ⟨gr, 0, none⟩), .int .i64 n] w fun e w' => e = .returned (.tuple #[.int .u64 0, .int .i64 120]) ∧ Ok' w w' := by
  have c0 : w.cell? ⟨gr, 0, none⟩ = some (.slice (some ⟨bL, 0, none⟩) T cap) := h.st.cell 0
  have c1 : w.cell? ⟨gr, 1, none⟩ = some (.int .i64 p) := h.st.cell 1
  have hT := h.hT
  have hpT := h.hp
  obtain ⟨q, hq⟩ : ∃ q, q = T - p := ⟨_, rfl⟩
  have a1 : IntKind.i64.wrap ((T : Int) - (p : Int)) = (q : Int) := by rw [IntKind.wrap_i64]; omega
  have hqn : (q : Int) < (n : Int) := by omega
  clear hq h
  go_enter Try.func42, Try.ntmps42
  go_wp2
  go_quiet (fail)
  go_wp2
  go_ret2
  exact ⟨rfl, drewN_kp _ _ _⟩
set_option maxHeartbeats 400000 in
theorem rtake_bad (gr : Nat) (n : Int) (w : World) (hn : ¬ (0 ≤ n ∧ n ≤ 57)) :
    Calls Try.prog 42 #[.pointer (some ⟨gr, 0, none⟩), .int .i64 n] w fun e w' => e = .returned (.tuple #[.int .u64 0, .int .i64 2]) ∧ w = w' := by
  by_cases h0 : n < 0
  · clear hn
    go_enter Try.func42, Try.ntmps42
    go_wp2
    go_ret2
    exact ⟨rfl, rfl⟩
  · have h1 : 57 < n := by omega
    clear hn
    go_enter Try.func42, Try.ntmps42
    go_wp2
    go_ret2
    exact ⟨rfl, rfl⟩
set_option maxHeartbeats 400000 in
theorem rpeek_bad (gr : Nat) (n : Int) (w : World) (hn : ¬ (0 ≤ n ∧ n ≤ 57)) :
    Calls Try.prog 28 #[.pointer (some ⟨gr, 0, none⟩), .int .i64 n] w fun e w' => e = .returned (.tuple #[.int .u64 0, .int .i64 0, .int .i64 2]) ∧ w = w' := by
  by_cases h0 : n < 0
  · clear hn
    go_enter Try.func28, Try.ntmps28
    go_wp2
    go_ret3
    exact ⟨rfl, rfl⟩
  · have h1 : 57 < n := by omega
    clear hn
    go_enter Try.func28, Try.ntmps28
    go_wp2
    go_ret3
    exact ⟨rfl, rfl⟩

set_option maxHeartbeats 400000 in
theorem rskip_bad (gr : Nat) (n : Int) (w : World) (hn : n < 0) : Calls Try.prog 43 #[.pointer (some ⟨gr, 0, none⟩), .int .i64 n] w fun e w' => e = .returned (.int .i64 2) ∧ w = w' := by
  go_enter Try.func43, Try.ntmps43
  go_wp2
  go_ret
  exact ⟨rfl, rfl⟩
set_option maxHeartbeats 400000 in
theorem rskip_short (gr bL cap V T p : Nat) (n : Int) (w : World) (hn : 0 ≤ n) (h : Rf w gr bL cap V T p) (hl : ((T - p : Nat) : Int) < n) :
    Calls Try.prog 43 #[.pointer (some ⟨gr, 0, none⟩), .int .i64 n] w fun e w' => e = .returned (.int .i64 120) ∧ Ok' w w' := by
  have c0 : w.cell? ⟨gr, 0, none⟩ = some (.slice (some ⟨bL, 0, none⟩) T cap) := h.st.cell 0
  have c1 : w.cell? ⟨gr, 1, none⟩ = some (.int .i64 p) := h.st.cell 1
  have hT := h.hT
  have hpT := h.hp
  obtain ⟨q, hq⟩ : ∃ q, q = T - p := ⟨_, rfl⟩
  rw [← hq] at hl
  have a1 : IntKind.i64.wrap ((T : Int) - (p : Int)) = (q : Int) := by rw [IntKind.wrap_i64]; omega
  have hn0 : ¬ n < 0 := by omega
  clear hq h
  go_enter Try.func43, Try.ntmps43
  go_wp2
  go_quiet (fail)
  go_wp2
  go_ret
  exact ⟨rfl, drewN_kp _ _ _⟩
set_option maxHeartbeats 400000 in
theorem rskip_ok (gr bL cap V T p n : Nat) (w : World) (h : Rf w gr bL cap V T p) (hl : p + n ≤ T) :
    Calls Try.prog 43 #[.pointer (some ⟨gr, 0, none⟩), .int .i64 n] w fun e w' => e = .returned (.int .i64 0) ∧ Rf w' gr bL cap V T (p + n) ∧ Kp (fun i => i = gr) w w' := by
  have c0 : w.cell? ⟨gr, 0, none⟩ = some (.slice (some ⟨bL, 0, none⟩) T cap) := h.st.cell 0
  have c1 : w.cell? ⟨gr, 1, none⟩ = some (.int .i64 p) := h.st.cell 1
  have f1 := h.st.frozen 1
  have hT := h.hT
  have hpT := h.hp
  obtain ⟨q, hq⟩ : ∃ q, q = T - p := ⟨_, rfl⟩
  obtain ⟨s, hs⟩ : ∃ s, s = p + n := ⟨_, rfl⟩
  have a1 : IntKind.i64.wrap ((T : Int) - (p : Int)) = (q : Int) := by rw [IntKind.wrap_i64]; omega
  have a3 : (p : Int) + (n : Int) = (s : Int) := by omega
  have hqn : ¬ ((q : Int) < (n : Int)) := by omega
  have hsb : s ≤ 1000000 := by omega
  have HS : Hid (∀ w1, Ok' w w1 → Rf (w1.setCell ⟨gr, 1, none⟩ (.int .i64 s)) gr bL cap V T (p + n) ∧ Kp (fun i => i = gr) w (w1.setCell ⟨gr, 1, none⟩ (.int .i64 s))) := by
    intro w1 k1
    rw [← hs]
    exact rf_set (h.ok k1) s (by omega) (k1.mono (fun _ _ x => x.elim))
  clear hq hs
  go_enter Try.func43, Try.ntmps43
  go_wp2
  go_quiet (fail)
  have k1 := drewN_kp (fun _ => False) w nq
  generalize w.drewN nq = w1 at k1 ⊢
  have d1 : w1.cell? ⟨gr, 1, none⟩ = some (.int .i64 p) := (h.ok k1).st.cell 1
  have g1 := (h.ok k1).st.frozen 1
  clear c0 c1 f1
  go_wp2
  go_ret
  exact ⟨rfl, HS.out w1 k1⟩
set_option maxHeartbeats 400000 in
theorem ralign_any (gr bL cap V T p : Nat) (w : World) (h : Rf w gr bL cap V T p) (h8 : T % 8 = 0) :
    Calls Try.prog 44 #[.pointer (some ⟨gr, 0, none⟩)] w fun e w' => e = .returned (.tuple #[]) ∧ Rf w' gr bL cap V T (8 * ((p + 7) / 8)) ∧ Kp (fun i => i = gr) w w' := by
  have c1 : w.cell? ⟨gr, 1, none⟩ = some (.int .i64 p) := h.st.cell 1
  have f1 := h.st.frozen 1
  have hT := h.hT
  have hpT := h.hp
  obtain ⟨s, hs⟩ : ∃ s, s = 8 * ((p + 7) / 8) := ⟨_, rfl⟩
  have a3 : ((p : Int) + 7) / 8 * 8 = (s : Int) := by omega
  have HS : Hid (Rf (w.setCell ⟨gr, 1, none⟩ (.int .i64 s)) gr bL cap V T s ∧ Kp (fun i => i = gr) w (w.setCell ⟨gr, 1, none⟩ (.int .i64 s))) := rf_set h s (by omega) (Kp.refl _ _)
  rw [← hs]
  clear hs
  go_enter Try.func44, Try.ntmps44
  go_wp2
  go_end0
  exact ⟨rfl, HS.out⟩

end Go.Proofs.Ytfeokjbmobmabaa
