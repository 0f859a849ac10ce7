/- Contracts of the reference's reader, further: Raw. -/
import Derived.Test.YtfeokjbmobmabaaRefS
import Derived.Deep.RegionHeld3
namespace Go.Proofs.Ytfeokjbmobmabaa
open Go.RowKit

set_option maxHeartbeats 400000 in
theorem rraw_bad (gr : Nat) (n : Int) (w : World) (hn : n < 0) : Calls Try.prog 45 #[.pointer (some ⟨gr, 0, none⟩), .int .i64 n] w fun e w' => e = .returned (.tuple #[.slice none 0 0, .int .i64 2]) ∧ w = w' := by
  go_enter Try.func45, Try.ntmps45
  go_wp2
  go_ret2
  exact ⟨rfl, rfl⟩
set_option maxHeartbeats 400000 in
theorem rraw_short (gr bL cap V T p : Nat) (n : Int) (w : World) (hn : 0 ≤ n) (h : Rf w gr bL cap V T p) (hl : p % 8 ≠ 0 ∨ (((T - p) / 8 : Nat) : Int) < n) :
    Calls Try.prog 45 #[.pointer (some ⟨gr, 0, none⟩), .int .i64 n] w fun e w' => e = .returned (.tuple #[.slice none 0 0, .int .i64 120]) ∧ Ok' w w' := by
  have c0 : w.cell? ⟨gr, 0, none⟩ = some (.slice (some ⟨bL, 0, none⟩) T cap) := h.st.cell 0
  have c1 : w.cell? ⟨gr, 1, none⟩ = some (.int .i64 p) := h.st.cell 1
  have hT := h.hT
  have hpT := h.hp
  have hn0 : ¬ n < 0 := by omega
  by_cases h8 : p % 8 ≠ 0
  · have hb : ((p : Int) % 8 != 0) = true := by simp; omega
    clear hl h
    go_enter Try.func45, Try.ntmps45
    go_wp2
    go_quiet (fail)
    go_wp2
    go_ret2
    exact ⟨rfl, drewN_kp _ _ _⟩
  · have hb : ((p : Int) % 8 != 0) = false := by simp; omega
    obtain ⟨q, hq⟩ : ∃ q, q = T - p := ⟨_, rfl⟩
    have a1 : IntKind.i64.wrap ((T : Int) - (p : Int)) = (q : Int) := by rw [IntKind.wrap_i64]; omega
    obtain ⟨r, hr⟩ : ∃ r, r = q / 8 := ⟨_, rfl⟩
    have a7 : (q : Int) / 8 = (r : Int) := by omega
    have a8 : wrap64 (r : Int) = (r : Int) := by unfold wrap64; omega
    have hl2 : (r : Int) < n := by omega
    clear hr
    clear hl h hq
    go_enter Try.func45, Try.ntmps45
    go_wp2
    go_quiet (fail)
    go_wp2
    go_ret2
    exact ⟨rfl, drewN_kp _ _ _⟩

theorem odd_no (p : Nat) (h : p % 8 = 0) : ((p : Int) % 8 != 0) = false := by simp; omega
theorem wrap_nat (a : Nat) (h : a ≤ 1000000000) : IntKind.i64.wrap (a : Int) = (a : Int) := by rw [IntKind.wrap_i64]; omega
theorem wrap_nat64 (a : Nat) (h : a ≤ 1000000000) : wrap64 (a : Int) = (a : Int) := by unfold wrap64; omega
set_option maxHeartbeats 1000000 in
theorem rraw_ok (gr bL cap V T p n : Nat) (w : World) (h8 : p % 8 = 0) (hl : n ≤ (T - p) / 8) (h : Rf w gr bL cap V T p) :
    Calls Try.prog 45 #[.pointer (some ⟨gr, 0, none⟩), .int .i64 n] w fun e w' => ∃ u, e = .returned (.tuple #[u, .int .i64 0]) ∧ OwnI w' w.heap.size u (dig 256 (V / 2 ^ p % 2 ^ (8 * n)) n) ∧ Rf w' gr bL cap V T (p + 8 * n) ∧ Kp (fun i => i = gr) w w' := by
  have c0 : w.cell? ⟨gr, 0, none⟩ = some (.slice (some ⟨bL, 0, none⟩) T cap) := h.st.cell 0
  have c1 : w.cell? ⟨gr, 1, none⟩ = some (.int .i64 p) := h.st.cell 1
  have hT := h.hT
  have hpT := h.hp
  have hcap := h.hcap
  have hb : ((p : Int) % 8 != 0) = false := odd_no p h8
  have h8n : p + 8 * n ≤ T := by omega
  obtain ⟨q, hq⟩ : ∃ q, p + q = T := ⟨T - p, by omega⟩
  rw [show T - p = q by omega] at hl
  obtain ⟨r, hr⟩ : ∃ r, r = q / 8 := ⟨_, rfl⟩
  rw [← hr] at hl
  have a7 : (q : Int) / 8 = (r : Int) := by rw [hr]; exact (Int.natCast_ediv q 8).symm
  have hl2 : ¬ ((q : Int) / 8 < (n : Int)) := by omega
  have hrq : r ≤ q := by rw [hr]; exact Nat.div_le_self _ _
  clear hr
  obtain ⟨t, ht⟩ : ∃ t, t = 8 * n := ⟨_, rfl⟩
  obtain ⟨s, hs⟩ : ∃ s, s = p + t := ⟨_, rfl⟩
  have htb : t ≤ 1000000 := by omega
  have hsb : s ≤ 1000000 := by omega
  have hsT : s ≤ T := by omega
  have a4 : 8 * (n : Int) = (t : Int) := by omega
  have a5 : (p : Int) + (t : Int) = (s : Int) := by omega
  have hs1 : (s : Int) ≤ (cap : Int) := by omega
  have hs2 : p ≤ s := by omega
  have hs3 : s - p = t := by omega
  have hcp : t ≤ cap - p := by omega
  have hTp : (T : Int) - (p : Int) = (q : Int) := by omega
  have hqb : q ≤ 1000000000 := by omega
  have hqb1 : q ≤ 1000000 := by omega
  have HW : Hid (IntKind.i64.wrap ((T : Int) - (p : Int)) = (q : Int) ∧ IntKind.i64.wrap (t : Int) = (t : Int) ∧ IntKind.i64.wrap (s : Int) = (s : Int)) :=
    ⟨by rw [hTp]; exact wrap_nat q hqb, wrap_nat t (Nat.le_trans htb (by decide)), wrap_nat s (Nat.le_trans hsb (by decide))⟩
  clear hTp a7
  clear h8 h8n hl hrq
  have HB : Hid (∀ w1, Ok' w w1 → ∀ c A, t ≤ c → (cap ≠ p → A = p) → Calls Try.prog 15 #[.slice (some ⟨bL, A, none⟩) t c] w1 fun e w' => ∃ u, e = .returned u ∧ OwnI w' w.heap.size u (dig 256 (V / 2 ^ p % 2 ^ (8 * n)) n) ∧ Below w1.heap.size w1 w') := by
    intro w1 k1 c A hc hA
    have hsrc : Src w1 (some ⟨bL, A, none⟩) (dig 2 (V / 2 ^ p % 2 ^ t) t) := by
      rw [dig_mod 2 _ t t (Nat.le_refl _)]
      by_cases hc : cap = p
      · obtain rfl : t = 0 := by omega
        exact Src.nil _ _
      · rw [hA hc]
        have h1 := (((h.ok k1).src).drop p).take t
        rw [dig_drop 2 V T p h.hp, dig_take 2 _ _ _ (by omega), Nat.zero_add] at h1
        exact h1
    have := rbytes_any (some ⟨bL, A, none⟩) c t (V / 2 ^ p % 2 ^ t) w1 (by omega) (Nat.mod_lt _ (Nat.pow_pos (by omega))) hc hsrc
    rw [show (t + 7) / 8 = n by omega] at this
    rw [← ht]
    refine this.mono ?_
    rintro e w' ⟨u, rfl, o, b⟩
    exact ⟨u, rfl, o.mono k1.size, b⟩
  have HS : Hid (∀ w1, Ok' w w1 → Rf (w1.setCell ⟨gr, 1, none⟩ (.int .i64 s)) gr bL cap V T (p + 8 * n) ∧ Kp (fun i => i = gr) w (w1.setCell ⟨gr, 1, none⟩ (.int .i64 s))) := by
    intro w1 k1
    rw [← ht, ← hs]
    exact rf_set (h.ok k1) s hsT (k1.mono (fun _ _ x => x.elim))
  have hgr := h.st.lt
  have HLT : Hid (∀ w1 u xs, OwnI w1 w.heap.size u xs → ∀ z, OwnI (w1.setCell ⟨gr, 1, none⟩ z) w.heap.size u xs) := by
    intro w1 u xs o z
    exact o.kp (kp_setCell w1 gr 1 z (fun i => i = gr) rfl) (fun b hb e => by have := (o.lt b hb).1; omega)
  clear hq hs ht
  by_cases hca : cap = p
  · have hcp0 : t ≤ 0 := by omega
    subst hca
    obtain ⟨a1, a9, a10⟩ := HW.out
    go_enter Try.func45, Try.ntmps45
    go_wp2
    go_quiet (fail)
    go_wp2
    have k1 := drewN_kp (fun _ => False) w nq
    generalize w.drewN nq = w1 at k1 ⊢
    have d0 : w1.cell? ⟨gr, 0, none⟩ = some (.slice (some ⟨bL, 0, none⟩) T cap) := (h.ok k1).st.cell 0
    have d1 : w1.cell? ⟨gr, 1, none⟩ = some (.int .i64 cap) := (h.ok k1).st.cell 1
    have k1d : Ok' w w1.drew := k1.drew
    clear c0 c1
    go_region_held3 (fun w' => w'.cell? ⟨gr, 0, none⟩ = some (.slice (some ⟨bL, 0, none⟩) T cap) ∧ w'.cell? ⟨gr, 1, none⟩ = some (.int .i64 cap)) (first | (exact ⟨d0, d1⟩) | (exact ⟨e0, e1⟩) | go_keep) (first | (go_at_call 15; refine (HB.out w1.drew k1d _ 0 (Nat.le_trans hcp0 (Nat.zero_le _)) (fun e => absurd rfl e)).mono ?_; rintro e w2 ⟨u2, rfl, o2, b2⟩; have k2 : Ok' w w2 := k1d.trans (Kp.of_below (F := fun _ => False) b2) (fun _ _ x => x); have e0 : w2.cell? ⟨gr, 0, none⟩ = some (.slice (some ⟨bL, 0, none⟩) T cap) := (h.ok k2).st.cell 0; have e1 : w2.cell? ⟨gr, 1, none⟩ = some (.int .i64 cap) := (h.ok k2).st.cell 1; have f1 := (h.ok k2).st.frozen 1))
    go_wp2
    go_ret2
    exact ⟨_, rfl, HLT.out _ _ _ o2 _, HS.out w2 k2⟩
  · obtain ⟨a1, a9, a10⟩ := HW.out
    go_enter Try.func45, Try.ntmps45
    go_wp2
    go_quiet (fail)
    go_wp2
    have k1 := drewN_kp (fun _ => False) w nq
    generalize w.drewN nq = w1 at k1 ⊢
    have d0 : w1.cell? ⟨gr, 0, none⟩ = some (.slice (some ⟨bL, 0, none⟩) T cap) := (h.ok k1).st.cell 0
    have d1 : w1.cell? ⟨gr, 1, none⟩ = some (.int .i64 p) := (h.ok k1).st.cell 1
    have k1d : Ok' w w1.drew := k1.drew
    clear c0 c1
    go_region_held3 (fun w' => w'.cell? ⟨gr, 0, none⟩ = some (.slice (some ⟨bL, 0, none⟩) T cap) ∧ w'.cell? ⟨gr, 1, none⟩ = some (.int .i64 p)) (first | (exact ⟨d0, d1⟩) | (exact ⟨e0, e1⟩) | go_keep) (first | (go_at_call 15; refine (HB.out w1.drew k1d _ p hcp (fun _ => rfl)).mono ?_; rintro e w2 ⟨u2, rfl, o2, b2⟩; have k2 : Ok' w w2 := k1d.trans (Kp.of_below (F := fun _ => False) b2) (fun _ _ x => x); have e0 : w2.cell? ⟨gr, 0, none⟩ = some (.slice (some ⟨bL, 0, none⟩) T cap) := (h.ok k2).st.cell 0; have e1 : w2.cell? ⟨gr, 1, none⟩ = some (.int .i64 p) := (h.ok k2).st.cell 1; have f1 := (h.ok k2).st.frozen 1))
    go_wp2
    go_ret2
    exact ⟨_, rfl, HLT.out _ _ _ o2 _, HS.out w2 k2⟩

end Go.Proofs.Ytfeokjbmobmabaa
