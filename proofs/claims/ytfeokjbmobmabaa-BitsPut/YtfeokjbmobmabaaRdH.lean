/- Contracts of the reader's calls Align, Raw and Skip. -/
import Derived.Test.YtfeokjbmobmabaaRdG
namespace Go.Proofs.Ytfeokjbmobmabaa
open Go.RowKit

set_option maxHeartbeats 400000 in
theorem alignR_any (g : Nat) (ao : Option Addr) (cap : Nat) (B : List Int) (p : Nat) (w : World) (h : Rd w g ao cap B p) :
    Calls Try.prog 33 #[.pointer (some ⟨g, 0, none⟩)] w fun e w' => e = .returned (.int .i64 0) ∧ Rd w' g ao cap B (8 * ((p + 7) / 8)) ∧ Kp (fun i => i = g) w w' := by
  obtain ⟨next, wait, h⟩ := h
  have c3 : w.cell? ⟨g, 3, none⟩ = some (.int .i64 wait) := h.st.cell 3
  have hwl := h.wle
  have hpos := h.pos
  obtain ⟨q, hq⟩ : ∃ q, q = wait % 8 := ⟨_, rfl⟩
  have hq2 : (wait : Int) % 8 = (q : Int) := by omega
  have HP : Hid (p + q = 8 * ((p + 7) / 8)) := by show _ = _; omega
  have hqw : q ≤ wait := by omega
  clear hpos hq
  go_enter Try.func33, Try.ntmps33
  go_wp2_with fail
  refine (drop_any g ao cap B p next wait q _ h hqw).mono ?_
  rintro e w' ⟨rfl, h2, k2⟩
  go_wp2
  go_ret
  exact ⟨rfl, ⟨next, wait - q, by rw [← HP.out]; exact h2⟩, k2⟩
set_option maxHeartbeats 400000 in
theorem alignR_nil (w : World) : Calls Try.prog 33 #[.pointer none] w fun e w' => e = .returned (.int .i64 1) ∧ w = w' := by
  go_enter Try.func33, Try.ntmps33
  go_wp2
  go_ret
  exact ⟨rfl, rfl⟩

set_option maxHeartbeats 400000 in
theorem rawR_nil (n : Int) (w : World) : Calls Try.prog 34 #[.pointer none, .int .i64 n] w fun e w' => e = .returned (.tuple #[.slice none 0 0, .int .i64 1]) ∧ w = w' := by
  go_enter Try.func34, Try.ntmps34
  go_wp2
  go_ret2
  exact ⟨rfl, rfl⟩
set_option maxHeartbeats 400000 in
theorem rawR_bad (g : Nat) (n : Int) (w : World) (hn : n < 0) : Calls Try.prog 34 #[.pointer (some ⟨g, 0, none⟩), .int .i64 n] w fun e w' => e = .returned (.tuple #[.slice none 0 0, .int .i64 2]) ∧ w = w' := by
  go_enter Try.func34, Try.ntmps34
  go_wp2
  go_ret2
  exact ⟨rfl, rfl⟩
set_option maxHeartbeats 400000 in
theorem rawR_short (g : Nat) (ao : Option Addr) (cap : Nat) (B : List Int) (p : Nat) (n : Int) (w : World) (hn : 0 ≤ n) (h : Rd w g ao cap B p) (hl : p % 8 ≠ 0 ∨ (((8 * B.length - p) / 8 : Nat) : Int) < n) :
    Calls Try.prog 34 #[.pointer (some ⟨g, 0, none⟩), .int .i64 n] w fun e w' => e = .returned (.tuple #[.slice none 0 0, .int .i64 120]) ∧ ∃ m, w' = w.drewN m := by
  obtain ⟨next, wait, hx⟩ := h
  have h0 : Rd w g ao cap B p := ⟨next, wait, hx⟩
  have c3 : w.cell? ⟨g, 3, none⟩ = some (.int .i64 wait) := hx.st.cell 3
  have hwl := hx.wle
  have hpos := hx.pos
  have hn0 : ¬ n < 0 := by omega
  by_cases h8 : p % 8 ≠ 0
  · have hb : ((wait : Int) % 8 != 0) = true := by simp; omega
    clear hl hx h0
    go_enter Try.func34, Try.ntmps34
    go_wp2
    go_ret2
    exact ⟨rfl, 0, rfl⟩
  · have hb : ((wait : Int) % 8 != 0) = false := by simp; omega
    obtain ⟨q, hq⟩ : ∃ q, q = 8 * B.length - p := ⟨_, rfl⟩
    have HC := left_any g ao cap B p w h0
    rw [← hq] at HC
    have hl2 : (q : Int) / 8 < n := by omega
    have hqb : q ≤ 800000000 := by have := hx.blen; omega
    clear hl hx h0 hq hpos
    go_enter Try.func34, Try.ntmps34
    go_wp2_with (go_at_call 26; refine HC.mono ?_; rintro e w1 ⟨rfl, m, rfl⟩)
    go_ret2
    exact ⟨rfl, m, rfl⟩

theorem sub_slice {w : World} {ao : Option Addr} {cap : Nat} {B : List Int} (a n : Nat) (hn : a + n ≤ B.length) (hsrc : Src w ao B) (hc : B.length ≤ cap) (A : Option Addr)
    (hA : ∀ b off, ao = some ⟨b, off, none⟩ → A = if cap = a then some ⟨b, off, none⟩ else some ⟨b, off + a, none⟩) : Src w A ((B.drop a).take n) := by
  intro hp
  have hn0 : 0 < n := by
    have := List.length_take_le n (B.drop a)
    omega
  obtain ⟨b, off, e, hcell⟩ := hsrc (by omega)
  have hA2 := hA b off e
  rw [if_neg (by omega)] at hA2
  refine ⟨b, off + a, hA2, fun i hi => ?_⟩
  have hi2 : i < n := by simp at hi; omega
  rw [Nat.add_assoc, hcell (a + i) (by omega)]
  simp [List.getD, hi2]

theorem at_k (g : Nat) (ao : Option Addr) (cap : Nat) (B : List Int) (p : Nat) (w : World) (h : Rd w g ao cap B p) :
    Calls Try.prog 25 #[.pointer (some ⟨g, 0, none⟩)] w fun e w' => e = .returned (.int .i64 p) ∧ Ok' w w' := by
  refine (at_any g ao cap B p w h).mono ?_
  rintro e w' ⟨rfl, n, rfl⟩
  exact ⟨rfl, drewN_kp _ _ _⟩
theorem left_k (g : Nat) (ao : Option Addr) (cap : Nat) (B : List Int) (p : Nat) (w : World) (h : Rd w g ao cap B p) :
    Calls Try.prog 26 #[.pointer (some ⟨g, 0, none⟩)] w fun e w' => e = .returned (.int .i64 ((8 * B.length - p : Nat) : Int)) ∧ Ok' w w' := by
  refine (left_any g ao cap B p w h).mono ?_
  rintro e w' ⟨rfl, n, rfl⟩
  exact ⟨rfl, drewN_kp _ _ _⟩

set_option maxHeartbeats 1000000 in
theorem rawR_walk (g b off : Nat) (cap : Nat) (B : List Int) (p n : Nat) (w : World) (hl8 : p % 8 = 0) (hl : n ≤ (8 * B.length - p) / 8) (h : Rd w g (some ⟨b, off, none⟩) cap B p) :
    Calls Try.prog 34 #[.pointer (some ⟨g, 0, none⟩), .int .i64 n] w fun e w' => ∃ G, e = .returned (.tuple #[.slice (some ⟨G, 0, none⟩) n n, .int .i64 0]) ∧ w.heap.size ≤ G ∧ Rw 5 w' G ((B.drop (p / 8)).take n) ∧ Rd w' g (some ⟨b, off, none⟩) cap B (p + 8 * n) ∧ Kp (fun i => i = g) w w' := by
  have hle := h.le
  obtain ⟨next, wait, hx⟩ := h
  have h0 : Rd w g (some ⟨b, off, none⟩) cap B p := ⟨next, wait, hx⟩
  have c3 : w.cell? ⟨g, 3, none⟩ = some (.int .i64 wait) := hx.st.cell 3
  have hwl := hx.wle
  have hpos := hx.pos
  have hb : ((wait : Int) % 8 != 0) = false := by simp; omega
  obtain ⟨q, hq⟩ : ∃ q, q = 8 * B.length - p := ⟨_, rfl⟩
  obtain ⟨a, ha⟩ : ∃ a, a = p / 8 := ⟨_, rfl⟩
  have HC := left_k g (some ⟨b, off, none⟩) cap B p w h0
  rw [← hq] at HC
  have hl2 : ¬ ((q : Int) / 8 < (n : Int)) := by omega
  have hblen := hx.blen
  have hqb : q ≤ 800000000 := by omega
  have hp8 : (p : Int) / 8 = (a : Int) := by omega
  have hpb : p ≤ 800000000 := by omega
  obtain ⟨m, hm⟩ : ∃ m, m = a + n := ⟨_, rfl⟩
  have hm2 : (a : Int) + (n : Int) = (m : Int) := by omega
  have hmB : m ≤ B.length := by omega
  have hcap := hx.hcap
  have HE : Hid (p + 8 * n = 8 * m ∧ m - a = n) := by show _ ∧ _; omega
  have HSL : Hid (∀ w', Src w' (some ⟨b, off, none⟩) B → ∀ A, (A = if cap = a then some ⟨b, off, none⟩ else some ⟨b, off + a, none⟩) → Src w' A ((B.drop a).take n)) := fun w' hs A hA => sub_slice a n (by omega) hs hcap A (by rintro b' off' e; cases e; exact hA)
  have HLN : Hid (((B.drop a).take n).length = n) := by show _ = _; simp; omega
  have hc1 : (m : Int) ≤ (cap : Int) := by omega
  have ham : a ≤ m := by omega
  have hnb : n ≤ 100000000 := by omega
  rw [← ha]
  clear hl hq hpos ha hl8 hm hle
  by_cases hca : cap = a
  · subst hca
    go_enter Try.func34, Try.ntmps34
    go_wp2_with (go_at_call 26; refine HC.mono ?_; rintro e w1 ⟨rfl, k1⟩)
    refine (at_k g _ cap B p _ (h0.ok k1)).mono ?_
    rintro e w2 ⟨rfl, k2⟩
    have k2' : Ok' w w2 := k1.trans k2 (fun _ _ x => x)
    clear k1 k2
    go_wp2_with fail
    refine (stand_any g _ cap B p next wait m _ (hx.ok k2') hmB).mono ?_
    rintro e w3 ⟨rfl, h3, k3⟩
    have c0 : w3.cell? ⟨g, 0, none⟩ = some (.slice (some ⟨b, off, none⟩) B.length cap) := h3.st.cell 0
    have hmn := HE.out.2
    go_wp2_with fail
    have HK := kept_any (some ⟨b, off, none⟩) 0 ((B.drop cap).take n) w3 (by rw [HLN.out]; omega) (HSL.out w3 h3.src _ (by simp))
    rw [HLN.out] at HK
    refine HK.mono ?_
    rintro e w4 ⟨rfl, r4, b4⟩
    go_wp2_with fail
    go_ret2
    have k4 : Ok' w3 w4 := Kp.of_below b4
    exact ⟨w3.heap.size, rfl, Nat.le_trans k2'.size k3.size, r4, ⟨_, _, by rw [HE.out.1]; exact h3.ok k4⟩, (k2'.mono (fun _ _ x => x.elim)).trans (k3.trans k4 (fun _ _ x => x.elim)) (fun _ _ x => x)⟩
  · go_enter Try.func34, Try.ntmps34
    go_wp2_with (go_at_call 26; refine HC.mono ?_; rintro e w1 ⟨rfl, k1⟩)
    refine (at_k g _ cap B p _ (h0.ok k1)).mono ?_
    rintro e w2 ⟨rfl, k2⟩
    have k2' : Ok' w w2 := k1.trans k2 (fun _ _ x => x)
    clear k1 k2
    go_wp2_with fail
    refine (stand_any g _ cap B p next wait m _ (hx.ok k2') hmB).mono ?_
    rintro e w3 ⟨rfl, h3, k3⟩
    have c0 : w3.cell? ⟨g, 0, none⟩ = some (.slice (some ⟨b, off, none⟩) B.length cap) := h3.st.cell 0
    have hmn := HE.out.2
    go_wp2_with fail
    have HK := kept_any (some ⟨b, off + a, none⟩) (cap - a) ((B.drop a).take n) w3 (by rw [HLN.out]; omega) (HSL.out w3 h3.src _ (by rw [if_neg hca]))
    rw [HLN.out] at HK
    refine HK.mono ?_
    rintro e w4 ⟨rfl, r4, b4⟩
    go_wp2_with fail
    go_ret2
    have k4 : Ok' w3 w4 := Kp.of_below b4
    exact ⟨w3.heap.size, rfl, Nat.le_trans k2'.size k3.size, r4, ⟨_, _, by rw [HE.out.1]; exact h3.ok k4⟩, (k2'.mono (fun _ _ x => x.elim)).trans (k3.trans k4 (fun _ _ x => x.elim)) (fun _ _ x => x)⟩

end Go.Proofs.Ytfeokjbmobmabaa
