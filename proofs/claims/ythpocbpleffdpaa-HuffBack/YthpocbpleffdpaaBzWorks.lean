/- Contract of the statements' own works(): a few bits, there and back; it makes memory and turns none that was there. -/
import Derived.Test.YthpocbpleffdpaaXbX
namespace Go.Proofs.Ythpocbpleffdpaa.Bz
open Go.RowKit

/-- A writer that was made since w0. -/
def WrO (w0 w : World) (g N v : Nat) : Prop := ∃ sl, Wr w g sl N v ∧ Ok' w0 w ∧ w0.heap.size ≤ g ∧ ∀ b, sl.ownBlock = some b → w0.heap.size ≤ b
/-- A reader that was made since w0. -/
def RdO (w0 w : World) (g : Nat) (B : List Int) (p : Nat) : Prop := ∃ G cap, Rd w g (some ⟨G, 0, none⟩) cap B p ∧ Ok' w0 w ∧ w0.heap.size ≤ g ∧ w0.heap.size ≤ G

theorem putO (w0 w : World) (g x n N v : Nat) (hN : N ≤ 1000000000) (hn : n ≤ 57) (hx : x < 2 ^ n) (h : WrO w0 w g N v) :
    Calls Try.prog 32 #[.pointer (some ⟨g, 0, none⟩), .int .u64 x, .int .i64 n] w fun e w' => e = .returned (.int .i64 0) ∧ WrO w0 w' g (N + n) (v + x * 2 ^ N) := by
  obtain ⟨sl, hw, k, hg, hb⟩ := h
  refine (put_ok g sl x n N v w hN hn hx hw).mono ?_
  rintro e w' ⟨rfl, sl', hw', k', hb'⟩
  refine ⟨rfl, sl', hw', k.trans k' ?_, hg, fun b e => ?_⟩
  · intro i hi e
    rcases e with e | e
    · omega
    · have := hb i e; omega
  · rcases hb' b e with h | h
    · exact hb b h
    · have := k.size; omega
theorem codeO (w0 w : World) (g x n N v : Nat) (hN : N ≤ 1000000000) (hn : n ≤ 57) (hx : x < 2 ^ n) (h : WrO w0 w g N v) :
    Calls Try.prog 60 #[.pointer (some ⟨g, 0, none⟩), .int .u64 x, .int .i64 n] w fun e w' => e = .returned (.int .i64 0) ∧ WrO w0 w' g (N + n) (v + turn x n * 2 ^ N) := by
  obtain ⟨sl, hw, k, hg, hb⟩ := h
  refine (code_ok g sl x n N v w hN hn hx hw).mono ?_
  rintro e w' ⟨rfl, sl', hw', k', hb'⟩
  refine ⟨rfl, sl', hw', k.trans k' ?_, hg, fun b e => ?_⟩
  · intro i hi e
    rcases e with e | e
    · omega
    · have := hb i e; omega
  · rcases hb' b e with h | h
    · exact hb b h
    · have := k.size; omega
theorem newO (w : World) : Calls Try.prog 31 #[] w fun e w' => ∃ g, e = .returned (.pointer (some ⟨g, 0, none⟩)) ∧ WrO w w' g 0 0 := by
  refine (neww_any w).mono ?_
  rintro e w' ⟨rfl, hw, k⟩
  exact ⟨_, rfl, _, hw, k, Nat.le_refl _, fun b e => by simp [Value.ownBlock] at e⟩
theorem bytesO (w0 w : World) (g N v : Nat) (hN : N ≤ 1000000000) (h : WrO w0 w g N v) :
    Calls Try.prog 36 #[.pointer (some ⟨g, 0, none⟩)] w fun e w' => ∃ G, e = .returned (.slice (some ⟨G, 0, none⟩) ((N + 7) / 8) ((N + 7) / 8)) ∧ w0.heap.size ≤ G ∧ Rw 5 w' G (dig 256 v ((N + 7) / 8)) ∧ WrO w0 w' g N v := by
  obtain ⟨sl, hw, k, hg, hb⟩ := h
  refine (bytes_any g sl N v w hN hw).mono ?_
  rintro e w' ⟨G, rfl, hG, r, k'⟩
  exact ⟨G, rfl, Nat.le_trans k.size hG, r, sl, hw.ok k', k.trans k' (fun _ _ x => x), hg, hb⟩
theorem newrO (w0 w : World) (k0 : Ok' w0 w) (ao : Option Addr) (c n : Nat) (B : List Int) (hn : B.length = n) (hl : B.length ≤ 100000000) (hb : Byt B) (hsrc : Src w ao B) :
    Calls Try.prog 40 #[.slice ao n c] w fun e w' => ∃ g, e = .returned (.pointer (some ⟨g, 0, none⟩)) ∧ RdO w0 w' g B 0 ∧ Ok' w w' := by
  subst hn
  refine (newr_any ao c B w hl hb hsrc).mono ?_
  rintro e w' ⟨g, G, rfl, hg, hG, h, k⟩
  exact ⟨g, rfl, ⟨G, B.length, h, k0.trans k (fun _ _ x => x), Nat.le_trans k0.size hg, Nat.le_trans k0.size hG⟩, k⟩
theorem RdO.ok {w0 w w' : World} {g : Nat} {B : List Int} {p : Nat} (h : RdO w0 w g B p) (k : Ok' w w') : RdO w0 w' g B p := by
  obtain ⟨G, cap, hr, k0, hg, hG⟩ := h
  exact ⟨G, cap, hr.ok k, k0.trans k (fun _ _ x => x), hg, hG⟩
theorem WrO.ok {w0 w w' : World} {g N v : Nat} (h : WrO w0 w g N v) (k : Ok' w w') : WrO w0 w' g N v := by
  obtain ⟨sl, hw, k0, hg, hb⟩ := h
  exact ⟨sl, hw.ok k, k0.trans k (fun _ _ x => x), hg, hb⟩
theorem atO (w0 w : World) (g : Nat) (B : List Int) (p : Nat) (h : RdO w0 w g B p) :
    Calls Try.prog 42 #[.pointer (some ⟨g, 0, none⟩)] w fun e w' => e = .returned (.int .i64 p) ∧ RdO w0 w' g B p := by
  obtain ⟨G, cap, hr, k, hg, hG⟩ := h
  refine (at_any g _ cap B p w hr).mono ?_
  rintro e w' ⟨rfl, n, rfl⟩
  exact ⟨rfl, RdO.ok ⟨G, cap, hr, k, hg, hG⟩ (drewN_kp _ _ _)⟩
theorem leftO (w0 w : World) (g : Nat) (B : List Int) (p : Nat) (h : RdO w0 w g B p) :
    Calls Try.prog 82 #[.pointer (some ⟨g, 0, none⟩)] w fun e w' => e = .returned (.int .i64 ((8 * B.length - p : Nat) : Int)) ∧ RdO w0 w' g B p := by
  obtain ⟨G, cap, hr, k, hg, hG⟩ := h
  refine (left_any g _ cap B p w hr).mono ?_
  rintro e w' ⟨rfl, n, rfl⟩
  exact ⟨rfl, RdO.ok ⟨G, cap, hr, k, hg, hG⟩ (drewN_kp _ _ _)⟩

theorem k_put1 (w0 w : World) (g : Nat) (h : WrO w0 w g 0 0) : Calls Try.prog 32 #[.pointer (some ⟨g, 0, none⟩), .int .u64 1, .int .i64 1] w fun e w' => e = .returned (.int .i64 0) ∧ WrO w0 w' g 1 1 := putO w0 w g 1 1 0 0 (by decide) (by decide) (by decide) h
theorem k_put2 (w0 w : World) (g : Nat) (h : WrO w0 w g 1 1) : Calls Try.prog 32 #[.pointer (some ⟨g, 0, none⟩), .int .u64 2, .int .i64 2] w fun e w' => e = .returned (.int .i64 0) ∧ WrO w0 w' g 3 5 := putO w0 w g 2 2 1 1 (by decide) (by decide) (by decide) h
theorem k_put3 (w0 w : World) (g : Nat) (h : WrO w0 w g 3 5) : Calls Try.prog 32 #[.pointer (some ⟨g, 0, none⟩), .int .u64 255, .int .i64 8] w fun e w' => e = .returned (.int .i64 0) ∧ WrO w0 w' g 11 2045 := putO w0 w g 255 8 3 5 (by decide) (by decide) (by decide) h
theorem k_bytes (w0 w : World) (g : Nat) (h : WrO w0 w g 11 2045) : Calls Try.prog 36 #[.pointer (some ⟨g, 0, none⟩)] w fun e w' => ∃ G, e = .returned (.slice (some ⟨G, 0, none⟩) 2 2) ∧ w0.heap.size ≤ G ∧ Rw 5 w' G [253, 7] ∧ WrO w0 w' g 11 2045 := bytesO w0 w g 11 2045 (by decide) h
theorem k_new (w0 w : World) (k0 : Ok' w0 w) (G : Nat) (r : Rw 5 w G [253, 7]) : Calls Try.prog 40 #[.slice (some ⟨G, 0, none⟩) 2 2] w fun e w' => ∃ g, e = .returned (.pointer (some ⟨g, 0, none⟩)) ∧ RdO w0 w' g [253, 7] 0 := by
  refine (newrO w0 w k0 _ 2 2 [253, 7] rfl (by decide) (dig_byt 2045 2) r.src).mono ?_
  rintro e w' ⟨g, rfl, h, _⟩
  exact ⟨g, rfl, h⟩
theorem k_at (w0 w : World) (g : Nat) (h : RdO w0 w g [253, 7] 3) : Calls Try.prog 42 #[.pointer (some ⟨g, 0, none⟩)] w fun e w' => e = .returned (.int .i64 3) ∧ RdO w0 w' g [253, 7] 3 := atO w0 w g [253, 7] 3 h
theorem k_left (w0 w : World) (g : Nat) (h : RdO w0 w g [253, 7] 3) : Calls Try.prog 82 #[.pointer (some ⟨g, 0, none⟩)] w fun e w' => e = .returned (.int .i64 13) ∧ RdO w0 w' g [253, 7] 3 := leftO w0 w g [253, 7] 3 h
theorem k_turned (w : World) : Calls Try.prog 81 #[.int .u64 6, .int .i64 3] w fun e w' => e = .returned (.int .u64 3) ∧ w = w' := turned_any 6 3 w (by decide)
theorem k_num (w : World) : Calls Try.prog 13 #[.int .i64 0] w fun e w' => e = .returned (.int .i64 0) ∧ w = w' := num_any 0 w
end Go.Proofs.Ythpocbpleffdpaa.Bz
