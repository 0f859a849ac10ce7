/- Contract of the statements' own works(): a few bits, there and back; it makes memory and turns none that was there. -/
import Derived.Test.YtfeokjbmobmabaaRdG
namespace Go.Proofs.Ytfeokjbmobmabaa
open Go.RowKit

/-- A writer that was made since w0. -/
def WrO (w0 w : World) (g N v : Nat) : Prop := ∃ sl, Wr w g sl N v ∧ Ok' w0 w ∧ w0.heap.size ≤ g ∧ ∀ b, sl.ownBlock = some b → w0.heap.size ≤ b
/-- A reader that was made since w0. -/
def RdO (w0 w : World) (g : Nat) (B : List Int) (p : Nat) : Prop := ∃ G cap, Rd w g (some ⟨G, 0, none⟩) cap B p ∧ Ok' w0 w ∧ w0.heap.size ≤ g ∧ w0.heap.size ≤ G

theorem putO (w0 w : World) (g x n N v : Nat) (hN : N ≤ 1000000000) (hn : n ≤ 57) (hx : x < 2 ^ n) (h : WrO w0 w g N v) :
    Calls Try.prog 17 #[.pointer (some ⟨g, 0, none⟩), .int .u64 x, .int .i64 n] w fun e w' => e = .returned (.int .i64 0) ∧ WrO w0 w' g (N + n) (v + x * 2 ^ N) := by
  obtain ⟨sl, hw, k, hg, hb⟩ := h
  refine (put_ok g sl x n N v w hN hn hx hw).mono ?_
  rintro e w' ⟨rfl, sl', hw', k', hb'⟩
  refine ⟨rfl, sl', hw', k.trans k' ?_, hg, fun b e => ?_⟩
  · intro i hi e
    rcases e with e | e
    · omega
    · have := hb i e; omega
  · rcases hb' b e with h | h
    · exact hb b h
    · have := k.size; omega
theorem codeO (w0 w : World) (g x n N v : Nat) (hN : N ≤ 1000000000) (hn : n ≤ 57) (hx : x < 2 ^ n) (h : WrO w0 w g N v) :
    Calls Try.prog 18 #[.pointer (some ⟨g, 0, none⟩), .int .u64 x, .int .i64 n] w fun e w' => e = .returned (.int .i64 0) ∧ WrO w0 w' g (N + n) (v + turn x n * 2 ^ N) := by
  obtain ⟨sl, hw, k, hg, hb⟩ := h
  refine (code_ok g sl x n N v w hN hn hx hw).mono ?_
  rintro e w' ⟨rfl, sl', hw', k', hb'⟩
  refine ⟨rfl, sl', hw', k.trans k' ?_, hg, fun b e => ?_⟩
  · intro i hi e
    rcases e with e | e
    · omega
    · have := hb i e; omega
  · rcases hb' b e with h | h
    · exact hb b h
    · have := k.size; omega
theorem newO (w : World) : Calls Try.prog 9 #[] w fun e w' => ∃ g, e = .returned (.pointer (some ⟨g, 0, none⟩)) ∧ WrO w w' g 0 0 := by
  refine (neww_any w).mono ?_
  rintro e w' ⟨rfl, hw, k⟩
  exact ⟨_, rfl, _, hw, k, Nat.le_refl _, fun b e => by simp [Value.ownBlock] at e⟩
theorem bytesO (w0 w : World) (g N v : Nat) (hN : N ≤ 1000000000) (h : WrO w0 w g N v) :
    Calls Try.prog 14 #[.pointer (some ⟨g, 0, none⟩)] w fun e w' => ∃ G, e = .returned (.slice (some ⟨G, 0, none⟩) ((N + 7) / 8) ((N + 7) / 8)) ∧ w0.heap.size ≤ G ∧ Rw 5 w' G (dig 256 v ((N + 7) / 8)) ∧ WrO w0 w' g N v := by
  obtain ⟨sl, hw, k, hg, hb⟩ := h
  refine (bytes_any g sl N v w hN hw).mono ?_
  rintro e w' ⟨G, rfl, hG, r, k'⟩
  exact ⟨G, rfl, Nat.le_trans k.size hG, r, sl, hw.ok k', k.trans k' (fun _ _ x => x), hg, hb⟩
theorem newrO (w0 w : World) (k0 : Ok' w0 w) (ao : Option Addr) (c n : Nat) (B : List Int) (hn : B.length = n) (hl : B.length ≤ 100000000) (hb : Byt B) (hsrc : Src w ao B) :
    Calls Try.prog 21 #[.slice ao n c] w fun e w' => ∃ g, e = .returned (.pointer (some ⟨g, 0, none⟩)) ∧ RdO w0 w' g B 0 ∧ Ok' w w' := by
  subst hn
  refine (newr_any ao c B w hl hb hsrc).mono ?_
  rintro e w' ⟨g, G, rfl, hg, hG, h, k⟩
  exact ⟨g, rfl, ⟨G, B.length, h, k0.trans k (fun _ _ x => x), Nat.le_trans k0.size hg, Nat.le_trans k0.size hG⟩, k⟩
theorem takeO (w0 w : World) (g : Nat) (B : List Int) (p n : Nat) (hn : n ≤ 57) (h : RdO w0 w g B p) (hl : p + n ≤ 8 * B.length) :
    Calls Try.prog 32 #[.pointer (some ⟨g, 0, none⟩), .int .i64 n] w fun e w' => e = .returned (.tuple #[.int .u64 ((und 256 B / 2 ^ p % 2 ^ n : Nat) : Int), .int .i64 0]) ∧ RdO w0 w' g B (p + n) := by
  obtain ⟨G, cap, hr, k, hg, hG⟩ := h
  refine (take_ok g _ cap B p n w hn hr hl).mono ?_
  rintro e w' ⟨rfl, h2, k2⟩
  exact ⟨rfl, G, cap, h2, k.trans k2 (fun i hi e => by omega), hg, hG⟩
theorem RdO.ok {w0 w w' : World} {g : Nat} {B : List Int} {p : Nat} (h : RdO w0 w g B p) (k : Ok' w w') : RdO w0 w' g B p := by
  obtain ⟨G, cap, hr, k0, hg, hG⟩ := h
  exact ⟨G, cap, hr.ok k, k0.trans k (fun _ _ x => x), hg, hG⟩
theorem WrO.ok {w0 w w' : World} {g N v : Nat} (h : WrO w0 w g N v) (k : Ok' w w') : WrO w0 w' g N v := by
  obtain ⟨sl, hw, k0, hg, hb⟩ := h
  exact ⟨sl, hw.ok k, k0.trans k (fun _ _ x => x), hg, hb⟩
theorem atO (w0 w : World) (g : Nat) (B : List Int) (p : Nat) (h : RdO w0 w g B p) :
    Calls Try.prog 25 #[.pointer (some ⟨g, 0, none⟩)] w fun e w' => e = .returned (.int .i64 p) ∧ RdO w0 w' g B p := by
  obtain ⟨G, cap, hr, k, hg, hG⟩ := h
  refine (at_any g _ cap B p w hr).mono ?_
  rintro e w' ⟨rfl, n, rfl⟩
  exact ⟨rfl, RdO.ok ⟨G, cap, hr, k, hg, hG⟩ (drewN_kp _ _ _)⟩
theorem leftO (w0 w : World) (g : Nat) (B : List Int) (p : Nat) (h : RdO w0 w g B p) :
    Calls Try.prog 26 #[.pointer (some ⟨g, 0, none⟩)] w fun e w' => e = .returned (.int .i64 ((8 * B.length - p : Nat) : Int)) ∧ RdO w0 w' g B p := by
  obtain ⟨G, cap, hr, k, hg, hG⟩ := h
  refine (left_any g _ cap B p w hr).mono ?_
  rintro e w' ⟨rfl, n, rfl⟩
  exact ⟨rfl, RdO.ok ⟨G, cap, hr, k, hg, hG⟩ (drewN_kp _ _ _)⟩

theorem k_put1 (w0 w : World) (g : Nat) (h : WrO w0 w g 0 0) : Calls Try.prog 17 #[.pointer (some ⟨g, 0, none⟩), .int .u64 1, .int .i64 1] w fun e w' => e = .returned (.int .i64 0) ∧ WrO w0 w' g 1 1 := putO w0 w g 1 1 0 0 (by decide) (by decide) (by decide) h
theorem k_put2 (w0 w : World) (g : Nat) (h : WrO w0 w g 1 1) : Calls Try.prog 17 #[.pointer (some ⟨g, 0, none⟩), .int .u64 2, .int .i64 2] w fun e w' => e = .returned (.int .i64 0) ∧ WrO w0 w' g 3 5 := putO w0 w g 2 2 1 1 (by decide) (by decide) (by decide) h
theorem k_put3 (w0 w : World) (g : Nat) (h : WrO w0 w g 3 5) : Calls Try.prog 17 #[.pointer (some ⟨g, 0, none⟩), .int .u64 255, .int .i64 8] w fun e w' => e = .returned (.int .i64 0) ∧ WrO w0 w' g 11 2045 := putO w0 w g 255 8 3 5 (by decide) (by decide) (by decide) h
theorem k_bytes (w0 w : World) (g : Nat) (h : WrO w0 w g 11 2045) : Calls Try.prog 14 #[.pointer (some ⟨g, 0, none⟩)] w fun e w' => ∃ G, e = .returned (.slice (some ⟨G, 0, none⟩) 2 2) ∧ w0.heap.size ≤ G ∧ Rw 5 w' G [253, 7] ∧ WrO w0 w' g 11 2045 := bytesO w0 w g 11 2045 (by decide) h
theorem k_new (w0 w : World) (k0 : Ok' w0 w) (G : Nat) (r : Rw 5 w G [253, 7]) : Calls Try.prog 21 #[.slice (some ⟨G, 0, none⟩) 2 2] w fun e w' => ∃ g, e = .returned (.pointer (some ⟨g, 0, none⟩)) ∧ RdO w0 w' g [253, 7] 0 := by
  refine (newrO w0 w k0 _ 2 2 [253, 7] rfl (by decide) (dig_byt 2045 2) r.src).mono ?_
  rintro e w' ⟨g, rfl, h, _⟩
  exact ⟨g, rfl, h⟩
theorem k_take1 (w0 w : World) (g : Nat) (h : RdO w0 w g [253, 7] 0) : Calls Try.prog 32 #[.pointer (some ⟨g, 0, none⟩), .int .i64 1] w fun e w' => e = .returned (.tuple #[.int .u64 1, .int .i64 0]) ∧ RdO w0 w' g [253, 7] 1 := takeO w0 w g [253, 7] 0 1 (by decide) h (by decide)
theorem k_take2 (w0 w : World) (g : Nat) (h : RdO w0 w g [253, 7] 1) : Calls Try.prog 32 #[.pointer (some ⟨g, 0, none⟩), .int .i64 2] w fun e w' => e = .returned (.tuple #[.int .u64 2, .int .i64 0]) ∧ RdO w0 w' g [253, 7] 3 := takeO w0 w g [253, 7] 1 2 (by decide) h (by decide)
theorem k_at (w0 w : World) (g : Nat) (h : RdO w0 w g [253, 7] 3) : Calls Try.prog 25 #[.pointer (some ⟨g, 0, none⟩)] w fun e w' => e = .returned (.int .i64 3) ∧ RdO w0 w' g [253, 7] 3 := atO w0 w g [253, 7] 3 h
theorem k_left (w0 w : World) (g : Nat) (h : RdO w0 w g [253, 7] 3) : Calls Try.prog 26 #[.pointer (some ⟨g, 0, none⟩)] w fun e w' => e = .returned (.int .i64 13) ∧ RdO w0 w' g [253, 7] 3 := leftO w0 w g [253, 7] 3 h
theorem k_turned (w : World) : Calls Try.prog 30 #[.int .u64 6, .int .i64 3] w fun e w' => e = .returned (.int .u64 3) ∧ w = w' := turned_any 6 3 w (by decide)
theorem k_num (w : World) : Calls Try.prog 16 #[.int .i64 0] w fun e w' => e = .returned (.int .i64 0) ∧ w = w' := num_any 0 w
theorem k_same (G H : Nat) (c d : Nat) (w : World) (r : Rw 5 w G [253, 7]) (s : Rw 5 w H [253, 7]) : Calls Try.prog 13 #[.slice (some ⟨G, 0, none⟩) 2 c, .slice (some ⟨H, 0, none⟩) 2 d] w fun e w' => e = .returned (.bool true) ∧ w = w' := same_eq _ _ c d 2 [253, 7] w rfl r.src s.src

set_option maxRecDepth 100000 in
set_option maxHeartbeats 1000000 in
theorem works_any (w : World) : Calls Try.prog 8 #[] w fun e w' => e = .returned (.bool true) ∧ Ok' w w' := by
  go_enter Try.func8, Try.ntmps8
  go_wp2_with fail
  refine (newO w).mono ?_
  rintro e w1 ⟨g, rfl, h1⟩
  go_wp2_with (first | (go_at_call 16; refine (k_num _).mono ?_; rintro e w' ⟨rfl, rfl⟩))
  refine (k_put1 w _ g h1).mono ?_
  rintro e w2 ⟨rfl, h2⟩
  clear h1
  go_wp2_with (first | (go_at_call 16; refine (k_num _).mono ?_; rintro e w' ⟨rfl, rfl⟩))
  refine (k_put2 w _ g h2).mono ?_
  rintro e w3 ⟨rfl, h3⟩
  clear h2
  go_wp2_with (first | (go_at_call 16; refine (k_num _).mono ?_; rintro e w' ⟨rfl, rfl⟩))
  refine (k_put3 w _ g h3).mono ?_
  rintro e w4 ⟨rfl, h4⟩
  clear h3
  go_wp2_with (first | (go_at_call 16; refine (k_num _).mono ?_; rintro e w' ⟨rfl, rfl⟩))
  refine (k_bytes w _ g h4).mono ?_
  rintro e w5 ⟨G, rfl, hG, r5, h5⟩
  clear h4
  go_wp2_with fail
  refine (k_same G w5.heap.size 2 2 _ (r5.alloc _) (Rw.new 5 w5 [253, 7])).mono ?_
  rintro e w' ⟨rfl, rfl⟩
  have h6 := h5.ok ((Kp.refl _ w5).alloc (.cells #[.int .u8 253, .int .u8 7] 5))
  clear r5 h5 hG
  go_wp2_with fail
  refine (k_bytes w _ g h6).mono ?_
  rintro e w7 ⟨G2, rfl, hG2, r7, h7⟩
  have k7 : Ok' w w7 := by obtain ⟨_, _, k, _⟩ := h7; exact k
  go_wp2_with fail
  refine (k_new w _ k7 G2 r7).mono ?_
  rintro e w8 ⟨g8, rfl, h8⟩
  clear h6 r7 h7 k7 hG2
  go_wp2_with fail
  refine (k_take1 w _ g8 h8).mono ?_
  rintro e w9 ⟨rfl, h9⟩
  clear h8
  go_wp2_with fail
  refine (k_take2 w _ g8 h9).mono ?_
  rintro e w10 ⟨rfl, h10⟩
  clear h9
  go_wp2_with (first | (go_at_call 16; refine (k_num _).mono ?_; rintro e w' ⟨rfl, rfl⟩))
  refine (k_at w _ g8 h10).mono ?_
  rintro e w11 ⟨rfl, h11⟩
  clear h10
  go_wp2_with fail
  refine (k_left w _ g8 h11).mono ?_
  rintro e w12 ⟨rfl, h12⟩
  clear h11
  go_wp2_with fail
  refine (k_turned _).mono ?_
  rintro e w' ⟨rfl, rfl⟩
  go_wp2_with fail
  go_ret
  exact ⟨rfl, by obtain ⟨_, _, _, k, _⟩ := h12; exact k⟩

end Go.Proofs.Ytfeokjbmobmabaa
