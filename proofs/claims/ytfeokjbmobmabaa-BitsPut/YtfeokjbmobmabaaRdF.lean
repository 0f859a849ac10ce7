/- Contracts of the reader's drop, stand, Peek, Take, At, Left and of NewReader. -/
import Derived.Test.YtfeokjbmobmabaaRd
namespace Go.Proofs.Ytfeokjbmobmabaa
open Go.RowKit

theorem word_drop (V p wait n : Nat) (h : n ≤ wait) : V / 2 ^ p % 2 ^ wait / 2 ^ n = V / 2 ^ (p + n) % 2 ^ (wait - n) := by
  obtain ⟨k, rfl⟩ := Nat.exists_eq_add_of_le h
  rw [Nat.pow_add 2 n k, Nat.mod_mul_right_div_self, Nat.div_div_eq_div_mul, ← Nat.pow_add, Nat.add_sub_cancel_left]
theorem div_nat (y n : Nat) : (y : Int) / 2 ^ n = ((y / 2 ^ n : Nat) : Int) := by rw [Int.natCast_ediv, Int.natCast_pow]; rfl

set_option maxHeartbeats 400000 in
theorem drop_any (g : Nat) (ao : Option Addr) (cap : Nat) (B : List Int) (p next wait n : Nat) (w : World) (h : RdX w g ao cap B p next wait) (hn : n ≤ wait) :
    Calls Try.prog 49 #[.pointer (some ⟨g, 0, none⟩), .int .i64 n] w fun e w' => e = .returned (.tuple #[]) ∧ RdX w' g ao cap B (p + n) next (wait - n) ∧ Kp (fun i => i = g) w w' := by
  obtain ⟨y, hy⟩ : ∃ y, y = und 256 B / 2 ^ p % 2 ^ wait := ⟨_, rfl⟩
  have hs := h.st
  rw [← hy] at hs
  have c2 : w.cell? ⟨g, 2, none⟩ = some (.int .u64 y) := hs.cell 2
  have c3 : w.cell? ⟨g, 3, none⟩ = some (.int .i64 wait) := hs.cell 3
  have f2 := hs.frozen 2
  have f3 := hs.frozen 3
  have hwl := h.wle
  have hn64 : n ≤ 64 := by omega
  have HE : Hid (RdX ((w.setCell ⟨g, 2, none⟩ (.int .u64 ((y : Int) / 2 ^ n))).setCell ⟨g, 3, none⟩ (.int .i64 ((wait : Int) - n))) g ao cap B (p + n) next (wait - n) ∧ Kp (fun i => i = g) w ((w.setCell ⟨g, 2, none⟩ (.int .u64 ((y : Int) / 2 ^ n))).setCell ⟨g, 3, none⟩ (.int .i64 ((wait : Int) - n)))) := by
    have K1 : Kp (fun i => i = g) w ((w.setCell ⟨g, 2, none⟩ (.int .u64 ((y : Int) / 2 ^ n))).setCell ⟨g, 3, none⟩ (.int .i64 ((wait : Int) - n))) := ((Kp.refl (fun i => i = g) w).setCell (F := fun i => i = g) g 2 _ rfl).setCell (F := fun i => i = g) g 3 _ rfl
    refine ⟨⟨by have := h.pos; omega, h.nle, by omega, h.blen, h.byt, ?_, h.src.kp K1 h.apart, h.hcap, h.hnil, h.apart⟩, K1⟩
    have s := (hs.set 2 (.int .u64 ((y : Int) / 2 ^ n))).set 3 (.int .i64 ((wait : Int) - n))
    rw [← word_drop _ _ _ _ hn, ← hy, ← div_nat, show ((wait - n : Nat) : Int) = (wait : Int) - n by omega]
    simpa using s
  clear hy hs h
  go_enter Try.func49, Try.ntmps49
  go_wp2
  go_end0
  exact ⟨rfl, HE.out⟩

set_option maxHeartbeats 400000 in
theorem stand_any (g : Nat) (ao : Option Addr) (cap : Nat) (B : List Int) (p next wait n : Nat) (w : World) (h : RdX w g ao cap B p next wait) (hn : n ≤ B.length) :
    Calls Try.prog 50 #[.pointer (some ⟨g, 0, none⟩), .int .i64 n] w fun e w' => e = .returned (.tuple #[]) ∧ RdX w' g ao cap B (8 * n) n 0 ∧ Kp (fun i => i = g) w w' := by
  have hs := h.st
  obtain ⟨y, hy⟩ : ∃ y, y = und 256 B / 2 ^ p % 2 ^ wait := ⟨_, rfl⟩
  rw [← hy] at hs
  have c1 : w.cell? ⟨g, 1, none⟩ = some (.int .i64 next) := hs.cell 1
  have c2 : w.cell? ⟨g, 2, none⟩ = some (.int .u64 y) := hs.cell 2
  have c3 : w.cell? ⟨g, 3, none⟩ = some (.int .i64 wait) := hs.cell 3
  have f1 := hs.frozen 1
  have f2 := hs.frozen 2
  have f3 := hs.frozen 3
  have HE : Hid (RdX (((w.setCell ⟨g, 1, none⟩ (.int .i64 (n : Int))).setCell ⟨g, 2, none⟩ (.int .u64 0)).setCell ⟨g, 3, none⟩ (.int .i64 0)) g ao cap B (8 * n) n 0 ∧ Kp (fun i => i = g) w (((w.setCell ⟨g, 1, none⟩ (.int .i64 (n : Int))).setCell ⟨g, 2, none⟩ (.int .u64 0)).setCell ⟨g, 3, none⟩ (.int .i64 0))) := by
    have K1 : Kp (fun i => i = g) w (((w.setCell ⟨g, 1, none⟩ (.int .i64 (n : Int))).setCell ⟨g, 2, none⟩ (.int .u64 0)).setCell ⟨g, 3, none⟩ (.int .i64 0)) := (((Kp.refl (fun i => i = g) w).setCell (F := fun i => i = g) g 1 _ rfl).setCell (F := fun i => i = g) g 2 _ rfl).setCell (F := fun i => i = g) g 3 _ rfl
    refine ⟨⟨by omega, hn, by omega, h.blen, h.byt, ?_, h.src.kp K1 h.apart, h.hcap, h.hnil, h.apart⟩, K1⟩
    have s := ((hs.set 1 (.int .i64 (n : Int))).set 2 (.int .u64 0)).set 3 (.int .i64 0)
    rw [Nat.pow_zero, Nat.mod_one]
    simpa using s
  clear hy hs h
  go_enter Try.func50, Try.ntmps50
  go_wp2
  go_end0
  exact ⟨rfl, HE.out⟩

set_option maxHeartbeats 400000 in
theorem at_any (g : Nat) (ao : Option Addr) (cap : Nat) (B : List Int) (p : Nat) (w : World) (h : Rd w g ao cap B p) :
    Calls Try.prog 25 #[.pointer (some ⟨g, 0, none⟩)] w fun e w' => e = .returned (.int .i64 p) ∧ ∃ n, w' = w.drewN n := by
  obtain ⟨next, wait, h⟩ := h
  have hs := h.st
  have c1 : w.cell? ⟨g, 1, none⟩ = some (.int .i64 next) := hs.cell 1
  have c3 : w.cell? ⟨g, 3, none⟩ = some (.int .i64 wait) := hs.cell 3
  have h1 := h.pos
  have h2 := h.nle
  have h3 := h.blen
  have a1 : IntKind.i64.wrap (8 * (next : Int)) = 8 * (next : Int) := by rw [IntKind.wrap_i64]; omega
  have a2 : IntKind.i64.wrap (8 * (next : Int) - (wait : Int)) = (p : Int) := by rw [IntKind.wrap_i64]; omega
  clear hs h h1 h2 h3
  go_enter Try.func25, Try.ntmps25
  go_wp2
  go_quiet (fail)
  go_wp2
  go_ret
  exact ⟨rfl, _, rfl⟩
set_option maxHeartbeats 400000 in
theorem at_nil (w : World) : Calls Try.prog 25 #[.pointer none] w fun e w' => e = .returned (.int .i64 0) ∧ w = w' := by
  go_enter Try.func25, Try.ntmps25
  go_wp2
  go_ret
  exact ⟨rfl, rfl⟩

theorem Rd.le {w : World} {g : Nat} {ao : Option Addr} {cap : Nat} {B : List Int} {p : Nat} (h : Rd w g ao cap B p) : p ≤ 8 * B.length := by
  obtain ⟨n, q, h⟩ := h
  have := h.pos; have := h.nle; omega
set_option maxHeartbeats 400000 in
theorem left_any (g : Nat) (ao : Option Addr) (cap : Nat) (B : List Int) (p : Nat) (w : World) (h : Rd w g ao cap B p) :
    Calls Try.prog 26 #[.pointer (some ⟨g, 0, none⟩)] w fun e w' => e = .returned (.int .i64 ((8 * B.length - p : Nat) : Int)) ∧ ∃ n, w' = w.drewN n := by
  obtain ⟨next, wait, hx⟩ := h
  have hs := hx.st
  have c0 : w.cell? ⟨g, 0, none⟩ = some (.slice ao B.length cap) := hs.cell 0
  have h0 : Rd w g ao cap B p := ⟨next, wait, hx⟩
  have h1 := h0.le
  have h3 := hx.blen
  have a1 : IntKind.i64.wrap (8 * (B.length : Int)) = 8 * (B.length : Int) := by rw [IntKind.wrap_i64]; omega
  obtain ⟨q, hq⟩ : ∃ q, q = 8 * B.length - p := ⟨_, rfl⟩
  have a2 : IntKind.i64.wrap (8 * (B.length : Int) - (p : Int)) = (q : Int) := by rw [IntKind.wrap_i64]; omega
  rw [← hq]
  clear hs hx h1 h3 hq
  go_enter Try.func26, Try.ntmps26
  go_wp2
  go_quiet (first | (go_at_call 25; refine Calls.quiet_of (at_any g ao cap B p _ (h0.ok (drewN_kp _ _ _)))))
  go_wp2
  go_ret
  exact ⟨rfl, _, rfl⟩
set_option maxHeartbeats 400000 in
theorem left_nil (w : World) : Calls Try.prog 26 #[.pointer none] w fun e w' => e = .returned (.int .i64 0) ∧ w = w' := by
  go_enter Try.func26, Try.ntmps26
  go_wp2
  go_ret
  exact ⟨rfl, rfl⟩

set_option maxHeartbeats 400000 in
theorem newr_any (ao : Option Addr) (c : Nat) (B : List Int) (w : World) (hl : B.length ≤ 100000000) (hb : Byt B) (hsrc : Src w ao B) :
    Calls Try.prog 21 #[.slice ao B.length c] w fun e w' => ∃ g G, e = .returned (.pointer (some ⟨g, 0, none⟩)) ∧ w.heap.size ≤ g ∧ w.heap.size ≤ G ∧ Rd w' g (some ⟨G, 0, none⟩) B.length B 0 ∧ Ok' w w' := by
  go_enter Try.func21, Try.ntmps21
  go_wp2_with (go_at_call 36; refine (kept_any ao c B _ (by omega) hsrc).mono ?_; rintro e w1 ⟨rfl, r1, b1⟩)
  go_ret
  refine ⟨w1.heap.size, w.heap.size, rfl, b1.size, Nat.le_refl _, ⟨0, 0, rfl, Nat.zero_le _, by omega, hl, hb, ?_, (r1.alloc _).src, Nat.le_refl _, fun e => (by cases e), ?_⟩, (Kp.of_below b1).alloc _⟩
  · have s : St 80 (w1.alloc (.cells #[.slice (some ⟨w.heap.size, 0, none⟩) B.length B.length, .int .i64 0, .int .u64 0, .int .i64 0] 80)) w1.heap.size _ := heap_alloc_new w1 _
    simpa [Nat.mod_one] using s
  · intro b off e
    cases e
    have := r1.lt; omega

end Go.Proofs.Ytfeokjbmobmabaa
