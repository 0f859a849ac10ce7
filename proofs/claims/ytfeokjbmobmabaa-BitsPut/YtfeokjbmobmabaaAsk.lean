/- Contracts of the statements' own ask(): one call of the reader beside the same call of the reference's. Here: Take, Peek, Align, and what is no call. -/
import Derived.Test.YtfeokjbmobmabaaRdI
import Derived.Test.YtfeokjbmobmabaaRefT
namespace Go.Proofs.Ytfeokjbmobmabaa
open Go.RowKit

/-- A reader and the reference's reader, of the same bytes, at the same bit, that share nothing. -/
structure Pr (w : World) (g G cap gr bL capL : Nat) (B : List Int) (p : Nat) : Prop where
  rd : Rd w g (some ⟨G, 0, none⟩) cap B p
  rf : Rf w gr bL capL (und 256 B) (8 * B.length) p
  n1 : g ≠ gr
  n2 : G ≠ gr
  n3 : bL ≠ g
theorem Pr.ok {w w' : World} {g G cap gr bL capL : Nat} {B : List Int} {p : Nat} (h : Pr w g G cap gr bL capL B p) (k : Ok' w w') : Pr w' g G cap gr bL capL B p := ⟨h.rd.ok k, h.rf.ok k, h.n1, h.n2, h.n3⟩
theorem rd_lt {w : World} {g : Nat} {ao : Option Addr} {cap : Nat} {B : List Int} {p : Nat} (h : Rd w g ao cap B p) : g < w.heap.size := by
  obtain ⟨_, _, hx⟩ := h
  exact hx.st.lt
/-- What ask leaves. -/
def Asked (w w' : World) (g G cap gr bL capL : Nat) (B : List Int) : Prop := (∃ p', Pr w' g G cap gr bL capL B p') ∧ Kp (fun i => i = g ∨ i = gr) w w'
theorem asked {w wA w1 w2 : World} {g G cap gr bL capL : Nat} {B : List Int} {p' : Nat} (h : Pr wA g G cap gr bL capL B p') (k : Kp (fun i => i = g ∨ i = gr) w wA) (k1 : Kp (fun i => i = g) wA w1) (k2 : Kp (fun i => i = gr) w1 w2)
    (p : Nat) (hr : Rd w1 g (some ⟨G, 0, none⟩) cap B p) (hf : Rf w2 gr bL capL (und 256 B) (8 * B.length) p) : Asked w w2 g G cap gr bL capL B :=
  ⟨⟨p, hr.kp k2 h.n1 (fun b off e => by cases e; exact h.n2), hf, h.n1, h.n2, h.n3⟩, (k.trans k1 (fun _ _ x => .inl x)).trans k2 (fun _ _ x => .inr x)⟩
theorem rtake_n (gr bL cap V T p n : Nat) (w : World) (hn : n ≤ 57) (h : Rf w gr bL cap V T p) (hl : p + n ≤ T) :
    Calls Try.prog 42 #[.pointer (some ⟨gr, 0, none⟩), .int .i64 n] w fun e w' => e = .returned (.tuple #[.int .u64 ((V / 2 ^ p % 2 ^ n : Nat) : Int), .int .i64 0]) ∧ Rf w' gr bL cap V T (p + n) ∧ Kp (fun i => i = gr) w w' := rtake_x gr bL cap V T p n _ w hn h hl rfl
theorem rpeek_n (gr bL cap V T p n : Nat) (w : World) (hn : n ≤ 57) (h : Rf w gr bL cap V T p) :
    Calls Try.prog 28 #[.pointer (some ⟨gr, 0, none⟩), .int .i64 n] w fun e w' => e = .returned (.tuple #[.int .u64 ((V / 2 ^ p % 2 ^ n : Nat) : Int), .int .i64 ((min n (T - p) : Nat) : Int), .int .i64 0]) ∧ Ok' w w' := by
  have := rpeek_x gr bL cap V T p n _ _ w hn h ⟨rfl, rfl⟩
  rw [h.small n] at this
  exact this

set_option maxRecDepth 100000 in
set_option maxHeartbeats 2000000 in
theorem ask_take0 (g G cap gr bL capL : Nat) (B : List Int) (p : Nat) (N : Int) (w : World) (h : Pr w g G cap gr bL capL B p) :
    Calls Try.prog 24 #[.pointer (some ⟨g, 0, none⟩), .pointer (some ⟨gr, 0, none⟩), .agg #[.int .i64 0, .int .i64 N]] w fun e w' => e = .returned (.bool true) ∧ Asked w w' g G cap gr bL capL B := by
  have k0 : Ok' w (w.alloc (.cells #[.int .i64 0, .int .i64 N] 55)) := (Kp.refl _ w).alloc _
  have h0 := h.ok k0
  have k0' : Kp (fun i => i = g ∨ i = gr) w (w.alloc (.cells #[.int .i64 0, .int .i64 N] 55)) := k0.mono (fun _ _ x => x.elim)
  have sA : St 55 (w.alloc (.cells #[.int .i64 0, .int .i64 N] 55)) w.heap.size #[.int .i64 0, .int .i64 N] := heap_alloc_new w _
  have hga : w.heap.size ≠ g := by have := rd_lt h.rd; omega
  by_cases hN : 0 ≤ N ∧ N ≤ 57
  · obtain ⟨n, rfl⟩ := Int.eq_ofNat_of_zero_le hN.1
    by_cases hl : p + n ≤ 8 * B.length
    · have T1 := take_ok g _ cap B p n _ (by omega) h0.rd hl
      have T2 : Hid (∀ w1, Rf w1 gr bL capL (und 256 B) (8 * B.length) p → _) := fun w1 hf => rtake_n gr bL capL (und 256 B) (8 * B.length) p n w1 (by omega) hf hl
      obtain ⟨X, hX⟩ : ∃ X, X = und 256 B / 2 ^ p % 2 ^ n := ⟨_, rfl⟩
      rw [← hX] at T1 T2
      clear hX hl hN
      go_enter Try.func24, Try.ntmps24
      go_wp2_with fail
      refine T1.mono ?_
      rintro e w1 ⟨rfl, h1, k1⟩
      have f1 := h0.rf.kp k1 (fun e => h0.n1 e.symm) h0.n3
      have cA : w1.cell? ⟨w.heap.size, 1, none⟩ = some (.int .i64 n) := (sA.kp k1 hga).cell 1
      go_wp2_with fail
      refine (T2.out w1 f1).mono ?_
      rintro e w2 ⟨rfl, h2, k2⟩
      clear cA
      go_wp2_with (go_at_call 16; refine (num_any _ _).mono ?_; rintro e w' ⟨rfl, rfl⟩)
      go_ret
      exact ⟨rfl, asked h0 k0' k1 k2 _ h1 h2⟩
    · have T1 := take_short g _ cap B p n _ (by omega) h0.rd (by omega)
      have T2 : Hid (∀ w1, Rf w1 gr bL capL (und 256 B) (8 * B.length) p → _) := fun w1 hf => rtake_short gr bL capL (und 256 B) (8 * B.length) p n w1 (by omega) hf (by omega)
      clear hl hN
      go_enter Try.func24, Try.ntmps24
      go_wp2_with fail
      refine T1.mono ?_
      rintro e w1 ⟨rfl, h1, k1⟩
      have f1 := h0.rf.kp k1 (fun e => h0.n1 e.symm) h0.n3
      have cA : w1.cell? ⟨w.heap.size, 1, none⟩ = some (.int .i64 n) := (sA.kp k1 hga).cell 1
      go_wp2_with fail
      refine (T2.out w1 f1).mono ?_
      rintro e w2 ⟨rfl, k2⟩
      clear cA
      go_wp2_with (go_at_call 16; refine (num_any _ _).mono ?_; rintro e w' ⟨rfl, rfl⟩)
      go_ret
      exact ⟨rfl, asked h0 k0' k1 (k2.mono (fun _ _ x => x.elim)) _ h1 (f1.ok k2)⟩
  · have T1 := take_bad g N (w.alloc (.cells #[.int .i64 0, .int .i64 N] 55)) hN
    have T2 := rtake_bad gr N (w.alloc (.cells #[.int .i64 0, .int .i64 N] 55)) hN
    clear hN
    go_enter Try.func24, Try.ntmps24
    go_wp2_with fail
    refine T1.mono ?_
    rintro e w1 ⟨rfl, rfl⟩
    have cA := sA.cell 1
    go_wp2_with fail
    refine T2.mono ?_
    rintro e w2 ⟨rfl, rfl⟩
    clear cA
    go_wp2_with (go_at_call 16; refine (num_any _ _).mono ?_; rintro e w' ⟨rfl, rfl⟩)
    go_ret
    exact ⟨rfl, asked h0 k0' (Kp.refl _ _) (Kp.refl _ _) _ h0.rd h0.rf⟩

set_option maxRecDepth 100000 in
set_option maxHeartbeats 2000000 in
theorem ask_take1 (g G cap gr bL capL : Nat) (B : List Int) (p : Nat) (N : Int) (w : World) (h : Pr w g G cap gr bL capL B p) :
    Calls Try.prog 24 #[.pointer (some ⟨g, 0, none⟩), .pointer (some ⟨gr, 0, none⟩), .agg #[.int .i64 1, .int .i64 N]] w fun e w' => e = .returned (.bool true) ∧ Asked w w' g G cap gr bL capL B := by
  have k0 : Ok' w (w.alloc (.cells #[.int .i64 1, .int .i64 N] 55)) := (Kp.refl _ w).alloc _
  have h0 := h.ok k0
  have k0' : Kp (fun i => i = g ∨ i = gr) w (w.alloc (.cells #[.int .i64 1, .int .i64 N] 55)) := k0.mono (fun _ _ x => x.elim)
  have sA : St 55 (w.alloc (.cells #[.int .i64 1, .int .i64 N] 55)) w.heap.size #[.int .i64 1, .int .i64 N] := heap_alloc_new w _
  have hga : w.heap.size ≠ g := by have := rd_lt h.rd; omega
  by_cases hN : 0 ≤ N ∧ N ≤ 57
  · obtain ⟨n, rfl⟩ := Int.eq_ofNat_of_zero_le hN.1
    by_cases hl : p + n ≤ 8 * B.length
    · have T1 := take_ok g _ cap B p n _ (by omega) h0.rd hl
      have T2 : Hid (∀ w1, Rf w1 gr bL capL (und 256 B) (8 * B.length) p → _) := fun w1 hf => rtake_n gr bL capL (und 256 B) (8 * B.length) p n w1 (by omega) hf hl
      obtain ⟨X, hX⟩ : ∃ X, X = und 256 B / 2 ^ p % 2 ^ n := ⟨_, rfl⟩
      rw [← hX] at T1 T2
      clear hX hl hN
      go_enter Try.func24, Try.ntmps24
      go_wp2_with fail
      refine T1.mono ?_
      rintro e w1 ⟨rfl, h1, k1⟩
      have f1 := h0.rf.kp k1 (fun e => h0.n1 e.symm) h0.n3
      have cA : w1.cell? ⟨w.heap.size, 1, none⟩ = some (.int .i64 n) := (sA.kp k1 hga).cell 1
      go_wp2_with fail
      refine (T2.out w1 f1).mono ?_
      rintro e w2 ⟨rfl, h2, k2⟩
      clear cA
      go_wp2_with (go_at_call 16; refine (num_any _ _).mono ?_; rintro e w' ⟨rfl, rfl⟩)
      go_ret
      exact ⟨rfl, asked h0 k0' k1 k2 _ h1 h2⟩
    · have T1 := take_short g _ cap B p n _ (by omega) h0.rd (by omega)
      have T2 : Hid (∀ w1, Rf w1 gr bL capL (und 256 B) (8 * B.length) p → _) := fun w1 hf => rtake_short gr bL capL (und 256 B) (8 * B.length) p n w1 (by omega) hf (by omega)
      clear hl hN
      go_enter Try.func24, Try.ntmps24
      go_wp2_with fail
      refine T1.mono ?_
      rintro e w1 ⟨rfl, h1, k1⟩
      have f1 := h0.rf.kp k1 (fun e => h0.n1 e.symm) h0.n3
      have cA : w1.cell? ⟨w.heap.size, 1, none⟩ = some (.int .i64 n) := (sA.kp k1 hga).cell 1
      go_wp2_with fail
      refine (T2.out w1 f1).mono ?_
      rintro e w2 ⟨rfl, k2⟩
      clear cA
      go_wp2_with (go_at_call 16; refine (num_any _ _).mono ?_; rintro e w' ⟨rfl, rfl⟩)
      go_ret
      exact ⟨rfl, asked h0 k0' k1 (k2.mono (fun _ _ x => x.elim)) _ h1 (f1.ok k2)⟩
  · have T1 := take_bad g N (w.alloc (.cells #[.int .i64 1, .int .i64 N] 55)) hN
    have T2 := rtake_bad gr N (w.alloc (.cells #[.int .i64 1, .int .i64 N] 55)) hN
    clear hN
    go_enter Try.func24, Try.ntmps24
    go_wp2_with fail
    refine T1.mono ?_
    rintro e w1 ⟨rfl, rfl⟩
    have cA := sA.cell 1
    go_wp2_with fail
    refine T2.mono ?_
    rintro e w2 ⟨rfl, rfl⟩
    clear cA
    go_wp2_with (go_at_call 16; refine (num_any _ _).mono ?_; rintro e w' ⟨rfl, rfl⟩)
    go_ret
    exact ⟨rfl, asked h0 k0' (Kp.refl _ _) (Kp.refl _ _) _ h0.rd h0.rf⟩

set_option maxRecDepth 100000 in
set_option maxHeartbeats 2000000 in
theorem ask_take2 (g G cap gr bL capL : Nat) (B : List Int) (p : Nat) (N : Int) (w : World) (h : Pr w g G cap gr bL capL B p) :
    Calls Try.prog 24 #[.pointer (some ⟨g, 0, none⟩), .pointer (some ⟨gr, 0, none⟩), .agg #[.int .i64 2, .int .i64 N]] w fun e w' => e = .returned (.bool true) ∧ Asked w w' g G cap gr bL capL B := by
  have k0 : Ok' w (w.alloc (.cells #[.int .i64 2, .int .i64 N] 55)) := (Kp.refl _ w).alloc _
  have h0 := h.ok k0
  have k0' : Kp (fun i => i = g ∨ i = gr) w (w.alloc (.cells #[.int .i64 2, .int .i64 N] 55)) := k0.mono (fun _ _ x => x.elim)
  have sA : St 55 (w.alloc (.cells #[.int .i64 2, .int .i64 N] 55)) w.heap.size #[.int .i64 2, .int .i64 N] := heap_alloc_new w _
  have hga : w.heap.size ≠ g := by have := rd_lt h.rd; omega
  by_cases hN : 0 ≤ N ∧ N ≤ 57
  · obtain ⟨n, rfl⟩ := Int.eq_ofNat_of_zero_le hN.1
    by_cases hl : p + n ≤ 8 * B.length
    · have T1 := take_ok g _ cap B p n _ (by omega) h0.rd hl
      have T2 : Hid (∀ w1, Rf w1 gr bL capL (und 256 B) (8 * B.length) p → _) := fun w1 hf => rtake_n gr bL capL (und 256 B) (8 * B.length) p n w1 (by omega) hf hl
      obtain ⟨X, hX⟩ : ∃ X, X = und 256 B / 2 ^ p % 2 ^ n := ⟨_, rfl⟩
      rw [← hX] at T1 T2
      clear hX hl hN
      go_enter Try.func24, Try.ntmps24
      go_wp2_with fail
      refine T1.mono ?_
      rintro e w1 ⟨rfl, h1, k1⟩
      have f1 := h0.rf.kp k1 (fun e => h0.n1 e.symm) h0.n3
      have cA : w1.cell? ⟨w.heap.size, 1, none⟩ = some (.int .i64 n) := (sA.kp k1 hga).cell 1
      go_wp2_with fail
      refine (T2.out w1 f1).mono ?_
      rintro e w2 ⟨rfl, h2, k2⟩
      clear cA
      go_wp2_with (go_at_call 16; refine (num_any _ _).mono ?_; rintro e w' ⟨rfl, rfl⟩)
      go_ret
      exact ⟨rfl, asked h0 k0' k1 k2 _ h1 h2⟩
    · have T1 := take_short g _ cap B p n _ (by omega) h0.rd (by omega)
      have T2 : Hid (∀ w1, Rf w1 gr bL capL (und 256 B) (8 * B.length) p → _) := fun w1 hf => rtake_short gr bL capL (und 256 B) (8 * B.length) p n w1 (by omega) hf (by omega)
      clear hl hN
      go_enter Try.func24, Try.ntmps24
      go_wp2_with fail
      refine T1.mono ?_
      rintro e w1 ⟨rfl, h1, k1⟩
      have f1 := h0.rf.kp k1 (fun e => h0.n1 e.symm) h0.n3
      have cA : w1.cell? ⟨w.heap.size, 1, none⟩ = some (.int .i64 n) := (sA.kp k1 hga).cell 1
      go_wp2_with fail
      refine (T2.out w1 f1).mono ?_
      rintro e w2 ⟨rfl, k2⟩
      clear cA
      go_wp2_with (go_at_call 16; refine (num_any _ _).mono ?_; rintro e w' ⟨rfl, rfl⟩)
      go_ret
      exact ⟨rfl, asked h0 k0' k1 (k2.mono (fun _ _ x => x.elim)) _ h1 (f1.ok k2)⟩
  · have T1 := take_bad g N (w.alloc (.cells #[.int .i64 2, .int .i64 N] 55)) hN
    have T2 := rtake_bad gr N (w.alloc (.cells #[.int .i64 2, .int .i64 N] 55)) hN
    clear hN
    go_enter Try.func24, Try.ntmps24
    go_wp2_with fail
    refine T1.mono ?_
    rintro e w1 ⟨rfl, rfl⟩
    have cA := sA.cell 1
    go_wp2_with fail
    refine T2.mono ?_
    rintro e w2 ⟨rfl, rfl⟩
    clear cA
    go_wp2_with (go_at_call 16; refine (num_any _ _).mono ?_; rintro e w' ⟨rfl, rfl⟩)
    go_ret
    exact ⟨rfl, asked h0 k0' (Kp.refl _ _) (Kp.refl _ _) _ h0.rd h0.rf⟩

set_option maxRecDepth 100000 in
set_option maxHeartbeats 2000000 in
theorem ask_peek (g G cap gr bL capL : Nat) (B : List Int) (p : Nat) (N : Int) (w : World) (h : Pr w g G cap gr bL capL B p) :
    Calls Try.prog 24 #[.pointer (some ⟨g, 0, none⟩), .pointer (some ⟨gr, 0, none⟩), .agg #[.int .i64 3, .int .i64 N]] w fun e w' => e = .returned (.bool true) ∧ Asked w w' g G cap gr bL capL B := by
  have k0 : Ok' w (w.alloc (.cells #[.int .i64 3, .int .i64 N] 55)) := (Kp.refl _ w).alloc _
  have h0 := h.ok k0
  have k0' : Kp (fun i => i = g ∨ i = gr) w (w.alloc (.cells #[.int .i64 3, .int .i64 N] 55)) := k0.mono (fun _ _ x => x.elim)
  have sA : St 55 (w.alloc (.cells #[.int .i64 3, .int .i64 N] 55)) w.heap.size #[.int .i64 3, .int .i64 N] := heap_alloc_new w _
  have hga : w.heap.size ≠ g := by have := rd_lt h.rd; omega
  by_cases hN : 0 ≤ N ∧ N ≤ 57
  · obtain ⟨n, rfl⟩ := Int.eq_ofNat_of_zero_le hN.1
    by_cases hl : p + n ≤ 8 * B.length
    · have T1 := peek_ok g _ cap B p n _ (by omega) h0.rd
      have T2 : Hid (∀ w1, Rf w1 gr bL capL (und 256 B) (8 * B.length) p → _) := fun w1 hf => rpeek_n gr bL capL (und 256 B) (8 * B.length) p n w1 (by omega) hf
      obtain ⟨X, hX⟩ : ∃ X, X = und 256 B / 2 ^ p % 2 ^ n := ⟨_, rfl⟩
      obtain ⟨M, hM⟩ : ∃ M, M = min n (8 * B.length - p) := ⟨_, rfl⟩
      rw [← hX, ← hM] at T1 T2
      clear hX hM hl hN
      go_enter Try.func24, Try.ntmps24
      go_wp2_with fail
      refine T1.mono ?_
      rintro e w1 ⟨rfl, h1, k1⟩
      have f1 := h0.rf.kp k1 (fun e => h0.n1 e.symm) h0.n3
      have cA : w1.cell? ⟨w.heap.size, 1, none⟩ = some (.int .i64 n) := (sA.kp k1 hga).cell 1
      go_wp2_with fail
      refine (T2.out w1 f1).mono ?_
      rintro e w2 ⟨rfl, k2⟩
      clear cA
      go_wp2_with (go_at_call 16; refine (num_any _ _).mono ?_; rintro e w' ⟨rfl, rfl⟩)
      go_ret
      exact ⟨rfl, asked h0 k0' k1 (k2.mono (fun _ _ x => x.elim)) _ h1 (f1.ok k2)⟩
    · have T1 := peek_ok g _ cap B p n _ (by omega) h0.rd
      have T2 : Hid (∀ w1, Rf w1 gr bL capL (und 256 B) (8 * B.length) p → _) := fun w1 hf => rpeek_n gr bL capL (und 256 B) (8 * B.length) p n w1 (by omega) hf
      obtain ⟨X, hX⟩ : ∃ X, X = und 256 B / 2 ^ p % 2 ^ n := ⟨_, rfl⟩
      obtain ⟨M, hM⟩ : ∃ M, M = min n (8 * B.length - p) := ⟨_, rfl⟩
      rw [← hX, ← hM] at T1 T2
      clear hX hM hl hN
      go_enter Try.func24, Try.ntmps24
      go_wp2_with fail
      refine T1.mono ?_
      rintro e w1 ⟨rfl, h1, k1⟩
      have f1 := h0.rf.kp k1 (fun e => h0.n1 e.symm) h0.n3
      have cA : w1.cell? ⟨w.heap.size, 1, none⟩ = some (.int .i64 n) := (sA.kp k1 hga).cell 1
      go_wp2_with fail
      refine (T2.out w1 f1).mono ?_
      rintro e w2 ⟨rfl, k2⟩
      clear cA
      go_wp2_with (go_at_call 16; refine (num_any _ _).mono ?_; rintro e w' ⟨rfl, rfl⟩)
      go_ret
      exact ⟨rfl, asked h0 k0' k1 (k2.mono (fun _ _ x => x.elim)) _ h1 (f1.ok k2)⟩
  · have T1 := peek_bad g N (w.alloc (.cells #[.int .i64 3, .int .i64 N] 55)) hN
    have T2 := rpeek_bad gr N (w.alloc (.cells #[.int .i64 3, .int .i64 N] 55)) hN
    clear hN
    go_enter Try.func24, Try.ntmps24
    go_wp2_with fail
    refine T1.mono ?_
    rintro e w1 ⟨rfl, rfl⟩
    have cA := sA.cell 1
    go_wp2_with fail
    refine T2.mono ?_
    rintro e w2 ⟨rfl, rfl⟩
    clear cA
    go_wp2_with (go_at_call 16; refine (num_any _ _).mono ?_; rintro e w' ⟨rfl, rfl⟩)
    go_ret
    exact ⟨rfl, asked h0 k0' (Kp.refl _ _) (Kp.refl _ _) _ h0.rd h0.rf⟩

set_option maxRecDepth 100000 in
set_option maxHeartbeats 2000000 in
theorem ask_align (g G cap gr bL capL : Nat) (B : List Int) (p : Nat) (N : Int) (w : World) (h : Pr w g G cap gr bL capL B p) :
    Calls Try.prog 24 #[.pointer (some ⟨g, 0, none⟩), .pointer (some ⟨gr, 0, none⟩), .agg #[.int .i64 5, .int .i64 N]] w fun e w' => e = .returned (.bool true) ∧ Asked w w' g G cap gr bL capL B := by
  have k0 : Ok' w (w.alloc (.cells #[.int .i64 5, .int .i64 N] 55)) := (Kp.refl _ w).alloc _
  have h0 := h.ok k0
  go_enter Try.func24, Try.ntmps24
  go_wp2_with fail
  refine (ralign_any gr bL capL _ _ p _ h0.rf (by omega)).mono ?_
  rintro e w1 ⟨rfl, f1, k1⟩
  have h1 := h0.rd.kp k1 h0.n1 (fun b off e => by cases e; exact h0.n2)
  go_wp2_with fail
  refine (alignR_any g _ cap B p _ h1).mono ?_
  rintro e w2 ⟨rfl, h2, k2⟩
  have f2 := f1.kp k2 (fun e => h0.n1 e.symm) h0.n3
  go_wp2_with (go_at_call 16; refine (num_any _ _).mono ?_; rintro e w' ⟨rfl, rfl⟩)
  go_ret
  exact ⟨rfl, ⟨_, h2, f2, h.n1, h.n2, h.n3⟩, ((k0.mono (fun _ _ x => x.elim)).trans k1 (fun _ _ x => .inr x)).trans k2 (fun _ _ x => .inl x)⟩
set_option maxRecDepth 100000 in
set_option maxHeartbeats 2000000 in
theorem ask_none (g G cap gr bL capL : Nat) (B : List Int) (p : Nat) (K N : Int) (w : World) (h : Pr w g G cap gr bL capL B p) (hK : K < 0 ∨ 6 < K) :
    Calls Try.prog 24 #[.pointer (some ⟨g, 0, none⟩), .pointer (some ⟨gr, 0, none⟩), .agg #[.int .i64 K, .int .i64 N]] w fun e w' => e = .returned (.bool true) ∧ Asked w w' g G cap gr bL capL B := by
  have k0 : Ok' w (w.alloc (.cells #[.int .i64 K, .int .i64 N] 55)) := (Kp.refl _ w).alloc _
  have e0 : (K == 0) = false := by simp; omega
  have e1 : (K == 1) = false := by simp; omega
  have e2 : (K == 2) = false := by simp; omega
  have e3 : (K == 3) = false := by simp; omega
  have e4 : (K == 4) = false := by simp; omega
  have e5 : (K == 5) = false := by simp; omega
  have e6 : (K == 6) = false := by simp; omega
  clear hK
  go_enter Try.func24, Try.ntmps24
  go_wp2_with fail
  go_ret
  exact ⟨rfl, ⟨p, h.ok k0⟩, k0.mono (fun _ _ x => x.elim)⟩

end Go.Proofs.Ytfeokjbmobmabaa
