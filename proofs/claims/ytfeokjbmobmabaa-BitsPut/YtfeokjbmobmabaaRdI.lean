/- Contracts of the reader's calls Skip and Copy, and of the writer's Copy. -/
import Derived.Test.YtfeokjbmobmabaaRdH
import Derived.Test.YtfeokjbmobmabaaWrH
import Derived.Deep.RegionHeld3
namespace Go.Proofs.Ytfeokjbmobmabaa
open Go.RowKit

set_option maxHeartbeats 400000 in
theorem skip_nil (n : Int) (w : World) : Calls Try.prog 35 #[.pointer none, .int .i64 n] w fun e w' => e = .returned (.int .i64 1) ∧ w = w' := by
  go_enter Try.func35, Try.ntmps35
  go_wp2
  go_ret
  exact ⟨rfl, rfl⟩
set_option maxHeartbeats 400000 in
theorem skip_bad (g : Nat) (n : Int) (w : World) (hn : n < 0) : Calls Try.prog 35 #[.pointer (some ⟨g, 0, none⟩), .int .i64 n] w fun e w' => e = .returned (.int .i64 2) ∧ w = w' := by
  go_enter Try.func35, Try.ntmps35
  go_wp2
  go_ret
  exact ⟨rfl, rfl⟩
set_option maxHeartbeats 400000 in
theorem skip_short (g : Nat) (ao : Option Addr) (cap : Nat) (B : List Int) (p : Nat) (n : Int) (w : World) (hn : 0 ≤ n) (h : Rd w g ao cap B p) (hl : ((8 * B.length - p : Nat) : Int) < n) :
    Calls Try.prog 35 #[.pointer (some ⟨g, 0, none⟩), .int .i64 n] w fun e w' => e = .returned (.int .i64 120) ∧ Ok' w w' := by
  have HC := left_k g ao cap B p w h
  obtain ⟨q, hq⟩ : ∃ q, q = 8 * B.length - p := ⟨_, rfl⟩
  rw [← hq] at HC hl
  clear hq
  have hn0 : ¬ n < 0 := by omega
  go_enter Try.func35, Try.ntmps35
  go_wp2_with fail
  refine HC.mono ?_
  rintro e w1 ⟨rfl, k1⟩
  go_wp2_with fail
  go_ret
  exact ⟨rfl, k1⟩
set_option maxHeartbeats 1000000 in
theorem skip_ok (g : Nat) (ao : Option Addr) (cap : Nat) (B : List Int) (p n : Nat) (w : World) (h : Rd w g ao cap B p) (hl : p + n ≤ 8 * B.length) :
    Calls Try.prog 35 #[.pointer (some ⟨g, 0, none⟩), .int .i64 n] w fun e w' => e = .returned (.int .i64 0) ∧ Rd w' g ao cap B (p + n) ∧ Kp (fun i => i = g) w w' := by
  have HC := left_k g ao cap B p w h
  obtain ⟨q, hq⟩ : ∃ q, q = 8 * B.length - p := ⟨_, rfl⟩
  rw [← hq] at HC
  obtain ⟨next, wait, hx⟩ := h
  have hpos := hx.pos
  have hnle := hx.nle
  have hblen := hx.blen
  have hwl := hx.wle
  have hnq : ¬ ((q : Int) < (n : Int)) := by omega
  have hqb : q ≤ 800000000 := by omega
  by_cases hw : wait < n
  · obtain ⟨m, hm⟩ : ∃ m, m = n - wait := ⟨_, rfl⟩
    obtain ⟨t, ht⟩ : ∃ t, t = next + m / 8 := ⟨_, rfl⟩
    obtain ⟨r, hr⟩ : ∃ r, r = m % 8 := ⟨_, rfl⟩
    have a1 : (n : Int) - (wait : Int) = (m : Int) := by omega
    have a2 : (next : Int) + (m : Int) / 8 = (t : Int) := by omega
    have a3 : (m : Int) % 8 = (r : Int) := by omega
    have htB : t ≤ B.length := by omega
    have HT : Hid (8 * t + r = p + n ∧ r < 8 ∧ (r = 0 ∨ t < B.length)) := by show _ ∧ _; omega
    clear hm ht hr hq hpos
    go_enter Try.func35, Try.ntmps35
    go_wp2_with fail
    refine HC.mono ?_
    rintro e w1 ⟨rfl, k1⟩
    have hx1 := hx.ok k1
    have d1 : w1.cell? ⟨g, 1, none⟩ = some (.int .i64 next) := hx1.st.cell 1
    have d3 : w1.cell? ⟨g, 3, none⟩ = some (.int .i64 wait) := hx1.st.cell 3
    go_wp2_with fail
    refine (stand_any g ao cap B p next wait t _ hx1 htB).mono ?_
    rintro e w2 ⟨rfl, h2, k2⟩
    clear d1 d3
    go_wp2_with fail
    refine (fill_walk g ao cap B (8 * t) t 0 _ h2).mono ?_
    rintro e w3 ⟨rfl, next3, wait3, h3, hor, k3⟩
    have hr3 : r ≤ wait3 := by
      have := HT.out
      rcases hor with h | h
      · omega
      · have := h3.pos; omega
    have HOR : Hid (57 ≤ wait3 ∨ next3 = B.length) := hor
    clear hor
    go_wp2_with fail
    refine (drop_any g ao cap B (8 * t) next3 wait3 r _ h3 hr3).mono ?_
    rintro e w4 ⟨rfl, h4, k4⟩
    go_wp2_with fail
    go_ret
    refine ⟨rfl, ⟨_, _, by rw [← HT.out.1]; exact h4⟩, ?_⟩
    exact (((k1.mono (fun _ _ x => x.elim)).trans k2 (fun _ _ x => x)).trans k3 (fun _ _ x => x)).trans k4 (fun _ _ x => x)
  · clear hq hpos
    go_enter Try.func35, Try.ntmps35
    go_wp2_with fail
    refine HC.mono ?_
    rintro e w1 ⟨rfl, k1⟩
    have hx1 := hx.ok k1
    have d3 : w1.cell? ⟨g, 3, none⟩ = some (.int .i64 wait) := hx1.st.cell 3
    go_wp2_with fail
    refine (drop_any g ao cap B p next wait n _ hx1 (by omega)).mono ?_
    rintro e w4 ⟨rfl, h4, k4⟩
    go_wp2_with fail
    go_ret
    exact ⟨rfl, ⟨_, _, h4⟩, (k1.mono (fun _ _ x => x.elim)).trans k4 (fun _ _ x => x)⟩

set_option maxHeartbeats 1000000 in
theorem copyR_any (g : Nat) (ao : Option Addr) (cap : Nat) (B : List Int) (p : Nat) (w : World) (h : Rd w g ao cap B p) :
    Calls Try.prog 23 #[.pointer (some ⟨g, 0, none⟩)] w fun e w' => ∃ g' G', e = .returned (.pointer (some ⟨g', 0, none⟩)) ∧ w.heap.size ≤ g' ∧ w.heap.size ≤ G' ∧ Rd w' g' (some ⟨G', 0, none⟩) B.length B p ∧ Ok' w w' := by
  obtain ⟨next, wait, h⟩ := h
  obtain ⟨y, hy⟩ : ∃ y, y = und 256 B / 2 ^ p % 2 ^ wait := ⟨_, rfl⟩
  have hs := h.st
  rw [← hy] at hs
  have c0 : w.cell? ⟨g, 0, none⟩ = some (.slice ao B.length cap) := hs.cell 0
  have c1 : w.cell? ⟨g, 1, none⟩ = some (.int .i64 next) := hs.cell 1
  have c2 : w.cell? ⟨g, 2, none⟩ = some (.int .u64 y) := hs.cell 2
  have c3 : w.cell? ⟨g, 3, none⟩ = some (.int .i64 wait) := hs.cell 3
  have hbl := h.blen
  have HK := kept_any ao cap B w.drew (by omega) h.src
  have HH : Hid (y = und 256 B / 2 ^ p % 2 ^ wait) := hy
  have HEND : Hid (∀ w1, Rw 5 w1 w.heap.size B → Below w.heap.size w w1 → ∀ o, o = Obj.cells #[.slice (some ⟨w.heap.size, 0, none⟩) B.length B.length, .int .i64 next, .int .u64 y, .int .i64 wait] 80 → Rd (w1.alloc o) w1.heap.size (some ⟨w.heap.size, 0, none⟩) B.length B p ∧ Ok' w (w1.alloc o)) := by
    intro w1 r1 b1 o ho
    subst ho
    refine ⟨⟨next, wait, h.pos, h.nle, h.wle, h.blen, h.byt, ?_, (r1.alloc _).src, Nat.le_refl _, fun e => (by cases e), ?_⟩, (Kp.of_below b1).alloc _⟩
    · rw [← hy]; exact heap_alloc_new w1 _
    · intro b off e
      cases e
      have := r1.lt; omega
  clear hy hs h
  go_enter Try.func23, Try.ntmps23
  go_wp2
  go_region_held3 (fun w' => w'.cell? ⟨g, 0, none⟩ = some (.slice ao B.length cap) ∧ w'.cell? ⟨g, 1, none⟩ = some (.int .i64 next) ∧ w'.cell? ⟨g, 2, none⟩ = some (.int .u64 y) ∧ w'.cell? ⟨g, 3, none⟩ = some (.int .i64 wait)) (first | (exact ⟨c0, c1, c2, c3⟩) | (exact ⟨d0, d1, d2, d3⟩) | go_keep) (first | (go_at_call 36; refine HK.mono ?_; rintro e w1 ⟨rfl, r1, b1⟩; have d0 : w1.cell? ⟨g, 0, none⟩ = some (.slice ao B.length cap) := (b1.cell (block_lt_of_cell c0)).trans c0; have d1 : w1.cell? ⟨g, 1, none⟩ = some (.int .i64 next) := (b1.cell (block_lt_of_cell c1)).trans c1; have d2 : w1.cell? ⟨g, 2, none⟩ = some (.int .u64 y) := (b1.cell (block_lt_of_cell c2)).trans c2; have d3 : w1.cell? ⟨g, 3, none⟩ = some (.int .i64 wait) := (b1.cell (block_lt_of_cell c3)).trans c3))
  go_wp2
  go_ret
  obtain ⟨e1, e2⟩ := HEND.out w1 r1 ⟨b1.os, b1.tape, b1.output, b1.size, b1.block⟩ _ rfl
  exact ⟨_, _, rfl, b1.size, Nat.le_refl _, e1, e2⟩
set_option maxHeartbeats 400000 in
theorem copyR_nil (w : World) : Calls Try.prog 23 #[.pointer none] w fun e w' => e = .returned (.pointer none) ∧ w = w' := by
  go_enter Try.func23, Try.ntmps23
  go_wp2
  go_ret
  exact ⟨rfl, rfl⟩

set_option maxHeartbeats 1000000 in
theorem copyW_any (g : Nat) (sl : Value) (N v : Nat) (w : World) (hN : N ≤ 1000000000) (h : Wr w g sl N v) :
    Calls Try.prog 10 #[.pointer (some ⟨g, 0, none⟩)] w fun e w' => ∃ g' sl', e = .returned (.pointer (some ⟨g', 0, none⟩)) ∧ w.heap.size ≤ g' ∧ (∀ b, sl'.ownBlock = some b → w.heap.size ≤ b) ∧ Wr w' g' sl' N v ∧ Ok' w w' := by
  have hv := h.1
  obtain ⟨ao, cap, k, m, y, rfl, hk, hm, hy, hs, ho⟩ := h.parts
  have c0 : w.cell? ⟨g, 0, none⟩ = some (.slice ao k cap) := hs.cell 0
  have c1 : w.cell? ⟨g, 1, none⟩ = some (.int .u64 y) := hs.cell 1
  have c2 : w.cell? ⟨g, 2, none⟩ = some (.int .i64 m) := hs.cell 2
  have HK := kept_any ao cap (dig 256 v (N / 8)) w.drew (by rw [dig_length]; omega) (ho.src.1)
  rw [dig_length, ← hk] at HK
  have HEND : Hid (∀ w1, Rw 5 w1 w.heap.size (dig 256 v k) → Below w.heap.size w w1 → ∀ o, o = Obj.cells #[.slice (some ⟨w.heap.size, 0, none⟩) k k, .int .u64 y, .int .i64 m] 29 → Wr (w1.alloc o) w1.heap.size (.slice (some ⟨w.heap.size, 0, none⟩) k k) N v ∧ Ok' w (w1.alloc o)) := by
    intro w1 r1 b1 o e
    subst e
    refine ⟨⟨hv, ?_, ?_, ?_⟩, (Kp.of_below b1).alloc _⟩
    · rw [← hy, ← hm]; exact heap_alloc_new w1 _
    · rw [← hk]
      exact .inr ⟨w.heap.size, k, [], by rw [dig_length], Nat.zero_le _, by rw [List.append_nil]; exact r1.alloc _, by simp [dig_length], by unfold maxLen; omega⟩
    · simp only [Value.ownBlock]
      intro e
      have := r1.lt
      injection e with e
      omega
  clear hy hs h hk hm ho
  go_enter Try.func10, Try.ntmps10
  go_wp2
  go_region_held3 (fun w' => w'.cell? ⟨g, 0, none⟩ = some (.slice ao k cap) ∧ w'.cell? ⟨g, 1, none⟩ = some (.int .u64 y) ∧ w'.cell? ⟨g, 2, none⟩ = some (.int .i64 m)) (first | (exact ⟨c0, c1, c2⟩) | (exact ⟨d0, d1, d2⟩) | go_keep) (first | (go_at_call 36; refine HK.mono ?_; rintro e w1 ⟨rfl, r1, b1⟩; have d0 : w1.cell? ⟨g, 0, none⟩ = some (.slice ao k cap) := (b1.cell (block_lt_of_cell c0)).trans c0; have d1 : w1.cell? ⟨g, 1, none⟩ = some (.int .u64 y) := (b1.cell (block_lt_of_cell c1)).trans c1; have d2 : w1.cell? ⟨g, 2, none⟩ = some (.int .i64 m) := (b1.cell (block_lt_of_cell c2)).trans c2))
  go_wp2
  go_ret
  obtain ⟨e1, e2⟩ := HEND.out w1 r1 ⟨b1.os, b1.tape, b1.output, b1.size, b1.block⟩ _ rfl
  exact ⟨_, _, rfl, b1.size, fun b hb => (by simp only [Value.ownBlock] at hb; injection hb with hb; omega), e1, e2⟩
set_option maxHeartbeats 400000 in
theorem copyW_nil (w : World) : Calls Try.prog 10 #[.pointer none] w fun e w' => e = .returned (.pointer none) ∧ w = w' := by
  go_enter Try.func10, Try.ntmps10
  go_wp2
  go_ret
  exact ⟨rfl, rfl⟩

end Go.Proofs.Ytfeokjbmobmabaa
