/- Contracts of the reader's calls Skip and Copy, and of the writer's Copy. -/
import Derived.Test.YthpocbpleffdpaaXaX
import Derived.Deep.QuietTactic
import Derived.BigQuiet
import Derived.Deep.RegionHeld3
namespace Go.Proofs.Ythpocbpleffdpaa.Bz
open Go.RowKit

/-- x is a number of n bits, and n is one that may be. -/
def Fits (x : Nat) (n : Int) : Prop := 0 ≤ n ∧ n ≤ 57 ∧ x < 2 ^ n.toNat

theorem shr_zero (x n : Nat) (h : x < 2 ^ n) : (x : Int) / 2 ^ n = 0 := by
  have : ((2 ^ n : Nat) : Int) = 2 ^ n := Int.natCast_pow 2 n
  exact Int.ediv_eq_zero_of_lt (by omega) (by omega)
theorem shr_pos (x n : Nat) (h : 2 ^ n ≤ x) : ((x : Int) / 2 ^ n != 0) = true := by
  have e : ((2 ^ n : Nat) : Int) = 2 ^ n := Int.natCast_pow 2 n
  have hp : 0 < 2 ^ n := Nat.pow_pos (by omega)
  have h1 : ((x : Int) / 2 ^ n) = ((x / 2 ^ n : Nat) : Int) := by rw [← e]; exact (Int.natCast_ediv _ _).symm
  have h2 : 0 < x / 2 ^ n := Nat.div_pos h hp
  rw [h1]
  simp only [bne_iff_ne, ne_eq]
  omega

set_option maxHeartbeats 400000 in
theorem refused_ok (g x n : Nat) (w : World) (hn : n ≤ 57) (hx : x < 2 ^ n) :
    Calls Try.prog 57 #[.pointer (some ⟨g, 0, none⟩), .int .u64 x, .int .i64 n] w fun e w' => e = .returned (.int .i64 0) ∧ w = w' := by
  have hd : decide (0 ≤ (n : Int) ∧ (n : Int) ≤ 57) = true := by simp; omega
  have hz := shr_zero x n hx
  have hz1 : ((x : Int) / 2 ^ n != 0) = false := by rw [hz]; rfl
  clear hz
  go_enter Try.func57, Try.ntmps57
  go_wp2_with (go_at_call 80; refine (wide_any _ _).mono ?_; rintro e w' ⟨rfl, rfl⟩; rw [hd])
  go_ret
  exact ⟨rfl, rfl⟩
set_option maxHeartbeats 400000 in
theorem refused_bad (g x : Nat) (n : Int) (w : World) (hf : ¬ Fits x n) :
    Calls Try.prog 57 #[.pointer (some ⟨g, 0, none⟩), .int .u64 x, .int .i64 n] w fun e w' => e = .returned (.int .i64 2) ∧ w = w' := by
  by_cases hw : 0 ≤ n ∧ n ≤ 57
  · obtain ⟨m, rfl⟩ := Int.eq_ofNat_of_zero_le hw.1
    have hd : decide (0 ≤ (m : Int) ∧ (m : Int) ≤ 57) = true := by simp; omega
    have hx : 2 ^ m ≤ x := by
      unfold Fits at hf
      rw [Int.toNat_natCast] at hf
      omega
    have hz := shr_pos x m hx
    clear hf
    go_enter Try.func57, Try.ntmps57
    go_wp2_with (go_at_call 80; refine (wide_any _ _).mono ?_; rintro e w' ⟨rfl, rfl⟩; rw [hd])
    go_ret
    exact ⟨rfl, rfl⟩
  · have hd : decide (0 ≤ n ∧ n ≤ 57) = false := by simpa using hw
    clear hf hw
    go_enter Try.func57, Try.ntmps57
    go_wp2_with (go_at_call 80; refine (wide_any _ _).mono ?_; rintro e w' ⟨rfl, rfl⟩; rw [hd])
    go_ret
    exact ⟨rfl, rfl⟩
set_option maxHeartbeats 400000 in
theorem refused_nil (x : Nat) (n : Int) (w : World) :
    Calls Try.prog 57 #[.pointer none, .int .u64 x, .int .i64 n] w fun e w' => e = .returned (.int .i64 1) ∧ w = w' := by
  go_enter Try.func57, Try.ntmps57
  go_wp2
  go_ret
  exact ⟨rfl, rfl⟩

/-- What a call leaves that puts something: the writer, told anew, and all else as it was. -/
def Put' (w w' : World) (g : Nat) (sl : Value) (N v : Nat) : Prop :=
  ∃ sl', Wr w' g sl' N v ∧ Kp (fun i => i = g ∨ sl.ownBlock = some i) w w' ∧ ∀ b, sl'.ownBlock = some b → sl.ownBlock = some b ∨ w.heap.size ≤ b
theorem Put'.refl {w : World} {g : Nat} {sl : Value} {N v : Nat} (h : Wr w g sl N v) : Put' w w g sl N v := ⟨sl, h, Kp.refl _ _, fun _ hb => .inl hb⟩

set_option maxHeartbeats 400000 in
theorem put_ok (g : Nat) (sl : Value) (x n N v : Nat) (w : World) (hN : N ≤ 1000000000) (hn : n ≤ 57) (hx : x < 2 ^ n) (h : Wr w g sl N v) :
    Calls Try.prog 32 #[.pointer (some ⟨g, 0, none⟩), .int .u64 x, .int .i64 n] w fun e w' => e = .returned (.int .i64 0) ∧ Put' w w' g sl (N + n) (v + x * 2 ^ N) := by
  go_enter Try.func32, Try.ntmps32
  go_wp2_with (first | (go_at_call 57; refine (refused_ok g x n _ hn hx).mono ?_; rintro e w' ⟨rfl, rfl⟩) | (go_at_call 58; refine (put_walk g sl x n N v _ hN hn hx h).mono ?_; rintro e w' ⟨rfl, hp⟩))
  go_ret
  exact ⟨rfl, hp⟩
set_option maxHeartbeats 400000 in
theorem put_bad (g x : Nat) (n : Int) (w : World) (hf : ¬ Fits x n) :
    Calls Try.prog 32 #[.pointer (some ⟨g, 0, none⟩), .int .u64 x, .int .i64 n] w fun e w' => e = .returned (.int .i64 2) ∧ w = w' := by
  go_enter Try.func32, Try.ntmps32
  go_wp2_with (go_at_call 57; refine (refused_bad g x n _ hf).mono ?_; rintro e w' ⟨rfl, rfl⟩)
  go_ret
  exact ⟨rfl, rfl⟩
set_option maxHeartbeats 400000 in
theorem put_nil (x : Nat) (n : Int) (w : World) :
    Calls Try.prog 32 #[.pointer none, .int .u64 x, .int .i64 n] w fun e w' => e = .returned (.int .i64 1) ∧ w = w' := by
  go_enter Try.func32, Try.ntmps32
  go_wp2_with (go_at_call 57; refine (refused_nil x n _).mono ?_; rintro e w' ⟨rfl, rfl⟩)
  go_ret
  exact ⟨rfl, rfl⟩
set_option maxHeartbeats 400000 in
theorem code_ok (g : Nat) (sl : Value) (x n N v : Nat) (w : World) (hN : N ≤ 1000000000) (hn : n ≤ 57) (hx : x < 2 ^ n) (h : Wr w g sl N v) :
    Calls Try.prog 60 #[.pointer (some ⟨g, 0, none⟩), .int .u64 x, .int .i64 n] w fun e w' => e = .returned (.int .i64 0) ∧ Put' w w' g sl (N + n) (v + turn x n * 2 ^ N) := by
  have hx64 : x < 18446744073709551616 := Nat.lt_of_lt_of_le hx (Nat.pow_le_pow_right (n := 2) (j := 64) (by omega) (by omega))
  have hmin : min n 64 = n := by omega
  go_enter Try.func60, Try.ntmps60
  go_wp2_with (first | (go_at_call 57; refine (refused_ok g x n _ hn hx).mono ?_; rintro e w' ⟨rfl, rfl⟩) | (go_at_call 81; refine (turned_any x n _ hx64).mono ?_; rintro e w' ⟨rfl, rfl⟩; rw [Int.toNat_natCast, hmin]) | (go_at_call 58; refine (put_walk g sl (turn x n) n N v _ hN hn (turn_lt x n) h).mono ?_; rintro e w' ⟨rfl, hp⟩))
  go_ret
  exact ⟨rfl, hp⟩
set_option maxHeartbeats 400000 in
theorem code_bad (g x : Nat) (n : Int) (w : World) (hf : ¬ Fits x n) :
    Calls Try.prog 60 #[.pointer (some ⟨g, 0, none⟩), .int .u64 x, .int .i64 n] w fun e w' => e = .returned (.int .i64 2) ∧ w = w' := by
  go_enter Try.func60, Try.ntmps60
  go_wp2_with (go_at_call 57; refine (refused_bad g x n _ hf).mono ?_; rintro e w' ⟨rfl, rfl⟩)
  go_ret
  exact ⟨rfl, rfl⟩
set_option maxHeartbeats 400000 in
theorem code_nil (x : Nat) (n : Int) (w : World) :
    Calls Try.prog 60 #[.pointer none, .int .u64 x, .int .i64 n] w fun e w' => e = .returned (.int .i64 1) ∧ w = w' := by
  go_enter Try.func60, Try.ntmps60
  go_wp2_with (go_at_call 57; refine (refused_nil x n _).mono ?_; rintro e w' ⟨rfl, rfl⟩)
  go_ret
  exact ⟨rfl, rfl⟩

end Go.Proofs.Ythpocbpleffdpaa.Bz

namespace Go.Proofs.Ythpocbpleffdpaa.Bz
open Go.RowKit

/-- All blocks that were there are as they were. -/
abbrev Ok' (w w' : World) : Prop := Kp (fun _ => False) w w'
theorem Wr.kp {F : Nat → Prop} {w w' : World} {g : Nat} {sl : Value} {N v : Nat} (h : Wr w g sl N v) (k : Kp F w w') (hg : ¬ F g) (hb : ∀ b, sl.ownBlock = some b → ¬ F b) : Wr w' g sl N v :=
  ⟨h.1, h.2.1.kp k hg, h.2.2.1.kp k hb, h.2.2.2⟩
theorem Wr.ok {w w' : World} {g : Nat} {sl : Value} {N v : Nat} (h : Wr w g sl N v) (k : Ok' w w') : Wr w' g sl N v := h.kp k (fun x => x) (fun _ _ x => x)
theorem drewN_kp (F : Nat → Prop) (w : World) (n : Nat) : Kp F w (w.drewN n) := by
  induction n generalizing w with
  | zero => exact Kp.refl _ _
  | succ n ih => exact (ih w).drew

set_option maxHeartbeats 400000 in
theorem neww_any (w : World) : Calls Try.prog 31 #[] w fun e w' => e = .returned (.pointer (some ⟨w.heap.size, 0, none⟩)) ∧ Wr w' w.heap.size (.slice none 0 0) 0 0 ∧ Ok' w w' := by
  go_enter Try.func31, Try.ntmps31
  go_wp2
  go_ret
  refine ⟨rfl, ⟨by decide, ?_, .inl ⟨rfl, rfl⟩, by simp [Value.ownBlock]⟩, (Kp.refl _ w).alloc _⟩
  exact heap_alloc_new w _

set_option maxHeartbeats 400000 in
theorem len_any (g : Nat) (sl : Value) (N v : Nat) (w : World) (hN : N ≤ 1000000000) (h : Wr w g sl N v) :
    Calls Try.prog 35 #[.pointer (some ⟨g, 0, none⟩)] w fun e w' => e = .returned (.int .i64 N) ∧ Ok' w w' := by
  obtain ⟨hv, hs, ho, hb⟩ := h
  obtain ⟨ao, cap, rfl, hnil⟩ := ho.slice
  rw [dig_length] at hs ho hb
  obtain ⟨k, hk⟩ : ∃ k, k = N / 8 := ⟨_, rfl⟩
  obtain ⟨m, hm⟩ : ∃ m, m = N - 8 * (N / 8) := ⟨_, rfl⟩
  rw [← hm, ← hk] at hs
  have c0 : w.cell? ⟨g, 0, none⟩ = some (.slice ao k cap) := hs.cell 0
  have c2 : w.cell? ⟨g, 2, none⟩ = some (.int .i64 m) := hs.cell 2
  have hNk : N = 8 * k + m := by omega
  have a1 : IntKind.i64.wrap (8 * (k : Int)) = 8 * (k : Int) := by rw [IntKind.wrap_i64]; omega
  have a2 : IntKind.i64.wrap (8 * (k : Int) + (m : Int)) = (N : Int) := by rw [IntKind.wrap_i64]; omega
  clear hk hm hnil hs ho hb hNk
  go_enter Try.func35, Try.ntmps35
  go_wp2
  go_quiet (fail)
  go_wp2
  go_ret
  exact ⟨rfl, drewN_kp _ _ _⟩
set_option maxHeartbeats 400000 in
theorem len_nil (w : World) : Calls Try.prog 35 #[.pointer none] w fun e w' => e = .returned (.int .i64 0) ∧ w = w' := by
  go_enter Try.func35, Try.ntmps35
  go_wp2
  go_ret
  exact ⟨rfl, rfl⟩

theorem bytes_even (v k : Nat) : splice (List.replicate k (0 : Int)) 0 (dig 256 v k) = dig 256 v k := by
  simp [splice, dig_length]
theorem bytes_odd (v k : Nat) (z : Int) (hz : z = ((v / 256 ^ k % 256 : Nat) : Int)) : (splice (List.replicate (k + 1) (0 : Int)) 0 (dig 256 v k)).set k z = dig 256 v (k + 1) := by
  rw [dig_snoc, hz]
  simp only [splice, List.take_zero, List.nil_append, dig_length, Nat.zero_add, List.drop_replicate]
  rw [List.set_append_right _ _ (by rw [dig_length]; omega), dig_length, Nat.sub_self, show k + 1 - k = 1 by omega]
  rfl

theorem cell_some {t : TypeId} {w : World} {g : Nat} {L : List Int} (h : Rw t w g L) (i : Nat) (hi : i < L.length) : ∃ z, w.cell? ⟨g, i, none⟩ = some z := ⟨_, h.cell i hi⟩
theorem wpList_make_rz {w : World} {ops : Array Oper} {rest : List Oper} {o : Oper} {a : Act} {Q : Exit → Act → World → Prop} (hgd : o.guard = none) (l c : Operand) (ho : o.op = Op.makeSlice 50 l c)
    (n : Nat) (z : Int) (hz : z = (n : Int)) (hl : a.eval l = .int .i64 z) (hc : a.eval c = .int .i64 z) (hn : n ≤ 140737488355328)
    (h : ∀ w', Rw 5 w' w.heap.size (List.replicate n 0) → Below w.heap.size w w' → wpList Try.prog ops Q rest (a.put o.dst (.slice (some ⟨w.heap.size, 0, none⟩) n n)) w') : wpList Try.prog ops Q (o :: rest) a w := by
  subst hz
  exact wpList_make_rw hgd l c ho n hl hc hn h

theorem OwnI.src {w : World} {base : Nat} {ao : Option Addr} {n cap : Nat} {xs : List Int} (h : OwnI w base (.slice ao n cap) xs) : Src w ao xs ∧ n = xs.length := by
  obtain ⟨ao2, cap2, e, hsrc⟩ := h.str
  injection e with e1 e2 e3
  subst e1
  exact ⟨hsrc, e2⟩
set_option maxHeartbeats 1000000 in
theorem bytes_any (g : Nat) (sl : Value) (N v : Nat) (w : World) (hN : N ≤ 1000000000) (h : Wr w g sl N v) :
    Calls Try.prog 36 #[.pointer (some ⟨g, 0, none⟩)] w fun e w' => ∃ G, e = .returned (.slice (some ⟨G, 0, none⟩) ((N + 7) / 8) ((N + 7) / 8)) ∧ w.heap.size ≤ G ∧ Rw 5 w' G (dig 256 v ((N + 7) / 8)) ∧ Ok' w w' := by
  obtain ⟨B, hB⟩ : ∃ B, B = (N + 7) / 8 := ⟨_, rfl⟩
  obtain ⟨k, hk⟩ : ∃ k, k = N / 8 := ⟨_, rfl⟩
  have hq : (((N : Int) + 7) / 8) = (B : Int) := by omega
  have hBl : B ≤ 140737488355328 := by omega
  rw [← hB]
  have HB : Hid (B = (N + 7) / 8 ∧ k = N / 8) := ⟨hB, hk⟩
  clear hB hk
  have hpar : k = B ∨ k + 1 = B := by have := HB.out; omega
  have hv := h.1
  obtain ⟨ao, cap, rfl, hnil⟩ := h.2.2.1.slice
  rw [dig_length] at h
  have h' := h
  obtain ⟨y, hy⟩ : ∃ y, y = v / 256 ^ k := ⟨_, rfl⟩
  obtain ⟨m, hm⟩ : ∃ m, m = N - 8 * k := ⟨_, rfl⟩
  have HW : Hid (∀ w2, Ok' w w2 → St 92 w2 g #[.slice ao k cap, .int .u64 y, .int .i64 m] ∧ Src w2 ao (dig 256 v k)) := by
    intro w2 k2
    have h2 := (h.ok k2).2
    rw [← HB.out.2] at h2
    refine ⟨by rw [hy, hm]; exact h2.1, ?_⟩
    exact h2.2.1.src.1
  have HM : Hid ((dig 256 v k).length = Nat.min k B) := by
    show _ = _
    rw [dig_length]
    exact (Nat.min_eq_left (by omega)).symm
  have HFit : Hid (0 + (dig 256 v k).length ≤ (List.replicate B (0 : Int)).length) := by show _ ≤ _; rw [dig_length]; simp; omega
  have HL : Hid ((dig 256 v k).length = k) := dig_length _ _ _
  rw [← HB.out.2] at h
  have HY : Hid (y = v / 256 ^ k) := hy
  clear hy hm hnil
  rcases hpar with rfl | rfl
  · go_enter Try.func36, Try.ntmps36
    go_wp2_with (first | (go_at_call 35; refine (len_any g _ N v _ hN h').mono ?_; rintro e w1 ⟨rfl, k1⟩) | (at_make; refine wpList_make_rz rfl (.tmp 10) (.tmp 10) rfl k _ hq rfl rfl hBl ?_; intro w2 r2 b2; have k2 : Ok' w w2 := k1.trans (Kp.of_below (F := fun _ => False) b2) (fun _ _ x => x); obtain ⟨s2, src2⟩ := HW.out w2 k2; have c0 : w2.cell? ⟨g, 0, none⟩ = some (.slice ao k cap) := s2.cell 0; have c1 : w2.cell? ⟨g, 1, none⟩ = some (.int .u64 y) := s2.cell 1; have HP := src2.hp) | (refine wpList_copy_rw rfl (.tmp 12) (.tmp 16) 50 50 rfl 5 Try.underlying50 info5 _ _ _ _ _ _ rfl rfl w1.heap.size 0 5 _ (dig 256 v k) r2 HM.out (fun h => ⟨rfl, HP.out h⟩) HFit.out ?_; intro w3 r3 g3; rw [HL.out]; have k3 : Ok' w w3 := k2.grown g3 (by have := k1.size; intro i hi e; cases e; omega); obtain ⟨s3, src3⟩ := HW.out w3 k3; have d1 : w3.cell? ⟨g, 1, none⟩ = some (.int .u64 y) := s3.cell 1))
    go_ret
    rw [bytes_even] at r3
    exact ⟨_, rfl, k1.size, r3, k3⟩
  · have hq2 : (((N : Int) + 7) / 8) = (k : Int) + 1 := by omega
    clear hq
    have HZ : Hid (IntKind.u8.wrap (y : Int) = ((v / 256 ^ k % 256 : Nat) : Int)) := by show _ = _; rw [IntKind.wrap_u8', HY.out]; omega
    go_enter Try.func36, Try.ntmps36
    go_wp2_with (first | (go_at_call 35; refine (len_any g _ N v _ hN h').mono ?_; rintro e w1 ⟨rfl, k1⟩) | (at_make; refine wpList_make_rz rfl (.tmp 10) (.tmp 10) rfl (k + 1) _ (by omega) rfl rfl hBl ?_; intro w2 r2 b2; have k2 : Ok' w w2 := k1.trans (Kp.of_below (F := fun _ => False) b2) (fun _ _ x => x); obtain ⟨s2, src2⟩ := HW.out w2 k2; have c0 : w2.cell? ⟨g, 0, none⟩ = some (.slice ao k cap) := s2.cell 0; have c1 : w2.cell? ⟨g, 1, none⟩ = some (.int .u64 y) := s2.cell 1; have HP := src2.hp) | (refine wpList_copy_rw rfl (.tmp 12) (.tmp 16) 50 50 rfl 5 Try.underlying50 info5 _ _ _ _ _ _ rfl rfl w1.heap.size 0 5 _ (dig 256 v k) r2 HM.out (fun h => ⟨rfl, HP.out h⟩) HFit.out ?_; intro w3 r3 g3; rw [HL.out]; have k3 : Ok' w w3 := k2.grown g3 (by have := k1.size; intro i hi e; cases e; omega); obtain ⟨s3, src3⟩ := HW.out w3 k3; have d1 : w3.cell? ⟨g, 1, none⟩ = some (.int .u64 y) := s3.cell 1; have f3 := r3.frozen k; obtain ⟨zz, hzz⟩ := cell_some r3 k (by simp [splice, dig_length])))
    go_ret
    have r4 := r3.set k (IntKind.u8.wrap (y : Int))
    rw [bytes_odd v k _ HZ.out] at r4
    exact ⟨_, rfl, k1.size, r4, k3.trans (kp_setCell w3 w1.heap.size k _ (fun i => i = w1.heap.size) rfl) (by have := k1.size; intro i hi e; omega)⟩
theorem bytes_nil (w : World) : Calls Try.prog 36 #[.pointer none] w fun e w' => e = .returned (.slice none 0 0) ∧ w = w' := by
  go_enter Try.func36, Try.ntmps36
  go_wp2
  go_ret
  exact ⟨rfl, rfl⟩

end Go.Proofs.Ythpocbpleffdpaa.Bz

namespace Go.Proofs.Ythpocbpleffdpaa.Bz
open Go.RowKit

/-- A reader of the bytes B at the bit p, 'wait' bits of which wait in its word, those up to the byte 'next'. -/
structure RdX (w : World) (g : Nat) (ao : Option Addr) (cap : Nat) (B : List Int) (p next wait : Nat) : Prop where
  pos : p + wait = 8 * next
  nle : next ≤ B.length
  wle : wait ≤ 64
  blen : B.length ≤ 100000000
  byt : Byt B
  st : St 103 w g #[.slice ao B.length cap, .int .i64 (next : Int), .int .u64 ((und 256 B / 2 ^ p % 2 ^ wait : Nat) : Int), .int .i64 (wait : Int)]
  src : Src w ao B
  hcap : B.length ≤ cap
  hnil : ao = none → cap = 0
  apart : ∀ b off, ao = some ⟨b, off, none⟩ → b ≠ g
/-- A reader of the bytes B at the bit p. -/
def Rd (w : World) (g : Nat) (ao : Option Addr) (cap : Nat) (B : List Int) (p : Nat) : Prop := ∃ next wait, RdX w g ao cap B p next wait
theorem RdX.kp {F : Nat → Prop} {w w' : World} {g : Nat} {ao : Option Addr} {cap : Nat} {B : List Int} {p next wait : Nat} (h : RdX w g ao cap B p next wait) (k : Kp F w w') (hg : ¬ F g) (hb : ∀ b off, ao = some ⟨b, off, none⟩ → ¬ F b) : RdX w' g ao cap B p next wait :=
  ⟨h.pos, h.nle, h.wle, h.blen, h.byt, h.st.kp k hg, h.src.kp k hb, h.hcap, h.hnil, h.apart⟩
theorem Rd.kp {F : Nat → Prop} {w w' : World} {g : Nat} {ao : Option Addr} {cap : Nat} {B : List Int} {p : Nat} (h : Rd w g ao cap B p) (k : Kp F w w') (hg : ¬ F g) (hb : ∀ b off, ao = some ⟨b, off, none⟩ → ¬ F b) : Rd w' g ao cap B p := by
  obtain ⟨n, q, h⟩ := h
  exact ⟨n, q, h.kp k hg hb⟩
theorem Rd.ok {w w' : World} {g : Nat} {ao : Option Addr} {cap : Nat} {B : List Int} {p : Nat} (h : Rd w g ao cap B p) (k : Ok' w w') : Rd w' g ao cap B p := h.kp k (fun x => x) (fun _ _ _ x => x)
theorem RdX.ok {w w' : World} {g : Nat} {ao : Option Addr} {cap : Nat} {B : List Int} {p next wait : Nat} (h : RdX w g ao cap B p next wait) (k : Ok' w w') : RdX w' g ao cap B p next wait := h.kp k (fun x => x) (fun _ _ _ x => x)

theorem und_get (B : List Int) (h : Byt B) (i : Nat) (hi : i < B.length) : B.getD i 0 = ((und 256 B / 2 ^ (8 * i) % 256 : Nat) : Int) := by
  have e := dig_get 256 (und 256 B) B.length i hi
  rw [dig_und 256 B (byt_range h)] at e
  rw [e, pow_256]
theorem word_grow (V p wait next : Nat) (h : p + wait = 8 * next) : V / 2 ^ p % 2 ^ (wait + 8) = V / 2 ^ p % 2 ^ wait + (V / 2 ^ (8 * next) % 256) * 2 ^ wait := by
  rw [Nat.pow_add, Nat.mod_mul, Nat.div_div_eq_div_mul, ← Nat.pow_add, h, Nat.mul_comm (2 ^ wait)]
theorem und_small (B : List Int) (h : Byt B) (p : Nat) (hp : p ≤ 8 * B.length) : und 256 B / 2 ^ p < 2 ^ (8 * B.length - p) := by
  have := und_lt 256 B (byt_range h)
  rw [Nat.div_lt_iff_lt_mul (Nat.pow_pos (by omega)), ← Nat.pow_add, show 8 * B.length - p + p = 8 * B.length by omega, ← pow_256]
  exact this

/-- The word grown by a byte, in memory. -/
theorem fill_round (w w1 : World) (g : Nat) (ao : Option Addr) (cap : Nat) (B : List Int) (p next wait y z : Nat) (h : RdX w1 g ao cap B p next wait) (hn : next < B.length) (hw : wait ≤ 56)
    (hy : y = und 256 B / 2 ^ p % 2 ^ wait) (hz : (z : Int) = B.getD next 0) (K : Kp (fun i => i = g) w w1) :
    RdX (((w1.setCell ⟨g, 2, none⟩ (.int .u64 ((y : Int) + (z : Int) * 2 ^ wait))).setCell ⟨g, 3, none⟩ (.int .i64 ((wait : Int) + 8))).setCell ⟨g, 1, none⟩ (.int .i64 ((next : Int) + 1))) g ao cap B p (next + 1) (wait + 8) ∧
      Kp (fun i => i = g) w (((w1.setCell ⟨g, 2, none⟩ (.int .u64 ((y : Int) + (z : Int) * 2 ^ wait))).setCell ⟨g, 3, none⟩ (.int .i64 ((wait : Int) + 8))).setCell ⟨g, 1, none⟩ (.int .i64 ((next : Int) + 1))) := by
  have hz2 : z = und 256 B / 2 ^ (8 * next) % 256 := by have := und_get B h.byt next hn; omega
  have K1 : Kp (fun i => i = g) w1 (((w1.setCell ⟨g, 2, none⟩ (.int .u64 ((y : Int) + (z : Int) * 2 ^ wait))).setCell ⟨g, 3, none⟩ (.int .i64 ((wait : Int) + 8))).setCell ⟨g, 1, none⟩ (.int .i64 ((next : Int) + 1))) :=
    (((Kp.refl (fun i => i = g) w1).setCell (F := fun i => i = g) g 2 _ rfl).setCell (F := fun i => i = g) g 3 _ rfl).setCell (F := fun i => i = g) g 1 _ rfl
  refine ⟨⟨by have := h.pos; omega, by omega, by omega, h.blen, h.byt, ?_, h.src.kp K1 h.apart, h.hcap, h.hnil, h.apart⟩, K.trans K1 (fun _ _ x => x)⟩
  have s := ((h.st.set 2 (.int .u64 ((y : Int) + (z : Int) * 2 ^ wait))).set 3 (.int .i64 ((wait : Int) + 8))).set 1 (.int .i64 ((next : Int) + 1))
  rw [word_grow _ _ _ _ h.pos, ← hy, ← hz2, show ((y + z * 2 ^ wait : Nat) : Int) = (y : Int) + (z : Int) * 2 ^ wait by rw [Int.natCast_add, Int.natCast_mul, Int.natCast_pow]; rfl]
  simpa using s

set_option maxHeartbeats 1000000 in
theorem fill_walk (g : Nat) (ao : Option Addr) (cap : Nat) (B : List Int) (p next wait : Nat) (w : World) (h : RdX w g ao cap B p next wait) :
    Calls Try.prog 84 #[.pointer (some ⟨g, 0, none⟩)] w fun e w' => e = .returned (.tuple #[]) ∧ ∃ next' wait', RdX w' g ao cap B p next' wait' ∧ (57 ≤ wait' ∨ next' = B.length) ∧ Kp (fun i => i = g) w w' := by
  go_enter Try.func84, Try.ntmps84
  go_wp2_with fail
  go_loopg [] (B.length - next) (fun r wr => ∃ n1 q1, n1 + r = B.length ∧ RdX wr g ao cap B p n1 q1 ∧ Kp (fun i => i = g) w wr)
  case atStart => exact ⟨next, wait, by have := h.nle; omega, h, Kp.refl _ _⟩
  case round =>
    clear h
    obtain ⟨n1, q1, hr, h, K⟩ := hrel
    obtain ⟨y, hy⟩ : ∃ y, y = und 256 B / 2 ^ p % 2 ^ q1 := ⟨_, rfl⟩
    have hs := h.st
    rw [← hy] at hs
    have c0 : wr.cell? ⟨g, 0, none⟩ = some (.slice ao B.length cap) := hs.cell 0
    have c1 : wr.cell? ⟨g, 1, none⟩ = some (.int .i64 n1) := hs.cell 1
    have c2 : wr.cell? ⟨g, 2, none⟩ = some (.int .u64 y) := hs.cell 2
    have c3 : wr.cell? ⟨g, 3, none⟩ = some (.int .i64 q1) := hs.cell 3
    have f1 := hs.frozen 1
    have f2 := hs.frozen 2
    have f3 := hs.frozen 3
    have hbl := h.blen
    have hwl := h.wle
    by_cases hq : (q1 : Int) ≤ 56
    · by_cases hn : (n1 : Int) < (B.length : Int)
      · have hy2 : y < 2 ^ q1 := by rw [hy]; exact Nat.mod_lt _ (Nat.pow_pos (by omega))
        have hn2 : n1 < B.length := by omega
        have hbz := h.byt.get n1
        obtain ⟨z, hz⟩ : ∃ z : Nat, (z : Int) = B.getD n1 0 := ⟨(B.getD n1 0).toNat, by omega⟩
        obtain ⟨b, off, rfl, hcell⟩ := h.src (by omega)
        have cb := hcell n1 hn2
        rw [← hz] at cb
        have hor := or_wait z y q1 8 hy2 (by omega) (by omega)
        have hwz : IntKind.u64.wrap (z : Int) = (z : Int) := by rw [IntKind.wrap_u64]; omega
        have HR : Hid (n1 + gk = B.length) := hr
        have hgb : b ≠ g := h.apart b off rfl
        have HH : Hid (y = und 256 B / 2 ^ p % 2 ^ q1 ∧ (z : Int) = B.getD n1 0) := ⟨hy, hz⟩
        clear hz hy hs hcell hr hbz
        go_wp2
        go_quiet (fail)
        go_wp2
        have HG : Hid (_ ∧ _) := fill_round w (wr.drewN nq) g (some ⟨b, off, none⟩) cap B p n1 q1 y z (h.ok (drewN_kp _ wr nq)) hn2 (by omega) HH.out.1 HH.out.2 (K.trans (drewN_kp _ wr nq) (fun _ _ x => x))
        go_region
        all_goals
          go_wp2
          go_roundg (gk - 1)
          case measure => have := HR.out; omega
          case rel => exact ⟨n1 + 1, q1 + 8, by have := HR.out; omega, HG.out.1.kp ((Kp.refl (fun _ => False) _).drew) (fun x => x) (fun _ _ _ x => x), HG.out.2.drew⟩
      · have hn2 : n1 = B.length := by have := h.nle; omega
        clear hy hs
        go_wp2
        go_quiet (fail)
        go_wp2
        go_end0
        exact ⟨rfl, n1, q1, h.ok (drewN_kp _ wr _), .inr hn2, K.trans (drewN_kp _ wr _) (fun _ _ x => x)⟩
    · have hd : decide ((q1 : Int) ≤ 56) = false := by simpa using hq
      have hd2 : decide (q1 ≤ 56) = false := by simp; omega
      have hq2 : 57 ≤ q1 := by omega
      clear hy hs
      go_wp2
      go_quiet (fail)
      go_wp2
      go_end0
      exact ⟨rfl, n1, q1, h.ok (drewN_kp _ wr _), .inl hq2, K.trans (drewN_kp _ wr _) (fun _ _ x => x)⟩
end Go.Proofs.Ythpocbpleffdpaa.Bz

namespace Go.Proofs.Ythpocbpleffdpaa.Bz
open Go.RowKit

theorem word_drop (V p wait n : Nat) (h : n ≤ wait) : V / 2 ^ p % 2 ^ wait / 2 ^ n = V / 2 ^ (p + n) % 2 ^ (wait - n) := by
  obtain ⟨k, rfl⟩ := Nat.exists_eq_add_of_le h
  rw [Nat.pow_add 2 n k, Nat.mod_mul_right_div_self, Nat.div_div_eq_div_mul, ← Nat.pow_add, Nat.add_sub_cancel_left]
theorem div_nat (y n : Nat) : (y : Int) / 2 ^ n = ((y / 2 ^ n : Nat) : Int) := by rw [Int.natCast_ediv, Int.natCast_pow]; rfl

set_option maxHeartbeats 400000 in
theorem drop_any (g : Nat) (ao : Option Addr) (cap : Nat) (B : List Int) (p next wait n : Nat) (w : World) (h : RdX w g ao cap B p next wait) (hn : n ≤ wait) :
    Calls Try.prog 85 #[.pointer (some ⟨g, 0, none⟩), .int .i64 n] w fun e w' => e = .returned (.tuple #[]) ∧ RdX w' g ao cap B (p + n) next (wait - n) ∧ Kp (fun i => i = g) w w' := by
  obtain ⟨y, hy⟩ : ∃ y, y = und 256 B / 2 ^ p % 2 ^ wait := ⟨_, rfl⟩
  have hs := h.st
  rw [← hy] at hs
  have c2 : w.cell? ⟨g, 2, none⟩ = some (.int .u64 y) := hs.cell 2
  have c3 : w.cell? ⟨g, 3, none⟩ = some (.int .i64 wait) := hs.cell 3
  have f2 := hs.frozen 2
  have f3 := hs.frozen 3
  have hwl := h.wle
  have hn64 : n ≤ 64 := by omega
  have HE : Hid (RdX ((w.setCell ⟨g, 2, none⟩ (.int .u64 ((y : Int) / 2 ^ n))).setCell ⟨g, 3, none⟩ (.int .i64 ((wait : Int) - n))) g ao cap B (p + n) next (wait - n) ∧ Kp (fun i => i = g) w ((w.setCell ⟨g, 2, none⟩ (.int .u64 ((y : Int) / 2 ^ n))).setCell ⟨g, 3, none⟩ (.int .i64 ((wait : Int) - n)))) := by
    have K1 : Kp (fun i => i = g) w ((w.setCell ⟨g, 2, none⟩ (.int .u64 ((y : Int) / 2 ^ n))).setCell ⟨g, 3, none⟩ (.int .i64 ((wait : Int) - n))) := ((Kp.refl (fun i => i = g) w).setCell (F := fun i => i = g) g 2 _ rfl).setCell (F := fun i => i = g) g 3 _ rfl
    refine ⟨⟨by have := h.pos; omega, h.nle, by omega, h.blen, h.byt, ?_, h.src.kp K1 h.apart, h.hcap, h.hnil, h.apart⟩, K1⟩
    have s := (hs.set 2 (.int .u64 ((y : Int) / 2 ^ n))).set 3 (.int .i64 ((wait : Int) - n))
    rw [← word_drop _ _ _ _ hn, ← hy, ← div_nat, show ((wait - n : Nat) : Int) = (wait : Int) - n by omega]
    simpa using s
  clear hy hs h
  go_enter Try.func85, Try.ntmps85
  go_wp2
  go_end0
  exact ⟨rfl, HE.out⟩

set_option maxHeartbeats 400000 in
theorem stand_any (g : Nat) (ao : Option Addr) (cap : Nat) (B : List Int) (p next wait n : Nat) (w : World) (h : RdX w g ao cap B p next wait) (hn : n ≤ B.length) :
    Calls Try.prog 83 #[.pointer (some ⟨g, 0, none⟩), .int .i64 n] w fun e w' => e = .returned (.tuple #[]) ∧ RdX w' g ao cap B (8 * n) n 0 ∧ Kp (fun i => i = g) w w' := by
  have hs := h.st
  obtain ⟨y, hy⟩ : ∃ y, y = und 256 B / 2 ^ p % 2 ^ wait := ⟨_, rfl⟩
  rw [← hy] at hs
  have c1 : w.cell? ⟨g, 1, none⟩ = some (.int .i64 next) := hs.cell 1
  have c2 : w.cell? ⟨g, 2, none⟩ = some (.int .u64 y) := hs.cell 2
  have c3 : w.cell? ⟨g, 3, none⟩ = some (.int .i64 wait) := hs.cell 3
  have f1 := hs.frozen 1
  have f2 := hs.frozen 2
  have f3 := hs.frozen 3
  have HE : Hid (RdX (((w.setCell ⟨g, 1, none⟩ (.int .i64 (n : Int))).setCell ⟨g, 2, none⟩ (.int .u64 0)).setCell ⟨g, 3, none⟩ (.int .i64 0)) g ao cap B (8 * n) n 0 ∧ Kp (fun i => i = g) w (((w.setCell ⟨g, 1, none⟩ (.int .i64 (n : Int))).setCell ⟨g, 2, none⟩ (.int .u64 0)).setCell ⟨g, 3, none⟩ (.int .i64 0))) := by
    have K1 : Kp (fun i => i = g) w (((w.setCell ⟨g, 1, none⟩ (.int .i64 (n : Int))).setCell ⟨g, 2, none⟩ (.int .u64 0)).setCell ⟨g, 3, none⟩ (.int .i64 0)) := (((Kp.refl (fun i => i = g) w).setCell (F := fun i => i = g) g 1 _ rfl).setCell (F := fun i => i = g) g 2 _ rfl).setCell (F := fun i => i = g) g 3 _ rfl
    refine ⟨⟨by omega, hn, by omega, h.blen, h.byt, ?_, h.src.kp K1 h.apart, h.hcap, h.hnil, h.apart⟩, K1⟩
    have s := ((hs.set 1 (.int .i64 (n : Int))).set 2 (.int .u64 0)).set 3 (.int .i64 0)
    rw [Nat.pow_zero, Nat.mod_one]
    simpa using s
  clear hy hs h
  go_enter Try.func83, Try.ntmps83
  go_wp2
  go_end0
  exact ⟨rfl, HE.out⟩

set_option maxHeartbeats 400000 in
theorem at_any (g : Nat) (ao : Option Addr) (cap : Nat) (B : List Int) (p : Nat) (w : World) (h : Rd w g ao cap B p) :
    Calls Try.prog 42 #[.pointer (some ⟨g, 0, none⟩)] w fun e w' => e = .returned (.int .i64 p) ∧ ∃ n, w' = w.drewN n := by
  obtain ⟨next, wait, h⟩ := h
  have hs := h.st
  have c1 : w.cell? ⟨g, 1, none⟩ = some (.int .i64 next) := hs.cell 1
  have c3 : w.cell? ⟨g, 3, none⟩ = some (.int .i64 wait) := hs.cell 3
  have h1 := h.pos
  have h2 := h.nle
  have h3 := h.blen
  have a1 : IntKind.i64.wrap (8 * (next : Int)) = 8 * (next : Int) := by rw [IntKind.wrap_i64]; omega
  have a2 : IntKind.i64.wrap (8 * (next : Int) - (wait : Int)) = (p : Int) := by rw [IntKind.wrap_i64]; omega
  clear hs h h1 h2 h3
  go_enter Try.func42, Try.ntmps42
  go_wp2
  go_quiet (fail)
  go_wp2
  go_ret
  exact ⟨rfl, _, rfl⟩
set_option maxHeartbeats 400000 in
theorem at_nil (w : World) : Calls Try.prog 42 #[.pointer none] w fun e w' => e = .returned (.int .i64 0) ∧ w = w' := by
  go_enter Try.func42, Try.ntmps42
  go_wp2
  go_ret
  exact ⟨rfl, rfl⟩

theorem Rd.le {w : World} {g : Nat} {ao : Option Addr} {cap : Nat} {B : List Int} {p : Nat} (h : Rd w g ao cap B p) : p ≤ 8 * B.length := by
  obtain ⟨n, q, h⟩ := h
  have := h.pos; have := h.nle; omega
set_option maxHeartbeats 400000 in
theorem left_any (g : Nat) (ao : Option Addr) (cap : Nat) (B : List Int) (p : Nat) (w : World) (h : Rd w g ao cap B p) :
    Calls Try.prog 82 #[.pointer (some ⟨g, 0, none⟩)] w fun e w' => e = .returned (.int .i64 ((8 * B.length - p : Nat) : Int)) ∧ ∃ n, w' = w.drewN n := by
  obtain ⟨next, wait, hx⟩ := h
  have hs := hx.st
  have c0 : w.cell? ⟨g, 0, none⟩ = some (.slice ao B.length cap) := hs.cell 0
  have h0 : Rd w g ao cap B p := ⟨next, wait, hx⟩
  have h1 := h0.le
  have h3 := hx.blen
  have a1 : IntKind.i64.wrap (8 * (B.length : Int)) = 8 * (B.length : Int) := by rw [IntKind.wrap_i64]; omega
  obtain ⟨q, hq⟩ : ∃ q, q = 8 * B.length - p := ⟨_, rfl⟩
  have a2 : IntKind.i64.wrap (8 * (B.length : Int) - (p : Int)) = (q : Int) := by rw [IntKind.wrap_i64]; omega
  rw [← hq]
  clear hs hx h1 h3 hq
  go_enter Try.func82, Try.ntmps82
  go_wp2
  go_quiet (first | (go_at_call 42; refine Calls.quiet_of (at_any g ao cap B p _ (h0.ok (drewN_kp _ _ _)))))
  go_wp2
  go_ret
  exact ⟨rfl, _, rfl⟩
set_option maxHeartbeats 400000 in
theorem left_nil (w : World) : Calls Try.prog 82 #[.pointer none] w fun e w' => e = .returned (.int .i64 0) ∧ w = w' := by
  go_enter Try.func82, Try.ntmps82
  go_wp2
  go_ret
  exact ⟨rfl, rfl⟩

set_option maxHeartbeats 400000 in
theorem newr_any (ao : Option Addr) (c : Nat) (B : List Int) (w : World) (hl : B.length ≤ 100000000) (hb : Byt B) (hsrc : Src w ao B) :
    Calls Try.prog 40 #[.slice ao B.length c] w fun e w' => ∃ g G, e = .returned (.pointer (some ⟨g, 0, none⟩)) ∧ w.heap.size ≤ g ∧ w.heap.size ≤ G ∧ Rd w' g (some ⟨G, 0, none⟩) B.length B 0 ∧ Ok' w w' := by
  go_enter Try.func40, Try.ntmps40
  go_wp2_with (go_at_call 67; refine (kept_any ao c B _ (by omega) hsrc).mono ?_; rintro e w1 ⟨rfl, r1, b1⟩)
  go_ret
  refine ⟨w1.heap.size, w.heap.size, rfl, b1.size, Nat.le_refl _, ⟨0, 0, rfl, Nat.zero_le _, by omega, hl, hb, ?_, (r1.alloc _).src, Nat.le_refl _, fun e => (by cases e), ?_⟩, (Kp.of_below b1).alloc _⟩
  · have s : St 103 (w1.alloc (.cells #[.slice (some ⟨w.heap.size, 0, none⟩) B.length B.length, .int .i64 0, .int .u64 0, .int .i64 0] 103)) w1.heap.size _ := heap_alloc_new w1 _
    simpa [Nat.mod_one] using s
  · intro b off e
    cases e
    have := r1.lt; omega

end Go.Proofs.Ythpocbpleffdpaa.Bz

namespace Go.Proofs.Ythpocbpleffdpaa.Bz
open Go.RowKit

theorem peek_val {w : World} {g : Nat} {ao : Option Addr} {cap : Nat} {B : List Int} {p next wait : Nat} (n : Nat) (h : RdX w g ao cap B p next wait) (hn : n ≤ wait ∨ next = B.length) :
    und 256 B / 2 ^ p % 2 ^ wait % 2 ^ n = und 256 B / 2 ^ p % 2 ^ n ∧ min n wait = min n (8 * B.length - p) := by
  have h1 := h.pos
  have h2 := h.nle
  by_cases hw : n ≤ wait
  · refine ⟨?_, by omega⟩
    obtain ⟨k, rfl⟩ := Nat.exists_eq_add_of_le hw
    rw [Nat.pow_add, Nat.mod_mul_right_mod]
  · have hl := hn.resolve_left hw
    have hs := und_small B h.byt p (by omega)
    rw [show 8 * B.length - p = wait by omega] at hs ⊢
    refine ⟨?_, rfl⟩
    rw [Nat.mod_eq_of_lt hs]
theorem and_mask (y n : Nat) (hy : y < 18446744073709551616) (hn : n ≤ 57) (m : Int) (hm : m = 2 ^ n - 1) : bits .and .u64 (y : Int) m = ((y % 2 ^ n : Nat) : Int) := by
  have hp : 2 ^ n ≤ 144115188075855872 := Nat.pow_le_pow_right (n := 2) (j := 57) (by omega) hn
  have hp0 : 0 < 2 ^ n := Nat.pow_pos (by omega)
  have e : m = ((2 ^ n - 1 : Nat) : Int) := by
    rw [hm]
    have : ((2 ^ n : Nat) : Int) = 2 ^ n := Int.natCast_pow 2 n
    omega
  rw [e, u64_and_nat _ _ hy (by omega), Nat.and_two_pow_sub_one_eq_mod]

theorem and_mask' (y n : Nat) (hy : y < 18446744073709551616) (hn : n ≤ 57) : bits .and .u64 (y : Int) (IntKind.u64.wrap (IntKind.u64.wrap (2 ^ n) - 1)) = ((y % 2 ^ n : Nat) : Int) := by
  have hp : 2 ^ n ≤ 144115188075855872 := Nat.pow_le_pow_right (n := 2) (j := 57) (by omega) hn
  have hp0 : 0 < 2 ^ n := Nat.pow_pos (by omega)
  have e : ((2 ^ n : Nat) : Int) = 2 ^ n := Int.natCast_pow 2 n
  refine and_mask y n hy hn _ ?_
  rw [IntKind.wrap_u64, IntKind.wrap_u64]
  omega
theorem word_64 (V p wait : Nat) (h : wait ≤ 64) : V / 2 ^ p % 2 ^ wait < 18446744073709551616 :=
  Nat.lt_of_lt_of_le (Nat.mod_lt _ (Nat.pow_pos (by omega))) (Nat.pow_le_pow_right (n := 2) (j := 64) (by omega) h)
theorem ret_three {k l m : IntKind} {a b c a' b' c' : Int} (h : a = a') (h' : b = b') (h'' : c = c') : Ending.returned (.tuple #[.int k a, .int l b, .int m c]) = .returned (.tuple #[.int k a', .int l b', .int m c']) := by rw [h, h', h'']

set_option maxHeartbeats 400000 in
theorem peek_x (g : Nat) (ao : Option Addr) (cap : Nat) (B : List Int) (p n X M : Nat) (w : World) (hn : n ≤ 57) (h : Rd w g ao cap B p) (HX : Hid (X = und 256 B / 2 ^ p % 2 ^ n ∧ M = min n (8 * B.length - p))) :
    Calls Try.prog 68 #[.pointer (some ⟨g, 0, none⟩), .int .i64 n] w fun e w' =>
      e = .returned (.tuple #[.int .u64 (X : Int), .int .i64 (M : Int), .int .i64 0]) ∧
        ∃ next wait, RdX w' g ao cap B p next wait ∧ M ≤ wait ∧ Kp (fun i => i = g) w w' := by
  obtain ⟨next, wait, h⟩ := h
  have hd : decide (0 ≤ (n : Int) ∧ (n : Int) ≤ 57) = true := by simp; omega
  have c3 : w.cell? ⟨g, 3, none⟩ = some (.int .i64 wait) := h.st.cell 3
  have hwl := h.wle
  by_cases hw : wait < n
  · go_enter Try.func68, Try.ntmps68
    go_wp2_with (first | (go_at_call 80; refine (wide_any _ _).mono ?_; rintro e w' ⟨rfl, rfl⟩; rw [hd]) | (go_at_call 84; refine (fill_walk g ao cap B p next wait _ h).mono ?_; rintro e w1 ⟨rfl, next1, wait1, h1, hor, K1⟩; obtain ⟨y, hy⟩ : ∃ y, y = und 256 B / 2 ^ p % 2 ^ wait1 := ⟨_, rfl⟩; have HS := h1.st; rw [← hy] at HS; have d2 : w1.cell? ⟨g, 2, none⟩ = some (.int .u64 y) := HS.cell 2; have d3 : w1.cell? ⟨g, 3, none⟩ = some (.int .i64 wait1) := HS.cell 3; have hw1 := h1.wle; have HH : Hid (y = und 256 B / 2 ^ p % 2 ^ wait1 ∧ (57 ≤ wait1 ∨ next1 = B.length)) := ⟨hy, hor⟩; clear hy HS hor))
    have HN : n ≤ wait1 ∨ next1 = B.length := by
      rcases HH.out.2 with h | h
      · exact .inl (by omega)
      · exact .inr h
    have HN2 : Hid (n ≤ wait1 ∨ next1 = B.length) := HN
    clear HN
    go_quiet (fail)
    go_wp2
    all_goals
      go_ret3
      obtain ⟨e1, e2⟩ := peek_val n h1 HN2.out
      refine ⟨ret_three ((and_mask' y n (HH.out.1 ▸ word_64 _ _ _ h1.wle) hn).trans ?_) ?_ rfl, next1, wait1, h1.ok (drewN_kp _ w1 _), ?_, K1.trans (drewN_kp _ w1 _) (fun _ _ x => x)⟩
      · rw [HX.out.1, ← e1, ← HH.out.1]
      · rw [HX.out.2, ← e2]; omega
      · rw [HX.out.2, ← e2]; omega
  · obtain ⟨w1, hw1⟩ : ∃ w1, w1 = w := ⟨_, rfl⟩
    obtain ⟨next1, hn1⟩ : ∃ w1, w1 = next := ⟨_, rfl⟩
    obtain ⟨wait1, hwt1⟩ : ∃ w1, w1 = wait := ⟨_, rfl⟩
    have K1 : Kp (fun i => i = g) w w1 := by rw [hw1]; exact Kp.refl _ _
    have h1 : RdX w1 g ao cap B p next1 wait1 := by rw [hw1, hn1, hwt1]; exact h
    have HN2 : Hid (n ≤ wait1 ∨ next1 = B.length) := .inl (by omega)
    rw [← hw1, ← hwt1] at c3
    rw [← hwt1] at hw hwl
    obtain ⟨y, hy⟩ : ∃ y, y = und 256 B / 2 ^ p % 2 ^ wait1 := ⟨_, rfl⟩
    have HS := h1.st
    rw [← hy] at HS
    have d2 : w1.cell? ⟨g, 2, none⟩ = some (.int .u64 y) := HS.cell 2
    have HH : Hid (y = und 256 B / 2 ^ p % 2 ^ wait1 ∧ True) := ⟨hy, trivial⟩
    subst hw1
    clear hy HS hn1 hwt1 h
    go_enter Try.func68, Try.ntmps68
    go_wp2_with (go_at_call 80; refine (wide_any _ _).mono ?_; rintro e w' ⟨rfl, rfl⟩; rw [hd])
    go_quiet (fail)
    go_wp2
    all_goals
      go_ret3
      obtain ⟨e1, e2⟩ := peek_val n h1 HN2.out
      refine ⟨ret_three ((and_mask' y n (HH.out.1 ▸ word_64 _ _ _ h1.wle) hn).trans ?_) ?_ rfl, next1, wait1, h1.ok (drewN_kp _ w1 _), ?_, K1.trans (drewN_kp _ w1 _) (fun _ _ x => x)⟩
      · rw [HX.out.1, ← e1, ← HH.out.1]
      · rw [HX.out.2, ← e2]; omega
      · rw [HX.out.2, ← e2]; omega
theorem peek_ok (g : Nat) (ao : Option Addr) (cap : Nat) (B : List Int) (p n : Nat) (w : World) (hn : n ≤ 57) (h : Rd w g ao cap B p) :
    Calls Try.prog 68 #[.pointer (some ⟨g, 0, none⟩), .int .i64 n] w fun e w' =>
      e = .returned (.tuple #[.int .u64 ((und 256 B / 2 ^ p % 2 ^ n : Nat) : Int), .int .i64 ((min n (8 * B.length - p) : Nat) : Int), .int .i64 0]) ∧ Rd w' g ao cap B p ∧ Kp (fun i => i = g) w w' := by
  refine (peek_x g ao cap B p n _ _ w hn h ⟨rfl, rfl⟩).mono ?_
  rintro e w' ⟨rfl, next, wait, h1, _, k⟩
  exact ⟨rfl, ⟨next, wait, h1⟩, k⟩
set_option maxHeartbeats 400000 in
theorem peek_bad (g : Nat) (n : Int) (w : World) (hn : ¬ (0 ≤ n ∧ n ≤ 57)) :
    Calls Try.prog 68 #[.pointer (some ⟨g, 0, none⟩), .int .i64 n] w fun e w' => e = .returned (.tuple #[.int .u64 0, .int .i64 0, .int .i64 2]) ∧ w = w' := by
  have hd : decide (0 ≤ n ∧ n ≤ 57) = false := by simpa using hn
  clear hn
  go_enter Try.func68, Try.ntmps68
  go_wp2_with (go_at_call 80; refine (wide_any _ _).mono ?_; rintro e w' ⟨rfl, rfl⟩; rw [hd])
  go_ret3
  exact ⟨rfl, rfl⟩
set_option maxHeartbeats 400000 in
theorem peek_nil (n : Int) (w : World) :
    Calls Try.prog 68 #[.pointer none, .int .i64 n] w fun e w' => e = .returned (.tuple #[.int .u64 0, .int .i64 0, .int .i64 1]) ∧ w = w' := by
  go_enter Try.func68, Try.ntmps68
  go_wp2
  go_ret3
  exact ⟨rfl, rfl⟩

end Go.Proofs.Ythpocbpleffdpaa.Bz

namespace Go.Proofs.Ythpocbpleffdpaa.Bz
open Go.RowKit

theorem sub_slice {w : World} {ao : Option Addr} {cap : Nat} {B : List Int} (a n : Nat) (hn : a + n ≤ B.length) (hsrc : Src w ao B) (hc : B.length ≤ cap) (A : Option Addr)
    (hA : ∀ b off, ao = some ⟨b, off, none⟩ → A = if cap = a then some ⟨b, off, none⟩ else some ⟨b, off + a, none⟩) : Src w A ((B.drop a).take n) := by
  intro hp
  have hn0 : 0 < n := by
    have := List.length_take_le n (B.drop a)
    omega
  obtain ⟨b, off, e, hcell⟩ := hsrc (by omega)
  have hA2 := hA b off e
  rw [if_neg (by omega)] at hA2
  refine ⟨b, off + a, hA2, fun i hi => ?_⟩
  have hi2 : i < n := by simp at hi; omega
  rw [Nat.add_assoc, hcell (a + i) (by omega)]
  simp [List.getD, hi2]

theorem at_k (g : Nat) (ao : Option Addr) (cap : Nat) (B : List Int) (p : Nat) (w : World) (h : Rd w g ao cap B p) :
    Calls Try.prog 42 #[.pointer (some ⟨g, 0, none⟩)] w fun e w' => e = .returned (.int .i64 p) ∧ Ok' w w' := by
  refine (at_any g ao cap B p w h).mono ?_
  rintro e w' ⟨rfl, n, rfl⟩
  exact ⟨rfl, drewN_kp _ _ _⟩
theorem left_k (g : Nat) (ao : Option Addr) (cap : Nat) (B : List Int) (p : Nat) (w : World) (h : Rd w g ao cap B p) :
    Calls Try.prog 82 #[.pointer (some ⟨g, 0, none⟩)] w fun e w' => e = .returned (.int .i64 ((8 * B.length - p : Nat) : Int)) ∧ Ok' w w' := by
  refine (left_any g ao cap B p w h).mono ?_
  rintro e w' ⟨rfl, n, rfl⟩
  exact ⟨rfl, drewN_kp _ _ _⟩

end Go.Proofs.Ythpocbpleffdpaa.Bz

namespace Go.Proofs.Ythpocbpleffdpaa.Bz
open Go.RowKit

theorem Wr.parts {w : World} {g : Nat} {sl : Value} {N v : Nat} (h : Wr w g sl N v) : ∃ ao cap k m y, sl = .slice ao k cap ∧ k = N / 8 ∧ m = N - 8 * (N / 8) ∧ y = v / 256 ^ (N / 8) ∧ St 92 w g #[.slice ao k cap, .int .u64 (y : Int), .int .i64 (m : Int)] ∧ OwnI w 0 (.slice ao k cap) (dig 256 v (N / 8)) := by
  obtain ⟨ao, cap, rfl, _⟩ := h.2.2.1.slice
  obtain ⟨_, hs, ho, _⟩ := h
  rw [dig_length] at hs ho
  exact ⟨ao, cap, N / 8, _, _, by rw [dig_length], rfl, rfl, rfl, hs, ho⟩

theorem raw_dig (v N : Nat) (B : List Int) (hv : v < 2 ^ N) (hN : N = 8 * (N / 8)) (hb : Byt B) : dig 256 (v + und 256 B * 2 ^ N) (N / 8 + B.length) = dig 256 v (N / 8) ++ B := by
  have e : 2 ^ N = 256 ^ (N / 8) := by rw [pow_256, ← hN]
  rw [e] at hv ⊢
  rw [dig_join 256 v _ _ _ (by omega) hv, dig_und 256 B (byt_range hb)]
theorem raw_lt (v N : Nat) (B : List Int) (hv : v < 2 ^ N) (hb : Byt B) : v + und 256 B * 2 ^ N < 2 ^ (N + 8 * B.length) := by
  have h1 := und_lt 256 B (byt_range hb)
  rw [pow_256] at h1
  rw [Nat.pow_add]
  have : und 256 B * 2 ^ N + 2 ^ N ≤ 2 ^ N * 2 ^ (8 * B.length) := by rw [← Nat.succ_mul, Nat.mul_comm]; exact Nat.mul_le_mul_left _ h1
  omega

end Go.Proofs.Ythpocbpleffdpaa.Bz

namespace Go.Proofs.Ythpocbpleffdpaa.Bz
open Go.RowKit

set_option maxHeartbeats 400000 in
theorem skip_nil (n : Int) (w : World) : Calls Try.prog 65 #[.pointer none, .int .i64 n] w fun e w' => e = .returned (.int .i64 1) ∧ w = w' := by
  go_enter Try.func65, Try.ntmps65
  go_wp2
  go_ret
  exact ⟨rfl, rfl⟩
set_option maxHeartbeats 400000 in
theorem skip_bad (g : Nat) (n : Int) (w : World) (hn : n < 0) : Calls Try.prog 65 #[.pointer (some ⟨g, 0, none⟩), .int .i64 n] w fun e w' => e = .returned (.int .i64 2) ∧ w = w' := by
  go_enter Try.func65, Try.ntmps65
  go_wp2
  go_ret
  exact ⟨rfl, rfl⟩
set_option maxHeartbeats 400000 in
theorem skip_short (g : Nat) (ao : Option Addr) (cap : Nat) (B : List Int) (p : Nat) (n : Int) (w : World) (hn : 0 ≤ n) (h : Rd w g ao cap B p) (hl : ((8 * B.length - p : Nat) : Int) < n) :
    Calls Try.prog 65 #[.pointer (some ⟨g, 0, none⟩), .int .i64 n] w fun e w' => e = .returned (.int .i64 120) ∧ Ok' w w' := by
  have HC := left_k g ao cap B p w h
  obtain ⟨q, hq⟩ : ∃ q, q = 8 * B.length - p := ⟨_, rfl⟩
  rw [← hq] at HC hl
  clear hq
  have hn0 : ¬ n < 0 := by omega
  go_enter Try.func65, Try.ntmps65
  go_wp2_with fail
  refine HC.mono ?_
  rintro e w1 ⟨rfl, k1⟩
  go_wp2_with fail
  go_ret
  exact ⟨rfl, k1⟩
set_option maxHeartbeats 1000000 in
theorem skip_ok (g : Nat) (ao : Option Addr) (cap : Nat) (B : List Int) (p n : Nat) (w : World) (h : Rd w g ao cap B p) (hl : p + n ≤ 8 * B.length) :
    Calls Try.prog 65 #[.pointer (some ⟨g, 0, none⟩), .int .i64 n] w fun e w' => e = .returned (.int .i64 0) ∧ Rd w' g ao cap B (p + n) ∧ Kp (fun i => i = g) w w' := by
  have HC := left_k g ao cap B p w h
  obtain ⟨q, hq⟩ : ∃ q, q = 8 * B.length - p := ⟨_, rfl⟩
  rw [← hq] at HC
  obtain ⟨next, wait, hx⟩ := h
  have hpos := hx.pos
  have hnle := hx.nle
  have hblen := hx.blen
  have hwl := hx.wle
  have hnq : ¬ ((q : Int) < (n : Int)) := by omega
  have hqb : q ≤ 800000000 := by omega
  by_cases hw : wait < n
  · obtain ⟨m, hm⟩ : ∃ m, m = n - wait := ⟨_, rfl⟩
    obtain ⟨t, ht⟩ : ∃ t, t = next + m / 8 := ⟨_, rfl⟩
    obtain ⟨r, hr⟩ : ∃ r, r = m % 8 := ⟨_, rfl⟩
    have a1 : (n : Int) - (wait : Int) = (m : Int) := by omega
    have a2 : (next : Int) + (m : Int) / 8 = (t : Int) := by omega
    have a3 : (m : Int) % 8 = (r : Int) := by omega
    have htB : t ≤ B.length := by omega
    have HT : Hid (8 * t + r = p + n ∧ r < 8 ∧ (r = 0 ∨ t < B.length)) := by show _ ∧ _; omega
    clear hm ht hr hq hpos
    go_enter Try.func65, Try.ntmps65
    go_wp2_with fail
    refine HC.mono ?_
    rintro e w1 ⟨rfl, k1⟩
    have hx1 := hx.ok k1
    have d1 : w1.cell? ⟨g, 1, none⟩ = some (.int .i64 next) := hx1.st.cell 1
    have d3 : w1.cell? ⟨g, 3, none⟩ = some (.int .i64 wait) := hx1.st.cell 3
    go_wp2_with fail
    refine (stand_any g ao cap B p next wait t _ hx1 htB).mono ?_
    rintro e w2 ⟨rfl, h2, k2⟩
    clear d1 d3
    go_wp2_with fail
    refine (fill_walk g ao cap B (8 * t) t 0 _ h2).mono ?_
    rintro e w3 ⟨rfl, next3, wait3, h3, hor, k3⟩
    have hr3 : r ≤ wait3 := by
      have := HT.out
      rcases hor with h | h
      · omega
      · have := h3.pos; omega
    have HOR : Hid (57 ≤ wait3 ∨ next3 = B.length) := hor
    clear hor
    go_wp2_with fail
    refine (drop_any g ao cap B (8 * t) next3 wait3 r _ h3 hr3).mono ?_
    rintro e w4 ⟨rfl, h4, k4⟩
    go_wp2_with fail
    go_ret
    refine ⟨rfl, ⟨_, _, by rw [← HT.out.1]; exact h4⟩, ?_⟩
    exact (((k1.mono (fun _ _ x => x.elim)).trans k2 (fun _ _ x => x)).trans k3 (fun _ _ x => x)).trans k4 (fun _ _ x => x)
  · clear hq hpos
    go_enter Try.func65, Try.ntmps65
    go_wp2_with fail
    refine HC.mono ?_
    rintro e w1 ⟨rfl, k1⟩
    have hx1 := hx.ok k1
    have d3 : w1.cell? ⟨g, 3, none⟩ = some (.int .i64 wait) := hx1.st.cell 3
    go_wp2_with fail
    refine (drop_any g ao cap B p next wait n _ hx1 (by omega)).mono ?_
    rintro e w4 ⟨rfl, h4, k4⟩
    go_wp2_with fail
    go_ret
    exact ⟨rfl, ⟨_, _, h4⟩, (k1.mono (fun _ _ x => x.elim)).trans k4 (fun _ _ x => x)⟩

end Go.Proofs.Ythpocbpleffdpaa.Bz
