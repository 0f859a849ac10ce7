/- Contracts of the writer's calls Len, Bytes, NewWriter, Align, Raw, Copy. -/
import Derived.Test.YtfeokjbmobmabaaWrF
namespace Go.Proofs.Ytfeokjbmobmabaa
open Go.RowKit

/-- All blocks that were there are as they were. -/
abbrev Ok' (w w' : World) : Prop := Kp (fun _ => False) w w'
theorem Wr.kp {F : Nat → Prop} {w w' : World} {g : Nat} {sl : Value} {N v : Nat} (h : Wr w g sl N v) (k : Kp F w w') (hg : ¬ F g) (hb : ∀ b, sl.ownBlock = some b → ¬ F b) : Wr w' g sl N v :=
  ⟨h.1, h.2.1.kp k hg, h.2.2.1.kp k hb, h.2.2.2⟩
theorem Wr.ok {w w' : World} {g : Nat} {sl : Value} {N v : Nat} (h : Wr w g sl N v) (k : Ok' w w') : Wr w' g sl N v := h.kp k (fun x => x) (fun _ _ x => x)
theorem drewN_kp (F : Nat → Prop) (w : World) (n : Nat) : Kp F w (w.drewN n) := by
  induction n generalizing w with
  | zero => exact Kp.refl _ _
  | succ n ih => exact (ih w).drew

set_option maxHeartbeats 400000 in
theorem neww_any (w : World) : Calls Try.prog 9 #[] w fun e w' => e = .returned (.pointer (some ⟨w.heap.size, 0, none⟩)) ∧ Wr w' w.heap.size (.slice none 0 0) 0 0 ∧ Ok' w w' := by
  go_enter Try.func9, Try.ntmps9
  go_wp2
  go_ret
  refine ⟨rfl, ⟨by decide, ?_, .inl ⟨rfl, rfl⟩, by simp [Value.ownBlock]⟩, (Kp.refl _ w).alloc _⟩
  exact heap_alloc_new w _

set_option maxHeartbeats 400000 in
theorem len_any (g : Nat) (sl : Value) (N v : Nat) (w : World) (hN : N ≤ 1000000000) (h : Wr w g sl N v) :
    Calls Try.prog 12 #[.pointer (some ⟨g, 0, none⟩)] w fun e w' => e = .returned (.int .i64 N) ∧ Ok' w w' := by
  obtain ⟨hv, hs, ho, hb⟩ := h
  obtain ⟨ao, cap, rfl, hnil⟩ := ho.slice
  rw [dig_length] at hs ho hb
  obtain ⟨k, hk⟩ : ∃ k, k = N / 8 := ⟨_, rfl⟩
  obtain ⟨m, hm⟩ : ∃ m, m = N - 8 * (N / 8) := ⟨_, rfl⟩
  rw [← hm, ← hk] at hs
  have c0 : w.cell? ⟨g, 0, none⟩ = some (.slice ao k cap) := hs.cell 0
  have c2 : w.cell? ⟨g, 2, none⟩ = some (.int .i64 m) := hs.cell 2
  have hNk : N = 8 * k + m := by omega
  have a1 : IntKind.i64.wrap (8 * (k : Int)) = 8 * (k : Int) := by rw [IntKind.wrap_i64]; omega
  have a2 : IntKind.i64.wrap (8 * (k : Int) + (m : Int)) = (N : Int) := by rw [IntKind.wrap_i64]; omega
  clear hk hm hnil hs ho hb hNk
  go_enter Try.func12, Try.ntmps12
  go_wp2
  go_quiet (fail)
  go_wp2
  go_ret
  exact ⟨rfl, drewN_kp _ _ _⟩
set_option maxHeartbeats 400000 in
theorem len_nil (w : World) : Calls Try.prog 12 #[.pointer none] w fun e w' => e = .returned (.int .i64 0) ∧ w = w' := by
  go_enter Try.func12, Try.ntmps12
  go_wp2
  go_ret
  exact ⟨rfl, rfl⟩

theorem bytes_even (v k : Nat) : splice (List.replicate k (0 : Int)) 0 (dig 256 v k) = dig 256 v k := by
  simp [splice, dig_length]
theorem bytes_odd (v k : Nat) (z : Int) (hz : z = ((v / 256 ^ k % 256 : Nat) : Int)) : (splice (List.replicate (k + 1) (0 : Int)) 0 (dig 256 v k)).set k z = dig 256 v (k + 1) := by
  rw [dig_snoc, hz]
  simp only [splice, List.take_zero, List.nil_append, dig_length, Nat.zero_add, List.drop_replicate]
  rw [List.set_append_right _ _ (by rw [dig_length]; omega), dig_length, Nat.sub_self, show k + 1 - k = 1 by omega]
  rfl

theorem cell_some {t : TypeId} {w : World} {g : Nat} {L : List Int} (h : Rw t w g L) (i : Nat) (hi : i < L.length) : ∃ z, w.cell? ⟨g, i, none⟩ = some z := ⟨_, h.cell i hi⟩
theorem wpList_make_rz {w : World} {ops : Array Oper} {rest : List Oper} {o : Oper} {a : Act} {Q : Exit → Act → World → Prop} (hgd : o.guard = none) (l c : Operand) (ho : o.op = Op.makeSlice 26 l c)
    (n : Nat) (z : Int) (hz : z = (n : Int)) (hl : a.eval l = .int .i64 z) (hc : a.eval c = .int .i64 z) (hn : n ≤ 140737488355328)
    (h : ∀ w', Rw 5 w' w.heap.size (List.replicate n 0) → Below w.heap.size w w' → wpList Try.prog ops Q rest (a.put o.dst (.slice (some ⟨w.heap.size, 0, none⟩) n n)) w') : wpList Try.prog ops Q (o :: rest) a w := by
  subst hz
  exact wpList_make_rw hgd l c ho n hl hc hn h

theorem OwnI.src {w : World} {base : Nat} {ao : Option Addr} {n cap : Nat} {xs : List Int} (h : OwnI w base (.slice ao n cap) xs) : Src w ao xs ∧ n = xs.length := by
  obtain ⟨ao2, cap2, e, hsrc⟩ := h.str
  injection e with e1 e2 e3
  subst e1
  exact ⟨hsrc, e2⟩
set_option maxHeartbeats 1000000 in
theorem bytes_any (g : Nat) (sl : Value) (N v : Nat) (w : World) (hN : N ≤ 1000000000) (h : Wr w g sl N v) :
    Calls Try.prog 14 #[.pointer (some ⟨g, 0, none⟩)] w fun e w' => ∃ G, e = .returned (.slice (some ⟨G, 0, none⟩) ((N + 7) / 8) ((N + 7) / 8)) ∧ w.heap.size ≤ G ∧ Rw 5 w' G (dig 256 v ((N + 7) / 8)) ∧ Ok' w w' := by
  obtain ⟨B, hB⟩ : ∃ B, B = (N + 7) / 8 := ⟨_, rfl⟩
  obtain ⟨k, hk⟩ : ∃ k, k = N / 8 := ⟨_, rfl⟩
  have hq : (((N : Int) + 7) / 8) = (B : Int) := by omega
  have hBl : B ≤ 140737488355328 := by omega
  rw [← hB]
  have HB : Hid (B = (N + 7) / 8 ∧ k = N / 8) := ⟨hB, hk⟩
  clear hB hk
  have hpar : k = B ∨ k + 1 = B := by have := HB.out; omega
  have hv := h.1
  obtain ⟨ao, cap, rfl, hnil⟩ := h.2.2.1.slice
  rw [dig_length] at h
  have h' := h
  obtain ⟨y, hy⟩ : ∃ y, y = v / 256 ^ k := ⟨_, rfl⟩
  obtain ⟨m, hm⟩ : ∃ m, m = N - 8 * k := ⟨_, rfl⟩
  have HW : Hid (∀ w2, Ok' w w2 → St 29 w2 g #[.slice ao k cap, .int .u64 y, .int .i64 m] ∧ Src w2 ao (dig 256 v k)) := by
    intro w2 k2
    have h2 := (h.ok k2).2
    rw [← HB.out.2] at h2
    refine ⟨by rw [hy, hm]; exact h2.1, ?_⟩
    exact h2.2.1.src.1
  have HM : Hid ((dig 256 v k).length = Nat.min k B) := by
    show _ = _
    rw [dig_length]
    exact (Nat.min_eq_left (by omega)).symm
  have HFit : Hid (0 + (dig 256 v k).length ≤ (List.replicate B (0 : Int)).length) := by show _ ≤ _; rw [dig_length]; simp; omega
  have HL : Hid ((dig 256 v k).length = k) := dig_length _ _ _
  rw [← HB.out.2] at h
  have HY : Hid (y = v / 256 ^ k) := hy
  clear hy hm hnil
  rcases hpar with rfl | rfl
  · go_enter Try.func14, Try.ntmps14
    go_wp2_with (first | (go_at_call 12; refine (len_any g _ N v _ hN h').mono ?_; rintro e w1 ⟨rfl, k1⟩) | (at_make; refine wpList_make_rz rfl (.tmp 10) (.tmp 10) rfl k _ hq rfl rfl hBl ?_; intro w2 r2 b2; have k2 : Ok' w w2 := k1.trans (Kp.of_below (F := fun _ => False) b2) (fun _ _ x => x); obtain ⟨s2, src2⟩ := HW.out w2 k2; have c0 : w2.cell? ⟨g, 0, none⟩ = some (.slice ao k cap) := s2.cell 0; have c1 : w2.cell? ⟨g, 1, none⟩ = some (.int .u64 y) := s2.cell 1; have HP := src2.hp) | (refine wpList_copy_rw rfl (.tmp 12) (.tmp 16) 26 26 rfl 5 Try.underlying26 info5 _ _ _ _ _ _ rfl rfl w1.heap.size 0 5 _ (dig 256 v k) r2 HM.out (fun h => ⟨rfl, HP.out h⟩) HFit.out ?_; intro w3 r3 g3; rw [HL.out]; have k3 : Ok' w w3 := k2.grown g3 (by have := k1.size; intro i hi e; cases e; omega); obtain ⟨s3, src3⟩ := HW.out w3 k3; have d1 : w3.cell? ⟨g, 1, none⟩ = some (.int .u64 y) := s3.cell 1))
    go_ret
    rw [bytes_even] at r3
    exact ⟨_, rfl, k1.size, r3, k3⟩
  · have hq2 : (((N : Int) + 7) / 8) = (k : Int) + 1 := by omega
    clear hq
    have HZ : Hid (IntKind.u8.wrap (y : Int) = ((v / 256 ^ k % 256 : Nat) : Int)) := by show _ = _; rw [IntKind.wrap_u8', HY.out]; omega
    go_enter Try.func14, Try.ntmps14
    go_wp2_with (first | (go_at_call 12; refine (len_any g _ N v _ hN h').mono ?_; rintro e w1 ⟨rfl, k1⟩) | (at_make; refine wpList_make_rz rfl (.tmp 10) (.tmp 10) rfl (k + 1) _ (by omega) rfl rfl hBl ?_; intro w2 r2 b2; have k2 : Ok' w w2 := k1.trans (Kp.of_below (F := fun _ => False) b2) (fun _ _ x => x); obtain ⟨s2, src2⟩ := HW.out w2 k2; have c0 : w2.cell? ⟨g, 0, none⟩ = some (.slice ao k cap) := s2.cell 0; have c1 : w2.cell? ⟨g, 1, none⟩ = some (.int .u64 y) := s2.cell 1; have HP := src2.hp) | (refine wpList_copy_rw rfl (.tmp 12) (.tmp 16) 26 26 rfl 5 Try.underlying26 info5 _ _ _ _ _ _ rfl rfl w1.heap.size 0 5 _ (dig 256 v k) r2 HM.out (fun h => ⟨rfl, HP.out h⟩) HFit.out ?_; intro w3 r3 g3; rw [HL.out]; have k3 : Ok' w w3 := k2.grown g3 (by have := k1.size; intro i hi e; cases e; omega); obtain ⟨s3, src3⟩ := HW.out w3 k3; have d1 : w3.cell? ⟨g, 1, none⟩ = some (.int .u64 y) := s3.cell 1; have f3 := r3.frozen k; obtain ⟨zz, hzz⟩ := cell_some r3 k (by simp [splice, dig_length])))
    go_ret
    have r4 := r3.set k (IntKind.u8.wrap (y : Int))
    rw [bytes_odd v k _ HZ.out] at r4
    exact ⟨_, rfl, k1.size, r4, k3.trans (kp_setCell w3 w1.heap.size k _ (fun i => i = w1.heap.size) rfl) (by have := k1.size; intro i hi e; omega)⟩
theorem bytes_nil (w : World) : Calls Try.prog 14 #[.pointer none] w fun e w' => e = .returned (.slice none 0 0) ∧ w = w' := by
  go_enter Try.func14, Try.ntmps14
  go_wp2
  go_ret
  exact ⟨rfl, rfl⟩

end Go.Proofs.Ytfeokjbmobmabaa
