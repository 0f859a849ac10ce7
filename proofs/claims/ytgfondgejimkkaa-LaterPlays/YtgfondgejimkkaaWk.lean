/- later: works. -/
import Derived.Test.YtgfondgejimkkaaLw
namespace Go.Proofs.Ytgfondgejimkkaa
open Go.RowKit
set_option linter.unusedVariables false
set_option linter.unusedSimpArgs false
theorem bt_nil {p : Int} : Bt [] p ↔ False := ⟨fun h => Bt.nil h, fun h => h.elim⟩
theorem wk_tog1 : tog [⟨0, 10⟩, ⟨20, 5⟩] = [⟨0, 10⟩, ⟨20, 5⟩] := tog_is (by simp [Mayr, Rn.e]) ⟨by simp [Mayr, Rn.e], by simp [Rn.e]⟩ (fun p => Iff.rfl)
theorem wk_tog2 : tog ([⟨0, 10⟩, ⟨20, 5⟩] ++ [⟨10, 10⟩]) = [⟨0, 25⟩] := tog_is (by simp [Mayr, Rn.e]) ⟨by simp [Mayr, Rn.e], by simp⟩ (fun p => by simp [bt_cons, bt_nil, Inr, Rn.e]; omega)
theorem wk_lss : lss [⟨0, 25⟩] (tkn 4 ⟨0, 25⟩) = [⟨4, 21⟩] := by rfl
set_option maxRecDepth 100000 in
theorem nf56 (q : Nat) (w : World) : (binOp .eql 45 (.func (.func 56) #[] #[.pointer (some ⟨q, 0, none⟩)]) .nilFunc).run Try.prog w = .ok (.bool false) w := by rfl
set_option maxRecDepth 100000 in
theorem nf50 (q r : Nat) (w : World) : (binOp .eql 45 (.func (.func 50) #[] #[.pointer (some ⟨q, 0, none⟩), .pointer (some ⟨r, 0, none⟩)]) .nilFunc).run Try.prog w = .ok (.bool false) w := by rfl
theorem srcr_new2 (w : World) (x y : Rn) : Srcr (w.alloc (.cells #[.int .i64 x.a, .int .i64 x.n, .int .i64 y.a, .int .i64 y.n] 38)) (some ⟨w.heap.size, 0, none⟩) [x, y] := by
  intro _
  refine ⟨w.heap.size, 0, rfl, by simp, fun j u hu => ?_⟩
  have hst := St.new 38 w #[.int .i64 x.a, .int .i64 x.n, .int .i64 y.a, .int .i64 y.n]
  rw [Nat.zero_add]
  rw [show (w.alloc (.cells #[.int .i64 x.a, .int .i64 x.n, .int .i64 y.a, .int .i64 y.n] 38)).cell? ⟨w.heap.size, j, none⟩ = #[.int .i64 x.a, .int .i64 x.n, .int .i64 y.a, .int .i64 y.n][j]? from St.cell hst j]
  rw [← hu]
  simp [flr, Rn.cl]
theorem srcr_new1 (w : World) (x : Rn) : Srcr (w.alloc (.cells #[.int .i64 x.a, .int .i64 x.n] 38)) (some ⟨w.heap.size, 0, none⟩) [x] := by
  intro _
  refine ⟨w.heap.size, 0, rfl, by simp, fun j u hu => ?_⟩
  have hst := St.new 38 w #[.int .i64 x.a, .int .i64 x.n]
  rw [Nat.zero_add]
  rw [show (w.alloc (.cells #[.int .i64 x.a, .int .i64 x.n] 38)).cell? ⟨w.heap.size, j, none⟩ = #[.int .i64 x.a, .int .i64 x.n][j]? from St.cell hst j]
  rw [← hu]
  simp [flr, Rn.cl]
set_option maxRecDepth 100000 in
set_option maxHeartbeats 16000000 in
theorem works_any (w : World) : Calls Try.prog 8 #[] w fun e w' => e = .returned (.bool true) ∧ Kp (fun _ => False) w w' := by
  have HNU := hid num_any
  have HN : Hid (∀ U ao cap, ao ≠ none → Srcr U ao [⟨0, 10⟩, ⟨20, 5⟩] → Calls Try.prog 10 #[.slice ao 2 cap] U fun e w' => ∃ Q F, e = .returned (.tuple #[.pointer (some ⟨Q, 0, none⟩), .int .i64 0]) ∧ Lw Q [⟨0, 10⟩, ⟨20, 5⟩] F w' ∧ (∀ k, F k → U.heap.size ≤ k) ∧ Kp (fun _ => False) U w') := fun U ao cap hz hs => (new_w U ao 2 cap [⟨0, 10⟩, ⟨20, 5⟩] rfl (by omega) (by simp [Rn.i6]) (fun e => absurd e hz) hs).mono (by
    rintro e w' ⟨k, h⟩
    rw [wk_tog1] at h
    rcases h with ⟨⟨x, hx, h1⟩, _⟩ | ⟨_, h2, _⟩ | ⟨_, _, Q, F, h3, h4, h5⟩
    · simp at hx
      rcases hx with rfl | rfl <;> exact absurd h1 (by simp [Mayr, Rn.e])
    · simp at h2
    · exact ⟨Q, F, h3, h4, h5, k⟩)
  go_enter Try.func8, Try.ntmps8
  go_wp2_with fail
  refine (HN.out _ _ _ (by simp) (srcr_new2 w ⟨0, 10⟩ ⟨20, 5⟩)).mono ?_
  rintro e w1 ⟨Q, F, rfl, l1, f1, k1⟩
  have L1 := hid l1
  have K1 : Hid (Kp (fun _ => False) w w1) := ((Kp.refl (fun _ => False) w).alloc _).trans k1 (fun _ _ h => h)
  have F1 : Hid (∀ k, F k → w.heap.size ≤ k) := fun k hk => by have := f1 k hk; rw [World.size_alloc] at this; omega
  clear l1 f1 k1 HN
  go_wp2_with (first | (go_at_call 11; refine (HNU.out _ _).mono ?_; rintro e1 w9 ⟨rfl, rfl⟩))
  refine (all_w L1.out).mono ?_
  rintro e w2 ⟨p2, ao2, cap2, rfl, _, _, _, _, k2⟩
  have L2 := hid (L1.out.kp0 k2)
  have K2 : Hid (Kp (fun _ => False) w w2) := K1.out.trans k2 (fun _ _ h => h)
  clear L1 K1 k2
  have h56 := nf56 p2
  have h50 := nf50 w2.heap.size (w2.heap.size + 1)
  go_wp2_with fail
  have hdr := drain_val w2 Q 1
  unfold ptr at hdr
  refine hdr.mono ?_
  rintro e w3 ⟨rfl, rfl⟩
  clear hdr h56
  have k3 : Kp (fun _ => False) w2 ((w2.alloc (.cells #[.pointer (some ⟨Q, 0, none⟩)] 30)).alloc (.cells #[.int .i64 1] 2)) := ((Kp.refl _ _).alloc _).alloc _
  have L3 := hid (L2.out.kp0 k3)
  have K3 : Hid (Kp (fun _ => False) w ((w2.alloc (.cells #[.pointer (some ⟨Q, 0, none⟩)] 30)).alloc (.cells #[.int .i64 1] 2))) := K2.out.trans k3 (fun _ _ h => h)
  clear L2 K2 k3
  generalize (w2.alloc (.cells #[.pointer (some ⟨Q, 0, none⟩)] 30)).alloc (.cells #[.int .i64 1] 2) = w3 at *
  go_wp2_with fail
  refine (put_w (L3.out.kp0 ((Kp.refl (fun _ => False) w3).alloc _)) _ 1 _ [⟨10, 10⟩] rfl (by omega) (by simp [Rn.i6]) (by simp) (srcr_new1 w3 ⟨10, 10⟩)).mono ?_
  rintro e w4 h4
  have k3 : Kp (fun _ => False) w3 (w3.alloc (.cells #[.int .i64 10, .int .i64 10] 38)) := (Kp.refl _ _).alloc _
  rcases h4 with ⟨⟨x, hx, h1⟩, _⟩ | ⟨_, h2, _⟩ | ⟨_, _, rfl, g4, F4, l4, f4⟩
  · simp at hx
    subst hx
    exact absurd h1 (by simp [Mayr, Rn.e])
  · rw [wk_tog2] at h2
    simp at h2
  rw [wk_tog2] at l4 ⊢
  rw [show sz [⟨0, 25⟩] - sz [⟨0, 10⟩, ⟨20, 5⟩] = 10 from rfl]
  have L4 := hid l4
  have hF := L3.out
  have K4 : Hid (Kp (fun _ => False) w w4) := (K3.out.trans k3 (fun _ _ h => h)).trans g4 (fun i hi hf => by have := F1.out i hf; omega)
  have F4' : Hid (∀ k, F4 k → w.heap.size ≤ k) := fun k hk => by
    rcases f4 k hk with h | h
    · exact F1.out k h
    · rw [World.size_alloc] at h
      have := K3.out.size
      omega
  clear g4 l4 f4 k3 hF L3 K3 F1 h50
  go_wp2_with fail
  refine (next_w L4.out 4 (by omega)).mono ?_
  rintro e w5 h5
  rcases h5 with ⟨h1, _⟩ | ⟨_, h2, _⟩ | ⟨_, x, tl, h2, rfl, g5, F5, l5, f5⟩
  · omega
  · cases h2
  cases h2
  rw [wk_lss] at l5
  have L5 := hid l5
  have K5 : Hid (Kp (fun _ => False) w w5) := K4.out.trans g5 (fun i hi hf => by have := F4'.out i hf; omega)
  clear g5 l5 f5 L4 K4 F4'
  go_wp2_with (first | (go_at_call 16; refine (size_w (L5.out.kp0 K6.out)).mono ?_) | (refine wpList_store_r rfl _ _ rfl _ rfl (e := zRn) (e' := ⟨0, 4⟩) rfl (Rn.B.new w5 zRn) ?_; intro w6 s6 k6; have K6 : Hid (Kp (fun _ => False) w5 w6) := ((Kp.refl (fun _ => False) w5).alloc _).trans k6 (fun i h1 h2 => by omega); have S6 := hid s6; clear s6 k6))
  rintro e w7 ⟨rfl, k7⟩
  have K7 : Hid (Kp (fun _ => False) w w7) := (K5.out.trans K6.out (fun _ _ h => h)).trans k7 (fun _ _ h => h)
  have S7 := hid (S6.out.kp k7 (fun h => h))
  rw [show sz [⟨4, 21⟩] = 21 from rfl]
  have y0 : w7.cell? ⟨w5.heap.size, 0, none⟩ = some (.int .i64 0) := S7.out.cell 0
  have y1 : w7.cell? ⟨w5.heap.size, 1, none⟩ = some (.int .i64 4) := S7.out.cell 1
  clear k7 L5 K5 K6 S6
  go_wp2_with (first | (go_at_call 11; refine (HNU.out _ _).mono ?_; rintro e1 w9 ⟨rfl, rfl⟩))
  go_ret
  exact ⟨rfl, K7.out⟩
end Go.Proofs.Ytgfondgejimkkaa
