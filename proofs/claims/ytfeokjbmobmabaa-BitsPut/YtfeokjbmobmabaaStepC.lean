/- Contracts of the statements' own step(): Align beside the reference's bits. -/
import Derived.Test.YtfeokjbmobmabaaStepB
namespace Go.Proofs.Ytfeokjbmobmabaa
open Go.RowKit

theorem Stp.before {w w0 wE : World} {g gl : Nat} {sl u : Value} {M : Nat} (h : Stp w0 wE g gl sl u M) (k : Ok' w w0) : Stp w wE g gl sl u M := by
  obtain ⟨sl', u', N', v', hw, hM, k1, f1, f2⟩ := h
  refine ⟨sl', u', N', v', hw, hM, (k.mono (fun _ _ x => x.elim)).trans k1 (fun _ _ x => x), fun b hb => ?_, fun b hb => ?_⟩
  · exact (f1 b hb).imp id (fun x => Nat.le_trans k.size x)
  · exact (f2 b hb).imp id (fun x => Nat.le_trans k.size x)
theorem dig_nought (v N M : Nat) (hv : v < 2 ^ N) (h : N ≤ M) : dig 2 v (M + 1) = [] ++ dig 2 v M ++ [0] := by
  rw [dig_snoc, Nat.div_eq_of_lt (Nat.lt_of_lt_of_le hv (Nat.pow_le_pow_right (by omega) h))]
  rfl
theorem kp_two {w w1 w2 : World} (o1 o2 : Obj) (b1 : Below w.heap.size (w.alloc o1) w1) (b2 : Below w.heap.size (w1.alloc o2) w2) : Ok' w w2 :=
  Kp.of_below ((((Below.refl w.heap.size w).alloc (Nat.le_refl _) _).trans b1).alloc (by have := b1.size; simp at this ⊢; omega) _ |>.trans b2)
set_option maxRecDepth 100000 in
set_option maxHeartbeats 4000000 in
theorem step_align (g gl : Nat) (sl u : Value) (N v : Nat) (n x : Int) (aB : Option Addr) (nB cB : Nat) (w : World) (h : WL w g gl sl u N v) (hN : N ≤ 1000000) :
    Calls Try.prog 11 #[.pointer (some ⟨g, 0, none⟩), .pointer (some ⟨gl, 0, none⟩), .agg #[.int .i64 3, .int .i64 n, .int .u64 x, .slice aB nB cB]] w fun e w' => e = .returned (.bool true) ∧ Stp w w' g gl sl u (N + 2400) := by
  have k0 : Ok' w (w.alloc (.cells #[.int .i64 3, .int .i64 n, .int .u64 x, .slice aB nB cB] 33)) := (Kp.refl _ w).alloc _
  have HW : Hid (WL (w.alloc (.cells #[.int .i64 3, .int .i64 n, .int .u64 x, .slice aB nB cB] 33)) g gl sl u N v) := h.ok k0
  have HK : Hid (Ok' w (w.alloc (.cells #[.int .i64 3, .int .i64 n, .int .u64 x, .slice aB nB cB] 33))) := k0
  have HN : Hid (N ≤ 1000000) := hN
  clear h k0 hN
  go_enter Try.func11, Try.ntmps11
  go_wp2_with fail
  generalize w.alloc (.cells #[.int .i64 3, .int .i64 n, .int .u64 x, .slice aB nB cB] 33) = w0 at HW HK ⊢
  go_loopg [] (8 * ((N + 7) / 8) - N) (fun r wr => ∃ N' u', N' + r = 8 * ((N + 7) / 8) ∧ N ≤ N' ∧ St 26 wr gl #[u'] ∧ OwnI wr 0 u' (dig 2 v N') ∧ Kp (fun i => i = gl) w0 wr ∧ ∀ b, u'.ownBlock = some b → u.ownBlock = some b ∨ w0.heap.size ≤ b)
  case atStart => exact ⟨N, u, by omega, Nat.le_refl _, HW.out.st, HW.out.own, Kp.refl _ _, fun _ e => .inl e⟩
  case round =>
    obtain ⟨N', u', hr, hle, hst, hown, hK, hfr⟩ := hrel
    obtain ⟨ao, cap, hu, hnil⟩ := hown.slice
    rw [dig_length] at hu
    subst hu
    have hN' : N' ≤ 1000010 := by have := HN.out; omega
    have c0 : wr.cell? ⟨gl, 0, none⟩ = some (.slice ao N' cap) := hst.cell 0
    have HR : Hid (N' + gk = 8 * ((N + 7) / 8) ∧ N ≤ N') := ⟨hr, hle⟩
    have H1 : Hid (St 26 wr gl #[.slice ao N' cap] ∧ OwnI wr 0 (.slice ao N' cap) (dig 2 v N') ∧ Kp (fun i => i = gl) w0 wr ∧ ∀ b, (Value.slice ao N' cap).ownBlock = some b → u.ownBlock = some b ∨ w0.heap.size ≤ b) := ⟨hst, hown, hK, hfr⟩
    have HNIL : Hid (ao = none → cap = 0) := hnil
    have hf := hst.frozen 0
    clear hst hown hK hfr hnil hr hle
    have hdm : ((N' : Int)).tmod 8 = ((N' % 8 : Nat) : Int) := by rw [Int.tmod_eq_emod_of_nonneg (by omega)]; omega
    by_cases h8 : N' % 8 = 0
    · rw [h8] at hdm
      go_wp2_with fail
      have hNN : 8 * ((N + 7) / 8) = N' := by have := HR.out; omega
      refine (align_any g sl N v wr (by have := HN.out; omega) (HW.out.wr.kp H1.out.2.2.1 HW.out.n1 (fun b hb e => HW.out.n2 (by rw [hb, e])))).mono ?_
      rintro e wE ⟨rfl, hp⟩
      rw [hNN] at hp
      have HP : Hid (Stp w wE g gl sl u (N + 2400)) := (stp_done2 HW.out H1.out.2.2.1 H1.out.1 H1.out.2.1 H1.out.2.2.2 hp (by have := HN.out; have := HR.out; omega)).before HK.out
      clear hp hNN
      go_wp2_with (go_at_call 16; refine (num_any _ _).mono ?_; rintro e w' ⟨rfl, rfl⟩)
      go_ret
      exact ⟨rfl, HP.out⟩
    · have hdm2 : ((((N' : Int)).tmod 8 : Int) == 0) = false := by rw [hdm]; simp; omega
      obtain ⟨xs, hxs⟩ : ∃ xs, xs = dig 2 v N' := ⟨_, rfl⟩
      have HX : Hid (xs.length = N') := by show _ = _; rw [hxs, dig_length]
      have HXS : Hid (dig 2 v (N' + 1) = [] ++ xs ++ [0]) := by show _ = _; rw [hxs]; exact dig_nought v N N' HW.out.wr.1 HR.out.2
      have T1 : Hid (([] : List Int).length + xs.length ≤ 140737488355328) := by show _ ≤ _; have := HX.out; simp; omega
      have T2 : Hid (([] ++ xs : List Int).length + ([0] : List Int).length ≤ 140737488355328) := by show _ ≤ _; have := HX.out; simp; omega
      have hsrc : Src (wr.alloc (.cells #[] 5)) ao xs := by rw [hxs]; exact (H1.out.2.1.alloc _).src.1
      have hglt : gl < wr.heap.size := H1.out.1.lt
      clear hxs hdm
      go_wp2_with (first | (at_builtin; refine wpList_append_i rfl (.tmp 94) (.tmp 97) rfl wr.heap.size (.slice (some ⟨wr.heap.size, 0, none⟩) 0 0) [] rfl (own_empty wr) _ _ _ xs rfl HX.out HNIL.out hsrc T1.out (by simp) ?_; intro v1 w1 o1 q1 n1 b1) | (at_builtin; refine wpList_append_i rfl (.tmp 98) (.tmp 99) rfl wr.heap.size v1 ([] ++ xs) rfl (o1.alloc _) _ _ _ [0] rfl rfl (fun e => by cases e) (row_src (tl := []) (Rw.new 5 w1 [0])) T2.out (by have := b1.size; simp at this ⊢; omega) ?_; intro v2 w2 o2 q2 n2 b2; obtain ⟨a4, m4, c4, rfl, HM4, hn4, sy4⟩ := ys_form o2; have k2 : Ok' wr w2 := kp_two _ _ b1 b2; have t2 := H1.out.1.kp k2 (fun x => x); have d2 : w2.cell? ⟨gl, 0, none⟩ = some (.slice ao N' cap) := t2.cell 0; have f2 : w2.frozen? ⟨gl, 0, none⟩ = false := t2.frozen 0; have HO : Hid (OwnI w2 wr.heap.size (.slice a4 m4 c4) ([] ++ xs ++ [0]) ∧ Ok' wr w2) := ⟨o2, k2⟩; clear hn4 sy4 o2 q2 n2 b2 k2))
      obtain ⟨kS, tS, oS⟩ := kp_store HO.out.2 H1.out.1 (.slice a4 m4 c4) HO.out.1 hglt
      go_roundg (gk - 1)
      case measure => have := HR.out; omega
      case rel =>
        refine ⟨N' + 1, .slice a4 m4 c4, by have := HR.out; omega, by have := HR.out; omega, tS, ?_, H1.out.2.2.1.trans kS (fun _ _ x => x), fun b hb => .inr ?_⟩
        · rw [HXS.out]; exact oS.mono (Nat.zero_le _)
        · exact Nat.le_trans H1.out.2.2.1.size (oS.lt b hb).1
end Go.Proofs.Ytfeokjbmobmabaa
