/- RegionsApart: the body of the range over gaps. -/
import Derived.Test.YtopnfjgkgoeleaaZd
namespace Go.Proofs.Ytopnfjgkgoeleaa
open Go.RowKit Go.Shelf
attribute [local go_sem] Oper.semAt_some
set_option linter.unusedVariables false
set_option linter.unusedSimpArgs false
set_option maxRecDepth 100000 in
set_option maxHeartbeats 4000000 in
theorem bodyB_wp (l' : Nat) (w Y W : World) (bo : Option Addr) (n cb : Nat) (nn st : Int) (T6 T7 T8 B q q1 q2 T17 : Nat) (ao : Option Addr) (c : Nat) (L : List Rn) (tot tt ga gk : Int) (f : Nat → Value)
    (hY : LI w T6 B T7 T8 ao c L tot Y) (hk : Kp (fun i => i = T8) Y W) (s8 : St 2 W T8 #[.int .i64 tt]) (hg : Gap L (ga, gk)) (htt : 0 ≤ tt ∧ tt + gk ≤ 4611686018427387904) :
    cB5.wpIn (Fence.wide.inRound l') 18 Try.prog (postN (fun _ Z => Kp (fun i => i = T8) W Z ∧ St 2 Z T8 #[.int .i64 (tt + gk)])) { tmps := eBB bo n cb nn st T6 T7 T8 q q1 q2 T17 ga gk f, defers := [] } W := by
  obtain ⟨a1, a2, a3, a4⟩ := gap_asks hY.rg.srt hg
  obtain ⟨g1, g2, _⟩ := hg
  dsimp only at a1 a2 a3 a4 g1 g2
  have HLW : Hid (∀ U, Kp (fun _ => False) W U → LI w T6 B T7 T8 ao c L tt U) := fun U hU => (hY.set8 hk s8).same hU
  have HASK : Hid (∀ U, Kp (fun _ => False) W U → Calls Try.prog 20 #[.pointer (some ⟨B, 0, none⟩), .int .i64 ga, .int .i64 gk, .slice none 0 0] U fun e w' => e = .returned (.tuple #[.agg zRn.cs, .bool false, .int .i64 0]) ∧ Below U.heap.size U w') := fun U hU => by
    refine (ask_any U B ao none c 0 0 L [] ga gk (HLW.out U hU).rg (by unfold I6; omega) (by unfold I6; omega) rfl (by omega) (by omega) (Src.nil _ _ _)).mono fun e w' ⟨h1, h2⟩ => ⟨?_, h2⟩
    have hb : askB [] ga gk = true := by simp [askB, allK, lieb]; omega
    rw [h1]
    unfold askO askE
    rw [if_pos hb, if_pos hb, mks_nil, a1]
    rfl
  have HO1 : Hid (∀ U, Kp (fun _ => False) W U → Calls Try.prog 24 #[.pointer (some ⟨B, 0, none⟩), .int .i64 (ga - 1)] U fun e w' => e = .returned (.tuple #[.agg (orz (ovr L (ga - 1) 1 mz)).cs, .bool (ovr L (ga - 1) 1 mz).isSome]) ∧ Below U.heap.size U w') := fun U hU => of_any U B ao c L (ga - 1) (HLW.out U hU).rg (by unfold I6; omega)
  have HO2 : Hid (∀ U, Kp (fun _ => False) W U → Calls Try.prog 24 #[.pointer (some ⟨B, 0, none⟩), .int .i64 (ga + gk)] U fun e w' => e = .returned (.tuple #[.agg (orz (ovr L (ga + gk) 1 mz)).cs, .bool true]) ∧ Below U.heap.size U w') := fun U hU => by
    have := of_any U B ao c L (ga + gk) (HLW.out U hU).rg (by unfold I6; omega)
    unfold OfR at this
    rw [a3] at this
    exact this
  have HT : Hid (∀ U V : World, Kp (fun _ => False) W U → Below U.heap.size U V → Kp (fun _ => False) W V) := fun U V h b => h.trans (Kp.of_below b) (fun _ _ x => x)
  have HT2 : Hid (∀ U V : World, Kp (fun _ => False) W U → Kp (fun _ => False) U V → Kp (fun _ => False) W V) := fun U V h b => h.trans b (fun _ _ x => x)
  generalize orz (ovr L (ga - 1) 1 mz) = y1 at HO1
  generalize orz (ovr L (ga + gk) 1 mz) = y2 at HO2
  obtain ⟨ob, hob⟩ : ∃ ob, ob = (ovr L (ga - 1) 1 mz).isSome := ⟨_, rfl⟩
  rw [← hob] at HO1 a2
  have hw1 : IntKind.i64.wrap (ga - 1) = ga - 1 := by rw [IntKind.wrap_i64]; omega
  have hw2 : IntKind.i64.wrap (ga + gk) = ga + gk := by rw [IntKind.wrap_i64]; omega
  have hw3 : IntKind.i64.wrap (tt + gk) = tt + gk := by rw [IntKind.wrap_i64]; omega
  have d1 : decide (gk < 1) = false := by simp; omega
  have d1' : ¬ gk < 1 := by omega
  have HC7 : Hid (∀ U, Kp (fun _ => False) W U → U.cell? ⟨T7, 0, none⟩ = some (.pointer (some ⟨B, 0, none⟩)) ∧ U.cell? ⟨T8, 0, none⟩ = some (.int .i64 tt) ∧ U.frozen? ⟨T8, 0, none⟩ = false ∧ St 2 U T8 #[.int .i64 tt]) := fun U hU => ⟨(HLW.out U hU).s7.cell 0, (HLW.out U hU).s8.cell 0, (HLW.out U hU).s8.frozen 0, (HLW.out U hU).s8⟩
  have K0 : Hid (Kp (fun _ => False) W W) := Kp.refl _ _
  obtain ⟨c7, c8, f8, -⟩ := HC7.out W K0.out
  clear hk s8 hY a1 a3 hob HLW
  unfold cB5 eBB
  generalize hQ : postN _ = QQ
  gi_wp2_with fail
  refine ⟨trivial, ((callsIn_wide.2 (HASK.out W K0.out)).inRound l').mono ?_⟩
  rintro e w1 ⟨rfl, b1⟩
  have K1 := hid (HT.out _ _ K0.out b1)
  clear b1 c7 c8 f8
  gi_wp2_with (first | (refine wpListIn_store_r (by rfl) (.tmp 23) (.tmp 159) rfl w1.heap.size rfl (e := zRn) (e' := zRn) rfl (Rn.B.new w1 zRn) ?_; intro w2 b6 j6; have K2 := hid (HT2.out _ _ K1.out (((Kp.refl (fun _ => False) w1).alloc _).trans j6 (fun i h1 h2 => by omega))); clear b6 j6; obtain ⟨c7, c8, f8, -⟩ := HC7.out w2 K2.out))
  refine ⟨trivial, ((callsIn_wide.2 (HO1.out w2 K2.out)).inRound l').mono ?_⟩
  rintro e w3 ⟨rfl, b1⟩
  have K3 := hid (HT.out _ _ K2.out b1)
  clear b1 c7 c8 f8
  gi_wp2_with (first | (refine wpListIn_store_r (by rfl) (.tmp 26) (.tmp 167) rfl w3.heap.size rfl (e := zRn) (e' := y1) rfl (Rn.B.new w3 zRn) ?_; intro w4 b6 j6; have K4 := hid (HT2.out _ _ K3.out (((Kp.refl (fun _ => False) w3).alloc _).trans j6 (fun i h1 h2 => by omega))); clear b6 j6; obtain ⟨c7, c8, f8, -⟩ := HC7.out w4 K4.out))
  refine ⟨trivial, ((callsIn_wide.2 (HO2.out w4 K4.out)).inRound l').mono ?_⟩
  rintro e w5 ⟨rfl, b1⟩
  have K5 := hid (HT.out _ _ K4.out b1)
  clear b1 c7 c8 f8
  by_cases h0 : 0 < ga
  · obtain rfl := a2 h0
    have d0 : decide (0 < ga) = true := by simpa using h0
    gi_wp2_with (first | (refine wpListIn_store_r (by rfl) (.tmp 28) (.tmp 175) rfl w5.heap.size rfl (e := zRn) (e' := y2) rfl (Rn.B.new w5 zRn) ?_; intro w6 b6 j6; have K6 := hid (HT2.out _ _ K5.out (((Kp.refl (fun _ => False) w5).alloc _).trans j6 (fun i h1 h2 => by omega))); clear b6 j6; obtain ⟨c7, c8, f8, s8⟩ := HC7.out w6 K6.out; have S8 := hid s8; have h8 := s8.lt; clear s8))
    refine ⟨trivial, ((callsIn_wide.2 (num_any _ _)).inRound l').mono ?_⟩
    rintro e w7 ⟨rfl, rfl⟩
    gi_wp2_with fail
    subst hQ
    exact ⟨(K6.out.mono (fun _ _ x => x.elim)).trans (kp_setCell w6 T8 0 _ (fun i => i = T8) rfl) (fun _ _ x => x), St.set S8.out 0 _⟩
  · have d0 : decide (0 < ga) = false := by simpa using h0
    gi_wp2_with (first | (refine wpListIn_store_r (by rfl) (.tmp 28) (.tmp 175) rfl w5.heap.size rfl (e := zRn) (e' := y2) rfl (Rn.B.new w5 zRn) ?_; intro w6 b6 j6; have K6 := hid (HT2.out _ _ K5.out (((Kp.refl (fun _ => False) w5).alloc _).trans j6 (fun i h1 h2 => by omega))); clear b6 j6; obtain ⟨c7, c8, f8, s8⟩ := HC7.out w6 K6.out; have S8 := hid s8; have h8 := s8.lt; clear s8))
    refine ⟨trivial, ((callsIn_wide.2 (num_any _ _)).inRound l').mono ?_⟩
    rintro e w7 ⟨rfl, rfl⟩
    gi_wp2_with fail
    subst hQ
    exact ⟨(K6.out.mono (fun _ _ x => x.elim)).trans (kp_setCell w6 T8 0 _ (fun i => i = T8) rfl) (fun _ _ x => x), St.set S8.out 0 _⟩
end Go.Proofs.Ytopnfjgkgoeleaa
