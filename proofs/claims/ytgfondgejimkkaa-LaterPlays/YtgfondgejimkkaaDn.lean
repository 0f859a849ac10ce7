/- later: what Drain goes over, as an iterator. -/
import Derived.Test.YtgfondgejimkkaaVs
import Derived.Test.YtgfondgejimkkaaFm
namespace Go.Proofs.Ytgfondgejimkkaa
open Go.RowKit Go.Shelf
attribute [local go_sem] Oper.semAt_some
set_option linter.unusedVariables false
set_option linter.unusedSimpArgs false
/-- What is left behind some that were told. -/
def stt (R pre : List Rn) : List Rn := pre.foldl lss R
theorem stt_snoc (R pre : List Rn) (x : Rn) : stt R (pre ++ [x]) = lss (stt R pre) x := by simp [stt]
theorem Lw.bytes {Q : Nat} {R : List Rn} {F : Nat → Prop} {w : World} (h : Lw Q R F w) : w.cell? ⟨Q, 3, none⟩ = some (.int .i64 (sz R)) := by
  obtain ⟨B, mb, me, c, v, L, h1, h2, h3⟩ := h
  rw [← h2, sz_perm (srt_perm _)]
  exact h1.st.cell 3
theorem tkn_may {most : Int} {y : Rn} (hm : 1 ≤ most) (hy : Mayr y) : Mayr (tkn most y) := by
  unfold Mayr Rn.e at *
  unfold tkn
  dsimp only
  omega
/-- Each time it is less. -/
theorem nx_less {most : Int} {y : Rn} {tl : List Rn} (hm : 1 ≤ most) (hc : Can (y :: tl)) : sz (lss (y :: tl) (tkn most y)) = sz (y :: tl) - (tkn most y).n ∧ 1 ≤ (tkn most y).n := by
  have hy := hc.1 y (by simp)
  have ht := tkn_may hm hy
  have h1 := (lss_facts ht hc.1).2.2
  have h2 : ovl (y :: tl) (tkn most y) = (tkn most y).n := by
    rw [ovl_cons, ovl_none (fun z hz => ?_)]
    · unfold ov tkn Rn.e
      unfold Mayr Rn.e at hy
      dsimp only
      omega
    · have h3 := (List.pairwise_cons.1 hc.2).1 z hz
      unfold tkn Rn.e at *
      dsimp only
      omega
  rw [h2] at h1
  refine ⟨h1, ?_⟩
  unfold tkn
  unfold Mayr at hy
  dsimp only
  omega
def nb3 (Q : Nat) (w : World) : Nat := (intOf ((w.cell? ⟨Q, 3, none⟩).getD undef)).toNat
theorem Lw.nb {Q : Nat} {R : List Rn} {F : Nat → Prop} {w : World} (h : Lw Q R F w) : nb3 Q w = (sz R).toNat := by
  unfold nb3
  rw [h.bytes]
  rfl
/-- What a round of Drain stands on. -/
structure Di (J : List Rn → (Nat → Prop) → World → Prop) (Q b1 b2 : Nat) (R : List Rn) (most : Int) (pre : List Rn) (O F : Nat → Prop) (w : World) : Prop where
  j : J pre O w
  l : Lw Q (stt R pre) F w
  s1 : St 30 w b1 #[.pointer (some ⟨Q, 0, none⟩)]
  s2 : St 2 w b2 #[.int .i64 most]
  n1 : ¬ F b1
  n2 : ¬ F b2
  o1 : O b1
  o2 : O b2
  of : ∀ i, F i → O i
/-- A turn of it: Next, and a new block; then the body. -/
theorem Di.turn {J : List Rn → (Nat → Prop) → World → Prop} {Q b1 b2 : Nat} {R : List Rn} {most : Int} {pre : List Rn} {O F F2 : Nat → Prop} {wr w1 w2 w3 : World} {x : Rn} (h : Di J Q b1 b2 R most pre O F wr) (k1 : Kp F wr w1) (l1 : Lw Q (lss (stt R pre) x) F2 w1) (f1 : ∀ i, F2 i → F i ∨ wr.heap.size ≤ i) (k2 : Kp (fun _ => False) w1 w2)
    (k3 : Kp (fun i => ¬ ((O i ∨ (wr.heap.size ≤ i ∧ i < w1.heap.size)) ∨ (w1.heap.size ≤ i ∧ i < w2.heap.size))) w2 w3) :
    Lw Q (stt R (pre ++ [x])) F2 w3 ∧ St 30 w3 b1 #[.pointer (some ⟨Q, 0, none⟩)] ∧ St 2 w3 b2 #[.int .i64 most] ∧ ¬ F2 b1 ∧ ¬ F2 b2 ∧ ((O b1 ∨ (wr.heap.size ≤ b1 ∧ b1 < w1.heap.size)) ∨ (w1.heap.size ≤ b1 ∧ b1 < w2.heap.size)) ∧ ((O b2 ∨ (wr.heap.size ≤ b2 ∧ b2 < w1.heap.size)) ∨ (w1.heap.size ≤ b2 ∧ b2 < w2.heap.size)) ∧ ∀ i, F2 i → ((O i ∨ (wr.heap.size ≤ i ∧ i < w1.heap.size)) ∨ (w1.heap.size ≤ i ∧ i < w2.heap.size)) := by
  have hf : ∀ i, F2 i → ((O i ∨ (wr.heap.size ≤ i ∧ i < w1.heap.size)) ∨ (w1.heap.size ≤ i ∧ i < w2.heap.size)) := fun i hi => by
    rcases f1 i hi with e | e
    · exact .inl (.inl (h.of i e))
    · exact .inl (.inr ⟨e, l1.lt hi⟩)
  have e1 := h.s1.lt
  have e2 := h.s2.lt
  refine ⟨?_, ((h.s1.kp k1 h.n1).kp k2 (fun x => x)).kp k3 (fun hn => hn (.inl (.inl h.o1))), ((h.s2.kp k1 h.n2).kp k2 (fun x => x)).kp k3 (fun hn => hn (.inl (.inl h.o2))), fun hb => ?_, fun hb => ?_, .inl (.inl h.o1), .inl (.inl h.o2), hf⟩
  · rw [stt_snoc]
    exact (l1.kp0 k2).kp k3 (fun i hi hn => hn (hf i hi))
  · rcases f1 _ hb with e | e
    · exact h.n1 e
    · omega
  · rcases f1 _ hb with e | e
    · exact h.n2 e
    · omega
set_option maxRecDepth 100000 in
set_option maxHeartbeats 8000000 in
theorem drain_seq (n : Nat) (hn : 1 ≤ n) (b1 b2 Q : Nat) (R : List Rn) (F : Nat → Prop) (most : Int) (w : World) (hm : 1 ≤ most) (hm2 : most ≤ 9223372036854775807) (l0 : Lw Q R F w) (s1 : St 30 w b1 #[.pointer (some ⟨Q, 0, none⟩)]) (s2 : St 2 w b2 #[.int .i64 most]) (n1 : ¬ F b1) (n2 : ¬ F b2) :
    SeqW Fence.wide n Try.prog 50 #[] #[.pointer (some ⟨b1, 0, none⟩), .pointer (some ⟨b2, 0, none⟩)] (fun x : Rn => #[.agg x.cs]) (fun xs W => stt R xs = [] ∧ ∃ F', Lw Q [] F' W) (fun pre W => ∃ F', Lw Q (stt R pre) F' W) (fun l => ∃ pre x y tl, l = pre ++ [x] ∧ stt R pre = y :: tl ∧ x = tkn most y) (fun i => F i ∨ i = b1 ∨ i = b2) w := by
  intro l J Jx W hW hA hAx hY h0
  have kW : Kp (fun _ => False) w W := Kp.of_below hW
  have D0 : Hid (Di J Q b1 b2 R most [] (fun i => F i ∨ i = b1 ∨ i = b2) F W) := ⟨h0, l0.kp0 kW, s1.kp kW (fun h => h), s2.kp kW (fun h => h), n1, n2, .inr (.inl rfl), .inr (.inr rfl), fun i hi => .inl hi⟩
  have HY := hid hY
  clear hW kW l0 s1 s2 n1 n2 h0 hY
  refine callsIn_of_wp Try.func50 rfl trivial ?_ rfl
  simp only [Try.ntmps50, List.size_toArray, List.length_cons, List.length_nil, Nat.reduceAdd, Nat.reduceSub, Array.replicate_succ, Array.replicate_zero, List.push_toArray, List.append_toArray, List.nil_append, List.cons_append]
  gi_wp2_with fail
  gi_loopw [] (fun wr => ∃ (pre : List Rn) (O F' : Nat → Prop), Hid (Di J Q b1 b2 R most pre O F' wr)) (fun wr => nb3 Q wr)
  case atStart => exact ⟨[], _, F, D0⟩
  case round =>
    clear D0
    obtain ⟨pre, O, F', HD⟩ := hrel
    have c1 : wr.cell? ⟨b1, 0, none⟩ = some (.pointer (some ⟨Q, 0, none⟩)) := HD.out.s1.cell 0
    have c2 : wr.cell? ⟨b2, 0, none⟩ = some (.int .i64 most) := HD.out.s2.cell 0
    have HNX := hid (next_w HD.out.l most hm2)
    gi_wp2_with fail
    refine ⟨trivial, (callsIn_wide.2 HNX.out).mono ?_⟩
    rintro e w1 (⟨h1, _⟩ | ⟨_, hR, rfl, k1⟩ | ⟨_, y, tl, hR, rfl, k1, F2, l1, f1⟩)
    · omega
    · have HRR := hid hR
      have J1 := hid (hA _ O wr w1 HD.out.j (k1.mono (fun _ _ x => x.elim)))
      have L1 : Hid (Lw Q [] F' w1) := by
        have := HD.out.l.kp0 k1
        rw [hR] at this
        exact this
      clear hR k1 HNX c1 c2
      gi_wp2_with (first | (refine wpListIn_store_r (by rfl) (.tmp 4) (.tmp 10) rfl w1.heap.size rfl (e := zRn) (e' := zRn) rfl (Rn.B.new w1 zRn) ?_; intro w2 b2' j2; have K2 : Hid (Kp (fun _ => False) w1 w2) := (((Kp.refl (fun _ => False) w1).alloc _).trans j2 (fun i h1 h2 => by omega)); clear b2' j2))
      rename_i hk _ _ _ _
      refine ⟨fun f hf => (by cases hf), hk _ _ ?_⟩
      clear hk
      have J2 := hid (hA _ _ w1 w2 J1.out (K2.out.mono (fun _ _ x => x.elim)))
      gi_wp2_with fail
      refine bodyPost_ret (results_none rfl _ _ _) rfl ?_
      exact ⟨⟨_, rfl⟩, .inl ⟨_, _, ⟨HRR.out, F', L1.out.kp0 K2.out⟩, J2.out⟩⟩
    · have HL1 := hid l1
      have HF1 := hid f1
      have HK1 := hid k1
      have HRR := hid hR
      have J1 := hid (hA _ O wr w1 HD.out.j (k1.mono (fun i _ x => HD.out.of i x)))
      obtain ⟨xx, hxx⟩ : ∃ xx, xx = tkn most y := ⟨_, rfl⟩
      rw [← hxx] at HL1 ⊢
      have HXX := hid hxx
      clear hR k1 l1 f1 HNX c1 c2 hxx
      gi_wp2_with (first | (refine wpListIn_store_r (by rfl) (.tmp 4) (.tmp 10) rfl w1.heap.size rfl (e := zRn) (e' := xx) rfl (Rn.B.new w1 zRn) ?_; intro w2 s2' j2; have k2 : Kp (fun _ => False) w1 w2 := (((Kp.refl (fun _ => False) w1).alloc _).trans j2 (fun i h1 h2 => by omega)); have E2 := hid s2'; have K2 := hid k2; have J2 := hid (hA _ _ w1 w2 J1.out (k2.mono (fun _ _ x => x.elim))); obtain ⟨fn, tmps, assign, body, hy, hR⟩ := HY.out _ _ xx w2 J2.out ⟨pre, xx, y, tl, rfl, HRR.out, HXX.out⟩; have HR := hid hR; clear hR k2 j2 s2') | (refine wpListIn_load_r (by rfl) (.tmp 4) rfl w1.heap.size rfl E2.out ?_))
      refine HR.out.mono ?_
      rintro ee w3 (⟨rfl, hJ3, hk3⟩ | ⟨rfl, hJx3, hk3⟩)
      · have T3 := hid (HD.out.turn HK1.out HL1.out HF1.out K2.out hk3)
        have HJ3 := hid hJ3
        have HME : Hid (nb3 Q w3 < nb3 Q wr) := by
          show _ < _
          rw [T3.out.1.nb, HD.out.l.nb, stt_snoc]
          have hc := HD.out.l.can
          rw [HRR.out] at hc ⊢
          have h5 := nx_less hm hc
          rw [← HXX.out] at h5
          have h6 := sz_pos (L := lss (y :: tl) xx) (fun z hz => by
            have := HL1.out.can
            rw [HRR.out] at this
            exact this.1 z hz)
          omega
        clear hk3 hJ3
        gi_wp2
        go_roundw
        case rel => exact ⟨pre ++ [xx], _, F2, ⟨HJ3.out, T3.out.1, T3.out.2.1, T3.out.2.2.1, T3.out.2.2.2.1, T3.out.2.2.2.2.1, T3.out.2.2.2.2.2.1, T3.out.2.2.2.2.2.2.1, T3.out.2.2.2.2.2.2.2⟩⟩
        case measure => exact HME.out
      · have T3 := hid (HD.out.turn HK1.out HL1.out HF1.out K2.out hk3)
        gi_wp2
        refine bodyPost_ret (results_none rfl _ _ _) rfl ?_
        exact ⟨⟨_, rfl⟩, .inr ⟨_, _, ⟨F2, T3.out.1⟩, hJx3⟩⟩
end Go.Proofs.Ytgfondgejimkkaa
