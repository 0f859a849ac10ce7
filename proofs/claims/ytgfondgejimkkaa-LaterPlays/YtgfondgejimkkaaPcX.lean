/- later: all calls of a Later that is not there, or a zero one. -/
import Derived.Test.YtgfondgejimkkaaDn
import Derived.Test.YtgfondgejimkkaaPbX
import Derived.Test.YtgfondgejimkkaaPaX
import Derived.Test.YtgfondgejimkkaaLw
namespace Go.Proofs.Ytgfondgejimkkaa
open Go.RowKit Go.Shelf
attribute [local go_sem] Oper.semAt_some
set_option linter.unusedVariables false
set_option linter.unusedSimpArgs false
set_option maxRecDepth 100000 in
set_option maxHeartbeats 8000000 in
theorem drain_seq2 (n : Nat) (hn : 1 ≤ n) (b1 b2 Q : Nat) (R : List Rn) (F : Nat → Prop) (most : Int) (w : World) (hm : 1 ≤ most) (hm2 : most ≤ 9223372036854775807) (l0 : Lw Q R F w) (s1 : St 30 w b1 #[.pointer (some ⟨Q, 0, none⟩)]) (s2 : St 2 w b2 #[.int .i64 most]) (n1 : ¬ F b1) (n2 : ¬ F b2) :
    SeqW Fence.wide n Try.prog 50 #[] #[.pointer (some ⟨b1, 0, none⟩), .pointer (some ⟨b2, 0, none⟩)] (fun x : Rn => #[.agg x.cs]) (fun xs W => stt R xs = [] ∧ ∃ F', Lw Q [] F' W ∧ ∀ i, F' i → F i ∨ w.heap.size ≤ i) (fun pre W => ∃ F', Lw Q (stt R pre) F' W ∧ ∀ i, F' i → F i ∨ w.heap.size ≤ i) (fun l => ∃ pre x y tl, l = pre ++ [x] ∧ stt R pre = y :: tl ∧ x = tkn most y) (fun i => F i ∨ i = b1 ∨ i = b2) w := by
  intro l J Jx W hW hA hAx hY h0
  have kW : Kp (fun _ => False) w W := Kp.of_below hW
  have D0 : Hid (Di J Q b1 b2 R most [] (fun i => F i ∨ i = b1 ∨ i = b2) F W) := ⟨h0, l0.kp0 kW, s1.kp kW (fun h => h), s2.kp kW (fun h => h), n1, n2, .inr (.inl rfl), .inr (.inr rfl), fun i hi => .inl hi⟩
  have HY := hid hY
  have HWS : Hid (w.heap.size ≤ W.heap.size) := hW.size
  clear hW kW l0 s1 s2 n1 n2 h0 hY
  refine callsIn_of_wp Try.func50 rfl trivial ?_ rfl
  simp only [Try.ntmps50, List.size_toArray, List.length_cons, List.length_nil, Nat.reduceAdd, Nat.reduceSub, Array.replicate_succ, Array.replicate_zero, List.push_toArray, List.append_toArray, List.nil_append, List.cons_append]
  gi_wp2_with fail
  gi_loopw [] (fun wr => ∃ (pre : List Rn) (O F' : Nat → Prop), Hid (Di J Q b1 b2 R most pre O F' wr) ∧ Hid (∀ i, F' i → F i ∨ w.heap.size ≤ i) ∧ Hid (w.heap.size ≤ wr.heap.size)) (fun wr => nb3 Q wr)
  case atStart => exact ⟨[], _, F, D0, fun i hi => .inl hi, HWS⟩
  case round =>
    clear D0
    obtain ⟨pre, O, F', HD, HFB, HSB⟩ := hrel
    have c1 : wr.cell? ⟨b1, 0, none⟩ = some (.pointer (some ⟨Q, 0, none⟩)) := HD.out.s1.cell 0
    have c2 : wr.cell? ⟨b2, 0, none⟩ = some (.int .i64 most) := HD.out.s2.cell 0
    have HNX := hid (next_w HD.out.l most hm2)
    gi_wp2_with fail
    refine ⟨trivial, (callsIn_wide.2 HNX.out).mono ?_⟩
    rintro e w1 (⟨h1, _⟩ | ⟨_, hR, rfl, k1⟩ | ⟨_, y, tl, hR, rfl, k1, F2, l1, f1⟩)
    · omega
    · have HRR := hid hR
      have J1 := hid (hA _ O wr w1 HD.out.j (k1.mono (fun _ _ x => x.elim)))
      have L1 : Hid (Lw Q [] F' w1) := by
        have := HD.out.l.kp0 k1
        rw [hR] at this
        exact this
      clear hR k1 HNX c1 c2
      gi_wp2_with (first | (refine wpListIn_store_r (by rfl) (.tmp 4) (.tmp 10) rfl w1.heap.size rfl (e := zRn) (e' := zRn) rfl (Rn.B.new w1 zRn) ?_; intro w2 b2' j2; have K2 : Hid (Kp (fun _ => False) w1 w2) := (((Kp.refl (fun _ => False) w1).alloc _).trans j2 (fun i h1 h2 => by omega)); clear b2' j2))
      rename_i hk _ _ _ _
      refine ⟨fun f hf => (by cases hf), hk _ _ ?_⟩
      clear hk
      have J2 := hid (hA _ _ w1 w2 J1.out (K2.out.mono (fun _ _ x => x.elim)))
      gi_wp2_with fail
      refine bodyPost_ret (results_none rfl _ _ _) rfl ?_
      exact ⟨⟨_, rfl⟩, .inl ⟨_, _, ⟨HRR.out, F', L1.out.kp0 K2.out, HFB.out⟩, J2.out⟩⟩
    · have HL1 := hid l1
      have HF1 := hid f1
      have HK1 := hid k1
      have HRR := hid hR
      have J1 := hid (hA _ O wr w1 HD.out.j (k1.mono (fun i _ x => HD.out.of i x)))
      have HF2 : Hid (∀ i, F2 i → F i ∨ w.heap.size ≤ i) := fun i hi => by
        rcases HF1.out i hi with e | e
        · exact HFB.out i e
        · exact .inr (Nat.le_trans HSB.out e)
      have HS1 : Hid (w.heap.size ≤ w1.heap.size) := Nat.le_trans HSB.out k1.size
      obtain ⟨xx, hxx⟩ : ∃ xx, xx = tkn most y := ⟨_, rfl⟩
      rw [← hxx] at HL1 ⊢
      have HXX := hid hxx
      clear hR k1 l1 f1 HNX c1 c2 hxx
      gi_wp2_with (first | (refine wpListIn_store_r (by rfl) (.tmp 4) (.tmp 10) rfl w1.heap.size rfl (e := zRn) (e' := xx) rfl (Rn.B.new w1 zRn) ?_; intro w2 s2' j2; have k2 : Kp (fun _ => False) w1 w2 := (((Kp.refl (fun _ => False) w1).alloc _).trans j2 (fun i h1 h2 => by omega)); have E2 := hid s2'; have K2 := hid k2; have J2 := hid (hA _ _ w1 w2 J1.out (k2.mono (fun _ _ x => x.elim))); obtain ⟨fn, tmps, assign, body, hy, hR⟩ := HY.out _ _ xx w2 J2.out ⟨pre, xx, y, tl, rfl, HRR.out, HXX.out⟩; have HR := hid hR; clear hR k2 j2 s2') | (refine wpListIn_load_r (by rfl) (.tmp 4) rfl w1.heap.size rfl E2.out ?_))
      refine HR.out.mono ?_
      rintro ee w3 (⟨rfl, hJ3, hk3⟩ | ⟨rfl, hJx3, hk3⟩)
      · have T3 := hid (HD.out.turn HK1.out HL1.out HF1.out K2.out hk3)
        have HJ3 := hid hJ3
        have HS3 : Hid (w.heap.size ≤ w3.heap.size) := Nat.le_trans HS1.out (Nat.le_trans K2.out.size hk3.size)
        have HME : Hid (nb3 Q w3 < nb3 Q wr) := by
          show _ < _
          rw [T3.out.1.nb, HD.out.l.nb, stt_snoc]
          have hc := HD.out.l.can
          rw [HRR.out] at hc ⊢
          have h5 := nx_less hm hc
          rw [← HXX.out] at h5
          have h6 := sz_pos (L := lss (y :: tl) xx) (fun z hz => by
            have := HL1.out.can
            rw [HRR.out] at this
            exact this.1 z hz)
          omega
        clear hk3 hJ3
        gi_wp2
        go_roundw
        case rel => exact ⟨pre ++ [xx], _, F2, ⟨HJ3.out, T3.out.1, T3.out.2.1, T3.out.2.2.1, T3.out.2.2.2.1, T3.out.2.2.2.2.1, T3.out.2.2.2.2.2.1, T3.out.2.2.2.2.2.2.1, T3.out.2.2.2.2.2.2.2⟩, HF2.out, HS3.out⟩
        case measure => exact HME.out
      · have T3 := hid (HD.out.turn HK1.out HL1.out HF1.out K2.out hk3)
        gi_wp2
        refine bodyPost_ret (results_none rfl _ _ _) rfl ?_
        exact ⟨⟨_, rfl⟩, .inr ⟨_, _, ⟨F2, T3.out.1, HF2.out⟩, hJx3⟩⟩
set_option maxRecDepth 100000 in
set_option maxHeartbeats 8000000 in
theorem drain_stop1 (n : Nat) (hn : 1 ≤ n) (b1 b2 : Nat) (qv : Option Addr) (most : Int) (w : World) (hnx : ∀ U, Kp (fun _ => False) w U → Calls Try.prog 29 #[.pointer qv, .int .i64 most] U fun e w' => e = .returned (.tuple #[.agg zRn.cs, .int .i64 1]) ∧ Kp (fun _ => False) U w') (s1 : St 30 w b1 #[.pointer qv]) (s2 : St 2 w b2 #[.int .i64 most]) :
    SeqW Fence.wide n Try.prog 50 #[] #[.pointer (some ⟨b1, 0, none⟩), .pointer (some ⟨b2, 0, none⟩)] (fun x : Rn => #[.agg x.cs]) (fun xs W => xs = [] ∧ KR (fun i => i = b1 ∨ i = b2) w W) (fun pre W => False) (fun l => False) (fun i => i = b1 ∨ i = b2) w := by
  intro l J Jx W hW hA hAx hY h0
  have kW : Kp (fun _ => False) w W := Kp.of_below hW
  have KW := hid kW
  have S1 := hid s1
  have S2 := hid s2
  have J0 := hid h0
  have HNX := hid (hnx W kW)
  have c1 : W.cell? ⟨b1, 0, none⟩ = some (.pointer qv) := (s1.kp kW (fun h => h)).cell 0
  have c2 : W.cell? ⟨b2, 0, none⟩ = some (.int .i64 most) := (s2.kp kW (fun h => h)).cell 0
  clear hW kW s1 s2 h0 hY hnx
  refine callsIn_of_wp Try.func50 rfl trivial ?_ rfl
  simp only [Try.ntmps50, List.size_toArray, List.length_cons, List.length_nil, Nat.reduceAdd, Nat.reduceSub, Array.replicate_succ, Array.replicate_zero, List.push_toArray, List.append_toArray, List.nil_append, List.cons_append]
  gi_wp2_with fail
  gi_loopw [] (fun wr => wr = W) (fun wr => 0)
  case atStart => rfl
  case round =>
    subst hrel
    gi_wp2_with fail
    refine ⟨trivial, (callsIn_wide.2 HNX.out).mono ?_⟩
    rintro e w1 ⟨rfl, k1⟩
    have J1 := hid (hA _ _ _ w1 J0.out (k1.mono (fun _ _ x => x.elim)))
    have K1 := hid (KW.out.trans k1 (fun _ _ h => h))
    clear k1 HNX c1 c2
    gi_wp2_with (first | (refine wpListIn_store_r (by rfl) (.tmp 4) (.tmp 10) rfl w1.heap.size rfl (e := zRn) (e' := zRn) rfl (Rn.B.new w1 zRn) ?_; intro w2 b2' j2; have K2 : Hid (Kp (fun _ => False) w1 w2) := (((Kp.refl (fun _ => False) w1).alloc _).trans j2 (fun i h1 h2 => by omega)); clear b2' j2))
    rename_i hk _ _ _ _
    refine ⟨fun f hf => (by cases hf), hk _ _ ?_⟩
    clear hk
    have J2 := hid (hA _ _ w1 w2 J1.out (K2.out.mono (fun _ _ x => x.elim)))
    gi_wp2_with fail
    refine bodyPost_ret (results_none rfl _ _ _) rfl ?_
    refine ⟨⟨_, rfl⟩, .inl ⟨_, _, ⟨rfl, fun i hi => ?_⟩, J2.out⟩⟩
    have hlt : i < w.heap.size := by rcases hi with rfl | rfl; exact S1.out.lt; exact S2.out.lt
    exact (K1.out.trans K2.out (fun _ _ h => h)).block i hlt (fun h => h)
set_option maxRecDepth 100000 in
set_option maxHeartbeats 8000000 in
theorem drain_stop2 (n : Nat) (hn : 1 ≤ n) (b1 b2 : Nat) (qv : Option Addr) (most : Int) (w : World) (hnx : ∀ U, Kp (fun _ => False) w U → Calls Try.prog 29 #[.pointer qv, .int .i64 most] U fun e w' => e = .returned (.tuple #[.agg zRn.cs, .int .i64 2]) ∧ Kp (fun _ => False) U w') (s1 : St 30 w b1 #[.pointer qv]) (s2 : St 2 w b2 #[.int .i64 most]) :
    SeqW Fence.wide n Try.prog 50 #[] #[.pointer (some ⟨b1, 0, none⟩), .pointer (some ⟨b2, 0, none⟩)] (fun x : Rn => #[.agg x.cs]) (fun xs W => xs = [] ∧ KR (fun i => i = b1 ∨ i = b2) w W) (fun pre W => False) (fun l => False) (fun i => i = b1 ∨ i = b2) w := by
  intro l J Jx W hW hA hAx hY h0
  have kW : Kp (fun _ => False) w W := Kp.of_below hW
  have KW := hid kW
  have S1 := hid s1
  have S2 := hid s2
  have J0 := hid h0
  have HNX := hid (hnx W kW)
  have c1 : W.cell? ⟨b1, 0, none⟩ = some (.pointer qv) := (s1.kp kW (fun h => h)).cell 0
  have c2 : W.cell? ⟨b2, 0, none⟩ = some (.int .i64 most) := (s2.kp kW (fun h => h)).cell 0
  clear hW kW s1 s2 h0 hY hnx
  refine callsIn_of_wp Try.func50 rfl trivial ?_ rfl
  simp only [Try.ntmps50, List.size_toArray, List.length_cons, List.length_nil, Nat.reduceAdd, Nat.reduceSub, Array.replicate_succ, Array.replicate_zero, List.push_toArray, List.append_toArray, List.nil_append, List.cons_append]
  gi_wp2_with fail
  gi_loopw [] (fun wr => wr = W) (fun wr => 0)
  case atStart => rfl
  case round =>
    subst hrel
    gi_wp2_with fail
    refine ⟨trivial, (callsIn_wide.2 HNX.out).mono ?_⟩
    rintro e w1 ⟨rfl, k1⟩
    have J1 := hid (hA _ _ _ w1 J0.out (k1.mono (fun _ _ x => x.elim)))
    have K1 := hid (KW.out.trans k1 (fun _ _ h => h))
    clear k1 HNX c1 c2
    gi_wp2_with (first | (refine wpListIn_store_r (by rfl) (.tmp 4) (.tmp 10) rfl w1.heap.size rfl (e := zRn) (e' := zRn) rfl (Rn.B.new w1 zRn) ?_; intro w2 b2' j2; have K2 : Hid (Kp (fun _ => False) w1 w2) := (((Kp.refl (fun _ => False) w1).alloc _).trans j2 (fun i h1 h2 => by omega)); clear b2' j2))
    rename_i hk _ _ _ _
    refine ⟨fun f hf => (by cases hf), hk _ _ ?_⟩
    clear hk
    have J2 := hid (hA _ _ w1 w2 J1.out (K2.out.mono (fun _ _ x => x.elim)))
    gi_wp2_with fail
    refine bodyPost_ret (results_none rfl _ _ _) rfl ?_
    refine ⟨⟨_, rfl⟩, .inl ⟨_, _, ⟨rfl, fun i hi => ?_⟩, J2.out⟩⟩
    have hlt : i < w.heap.size := by rcases hi with rfl | rfl; exact S1.out.lt; exact S2.out.lt
    exact (K1.out.trans K2.out (fun _ _ h => h)).block i hlt (fun h => h)
theorem empty_seq (n : Nat) (hn : 1 ≤ n) (w : World) : SeqW Fence.wide n Try.prog 40 #[] #[] (fun x : Rn => #[.agg x.cs]) (fun xs W => xs = [] ∧ KR (fun _ => False) w W) (fun pre W => False) (fun l => False) (fun _ => False) w := by
  intro l J Jx W hW hA hAx hY h0
  refine callsIn_of_wp Try.func40 rfl trivial ?_ rfl
  simp only [Try.ntmps40, List.size_toArray, List.length_cons, List.length_nil, Nat.reduceAdd, Nat.reduceSub, Array.replicate_succ, Array.replicate_zero, List.push_toArray, List.append_toArray, List.nil_append, List.cons_append]
  gi_wp2_with fail
  refine bodyPost_end (results_none rfl _ _ _) rfl ?_
  first | exact ⟨⟨_, rfl⟩, .inl ⟨_, _, ⟨rfl, fun i hi => hi.elim⟩, h0⟩⟩ | exact ⟨⟨_, rfl⟩, [], ⟨rfl, fun i hi => hi.elim⟩, _, h0⟩
end Go.Proofs.Ytgfondgejimkkaa

namespace Go.Proofs.Ytgfondgejimkkaa
open Go.RowKit Go.Shelf
attribute [local go_sem] Oper.semAt_some
set_option linter.unusedVariables false
set_option linter.unusedSimpArgs false
set_option maxRecDepth 100000 in
set_option maxHeartbeats 8000000 in
/-- Of a going over that tells nothing. -/
theorem goes_none (w : World) (gf : Nat) (lb : Array Value) (O0 : Nat → Prop) (hO : ∀ i, O0 i → i < w.heap.size) (hsq : SeqW Fence.wide 19 Try.prog gf #[] lb (fun x : Rn => #[.agg x.cs]) (fun xs W => xs = [] ∧ KR O0 w W) (fun pre W => False) (fun l => False) O0 w)
    (heg : ∀ args w, (callFunc gf args).run Try.prog w = .ok (.enter gf args) w) (hnf : ∀ U : World, (binOp .eql 45 (.func (.func gf) #[] lb) .nilFunc).run Try.prog U = .ok (.bool false) U) :
    Calls Try.prog 18 #[.func (.func gf) #[] lb, .slice none 0 0, .int .i64 0] w fun e w' => e = .returned (.bool true) ∧ Kp (fun _ => False) w w' := by
  have LW := hid hO
  have SQ := hid hsq
  have HEG := hid heg
  have HSB : Hid (Srcr w none []) := Srcr.nil _ _
  have HBO : Hid (∀ b off, (none : Option Addr) = some ⟨b, off, none⟩ → 0 < ([] : List Rn).length → ¬ O0 b) := fun b off e => by cases e
  clear hO hsq heg
  refine (callsIn_wide (n := 20)).1 ?_
  refine callsIn_of_wp_marks Try.func18 rfl trivial ?_ rfl
  simp only [Try.ntmps18, List.size_toArray, List.length_cons, List.length_nil, Nat.reduceAdd, Nat.reduceSub, Array.replicate_succ, Array.replicate_zero, List.push_toArray, List.append_toArray, List.nil_append, List.cons_append]
  refine wpIn_wide.2 ?_
  generalize hQ : bodyPostM _ _ _ _ _ = QQ
  go_wp2_with fail
  have HX : Hid (St 22 ((((w.alloc (.cells #[.slice none 0 0] 22)).alloc (.cells #[.int .i64 0] 3)).alloc (.cells #[.bool false] 4)).alloc (.cells #[.int .i64 0] 3)) w.heap.size #[.slice none 0 0] ∧ St 3 ((((w.alloc (.cells #[.slice none 0 0] 22)).alloc (.cells #[.int .i64 0] 3)).alloc (.cells #[.bool false] 4)).alloc (.cells #[.int .i64 0] 3)) (w.heap.size + 1) #[.int .i64 0] ∧ St 4 ((((w.alloc (.cells #[.slice none 0 0] 22)).alloc (.cells #[.int .i64 0] 3)).alloc (.cells #[.bool false] 4)).alloc (.cells #[.int .i64 0] 3)) (w.heap.size + 2) #[.bool false] ∧ St 3 ((((w.alloc (.cells #[.slice none 0 0] 22)).alloc (.cells #[.int .i64 0] 3)).alloc (.cells #[.bool false] 4)).alloc (.cells #[.int .i64 0] 3)) (w.heap.size + 3) #[.int .i64 0] ∧ Below w.heap.size w ((((w.alloc (.cells #[.slice none 0 0] 22)).alloc (.cells #[.int .i64 0] 3)).alloc (.cells #[.bool false] 4)).alloc (.cells #[.int .i64 0] 3)) ∧ ((((w.alloc (.cells #[.slice none 0 0] 22)).alloc (.cells #[.int .i64 0] 3)).alloc (.cells #[.bool false] 4)).alloc (.cells #[.int .i64 0] 3)).heap.size = w.heap.size + 4) := by
    have al : ∀ (U : World) (o : Obj), Kp (fun _ => False) U (U.alloc o) := fun U o => (Kp.refl _ _).alloc _
    have n4 := St.new 22 w #[.slice none 0 0]
    have n5 := St.new 3 (w.alloc (.cells #[.slice none 0 0] 22)) #[.int .i64 0]
    have n6 := St.new 4 ((w.alloc (.cells #[.slice none 0 0] 22)).alloc (.cells #[.int .i64 0] 3)) #[.bool false]
    have n7 := St.new 3 (((w.alloc (.cells #[.slice none 0 0] 22)).alloc (.cells #[.int .i64 0] 3)).alloc (.cells #[.bool false] 4)) #[.int .i64 0]
    simp only [World.size_alloc, Nat.add_assoc, Nat.reduceAdd] at n5 n6 n7
    refine ⟨((n4.kp (al _ _) (fun h => h)).kp (al _ _) (fun h => h)).kp (al _ _) (fun h => h), (n5.kp (al _ _) (fun h => h)).kp (al _ _) (fun h => h), n6.kp (al _ _) (fun h => h), n7, ?_, by simp only [World.size_alloc]⟩
    exact ((((Kp.refl (fun _ => False) w).alloc _).alloc _).alloc _).alloc _ |>.below (Nat.le_refl _) (fun _ h => h.elim)
  simp only [World.size_alloc, Nat.add_assoc, Nat.reduceAdd]
  generalize (((w.alloc (.cells #[.slice none 0 0] 22)).alloc (.cells #[.int .i64 0] 3)).alloc (.cells #[.bool false] 4)).alloc (.cells #[.int .i64 0] 3) = X at *
  obtain ⟨T, hT⟩ : ∃ T, T = w.heap.size := ⟨_, rfl⟩
  rw [← hT] at HX ⊢
  obtain ⟨x4, x5, x6, x7, xb, xs⟩ := HX.out
  have GB : Gb w O0 T (T + 1) (T + 2) (T + 3) X.heap.size none [] := ⟨by omega, by omega, by omega, by omega, by omega, by omega, by omega, LW.out, fun b off e hp => ⟨by
    obtain ⟨g, of2, e2, hb, _⟩ := HSB.out hp
    rw [e] at e2
    cases e2
    exact hb, HBO.out b off e hp⟩⟩
  have HXB : Hid (Below w.heap.size w X) := by rw [hT] at xb; exact xb
  have HWX : Hid (w.heap.size < X.heap.size) := by show w.heap.size < X.heap.size; omega
  clear hT xs xb HX
  refine (wpIn_wide (n := 20)).1 ?_
  refine wpIn_rangeFunc_W rfl (by omega) (gf := gf) (pb := #[]) (lb := lb) rfl trivial HEG.out SQ.out ?hS ?hSx (fun i hi => by have := LW.out i hi; have := HWX.out; omega) HXB.out (fun _ => rfl)
    (Gi8 w O0 T (T + 1) (T + 2) (T + 3) X.heap.size none 0 [] 0) (fun c _ O Z => c = .ret ∧ Gx w O0 (T + 2) X.heap.size O Z) (Gi8.abw GB) (Gx.abw GB) ?hI2 ?hIx2 ?h0
    (fun x a' Z => ∃ T8, X.heap.size + 1 < T8 ∧ Rn.B Z T8 x ∧ ∃ f', a' = { tmps := g18 T (T + 1) (T + 2) (T + 3) T8 f', defers := [] }) ?hAx ?assign ?body ?done ?stop
  case hS =>
    intro xs Z r o' hs hl
    exact ⟨hs.1, fun i hi => ((kp_putC Z (X.heap.size + 1) o').block i (kr_lt hs.2 hi (LW.out i hi)) (by have := LW.out i hi; have := HWX.out; omega)).trans (hs.2 i hi)⟩
  case hSx =>
    intro xs Z r o' hs hl
    exact hs.elim
  case hI2 => exact fun s O Z o' hi hlt => hi.kp GB (kp_putC Z _ o') (fun i _ e => Or.inr (Or.inr e))
  case hIx2 => exact fun c s O Z o' h hlt => ⟨h.1, h.2.kp GB (kp_putC Z _ o') (fun i _ e => Or.inr (Or.inr e))⟩
  case h0 =>
    intro r
    have ka : Kp (fun _ => False) X ((X.alloc (.deferred (some []))).alloc (.loop r)) := ((Kp.refl _ _).alloc _).alloc _
    have xb2 : Kp O0 w X := Kp.of_below HXB.out
    exact ⟨xb2.trans ka (fun _ _ h => h.elim), x4.kp ka (fun h => h), x5.kp ka (fun h => h), x6.kp ka (fun h => h), x7.kp ka (fun h => h), (HSB.out.kp (F := fun _ => False) (Kp.of_below HXB.out) (fun _ _ _ _ h => h)).kp ka (fun _ _ _ _ h => h), fun i hi => Or.inl hi, by simp only [World.size_alloc]; omega⟩
  case hAx =>
    rintro x a' Z o' ⟨T8, h1, h2, h3⟩
    exact ⟨T8, h1, h2.kp (kp_putC Z _ o') (by omega), h3⟩
  case assign =>
    intro l' pre O x Z1 Kk hll hsz hi hK
    have HK := hid hK
    have HI := hid hi
    have HSZ := hid hsz
    clear hK hi hll hsz
    obtain ⟨xa, xn⟩ := x
    gi_wp2_with (first | (refine wpListIn_store_r (by rfl) (.tmp 8) (.tmp 12) rfl Z1.heap.size rfl (e := zRn) (e' := ⟨xa, xn⟩) rfl (Rn.B.new Z1 zRn) ?_; intro w6 b6 j6; have k6 : Kp (fun _ => False) Z1 w6 := ((Kp.refl (fun _ => False) Z1).alloc _).trans j6 (fun i h1 h2 => by omega); have E6 := hid b6; have K6 := hid k6; clear b6 j6 k6))
    exact HK.out _ _ (K6.out.mono (fun _ _ x => x.elim)) (HI.out.kp GB K6.out (fun _ _ h => h.elim)) ⟨_, HSZ.out, E6.out, act_of (by kernel_rfl) rfl⟩
  case body =>
    rintro l' pre O x a' Z hll hsz n1 n2 hi _ hsp
    exact hsp.elim
  case done =>
    rintro D xs O Z hD ⟨hS1, hKR⟩ hi hdd
    subst hS1
    have c4 : Z.cell? ⟨T, 0, none⟩ = some (.slice none 0 0) := hi.s4.cell 0
    have c7 : Z.cell? ⟨T + 3, 0, none⟩ = some (.int .i64 0) := hi.s7.cell 0
    have c6 : Z.cell? ⟨T + 2, 0, none⟩ = some (.bool false) := hi.s6.cell 0
    have f6 := hi.s6.frozen 0
    have HI := hid hi
    have HD := hid hD
    have HDD := hid hdd
    have HKR := hid hKR
    clear hi hD hdd hKR
    gi_wp2_with fail
    go_wp2_with fail
    subst hQ
    have hz := kp_setCell Z (T + 2) 0 (.bool true) (fun i => i = T + 2) rfl
    refine leaves_marksc D _ ?_ (fun w' k => fin_bool18 rfl ((HI.out.s6.set 0 _).kp k ?_) ?_)
    · rw [← HDD.out]; exact heap_setCell_other Z ⟨T + 2, 0, none⟩ D _ (by have := GB.b6; have := HD.out; show ¬ D = T + 2; omega)
    · have := GB.b6; have := HD.out; omega
    · exact ((kr_kp HI.out.k HKR.out).trans hz (fun i hi e => by have := GB.b6; omega)).trans k (fun i hi e => by have := HWX.out; have := HD.out; omega)
  case stop =>
    rintro D c pre O Z hD hS1 hx hdd
    exact hS1.elim
end Go.Proofs.Ytgfondgejimkkaa

namespace Go.Proofs.Ytgfondgejimkkaa
open Go.RowKit Go.Shelf
attribute [local go_sem] Oper.semAt_some
set_option linter.unusedVariables false
set_option linter.unusedSimpArgs false
/-- What a call leaves of the two. -/
def Ch (F : Nat → Prop) (Q rq : Nat) (W : World) (l' : List Rn) (W' : World) : Prop := Kp (fun i => F i ∨ i = rq) W W' ∧ RL rq W' l' ∧ ∃ F', Lw Q l' F' W' ∧ ∀ i, F' i → F i ∨ W.heap.size ≤ i
/-- A step's cells. -/
def stc (kd lv : Int) (sl : Value) (x : Rn) (m : Int) : Array Value := #[.int .i64 kd, .int .i64 lv, sl, .int .i64 x.a, .int .i64 x.n, .int .i64 m]
theorem Lw.nodef {Q : Nat} {R : List Rn} {F : Nat → Prop} {w : World} {i : Nat} {r : Option (List Deferred)} (h : Lw Q R F w) (s : w.heap[i]? = some (.deferred r)) : ¬ F i := by
  obtain ⟨B, mb, me, c, v, L, h1, h2, h3⟩ := h
  obtain ⟨eb, kb, m1, m2⟩ := h1.bm
  obtain ⟨ee, ke, n1, n2⟩ := h1.em
  have no : ∀ cs t, ¬ (w.heap[i]? = some (.cells cs t (0, 0))) := fun cs t e => by rw [s] at e; cases e
  intro hf
  rcases (h3 i).1 hf with rfl | rfl | rfl | rfl | e | e
  · exact no _ _ h1.st
  · exact no _ _ h1.ln.st
  · rw [m1.1] at s; cases s
  · rw [n1.1] at s; cases s
  · obtain ⟨cur, hg, _⟩ := ownb h1.ln.own e
    exact no _ _ hg
  · obtain ⟨j, hj⟩ := h1.ln.wt e
    exact no _ _ hj
theorem Lw.noloop2 {Q : Nat} {R : List Rn} {F : Nat → Prop} {w : World} {i : Nat} {r : Loop} (h : Lw Q R F w) (s : w.heap[i]? = some (.loop r)) : ¬ F i := by
  obtain ⟨B, mb, me, c, v, L, h1, h2, h3⟩ := h
  obtain ⟨eb, kb, m1, m2⟩ := h1.bm
  obtain ⟨ee, ke, n1, n2⟩ := h1.em
  have no : ∀ cs t, ¬ (w.heap[i]? = some (.cells cs t (0, 0))) := fun cs t e => by rw [s] at e; cases e
  intro hf
  rcases (h3 i).1 hf with rfl | rfl | rfl | rfl | e | e
  · exact no _ _ h1.st
  · exact no _ _ h1.ln.st
  · rw [m1.1] at s; cases s
  · rw [n1.1] at s; cases s
  · obtain ⟨cur, hg, _⟩ := ownb h1.ln.own e
    exact no _ _ hg
  · obtain ⟨j, hj⟩ := h1.ln.wt e
    exact no _ _ hj
theorem Lw.putl2 {Q : Nat} {R : List Rn} {F : Nat → Prop} {w : World} {i : Nat} {r : Loop} (h : Lw Q R F w) (s : w.heap[i]? = some (.loop r)) (o' : Obj) : Lw Q R F (w.putObj i o') := h.kp (kp_putC w i o') (fun k hk e => h.noloop2 s (e ▸ hk))
/-- Where its row lies. -/
def Rof (rq : Nat) (Z : World) (O : Nat → Prop) : Prop := ∀ b off n cap, Z.cell? ⟨rq, 0, none⟩ = some (.slice (some ⟨b, off, none⟩) n cap) → ¬ O b
theorem RL.kpo {q : Nat} {O : Nat → Prop} {w w' : World} {l : List Rn} (h : RL q w l) (k : Kp O w w') (hq : ¬ O q) (hr : Rof q w O) : RL q w' l := by
  obtain ⟨ao, cap, h1, h2, h3, h4⟩ := h.mem
  have hc : w.cell? ⟨q, 0, none⟩ = some (.slice ao l.length cap) := h1.cell 0
  have hn : ∀ b off, ao = some ⟨b, off, none⟩ → ¬ O b := fun b off e => hr b off _ _ (by rw [hc, e])
  refine ⟨⟨ao, cap, h1.kp k hq, h2.kp k (fun b off e _ => hn b off e), fun b off e => ?_, h4⟩, h.can, h.len⟩
  obtain ⟨cur, h5⟩ := h3 b off e
  exact ⟨cur, h5.kp k (hn b off e)⟩
theorem RL.row_lt {q : Nat} {w : World} {l : List Rn} (h : RL q w l) {b off n cap : Nat} (hc : w.cell? ⟨q, 0, none⟩ = some (.slice (some ⟨b, off, none⟩) n cap)) : b < w.heap.size := by
  obtain ⟨ao, cap, h1, h2, h3, h4⟩ := h.mem
  have h5 : w.cell? ⟨q, 0, none⟩ = some (.slice ao l.length cap) := h1.cell 0
  rw [h5] at hc
  simp only [Option.some.injEq, Value.slice.injEq] at hc
  obtain ⟨cur, h6⟩ := h3 b off hc.1
  exact h6.lt
/-- What holds round by round. -/
structure Dl (W : World) (F : Nat → Prop) (rq T : Nat) (cs : Array Value) (l : List Rn) (bv : Bool) (pre : List Rn) (O : Nat → Prop) (Z : World) : Prop where
  k : Kp (fun i => F i ∨ i = rq) W Z
  s4 : St 25 Z T #[.pointer (some ⟨rq, 0, none⟩)]
  s5 : St 40 Z (T + 1) cs
  s6 : St 4 Z (T + 2) #[.bool bv]
  s8 : St 3 Z (T + 5) #[.int .i64 (pre.length : Int)]
  rl : RL rq Z (stt l pre)
  rw : Rof rq Z (fun i => O i ∨ i = T + 6 ∨ i = T + 7)
  ow : ∀ i, O i → F i ∨ i = T + 3 ∨ i = T + 4 ∨ T + 7 < i
  lt : T + 7 < Z.heap.size
  few : bv = false → pre.length < 1000
  ol : ∀ i, O i → i < Z.heap.size
/-- Where the boxes lie. -/
structure Db (W : World) (F : Nat → Prop) (rq T : Nat) : Prop where
  t : T = W.heap.size
  q : rq < T
  fl : ∀ i, F i → i < T
  nf : ¬ F rq
theorem Dl.no {W : World} {F : Nat → Prop} {rq T : Nat} {cs : Array Value} {l : List Rn} {bv : Bool} {pre : List Rn} {O : Nat → Prop} {Z : World} (b : Db W F rq T) (h : Dl W F rq T cs l bv pre O Z) : ¬ O rq ∧ ¬ O T ∧ ¬ O (T + 1) ∧ ¬ O (T + 2) ∧ ¬ O (T + 5) ∧ ¬ O (T + 6) ∧ ¬ O (T + 7) := by
  have hq := b.q
  have hx : ∀ i, (i = rq ∨ i = T ∨ i = T + 1 ∨ i = T + 2 ∨ T + 5 ≤ i ∧ i ≤ T + 7) → ¬ O i := fun i hi o => by
    rcases h.ow i o with a | a
    · have := b.fl i a
      rcases hi with e | e
      · rw [e] at a; exact b.nf a
      · omega
    · omega
  exact ⟨hx _ (by simp), hx _ (by simp), hx _ (by simp), hx _ (by simp), hx _ (by omega), hx _ (by omega), hx _ (by omega)⟩
theorem Dl.kp {W : World} {F G : Nat → Prop} {rq T : Nat} {cs : Array Value} {l : List Rn} {bv : Bool} {pre : List Rn} {O : Nat → Prop} {Z Y : World} (b : Db W F rq T) (h : Dl W F rq T cs l bv pre O Z) (k : Kp G Z Y) (hg : ∀ i, i < Z.heap.size → G i → O i ∨ i = T + 7) : Dl W F rq T cs l bv pre O Y := by
  have hn := h.no b
  have hq := b.q
  have hl := h.lt
  have ng : ∀ i, i < Z.heap.size → ¬ O i → i ≠ T + 7 → ¬ G i := fun i h1 h2 h3 g => (hg i h1 g).elim h2 h3
  have nrow : ∀ c off n cap, Z.cell? ⟨rq, 0, none⟩ = some (.slice (some ⟨c, off, none⟩) n cap) → ¬ G c := fun c off n cap hc g => by
    have h1 := h.rl.row_lt hc
    rcases hg c h1 g with o | e
    · exact h.rw c off n cap hc (.inl o)
    · exact h.rw c off n cap hc (.inr (.inr e))
  have grq : ¬ G rq := ng _ (by omega) hn.1 (by omega)
  have hcell : Y.cell? ⟨rq, 0, none⟩ = Z.cell? ⟨rq, 0, none⟩ := by
    unfold World.cell?
    rw [k.block rq (by omega) grq]
  refine ⟨h.k.trans k (fun i hi g => ?_), h.s4.kp k (ng _ (by omega) hn.2.1 (by omega)), h.s5.kp k (ng _ (by omega) hn.2.2.1 (by omega)), h.s6.kp k (ng _ (by omega) hn.2.2.2.1 (by omega)), h.s8.kp k (ng _ (by omega) hn.2.2.2.2.1 (by omega)), h.rl.kpo k grq nrow, fun c off n cap hc => h.rw c off n cap (hcell ▸ hc), h.ow, Nat.lt_of_lt_of_le h.lt k.size, h.few, fun i hi => Nat.lt_of_lt_of_le (h.ol i hi) k.size⟩
  have ht := b.t
  rcases hg i (by omega) g with o | e
  · rcases h.ow i o with a | a
    · exact .inl a
    · omega
  · omega
theorem Dl.abw {W : World} {F : Nat → Prop} {rq T : Nat} {cs : Array Value} {l : List Rn} {bv : Bool} (b : Db W F rq T) : AbW (Dl W F rq T cs l bv) := fun s O X Y h k => by
  have h1 := h.kp b k (fun i _ o => Or.inl o)
  have hl := h.lt
  have hq := b.q
  have grq : ¬ O rq := (h.no b).1
  have hcell : Y.cell? ⟨rq, 0, none⟩ = X.cell? ⟨rq, 0, none⟩ := by
    unfold World.cell?
    rw [k.block rq (by omega) grq]
  refine ⟨h1.k, h1.s4, h1.s5, h1.s6, h1.s8, h1.rl, fun c off n cap hc o => ?_, fun i hi => hi.elim (h.ow i) (fun e => by omega), h1.lt, h.few, fun i hi => hi.elim (fun o => Nat.lt_of_lt_of_le (h.ol i o) k.size) (fun e => e.2)⟩
  have h5 : X.cell? ⟨rq, 0, none⟩ = some (.slice (some ⟨c, off, none⟩) n cap) := hcell ▸ hc
  have h6 := h.rl.row_lt h5
  rcases o with (o | o) | o
  · exact h.rw c off n cap h5 (.inl o)
  · omega
  · exact h.rw c off n cap h5 (.inr o)
theorem cell_kp {F : Nat → Prop} {w w' : World} {q o : Nat} (k : Kp F w w') (hl : q < w.heap.size) (hq : ¬ F q) : w'.cell? ⟨q, o, none⟩ = w.cell? ⟨q, o, none⟩ := by
  unfold World.cell?
  rw [k.block q hl hq]
theorem Dl.next {W : World} {F : Nat → Prop} {rq T : Nat} {cs : Array Value} {l pre : List Rn} {O : Nat → Prop} {Z Z2 Z3 Y : World} (b : Db W F rq T) (h : Dl W F rq T cs l false pre O Z) (x : Rn) (k2 : Kp (fun i => i = rq) Z Z2) (r2 : RL rq Z2 (stt l (pre ++ [x])))
    (nb : ∀ b off n cap, Z2.cell? ⟨rq, 0, none⟩ = some (.slice (some ⟨b, off, none⟩) n cap) → Z.heap.size ≤ b) (k3 : Kp (fun _ => False) Z2 Z3) (bv : Bool) (k4 : Kp (fun i => i = T + 5 ∨ i = T + 2) Z3 Y) (s8 : St 3 Y (T + 5) #[.int .i64 ((pre.length : Int) + 1)]) (s6 : St 4 Y (T + 2) #[.bool bv]) (few : bv = false → pre.length + 1 < 1000) :
    Dl W F rq T cs l bv (pre ++ [x]) O Y ∧ Kp (fun i => ¬ O i ∧ i ≠ T + 6 ∧ i ≠ T + 7) Z Y := by
  have hn := h.no b
  have hq := b.q
  have ht := b.t
  have hl := h.lt
  have hl2 : T + 7 < Z2.heap.size := Nat.lt_of_lt_of_le hl k2.size
  have hl3 : T + 7 < Z3.heap.size := Nat.lt_of_lt_of_le hl2 k3.size
  have k23 : Kp (fun i => i = rq) Z Z3 := k2.trans k3 (fun _ _ x => x.elim)
  have kZ : Kp (fun i => i = rq ∨ i = T + 5 ∨ i = T + 2) Z Y := (k23.mono (fun _ _ x => .inl x)).trans k4 (fun _ _ x => .inr x)
  have c3 : ∀ b off n cap, Z3.cell? ⟨rq, 0, none⟩ = some (.slice (some ⟨b, off, none⟩) n cap) → Z.heap.size ≤ b := fun c off n cap hc => nb c off n cap (by rw [← cell_kp k3 (by omega) (fun h => h)]; exact hc)
  have cY : ∀ b off n cap, Y.cell? ⟨rq, 0, none⟩ = some (.slice (some ⟨b, off, none⟩) n cap) → Z.heap.size ≤ b := fun c off n cap hc => c3 c off n cap (by rw [← cell_kp k4 (by omega) (by omega)]; exact hc)
  have r3 := r2.kp k3 (fun _ h => h)
  have rY : RL rq Y (stt l (pre ++ [x])) := r3.kpo k4 (by omega) (fun c off n cap hc e => by have := c3 c off n cap hc; omega)
  refine ⟨⟨h.k.trans kZ (fun i hi e => by omega), h.s4.kp kZ (by omega), h.s5.kp kZ (by omega), s6, ?_, rY, fun c off n cap hc o => ?_, h.ow, by have := kZ.size; omega, fun e => by have := few e; simp; omega, fun i hi => Nat.lt_of_lt_of_le (h.ol i hi) kZ.size⟩, kZ.mono (fun i hi e => ?_)⟩
  · simpa using s8
  · have h5 := cY c off n cap hc
    rcases o with o | o
    · have := h.ol c o; omega
    · omega
  · rcases e with rfl | rfl | rfl
    · exact ⟨hn.1, by omega, by omega⟩
    · exact ⟨hn.2.2.2.2.1, by omega, by omega⟩
    · exact ⟨hn.2.2.2.1, by omega, by omega⟩
def g38 (T4 T5 T6 T8 T9 : Nat) (f : Nat → Value) : Array Value := #[f 0, f 1, f 2, f 3, .pointer (some ⟨T4, 0, none⟩), .pointer (some ⟨T5, 0, none⟩), .pointer (some ⟨T6, 0, none⟩), f 7, .pointer (some ⟨T8, 0, none⟩), .pointer (some ⟨T9, 0, none⟩), f 10, f 11, f 12, f 13, f 14, f 15, f 16, f 17, f 18, f 19, f 20, f 21, f 22, f 23, f 24, f 25, f 26, f 27, f 28, f 29, f 30, f 31, f 32, f 33, f 34, f 35, f 36, f 37, f 38, f 39, f 40, f 41, f 42, f 43, f 44, f 45, f 46, f 47, f 48, f 49, f 50, f 51, f 52, f 53, f 54, f 55, f 56, f 57, f 58]
theorem fin_bool38 {F : Fence} {m : Nat} {tmps : Array Value} {T6 : Nat} {R : Ending → World → Prop} {Z : World} (h4 : tmps.getD 6 undef = .pointer (some ⟨T6, 0, none⟩)) (s4 : St 4 Z T6 #[.bool true]) (b : R (.returned (.bool true)) Z) :
    LeavesInM F m Try.prog Try.f38 tmps R [] .returning Z := by
  exact ⟨_, results_cell1 Try.results38 _ _ T6 h4 (load_bool4c (s4.cell 0)), b⟩
end Go.Proofs.Ytgfondgejimkkaa

namespace Go.Proofs.Ytgfondgejimkkaa
open Go.RowKit
set_option linter.unusedVariables false
set_option linter.unusedSimpArgs false
theorem Lw.no38 {Q : Nat} {R : List Rn} {F : Nat → Prop} {w : World} (h : Lw Q R F w) : ∀ b cur, St 38 w b cur → ¬ F b := fun b cur s => h.box (t := 38) (by unfold bxt; decide) s
theorem RL.noF {Q rq : Nat} {R l : List Rn} {F : Nat → Prop} {w : World} (h : RL rq w l) (hL : Lw Q R F w) : ¬ F rq := by
  obtain ⟨ao, cap, h1, _⟩ := h.mem
  exact hL.box (t := 27) (by unfold bxt; decide) h1
theorem Ch.pre {F : Nat → Prop} {Q rq : Nat} {W X Y : World} {l' : List Rn} (k : Kp (fun _ => False) W X) (h : Ch F Q rq X l' Y) : Ch F Q rq W l' Y := by
  obtain ⟨h1, h2, F', h3, h4⟩ := h
  exact ⟨(k.mono (fun _ _ x => x.elim)).trans h1 (fun _ _ x => x), h2, F', h3, fun i hi => (h4 i hi).imp id (fun e => Nat.le_trans k.size e)⟩
theorem Ch.post {F : Nat → Prop} {Q rq : Nat} {W X Y : World} {l' : List Rn} (h : Ch F Q rq W l' X) (k : Kp (fun _ => False) X Y) : Ch F Q rq W l' Y := by
  obtain ⟨h1, h2, F', h3, h4⟩ := h
  exact ⟨h1.trans k (fun _ _ x => x.elim), h2.kp k (fun _ x => x), F', h3.kp0 k, h4⟩
/-- Nothing has changed. -/
theorem Ch.same {F : Nat → Prop} {Q rq : Nat} {W X : World} {l : List Rn} (hL : Lw Q l F W) (hR : RL rq W l) (k : Kp (fun _ => False) W X) : Ch F Q rq W l X :=
  ⟨k.mono (fun _ _ x => x.elim), hR.kp k (fun _ x => x), F, hL.kp0 k, fun i hi => .inl hi⟩
/-- First the one changes, then the other. -/
theorem Ch.of {F : Nat → Prop} {Q rq : Nat} {W X Y : World} {l R' : List Rn} (h : Cg Q F W R' X) (hX : RL rq X l) (k : Kp (fun i => i = rq) X Y) (hY : RL rq Y R') : Ch F Q rq W R' Y := by
  obtain ⟨h1, F', h2, h3⟩ := h
  have hn := hX.noF h2
  exact ⟨(h1.mono (fun _ _ x => .inl x)).trans k (fun _ _ x => .inr x), hY, F', h2.kp k (fun i hi e => hn (e ▸ hi)), h3⟩
theorem Cg.ref {F : Nat → Prop} {Q rq : Nat} {W X : World} {l R R' : List Rn} (h : Cg Q F W R' X) (hL : Lw Q R F W) (hR : RL rq W l) : RL rq X l := hR.kpt h.1 (hR.noF hL) hL.no38
theorem cut_two {X : World} {Q rq : Nat} {l : List Rn} {F : Nat → Prop} (hL : Lw Q l F X) (hR : RL rq X l) (x : Rn) (hx : x.i6) :
    Calls Try.prog 24 #[.pointer (some ⟨Q, 0, none⟩), .agg #[.int .i64 x.a, .int .i64 x.n]] X fun e w1 => ∃ n er : Int, e = .returned (.tuple #[.int .i64 n, .int .i64 er]) ∧ Kp F X w1 ∧
      ∀ U, Kp (fun _ => False) w1 U → Calls Try.prog 35 #[.pointer (some ⟨rq, 0, none⟩), .agg #[.int .i64 x.a, .int .i64 x.n]] U fun e2 w2 => e2 = .returned (.tuple #[.int .i64 n, .int .i64 er]) ∧ ∃ l', Ch F Q rq X l' w2 := by
  refine (cut_w hL x hx).mono ?_
  rintro e w1 (⟨h1, rfl, k1⟩ | ⟨h1, h2, rfl, k1⟩ | ⟨h1, h2, rfl, c1⟩)
  · refine ⟨_, _, rfl, k1.mono (fun _ _ x => x.elim), fun U ku => (rcut_any U rq l x hx ((hR.kp k1 (fun _ x => x)).kp ku (fun _ x => x))).mono ?_⟩
    rintro e w2 (⟨_, rfl, k2⟩ | ⟨h3, _⟩ | ⟨h3, _⟩)
    · exact ⟨rfl, l, Ch.same hL hR ((k1.trans ku (fun _ _ x => x)).trans k2 (fun _ _ x => x))⟩
    · exact absurd h3 h1
    · exact absurd h3 h1
  · refine ⟨_, _, rfl, k1.mono (fun _ _ x => x.elim), fun U ku => (rcut_any U rq l x hx ((hR.kp k1 (fun _ x => x)).kp ku (fun _ x => x))).mono ?_⟩
    rintro e w2 (⟨h3, _⟩ | ⟨_, _, rfl, k2⟩ | ⟨_, h3, _⟩)
    · exact absurd h1 h3
    · exact ⟨rfl, l, Ch.same hL hR ((k1.trans ku (fun _ _ x => x)).trans k2 (fun _ _ x => x))⟩
    · omega
  · have hU := c1.ref hL hR
    refine ⟨_, _, rfl, c1.1, fun U ku => (rcut_any U rq l x hx (hU.kp ku (fun _ x => x))).mono ?_⟩
    rintro e w2 (⟨h3, _⟩ | ⟨_, h3, _⟩ | ⟨_, _, rfl, r2, k2⟩)
    · exact absurd h1 h3
    · omega
    · refine ⟨?_, _, Ch.of c1 hU ((ku.mono (fun _ _ x => x.elim)).trans k2 (fun _ _ x => x)) r2⟩
      rw [(lss_facts h1 hL.can.1).2.2, show sz l - (sz l - ovl l x) = ovl l x by omega]
theorem next_two {X : World} {Q rq : Nat} {l : List Rn} {F : Nat → Prop} (hL : Lw Q l F X) (hR : RL rq X l) (most : Int) (hm : most ≤ 9223372036854775807) :
    Calls Try.prog 29 #[.pointer (some ⟨Q, 0, none⟩), .int .i64 most] X fun e w1 => ∃ (y : Rn) (er : Int), e = .returned (.tuple #[.agg y.cs, .int .i64 er]) ∧ Kp F X w1 ∧
      ∀ U, Kp (fun _ => False) w1 U → Calls Try.prog 36 #[.pointer (some ⟨rq, 0, none⟩), .int .i64 most] U fun e2 w2 => e2 = .returned (.tuple #[.agg y.cs, .int .i64 er]) ∧ Kp (fun i => i = rq) U w2 ∧ ∃ l', Ch F Q rq X l' w2 := by
  refine (next_w hL most hm).mono ?_
  rintro e w1 (⟨h1, rfl, k1⟩ | ⟨h1, h2, rfl, k1⟩ | ⟨h1, y, tl, h2, rfl, c1⟩)
  · refine ⟨_, _, rfl, k1.mono (fun _ _ x => x.elim), fun U ku => (rnext_any U rq l most ((hR.kp k1 (fun _ x => x)).kp ku (fun _ x => x))).mono ?_⟩
    rintro e w2 (⟨_, rfl, k2⟩ | ⟨h3, _⟩ | ⟨h3, _⟩)
    · exact ⟨rfl, k2.mono (fun _ _ x => x.elim), l, Ch.same hL hR ((k1.trans ku (fun _ _ x => x)).trans k2 (fun _ _ x => x))⟩
    · omega
    · omega
  · refine ⟨_, _, rfl, k1.mono (fun _ _ x => x.elim), fun U ku => (rnext_any U rq l most ((hR.kp k1 (fun _ x => x)).kp ku (fun _ x => x))).mono ?_⟩
    rintro e w2 (⟨h3, _⟩ | ⟨_, _, rfl, k2⟩ | ⟨_, z, tl, h3, _⟩)
    · omega
    · exact ⟨rfl, k2.mono (fun _ _ x => x.elim), l, Ch.same hL hR ((k1.trans ku (fun _ _ x => x)).trans k2 (fun _ _ x => x))⟩
    · rw [h2] at h3; cases h3
  · have hU := c1.ref hL hR
    refine ⟨_, _, rfl, c1.1, fun U ku => (rnext_any U rq l most (hU.kp ku (fun _ x => x))).mono ?_⟩
    rintro e w2 (⟨h3, _⟩ | ⟨_, h3, _⟩ | ⟨_, z, tl2, h3, rfl, r2, k2, _⟩)
    · omega
    · rw [h2] at h3; cases h3
    · rw [h2] at h3
      obtain ⟨rfl, rfl⟩ := List.cons.inj h3
      exact ⟨rfl, k2, _, Ch.of c1 hU ((ku.mono (fun _ _ x => x.elim)).trans k2 (fun _ _ x => x)) r2⟩
theorem grt_one {l : List Rn} {x y : Rn} (hc : Can l) (hx : x ∈ l) (hy : y ∈ l) (gx : ∀ z ∈ l, grt z x = false) (gy : ∀ z ∈ l, grt z y = false) : x = y := by
  have h1 := gx y hy
  have h2 := gy x hx
  obtain ⟨xa, xn⟩ := x
  obtain ⟨ya, yn⟩ := y
  unfold grt at h1 h2
  simp only [Bool.or_eq_false_iff, Bool.and_eq_false_iff, decide_eq_false_iff_not] at h1 h2
  have e1 : xn = yn := by omega
  have e2 : xa = ya := by
    have h3 : ¬ ya < xa := by rcases h1.2 with h | h; exact absurd e1.symm h; exact h
    have h4 : ¬ xa < ya := by rcases h2.2 with h | h; exact absurd e1 h; exact h
    omega
  rw [e1, e2]
theorem off_lss {l R' : List Rn} {x : Rn} (hc : Can l) (hR : Can R') (hp : (x :: R').Perm l) : R' = lss l x := by
  have hx : x ∈ l := hp.mem_iff.1 (by simp)
  have hm := hc.1 x hx
  refine can_uniq hR (lss_can hm hc) (fun p => ?_)
  rw [(lss_facts hm hc.1).2.1 p, ← bt_perm hp]
  have hap : Ap (x :: R') := hc.ap.perm hp.symm
  have hoff : ∀ y ∈ R', ∀ p, Inr y p → ¬ Inr x p := fun y hy p h1 h2 => by
    have := (List.pairwise_cons.1 hap.2).1 y hy
    unfold Inr at h1 h2
    unfold Aprt at this
    unfold Rn.e at *
    omega
  constructor
  · rintro ⟨y, hy, h1⟩
    exact ⟨⟨y, by simp [hy], h1⟩, hoff y hy p h1⟩
  · rintro ⟨⟨y, hy, h1⟩, h2⟩
    rcases List.mem_cons.1 hy with rfl | hy
    · exact absurd h1 h2
    · exact ⟨y, hy, h1⟩
theorem great_two {X : World} {Q rq : Nat} {l : List Rn} {F : Nat → Prop} (hL : Lw Q l F X) (hR : RL rq X l) :
    Calls Try.prog 28 #[.pointer (some ⟨Q, 0, none⟩)] X fun e w1 => ∃ (y : Rn) (er : Int), e = .returned (.tuple #[.agg y.cs, .int .i64 er]) ∧ Kp F X w1 ∧
      ∀ U, Kp (fun _ => False) w1 U → Calls Try.prog 37 #[.pointer (some ⟨rq, 0, none⟩)] U fun e2 w2 => e2 = .returned (.tuple #[.agg y.cs, .int .i64 er]) ∧ Kp (fun i => i = rq) U w2 ∧ ∃ l', Ch F Q rq X l' w2 := by
  refine (greatest_w hL).mono ?_
  rintro e w1 (⟨h2, rfl, k1⟩ | ⟨y, R', rfl, g1, hp, c1⟩)
  · refine ⟨_, _, rfl, k1.mono (fun _ _ x => x.elim), fun U ku => (rgreatest_any U rq l ((hR.kp k1 (fun _ x => x)).kp ku (fun _ x => x))).mono ?_⟩
    rintro e w2 (⟨_, rfl, k2⟩ | ⟨z, h3, _⟩)
    · exact ⟨rfl, k2.mono (fun _ _ x => x.elim), l, Ch.same hL hR ((k1.trans ku (fun _ _ x => x)).trans k2 (fun _ _ x => x))⟩
    · rw [h2] at h3; simp at h3
  · have hU := c1.ref hL hR
    refine ⟨_, _, rfl, c1.1, fun U ku => (rgreatest_any U rq l (hU.kp ku (fun _ x => x))).mono ?_⟩
    have hy : y ∈ l := hp.mem_iff.1 (by simp)
    rintro e w2 (⟨h3, _⟩ | ⟨z, hz, gz, rfl, r2, k2⟩)
    · rw [h3] at hy; simp at hy
    · obtain rfl := grt_one hL.can hy hz g1 gz
      obtain ⟨F', l1, _⟩ := c1.2
      have e1 := off_lss hL.can l1.can hp
      rw [← e1] at r2
      exact ⟨rfl, k2, _, Ch.of c1 hU ((ku.mono (fun _ _ x => x.elim)).trans k2 (fun _ _ x => x)) r2⟩
theorem put_two {X : World} {Q rq : Nat} {l : List Rn} {F : Nat → Prop} (hL : Lw Q l F X) (hR : RL rq X l) (ao : Option Addr) (n cap : Nat) (M : List Rn) (hM : M.length = n) (hn : n ≤ 100) (h6 : ∀ x ∈ M, x.i6) (hz : ao = none → cap = 0) (hs : Srcr X ao M) :
    Calls Try.prog 22 #[.pointer (some ⟨Q, 0, none⟩), .slice ao n cap] X fun e w1 => ∃ m er : Int, e = .returned (.tuple #[.int .i64 m, .int .i64 er]) ∧ Kp F X w1 ∧
      ∀ U bo cb, Kp (fun _ => False) w1 U → Srcr U bo M → Calls Try.prog 9 #[.pointer (some ⟨rq, 0, none⟩), .slice bo n cb] U fun e2 w2 => e2 = .returned (.tuple #[.int .i64 m, .int .i64 er]) ∧ Kp (fun i => i = rq) U w2 ∧ ∃ l', Ch F Q rq X l' w2 := by
  refine (put_w hL ao n cap M hM (by omega) h6 hz hs).mono ?_
  rintro e w1 (⟨h1, rfl, k1⟩ | ⟨h1, h2, rfl, k1⟩ | ⟨h1, h2, rfl, c1⟩)
  · refine ⟨_, _, rfl, k1.mono (fun _ _ x => x.elim), fun U bo cb ku sU => (rput_bad U rq bo n cb M hM hn h6 sU h1).mono ?_⟩
    rintro e w2 ⟨rfl, k2⟩
    exact ⟨rfl, k2.mono (fun _ _ x => x.elim), l, Ch.same hL hR ((k1.trans ku (fun _ _ x => x)).trans k2 (fun _ _ x => x))⟩
  · refine ⟨_, _, rfl, k1.mono (fun _ _ x => x.elim), fun U bo cb ku sU => (rput_ok U rq l bo n cb M ((hR.kp k1 (fun _ x => x)).kp ku (fun _ x => x)) hM hn sU h1).mono ?_⟩
    rintro e w2 (⟨_, rfl, k2⟩ | ⟨h3, _⟩)
    · exact ⟨rfl, k2.mono (fun _ _ x => x.elim), l, Ch.same hL hR ((k1.trans ku (fun _ _ x => x)).trans k2 (fun _ _ x => x))⟩
    · omega
  · have hU := c1.ref hL hR
    refine ⟨_, _, rfl, c1.1, fun U bo cb ku sU => (rput_ok U rq l bo n cb M (hU.kp ku (fun _ x => x)) hM hn sU h1).mono ?_⟩
    rintro e w2 (⟨h3, _⟩ | ⟨_, rfl, r2, k2⟩)
    · omega
    · exact ⟨rfl, k2, _, Ch.of c1 hU ((ku.mono (fun _ _ x => x.elim)).trans k2 (fun _ _ x => x)) r2⟩
end Go.Proofs.Ytgfondgejimkkaa

namespace Go.Proofs.Ytgfondgejimkkaa
open Go.RowKit Go.Shelf
attribute [local go_sem] Oper.semAt_some
set_option linter.unusedVariables false
set_option linter.unusedSimpArgs false
/-- What stands ahead of the range. -/
structure Bxs (W : World) (Q rq : Nat) (cs : Array Value) (most : Int) (X : World) : Prop where
  x4 : St 25 X W.heap.size #[.pointer (some ⟨rq, 0, none⟩)]
  x5 : St 40 X (W.heap.size + 1) cs
  x6 : St 4 X (W.heap.size + 2) #[.bool false]
  x1 : St 30 X (W.heap.size + 3) #[.pointer (some ⟨Q, 0, none⟩)]
  x2 : St 2 X (W.heap.size + 4) #[.int .i64 most]
  x8 : St 3 X (W.heap.size + 5) #[.int .i64 0]
  xk : Kp (fun _ => False) W X
  xs : X.heap.size = W.heap.size + 6
theorem bxs_new (W : World) (Q rq : Nat) (cs : Array Value) (most : Int) : Bxs W Q rq cs most ((((((W.alloc (.cells #[.pointer (some ⟨rq, 0, none⟩)] 25)).alloc (.cells cs 40)).alloc (.cells #[.bool false] 4)).alloc (.cells #[.pointer (some ⟨Q, 0, none⟩)] 30)).alloc (.cells #[.int .i64 most] 2)).alloc (.cells #[.int .i64 0] 3)) := by
  have al : ∀ (U : World) (o : Obj), Kp (fun _ => False) U (U.alloc o) := fun U o => (Kp.refl _ _).alloc _
  have n1 := St.new 25 W #[.pointer (some ⟨rq, 0, none⟩)]
  generalize e1 : W.alloc (.cells #[.pointer (some ⟨rq, 0, none⟩)] 25) = W1 at *
  have s1 : W1.heap.size = W.heap.size + 1 := by rw [← e1, World.size_alloc]
  have n2 := St.new 40 W1 cs
  generalize e2 : W1.alloc (.cells cs 40) = W2 at *
  have s2 : W2.heap.size = W.heap.size + 2 := by rw [← e2, World.size_alloc, s1]
  have n3 := St.new 4 W2 #[.bool false]
  generalize e3 : W2.alloc (.cells #[.bool false] 4) = W3 at *
  have s3 : W3.heap.size = W.heap.size + 3 := by rw [← e3, World.size_alloc, s2]
  have n4 := St.new 30 W3 #[.pointer (some ⟨Q, 0, none⟩)]
  generalize e4 : W3.alloc (.cells #[.pointer (some ⟨Q, 0, none⟩)] 30) = W4 at *
  have s4 : W4.heap.size = W.heap.size + 4 := by rw [← e4, World.size_alloc, s3]
  have n5 := St.new 2 W4 #[.int .i64 most]
  generalize e5 : W4.alloc (.cells #[.int .i64 most] 2) = W5 at *
  have s5 : W5.heap.size = W.heap.size + 5 := by rw [← e5, World.size_alloc, s4]
  have n6 := St.new 3 W5 #[.int .i64 0]
  generalize e6 : W5.alloc (.cells #[.int .i64 0] 3) = W6 at *
  have s6 : W6.heap.size = W.heap.size + 6 := by rw [← e6, World.size_alloc, s5]
  have k1 : Kp (fun _ => False) W W1 := by rw [← e1]; exact al _ _
  have k2 : Kp (fun _ => False) W1 W2 := by rw [← e2]; exact al _ _
  have k3 : Kp (fun _ => False) W2 W3 := by rw [← e3]; exact al _ _
  have k4 : Kp (fun _ => False) W3 W4 := by rw [← e4]; exact al _ _
  have k5 : Kp (fun _ => False) W4 W5 := by rw [← e5]; exact al _ _
  have k6 : Kp (fun _ => False) W5 W6 := by rw [← e6]; exact al _ _
  have k56 := k5.trans k6 (fun _ _ h => h)
  have k46 := k4.trans k56 (fun _ _ h => h)
  have k36 := k3.trans k46 (fun _ _ h => h)
  have k26 := k2.trans k36 (fun _ _ h => h)
  rw [s1] at n2
  rw [s2] at n3
  rw [s3] at n4
  rw [s4] at n5
  rw [s5] at n6
  exact ⟨n1.kp k26 (fun h => h), n2.kp k36 (fun h => h), n3.kp k46 (fun h => h), n4.kp k56 (fun h => h), n5.kp k6 (fun h => h), n6, k1.trans k26 (fun _ _ h => h), s6⟩
theorem Ch.fin {W X Z w' : World} {F F' : Nat → Prop} {Q rq T D : Nat} {l' : List Rn} {v : Value} {r : Option (List Deferred)} (hk : Kp (fun i => F i ∨ i = rq) W Z) (s6 : St 4 Z (T + 2) #[v]) (hR : RL rq Z l') (hL : Lw Q l' F' Z) (hF : ∀ i, F' i → F i ∨ X.heap.size ≤ i) (hX : W.heap.size ≤ X.heap.size) (hd : Z.heap[D]? = some (.deferred r)) (k : Kp (fun i => i = T + 2 ∨ i = D) Z w') (hT : W.heap.size ≤ T) (hD : W.heap.size ≤ D) (hq : rq < W.heap.size) : Ch F Q rq W l' w' := by
  refine ⟨hk.trans k (fun i hi e => by omega), hR.kpt k (by omega) (fun b cur s e => ?_), F', hL.kp k (fun i hi e => ?_), fun i hi => (hF i hi).imp id (fun h => Nat.le_trans hX h)⟩
  · rcases e with rfl | rfl
    · exact apart_types s s6 (by decide)
    · have s' : Z.heap[b]? = some (.cells cur 38 (0, 0)) := s
      rw [hd] at s'; cases s'
  · rcases e with rfl | rfl
    · exact hL.box (t := 4) (by unfold bxt; decide) s6 hi
    · exact hL.nodef hd hi
set_option maxRecDepth 100000 in
set_option maxHeartbeats 8000000 in
theorem drainl_some (W : World) (Q rq : Nat) (l : List Rn) (F : Nat → Prop) (kd lv : Int) (sl : Value) (x : Rn) (most : Int) (hm : 1 ≤ most) (hm2 : most ≤ 9223372036854775807) (hL : Lw Q l F W) (hR : RL rq W l) :
    Calls Try.prog 38 #[.pointer (some ⟨Q, 0, none⟩), .pointer (some ⟨rq, 0, none⟩), .agg #[.int .i64 kd, .int .i64 lv, sl, .int .i64 x.a, .int .i64 x.n, .int .i64 most]] W fun e w' => e = .returned (.bool true) ∧ ∃ l', Ch F Q rq W l' w' := by
  have HNF : Hid (¬ F rq) := hR.noF hL
  have HL0 := hid hL
  have HR0 := hid hR
  have HNQ := hid neq_r
  have HDV := hid drain_val
  unfold ptr at HDV
  clear hL hR
  refine (callsIn_wide (n := 20)).1 ?_
  refine callsIn_of_wp_marks Try.func38 rfl trivial ?_ rfl
  simp only [Try.ntmps38, List.size_toArray, List.length_cons, List.length_nil, Nat.reduceAdd, Nat.reduceSub, Array.replicate_succ, Array.replicate_zero, List.push_toArray, List.append_toArray, List.nil_append, List.cons_append]
  refine wpIn_wide.2 ?_
  generalize hQ : bodyPostM _ _ _ _ _ = QQ
  obtain ⟨xa, xn⟩ := x
  have h50 := nf50 (W.heap.size + 1 + 1 + 1) (W.heap.size + 1 + 1 + 1 + 1)
  go_wp2_with (first | (go_at_call 25; refine (HDV.out _ Q most).mono ?_; rintro e w1 ⟨rfl, rfl⟩))
  clear h50
  have HX : Hid (Bxs W Q rq #[.int .i64 kd, .int .i64 lv, sl, .int .i64 xa, .int .i64 xn, .int .i64 most] most ((((((W.alloc (.cells #[.pointer (some ⟨rq, 0, none⟩)] 25)).alloc (.cells #[.int .i64 kd, .int .i64 lv, sl, .int .i64 xa, .int .i64 xn, .int .i64 most] 40)).alloc (.cells #[.bool false] 4)).alloc (.cells #[.pointer (some ⟨Q, 0, none⟩)] 30)).alloc (.cells #[.int .i64 most] 2)).alloc (.cells #[.int .i64 0] 3))) := bxs_new W Q rq _ most
  simp only [World.size_alloc, Nat.add_assoc, Nat.reduceAdd]
  generalize (((((W.alloc (.cells #[.pointer (some ⟨rq, 0, none⟩)] 25)).alloc (.cells #[.int .i64 kd, .int .i64 lv, sl, .int .i64 xa, .int .i64 xn, .int .i64 most] 40)).alloc (.cells #[.bool false] 4)).alloc (.cells #[.pointer (some ⟨Q, 0, none⟩)] 30)).alloc (.cells #[.int .i64 most] 2)).alloc (.cells #[.int .i64 0] 3) = X at *
  obtain ⟨T, hT⟩ : ∃ T, T = W.heap.size := ⟨_, rfl⟩
  rw [← hT]
  have HT := hid hT
  have DB : Db W F rq T := ⟨hT, by have := HR0.out.lt; omega, fun i hi => by have := HL0.out.lt hi; omega, HNF.out⟩
  obtain ⟨x4, x5, x6, x1, x2, x8, xk, xs⟩ := HX.out
  rw [← hT] at x4 x5 x6 x1 x2 x8 xs
  have XS := hid xs
  clear hT HX
  obtain ⟨cs, hcs⟩ : ∃ cs : Array Value, cs = #[.int .i64 kd, .int .i64 lv, sl, .int .i64 xa, .int .i64 xn, .int .i64 most] := ⟨_, rfl⟩
  rw [← hcs] at x5
  have HCS := hid hcs
  clear hcs
  have lX : Lw Q l F X := HL0.out.kp0 xk
  have SQ := hid (drain_seq2 19 (by omega) (T + 3) (T + 4) Q l F most X hm hm2 lX x1 x2 (lX.box (t := 30) (by unfold bxt; decide) x1) (lX.box (t := 2) (by unfold bxt; decide) x2))
  have LO : Hid (∀ i, (F i ∨ i = T + 3 ∨ i = T + 4) → i < X.heap.size) := fun i hi => by
    rcases hi with e | e
    · exact lX.lt e
    · omega
  have HI0 : Hid (∀ r, Dl W F rq T cs l false [] (fun i => F i ∨ i = T + 3 ∨ i = T + 4) ((X.alloc (.deferred (some []))).alloc (.loop r))) := fun r => by
    have ka : Kp (fun _ => False) X ((X.alloc (.deferred (some []))).alloc (.loop r)) := ((Kp.refl _ _).alloc _).alloc _
    have kk := xk.trans ka (fun _ _ h => h)
    have rX := HR0.out.kp kk (fun _ h => h)
    refine ⟨kk.mono (fun _ _ h => h.elim), x4.kp ka (fun h => h), x5.kp ka (fun h => h), x6.kp ka (fun h => h), x8.kp ka (fun h => h), rX, fun c off n cap hc o => ?_, fun i hi => ?_, by simp only [World.size_alloc]; omega, fun _ => by simp, fun i hi => Nat.lt_of_lt_of_le (LO.out i hi) ka.size⟩
    · obtain ⟨ao, cp, g1, g2, g3, g4⟩ := HR0.out.mem
      have h5 : W.cell? ⟨rq, 0, none⟩ = some (.slice (some ⟨c, off, none⟩) n cap) := by
        have h6 : ((X.alloc (.deferred (some []))).alloc (.loop r)).cell? ⟨rq, 0, none⟩ = some (.slice ao l.length cp) := (g1.kp kk (fun h => h)).cell 0
        rw [h6] at hc
        rw [← hc]
        exact g1.cell 0
      have h6 := HR0.out.row_lt h5
      have h7 := HT.out
      rcases o with (o | o) | o
      · have h8 : W.cell? ⟨rq, 0, none⟩ = some (.slice ao l.length cp) := g1.cell 0
        rw [h5] at h8
        simp only [Option.some.injEq, Value.slice.injEq] at h8
        obtain ⟨cur, h9⟩ := g3 c off h8.1.symm
        exact HL0.out.no38 c cur h9 o
      · omega
      · omega
    · rcases hi with e | e
      · exact .inl e
      · omega
  clear x4 x5 x6 x1 x2 x8 xk xs lX
  refine (wpIn_wide (n := 20)).1 ?_
  refine wpIn_rangeFunc_W rfl (by omega) (gf := 50) (pb := #[]) (lb := #[.pointer (some ⟨T + 3, 0, none⟩), .pointer (some ⟨T + 4, 0, none⟩)]) rfl trivial (enters_of Try.func50 (by kernel_rfl) rfl) SQ.out ?hS ?hSx LO.out (Below.refl _ _) (fun _ => rfl)
    (Dl W F rq T cs l false) (fun c pre O Z => c = .ret ∧ Dl W F rq T cs l true pre O Z) (Dl.abw DB) (fun c s O X Y h k => ⟨h.1, Dl.abw DB s O X Y h.2 k⟩) ?hI2 ?hIx2 HI0.out
    (fun x a' Z => ∃ T9, T + 7 < T9 ∧ Rn.B Z T9 x ∧ ∃ f', a' = { tmps := g38 T (T + 1) (T + 2) (T + 5) T9 f', defers := [] }) ?hAx ?assign ?body ?done ?stop
  case hS =>
    intro xs Z r o' hs hl
    exact ⟨hs.1, hs.2.choose, hs.2.choose_spec.1.putl2 hl o', hs.2.choose_spec.2⟩
  case hSx =>
    intro xs Z r o' hs hl
    exact ⟨hs.choose, hs.choose_spec.1.putl2 hl o', hs.choose_spec.2⟩
  case hI2 => exact fun s O Z o' hi hlt => hi.kp DB (kp_putC Z _ o') (fun i _ e => Or.inr (by have := XS.out; omega))
  case hIx2 => exact fun c s O Z o' h hlt => ⟨h.1, h.2.kp DB (kp_putC Z _ o') (fun i _ e => Or.inr (by have := XS.out; omega))⟩
  case hAx =>
    rintro x a' Z o' ⟨T9, h1, h2, h3⟩
    exact ⟨T9, h1, h2.kp (kp_putC Z _ o') (by have := XS.out; omega), h3⟩
  case assign =>
    intro l' pre O x Z1 Kk hll hsz hi hK
    have HK := hid hK
    have HI := hid hi
    have HSZ : Hid (T + 7 < Z1.heap.size) := by have := XS.out; show _ < _; omega
    clear hK hi hll hsz
    obtain ⟨ya, yn⟩ := x
    gi_wp2_with (first | (refine wpListIn_store_r (by rfl) (.tmp 9) (.tmp 19) rfl Z1.heap.size rfl (e := zRn) (e' := ⟨ya, yn⟩) rfl (Rn.B.new Z1 zRn) ?_; intro w6 b6 j6; have k6 : Kp (fun _ => False) Z1 w6 := ((Kp.refl (fun _ => False) Z1).alloc _).trans j6 (fun i h1 h2 => by omega); have E6 := hid b6; have K6 := hid k6; clear b6 j6 k6))
    exact HK.out _ _ (K6.out.mono (fun _ _ x => x.elim)) (HI.out.kp DB K6.out (fun _ _ h => h.elim)) ⟨_, HSZ.out, E6.out, act_of (by kernel_rfl) rfl⟩
  case body =>
    rintro l' pre O x a' Z hll hsz n1 n2 hi ⟨T9, h9, e9, f', rfl⟩ ⟨pre', x', y, tl, hpx, hst, hx⟩
    obtain ⟨rfl, hxx⟩ := List.append_inj' hpx rfl
    obtain rfl : x = x' := by simpa using hxx
    have HI := hid hi
    have HNX := hid (rnext_any Z rq (stt l pre) most hi.rl)
    have c4 : Z.cell? ⟨T, 0, none⟩ = some (.pointer (some ⟨rq, 0, none⟩)) := hi.s4.cell 0
    have c5 : Z.cell? ⟨T + 1, 5, none⟩ = some (.int .i64 most) := by
      have := hi.s5.cell 5
      rw [HCS.out] at this
      exact this
    have HE9 := hid e9
    have HST := hid hst
    have HXX := hid hx
    clear hi e9 hst hx hpx hxx
    unfold g38
    gi_wp2_with fail
    refine ⟨trivial, (callsIn_wide.2 HNX.out).mono ?_⟩
    rintro e Z2 (⟨h1, _⟩ | ⟨_, h1, _⟩ | ⟨_, z, tl2, h1, rfl, r2, k2, nb2⟩)
    · omega
    · rw [HST.out] at h1; cases h1
    rw [HST.out] at h1
    obtain ⟨rfl, rfl⟩ := List.cons.inj h1
    rw [← HXX.out] at r2 ⊢
    have R2 : Hid (RL rq Z2 (stt l (pre ++ [x]))) := by rw [Hid, stt_snoc]; exact r2
    have K2 := hid k2
    have NB2 := hid nb2
    clear r2 k2 nb2 h1 HNX c4 c5
    have E9 := hid (HE9.out.kp K2.out (by have := DB.q; omega))
    have hnq : ∀ U : World, (binOp .neq 38 (.agg x.cs) (.agg x.cs)).run Try.prog U = .ok (.bool false) U := fun U => by
      have := HNQ.out x x U
      rw [Rn.eq_self] at this
      exact this
    clear HNQ HE9
    have HK8 : Hid (pre.length < 1000) := HI.out.few rfl
    obtain ⟨k, hk⟩ : ∃ k, k = pre.length := ⟨_, rfl⟩
    have HKP := hid hk
    have S82 : Hid (St 3 Z2 (T + 5) #[.int .i64 (k : Int)]) := by rw [hk]; exact HI.out.s8.kp K2.out (by have := DB.q; omega)
    have S52 : Hid (St 40 Z2 (T + 1) cs) := HI.out.s5.kp K2.out (by have := DB.q; omega)
    have S62 : Hid (St 4 Z2 (T + 2) #[.bool false]) := HI.out.s6.kp K2.out (by have := DB.q; omega)
    have hk1 : k < 1000 := by rw [hk]; exact HK8.out
    have d1 : decide ((1000 : Int) ≤ (k : Int)) = false := by simp; omega
    have d2 : decide (1000 ≤ k) = false := by simp; omega
    have d3 : IntKind.i64.wrap ((k : Int) + 1) = (k : Int) + 1 := by rw [IntKind.wrap_i64]; omega
    clear hk HK8
    have HDN : Hid (∀ Z3, Kp (fun _ => False) Z2 Z3 → ∀ (bv : Bool) Y, Kp (fun i => i = T + 5 ∨ i = T + 2) Z3 Y → St 3 Y (T + 5) #[.int .i64 ((k : Int) + 1)] → St 4 Y (T + 2) #[.bool bv] → (bv = false → k + 1 < 1000) → Dl W F rq T cs l bv (pre ++ [x]) O Y ∧ Kp (fun i => ¬ O i ∧ i ≠ T + 6 ∧ i ≠ T + 7) Z Y) := by
      intro Z3 k3 bv Y k4 s8 s6 few
      rw [HKP.out] at s8 few
      exact HI.out.next DB x K2.out R2.out NB2.out k3 bv k4 s8 s6 few
    rw [← XS.out] at HDN
    have XS1 : T + 7 = X.heap.size + 1 := by have := XS.out; omega
    rw [XS1] at HDN
    clear XS1
    by_cases hle : (k : Int) + 1 = lv ∨ k + 1 = 1000
    · have e3 : ((k : Int) + 1 == lv) = false → ((k : Int) + 1 == 1000) = true := fun h => by
        simp at h ⊢
        omega
      cases e1 : ((k : Int) + 1 == lv)
      · have e2 := e3 e1
        clear e3 hle
        gi_wp2_with (first | (refine wpListIn_store_r (by rfl) (.tmp 10) (.tmp 25) rfl Z2.heap.size rfl (e := zRn) (e' := x) rfl (Rn.B.new Z2 zRn) ?_; intro Z3 b3 j3; have k3 : Kp (fun _ => False) Z2 Z3 := ((Kp.refl (fun _ => False) Z2).alloc _).trans j3 (fun i h1 h2 => by omega); have E10 := hid b3; have K3 := hid k3; have E93 := hid (E9.out.kp k3 (fun h => h)); have c8 : Z3.cell? ⟨T + 5, 0, none⟩ = some (.int .i64 (k : Int)) := (S82.out.kp k3 (fun h => h)).cell 0; have f8 := (S82.out.kp k3 (fun h => h)).frozen 0; have c6 : Z3.cell? ⟨T + 2, 0, none⟩ = some (.bool false) := (S62.out.kp k3 (fun h => h)).cell 0; have f6 := (S62.out.kp k3 (fun h => h)).frozen 0; have c51 : Z3.cell? ⟨T + 1, 1, none⟩ = some (.int .i64 lv) := (by have h5 := (S52.out.kp k3 (fun h => h)).cell 1; rw [HCS.out] at h5; exact h5); clear b3 j3 k3) | (refine wpListIn_load_r (by rfl) (.tmp 9) rfl T9 rfl E93.out ?_) | (refine wpListIn_load_r (by rfl) (.tmp 10) rfl Z2.heap.size rfl E10.out ?_))
        have kz := kp_setCell Z3 (T + 5) 0 (.int .i64 ((k : Int) + 1)) (fun i => i = T + 5 ∨ i = T + 2) (.inl rfl)
        have kz2 := kp_setCell (Z3.setCell ⟨T + 5, 0, none⟩ (.int .i64 ((k : Int) + 1))) (T + 2) 0 (.bool true) (fun i => i = T + 5 ∨ i = T + 2) (.inr rfl)
        obtain ⟨g1, g2⟩ := HDN.out Z3 K3.out true _ (kz.trans kz2 (fun _ _ h => h)) (((S82.out.kp K3.out (fun h => h)).set 0 _).kp (kp_setCell _ (T + 2) 0 (.bool true) (fun i => i = T + 2) rfl) (by omega)) (((S62.out.kp K3.out (fun h => h)).kp (kp_setCell Z3 (T + 5) 0 (.int .i64 ((k : Int) + 1)) (fun i => i = T + 5) rfl) (by omega)).set 0 _) (fun h => by cases h)
        exact ⟨g2, rfl, g1⟩
      · clear e3 hle
        gi_wp2_with (first | (refine wpListIn_store_r (by rfl) (.tmp 10) (.tmp 25) rfl Z2.heap.size rfl (e := zRn) (e' := x) rfl (Rn.B.new Z2 zRn) ?_; intro Z3 b3 j3; have k3 : Kp (fun _ => False) Z2 Z3 := ((Kp.refl (fun _ => False) Z2).alloc _).trans j3 (fun i h1 h2 => by omega); have E10 := hid b3; have K3 := hid k3; have E93 := hid (E9.out.kp k3 (fun h => h)); have c8 : Z3.cell? ⟨T + 5, 0, none⟩ = some (.int .i64 (k : Int)) := (S82.out.kp k3 (fun h => h)).cell 0; have f8 := (S82.out.kp k3 (fun h => h)).frozen 0; have c6 : Z3.cell? ⟨T + 2, 0, none⟩ = some (.bool false) := (S62.out.kp k3 (fun h => h)).cell 0; have f6 := (S62.out.kp k3 (fun h => h)).frozen 0; have c51 : Z3.cell? ⟨T + 1, 1, none⟩ = some (.int .i64 lv) := (by have h5 := (S52.out.kp k3 (fun h => h)).cell 1; rw [HCS.out] at h5; exact h5); clear b3 j3 k3) | (refine wpListIn_load_r (by rfl) (.tmp 9) rfl T9 rfl E93.out ?_) | (refine wpListIn_load_r (by rfl) (.tmp 10) rfl Z2.heap.size rfl E10.out ?_))
        have kz := kp_setCell Z3 (T + 5) 0 (.int .i64 ((k : Int) + 1)) (fun i => i = T + 5 ∨ i = T + 2) (.inl rfl)
        have kz2 := kp_setCell (Z3.setCell ⟨T + 5, 0, none⟩ (.int .i64 ((k : Int) + 1))) (T + 2) 0 (.bool true) (fun i => i = T + 5 ∨ i = T + 2) (.inr rfl)
        obtain ⟨g1, g2⟩ := HDN.out Z3 K3.out true _ (kz.trans kz2 (fun _ _ h => h)) (((S82.out.kp K3.out (fun h => h)).set 0 _).kp (kp_setCell _ (T + 2) 0 (.bool true) (fun i => i = T + 2) rfl) (by omega)) (((S62.out.kp K3.out (fun h => h)).kp (kp_setCell Z3 (T + 5) 0 (.int .i64 ((k : Int) + 1)) (fun i => i = T + 5) rfl) (by omega)).set 0 _) (fun h => by cases h)
        exact ⟨g2, rfl, g1⟩
    · have e1 : ((k : Int) + 1 == lv) = false := by simp; omega
      have e2 : ((k : Int) + 1 == 1000) = false := by simp; omega
      have hlt : k + 1 < 1000 := by omega
      clear hle
      gi_wp2_with (first | (refine wpListIn_store_r (by rfl) (.tmp 10) (.tmp 25) rfl Z2.heap.size rfl (e := zRn) (e' := x) rfl (Rn.B.new Z2 zRn) ?_; intro Z3 b3 j3; have k3 : Kp (fun _ => False) Z2 Z3 := ((Kp.refl (fun _ => False) Z2).alloc _).trans j3 (fun i h1 h2 => by omega); have E10 := hid b3; have K3 := hid k3; have E93 := hid (E9.out.kp k3 (fun h => h)); have c8 : Z3.cell? ⟨T + 5, 0, none⟩ = some (.int .i64 (k : Int)) := (S82.out.kp k3 (fun h => h)).cell 0; have f8 := (S82.out.kp k3 (fun h => h)).frozen 0; have c6 : Z3.cell? ⟨T + 2, 0, none⟩ = some (.bool false) := (S62.out.kp k3 (fun h => h)).cell 0; have f6 := (S62.out.kp k3 (fun h => h)).frozen 0; have c51 : Z3.cell? ⟨T + 1, 1, none⟩ = some (.int .i64 lv) := (by have h5 := (S52.out.kp k3 (fun h => h)).cell 1; rw [HCS.out] at h5; exact h5); clear b3 j3 k3) | (refine wpListIn_load_r (by rfl) (.tmp 9) rfl T9 rfl E93.out ?_) | (refine wpListIn_load_r (by rfl) (.tmp 10) rfl Z2.heap.size rfl E10.out ?_))
      have kz := kp_setCell Z3 (T + 5) 0 (.int .i64 ((k : Int) + 1)) (fun i => i = T + 5 ∨ i = T + 2) (.inl rfl)
      obtain ⟨g1, g2⟩ := HDN.out Z3 K3.out false _ kz ((S82.out.kp K3.out (fun h => h)).set 0 _) ((S62.out.kp K3.out (fun h => h)).kp (kp_setCell Z3 (T + 5) 0 (.int .i64 ((k : Int) + 1)) (fun i => i = T + 5) rfl) (by omega)) (fun _ => hlt)
      exact ⟨g2, g1⟩
  case done =>
    rintro D xs O Z hD ⟨hS1, F', hS2, hF'⟩ hi hdd
    have c5 : Z.cell? ⟨T + 1, 5, none⟩ = some (.int .i64 most) := by
      have := hi.s5.cell 5
      rw [HCS.out] at this
      exact this
    have c4 : Z.cell? ⟨T, 0, none⟩ = some (.pointer (some ⟨rq, 0, none⟩)) := hi.s4.cell 0
    have c6 : Z.cell? ⟨T + 2, 0, none⟩ = some (.bool false) := hi.s6.cell 0
    have f6 := hi.s6.frozen 0
    have hrl := hi.rl
    rw [hS1] at hrl
    obtain ⟨ao, cp, g1, g2, g3, g4⟩ := hrl.mem
    have cq : Z.cell? ⟨rq, 0, none⟩ = some (.slice ao 0 cp) := g1.cell 0
    have HI := hid hi
    have HD := hid hD
    have HDD := hid hdd
    have HRL := hid hrl
    have HL2 := hid hS2
    have HF2 := hid hF'
    have hm1 : ¬ most < 1 := by omega
    clear hi hD hdd hrl hS2 hF' g1 g2 g3 g4 hS1
    gi_wp2_with fail
    go_wp2_with fail
    subst hQ
    have hz := kp_setCell Z (T + 2) 0 (.bool true) (fun i => i = T + 2) rfl
    have hDT : D = T + 6 := by have h1 : D = X.heap.size := HD.out; have := XS.out; omega
    refine leaves_marksc D _ ?_ (fun w' k => fin_bool38 rfl ((HI.out.s6.set 0 _).kp k (by omega)) ⟨rfl, [], ?_⟩)
    · rw [← HDD.out]; exact heap_setCell_other Z ⟨T + 2, 0, none⟩ D _ (by show ¬ D = T + 2; omega)
    · exact Ch.fin HI.out.k HI.out.s6 HRL.out HL2.out HF2.out (by have := HT.out; have := XS.out; omega) HDD.out ((hz.mono (fun _ _ h => .inl h)).trans k (fun _ _ h => .inr h)) (by have := HT.out; omega) (by have := HT.out; omega) HR0.out.lt
  case stop =>
    rintro D c pre O Z hD ⟨F', hS2, hF'⟩ ⟨hc, hx⟩ hdd
    subst hc
    gi_wp2
    subst hQ
    have hDT : D = T + 6 := by have := XS.out; omega
    refine leaves_marksc D Z hdd (fun w' k => fin_bool38 rfl (hx.s6.kp k (by omega)) ⟨rfl, stt l pre, ?_⟩)
    exact Ch.fin hx.k hx.s6 hx.rl hS2 hF' (by have := HT.out; have := XS.out; omega) hdd (k.mono (fun _ _ h => .inr h)) (by have := HT.out; omega) (by have := HT.out; omega) HR0.out.lt
set_option maxRecDepth 100000 in
set_option maxHeartbeats 8000000 in
theorem drainl_none (W : World) (Q rq : Nat) (l : List Rn) (F : Nat → Prop) (kd lv : Int) (sl : Value) (x : Rn) (most : Int) (hm : most < 1) (hm2 : most ≤ 9223372036854775807) (hL : Lw Q l F W) (hR : RL rq W l) :
    Calls Try.prog 38 #[.pointer (some ⟨Q, 0, none⟩), .pointer (some ⟨rq, 0, none⟩), .agg #[.int .i64 kd, .int .i64 lv, sl, .int .i64 x.a, .int .i64 x.n, .int .i64 most]] W fun e w' => e = .returned (.bool true) ∧ ∃ l', Ch F Q rq W l' w' := by
  have HNF : Hid (¬ F rq) := hR.noF hL
  have HL0 := hid hL
  have HR0 := hid hR
  have HNQ := hid neq_r
  have HDV := hid drain_val
  unfold ptr at HDV
  clear hL hR
  refine (callsIn_wide (n := 20)).1 ?_
  refine callsIn_of_wp_marks Try.func38 rfl trivial ?_ rfl
  simp only [Try.ntmps38, List.size_toArray, List.length_cons, List.length_nil, Nat.reduceAdd, Nat.reduceSub, Array.replicate_succ, Array.replicate_zero, List.push_toArray, List.append_toArray, List.nil_append, List.cons_append]
  refine wpIn_wide.2 ?_
  generalize hQ : bodyPostM _ _ _ _ _ = QQ
  obtain ⟨xa, xn⟩ := x
  have h50 := nf50 (W.heap.size + 1 + 1 + 1) (W.heap.size + 1 + 1 + 1 + 1)
  go_wp2_with (first | (go_at_call 25; refine (HDV.out _ Q most).mono ?_; rintro e w1 ⟨rfl, rfl⟩))
  clear h50
  have HX : Hid (Bxs W Q rq #[.int .i64 kd, .int .i64 lv, sl, .int .i64 xa, .int .i64 xn, .int .i64 most] most ((((((W.alloc (.cells #[.pointer (some ⟨rq, 0, none⟩)] 25)).alloc (.cells #[.int .i64 kd, .int .i64 lv, sl, .int .i64 xa, .int .i64 xn, .int .i64 most] 40)).alloc (.cells #[.bool false] 4)).alloc (.cells #[.pointer (some ⟨Q, 0, none⟩)] 30)).alloc (.cells #[.int .i64 most] 2)).alloc (.cells #[.int .i64 0] 3))) := bxs_new W Q rq _ most
  simp only [World.size_alloc, Nat.add_assoc, Nat.reduceAdd]
  generalize (((((W.alloc (.cells #[.pointer (some ⟨rq, 0, none⟩)] 25)).alloc (.cells #[.int .i64 kd, .int .i64 lv, sl, .int .i64 xa, .int .i64 xn, .int .i64 most] 40)).alloc (.cells #[.bool false] 4)).alloc (.cells #[.pointer (some ⟨Q, 0, none⟩)] 30)).alloc (.cells #[.int .i64 most] 2)).alloc (.cells #[.int .i64 0] 3) = X at *
  obtain ⟨T, hT⟩ : ∃ T, T = W.heap.size := ⟨_, rfl⟩
  rw [← hT]
  have HT := hid hT
  have DB : Db W F rq T := ⟨hT, by have := HR0.out.lt; omega, fun i hi => by have := HL0.out.lt hi; omega, HNF.out⟩
  obtain ⟨x4, x5, x6, x1, x2, x8, xk, xs⟩ := HX.out
  rw [← hT] at x4 x5 x6 x1 x2 x8 xs
  have XS := hid xs
  clear hT HX
  obtain ⟨cs, hcs⟩ : ∃ cs : Array Value, cs = #[.int .i64 kd, .int .i64 lv, sl, .int .i64 xa, .int .i64 xn, .int .i64 most] := ⟨_, rfl⟩
  rw [← hcs] at x5
  have HCS := hid hcs
  clear hcs
  have SQ := hid (drain_stop2 19 (by omega) (T + 3) (T + 4) (some ⟨Q, 0, none⟩) most X (fun U k => (next_w ((HL0.out.kp0 xk).kp0 k) most hm2).mono (by
    rintro e w' (⟨_, h1, h2⟩ | ⟨h1, _⟩ | ⟨h1, _⟩)
    · exact ⟨h1, h2⟩
    · omega
    · omega)) x1 x2)
  have LO : Hid (∀ i, (i = T + 3 ∨ i = T + 4) → i < X.heap.size) := fun i hi => by omega
  have HI0 : Hid (∀ r, Dl W F rq T cs l false [] (fun i => i = T + 3 ∨ i = T + 4) ((X.alloc (.deferred (some []))).alloc (.loop r))) := fun r => by
    have ka : Kp (fun _ => False) X ((X.alloc (.deferred (some []))).alloc (.loop r)) := ((Kp.refl _ _).alloc _).alloc _
    have kk := xk.trans ka (fun _ _ h => h)
    have rX := HR0.out.kp kk (fun _ h => h)
    refine ⟨kk.mono (fun _ _ h => h.elim), x4.kp ka (fun h => h), x5.kp ka (fun h => h), x6.kp ka (fun h => h), x8.kp ka (fun h => h), rX, fun c off n cap hc o => ?_, fun i hi => by omega, by simp only [World.size_alloc]; omega, fun _ => by simp, fun i hi => Nat.lt_of_lt_of_le (LO.out i hi) ka.size⟩
    obtain ⟨ao, cp, g1, g2, g3, g4⟩ := HR0.out.mem
    have h5 : W.cell? ⟨rq, 0, none⟩ = some (.slice (some ⟨c, off, none⟩) n cap) := by
      have h6 : ((X.alloc (.deferred (some []))).alloc (.loop r)).cell? ⟨rq, 0, none⟩ = some (.slice ao l.length cp) := (g1.kp kk (fun h => h)).cell 0
      rw [h6] at hc
      rw [← hc]
      exact g1.cell 0
    have h6 := HR0.out.row_lt h5
    have h7 := HT.out
    omega
  have HLX : Hid (∀ r, Lw Q l F ((X.alloc (.deferred (some []))).alloc (.loop r))) := fun r => (HL0.out.kp0 xk).kp0 (((Kp.refl _ _).alloc _).alloc _)
  clear x4 x5 x6 x1 x2 x8 xk xs
  refine (wpIn_wide (n := 20)).1 ?_
  refine wpIn_rangeFunc_W rfl (by omega) (gf := 50) (pb := #[]) (lb := #[.pointer (some ⟨T + 3, 0, none⟩), .pointer (some ⟨T + 4, 0, none⟩)]) rfl trivial (enters_of Try.func50 (by kernel_rfl) rfl) SQ.out ?hS ?hSx LO.out (Below.refl _ _) (fun _ => rfl)
    (fun pre O Z => Dl W F rq T cs l false pre O Z ∧ Lw Q l F Z ∧ (∀ i, O i → ¬ F i)) (fun c pre O Z => False) ?hab (fun c s O X Y h k => h) ?hI2 (fun c s O Z o' h hlt => h) (fun r => ⟨HI0.out r, HLX.out r, fun i hi f => by have := DB.fl i f; omega⟩)
    (fun x a' Z => ∃ T9, T + 7 < T9 ∧ Rn.B Z T9 x ∧ ∃ f', a' = { tmps := g38 T (T + 1) (T + 2) (T + 5) T9 f', defers := [] }) ?hAx ?assign ?body ?done ?stop
  case hab =>
    intro s O X1 Y h k
    refine ⟨Dl.abw DB s O X1 Y h.1 k, h.2.1.kp k (fun i hi o => h.2.2 i o hi), fun i hi f => ?_⟩
    rcases hi with o | o
    · exact h.2.2 i o f
    · have := h.2.1.lt f; omega
  case hS =>
    intro xs Z r o' hs hl
    exact ⟨hs.1, fun i hi => ((kp_putC Z (X.heap.size + 1) o').block i (kr_lt hs.2 hi (LO.out i hi)) (by have := LO.out i hi; omega)).trans (hs.2 i hi)⟩
  case hSx =>
    intro xs Z r o' hs hl
    exact hs.elim
  case hI2 => exact fun s O Z o' hi hlt => ⟨hi.1.kp DB (kp_putC Z _ o') (fun i _ e => Or.inr (by have := XS.out; omega)), hi.2.1.kp (kp_putC Z _ o') (fun i f e => by have := DB.fl i f; have := XS.out; omega), hi.2.2⟩
  case hAx =>
    rintro x a' Z o' ⟨T9, h1, h2, h3⟩
    exact ⟨T9, h1, h2.kp (kp_putC Z _ o') (by have := XS.out; omega), h3⟩
  case assign =>
    intro l' pre O x Z1 Kk hll hsz hi hK
    have HK := hid hK
    have HI := hid hi
    have HSZ : Hid (T + 7 < Z1.heap.size) := by have := XS.out; show _ < _; omega
    clear hK hi hll hsz
    obtain ⟨ya, yn⟩ := x
    gi_wp2_with (first | (refine wpListIn_store_r (by rfl) (.tmp 9) (.tmp 19) rfl Z1.heap.size rfl (e := zRn) (e' := ⟨ya, yn⟩) rfl (Rn.B.new Z1 zRn) ?_; intro w6 b6 j6; have k6 : Kp (fun _ => False) Z1 w6 := ((Kp.refl (fun _ => False) Z1).alloc _).trans j6 (fun i h1 h2 => by omega); have E6 := hid b6; have K6 := hid k6; clear b6 j6 k6))
    exact HK.out _ _ (K6.out.mono (fun _ _ x => x.elim)) ⟨HI.out.1.kp DB K6.out (fun _ _ h => h.elim), HI.out.2.1.kp0 K6.out, HI.out.2.2⟩ ⟨_, HSZ.out, E6.out, act_of (by kernel_rfl) rfl⟩
  case body =>
    rintro l' pre O x a' Z hll hsz n1 n2 hi _ hsp
    exact hsp.elim
  case done =>
    rintro D xs O Z hD ⟨hS1, hKR⟩ ⟨hi, hL2, hF2⟩ hdd
    subst hS1
    have c5 : Z.cell? ⟨T + 1, 5, none⟩ = some (.int .i64 most) := by
      have := hi.s5.cell 5
      rw [HCS.out] at this
      exact this
    have c6 : Z.cell? ⟨T + 2, 0, none⟩ = some (.bool false) := hi.s6.cell 0
    have f6 := hi.s6.frozen 0
    have HI := hid hi
    have HD := hid hD
    have HDD := hid hdd
    have HL2 := hid hL2
    clear hi hD hdd hL2 hF2 hKR
    gi_wp2_with fail
    go_wp2_with fail
    subst hQ
    have hz := kp_setCell Z (T + 2) 0 (.bool true) (fun i => i = T + 2) rfl
    have hDT : D = T + 6 := by have h1 : D = X.heap.size := HD.out; have := XS.out; omega
    refine leaves_marksc D _ ?_ (fun w' k => fin_bool38 rfl ((HI.out.s6.set 0 _).kp k (by omega)) ⟨rfl, l, ?_⟩)
    · rw [← HDD.out]; exact heap_setCell_other Z ⟨T + 2, 0, none⟩ D _ (by show ¬ D = T + 2; omega)
    · exact Ch.fin (X := X) HI.out.k HI.out.s6 HI.out.rl HL2.out (fun i hi => .inl hi) (by have := HT.out; have := XS.out; omega) HDD.out ((hz.mono (fun _ _ h => .inl h)).trans k (fun _ _ h => .inr h)) (by have := HT.out; omega) (by have := HT.out; omega) HR0.out.lt
  case stop =>
    rintro D c pre O Z hD hS2 hx hdd
    exact hS2.elim
end Go.Proofs.Ytgfondgejimkkaa

namespace Go.Proofs.Ytgfondgejimkkaa
open Go.RowKit
set_option linter.unusedVariables false
set_option linter.unusedSimpArgs false
/-- What none answers true of, whatever comes. -/
def Non (w : World) (qv : Option Addr) : Prop := ∀ U, Kp (fun _ => False) w U → Calls Try.prog 32 #[.pointer qv] U fun e w' => e = .returned (.bool true) ∧ U = w'
set_option maxRecDepth 100000 in
set_option maxHeartbeats 4000000 in
theorem non_nil (w : World) : Non w none := fun U _ => by
  go_enter Try.func32, Try.ntmps32
  go_wp2
  go_ret
  exact ⟨rfl, rfl⟩
set_option maxRecDepth 100000 in
set_option maxHeartbeats 4000000 in
theorem non_zero (w : World) (Q : Nat) (m1 m2 n : Value) (h : St 73 w Q #[.pointer none, m1, m2, n]) : Non w (some ⟨Q, 0, none⟩) := fun U k => by
  have c0 : U.cell? ⟨Q, 0, none⟩ = some (.pointer none) := (h.kp k (fun h => h)).cell 0
  clear h k
  go_enter Try.func32, Try.ntmps32
  go_wp2
  go_ret
  exact ⟨rfl, rfl⟩
theorem Non.kp {w w' : World} {qv : Option Addr} (h : Non w qv) (k : Kp (fun _ => False) w w') : Non w' qv := fun U j => h U (k.trans j (fun _ _ h => h))
set_option maxRecDepth 100000 in
set_option maxHeartbeats 4000000 in
theorem put_none {w : World} {qv : Option Addr} (h : Non w qv) : Calls Try.prog 22 #[.pointer qv, .slice none 0 0] w fun e w' => e = .returned (.tuple #[.int .i64 0, .int .i64 1]) ∧ Kp (fun _ => False) w w' := by
  have HN := hid h
  clear h
  go_enter Try.func22, Try.ntmps22
  go_wp2_with (first | (go_at_call 32; refine (HN.out _ (Kp.refl _ _)).mono ?_; rintro e w1 ⟨rfl, rfl⟩))
  go_ret2
  exact ⟨rfl, Kp.refl _ _⟩
set_option maxRecDepth 100000 in
set_option maxHeartbeats 4000000 in
theorem cut_none {w : World} {qv : Option Addr} (h : Non w qv) (x : Rn) : Calls Try.prog 24 #[.pointer qv, .agg #[.int .i64 x.a, .int .i64 x.n]] w fun e w' => e = .returned (.tuple #[.int .i64 0, .int .i64 1]) ∧ Kp (fun _ => False) w w' := by
  have HN := hid h
  clear h
  obtain ⟨xa, xn⟩ := x
  dsimp only
  have ka : Kp (fun _ => False) w (w.alloc (.cells #[.int .i64 xa, .int .i64 xn] 38)) := (Kp.refl _ _).alloc _
  go_enter Try.func24, Try.ntmps24
  go_wp2_with (first | (go_at_call 32; refine (HN.out _ ka).mono ?_; rintro e w1 ⟨rfl, rfl⟩))
  go_ret2
  exact ⟨rfl, ka⟩
set_option maxRecDepth 100000 in
set_option maxHeartbeats 4000000 in
theorem over_none {w : World} {qv : Option Addr} (h : Non w qv) (x : Rn) : Calls Try.prog 23 #[.pointer qv, .agg #[.int .i64 x.a, .int .i64 x.n]] w fun e w' => e = .returned (.tuple #[.int .i64 0, .int .i64 1]) ∧ Kp (fun _ => False) w w' := by
  have HN := hid h
  clear h
  obtain ⟨xa, xn⟩ := x
  dsimp only
  have ka : Kp (fun _ => False) w (w.alloc (.cells #[.int .i64 xa, .int .i64 xn] 38)) := (Kp.refl _ _).alloc _
  go_enter Try.func23, Try.ntmps23
  go_wp2_with (first | (go_at_call 32; refine (HN.out _ ka).mono ?_; rintro e w1 ⟨rfl, rfl⟩))
  go_ret2
  exact ⟨rfl, ka⟩
set_option maxRecDepth 100000 in
set_option maxHeartbeats 4000000 in
theorem size_none {w : World} {qv : Option Addr} (h : Non w qv) : Calls Try.prog 16 #[.pointer qv] w fun e w' => e = .returned (.tuple #[.int .i64 0, .int .i64 0]) ∧ Kp (fun _ => False) w w' := by
  have HN := hid h
  clear h
  go_enter Try.func16, Try.ntmps16
  go_wp2_with (first | (go_at_call 32; refine (HN.out _ (Kp.refl _ _)).mono ?_; rintro e w1 ⟨rfl, rfl⟩))
  go_ret2
  exact ⟨rfl, Kp.refl _ _⟩
set_option maxRecDepth 100000 in
set_option maxHeartbeats 4000000 in
theorem all_none {w : World} {qv : Option Addr} (h : Non w qv) : Calls Try.prog 15 #[.pointer qv] w fun e w' => e = .returned (.func (.func 40) #[] #[]) ∧ Kp (fun _ => False) w w' := by
  have HN := hid h
  clear h
  go_enter Try.func15, Try.ntmps15
  go_wp2_with (first | (go_at_call 32; refine (HN.out _ (Kp.refl _ _)).mono ?_; rintro e w1 ⟨rfl, rfl⟩))
  go_ret
  exact ⟨rfl, Kp.refl _ _⟩
set_option maxRecDepth 100000 in
set_option maxHeartbeats 4000000 in
theorem copy_none {w : World} {qv : Option Addr} (h : Non w qv) : Calls Try.prog 12 #[.pointer qv] w fun e w' => e = .returned (.pointer none) ∧ Kp (fun _ => False) w w' := by
  have HN := hid h
  clear h
  go_enter Try.func12, Try.ntmps12
  go_wp2_with (first | (go_at_call 32; refine (HN.out _ (Kp.refl _ _)).mono ?_; rintro e w1 ⟨rfl, rfl⟩))
  go_ret
  exact ⟨rfl, Kp.refl _ _⟩
set_option maxRecDepth 100000 in
set_option maxHeartbeats 4000000 in
theorem same_none {w : World} {qv rv : Option Addr} (h : Non w qv) (k : Non w rv) : Calls Try.prog 13 #[.pointer qv, .pointer rv] w fun e w' => e = .returned (.bool true) ∧ Kp (fun _ => False) w w' := by
  have HN := hid (h _ (Kp.refl _ _))
  have HM := hid (k _ (Kp.refl _ _))
  clear h k
  go_enter Try.func13, Try.ntmps13
  go_wp2_with fail
  refine HN.out.mono ?_
  rintro e w1 ⟨rfl, rfl⟩
  go_wp2_with fail
  refine HN.out.mono ?_
  rintro e w1 ⟨rfl, rfl⟩
  go_wp2_with fail
  refine HM.out.mono ?_
  rintro e w1 ⟨rfl, rfl⟩
  go_wp2_with fail
  go_ret
  exact ⟨rfl, Kp.refl _ _⟩
set_option maxRecDepth 100000 in
set_option maxHeartbeats 4000000 in
/-- One that is there, and none. -/
theorem same_non {w : World} {Q : Nat} {R : List Rn} {F : Nat → Prop} (hL : Lw Q R F w) : Calls Try.prog 13 #[.pointer (some ⟨Q, 0, none⟩), .pointer none] w fun e w' => e = .returned (.bool false) ∧ Kp (fun _ => False) w w' := by
  obtain ⟨B, mb, me, c, v, L, h1, _⟩ := hL
  have HN : Hid (Calls Try.prog 32 #[.pointer (some ⟨Q, 0, none⟩)] w fun e w' => e = .returned (.bool false) ∧ w = w') := none_yes Q B _ _ _ w h1.st
  have HM := hid (non_nil w w (Kp.refl _ _))
  clear h1
  go_enter Try.func13, Try.ntmps13
  go_wp2_with fail
  refine HN.out.mono ?_
  rintro e w1 ⟨rfl, rfl⟩
  go_wp2_with fail
  refine HM.out.mono ?_
  rintro e w1 ⟨rfl, rfl⟩
  go_wp2_with fail
  refine HN.out.mono ?_
  rintro e w1 ⟨rfl, rfl⟩
  go_wp2_with fail
  go_ret
  exact ⟨rfl, Kp.refl _ _⟩
set_option maxRecDepth 100000 in
set_option maxHeartbeats 4000000 in
theorem next_none {w : World} {qv : Option Addr} (h : Non w qv) (most : Int) : Calls Try.prog 29 #[.pointer qv, .int .i64 most] w fun e w' => e = .returned (.tuple #[.agg zRn.cs, .int .i64 1]) ∧ Kp (fun _ => False) w w' := by
  have HN := hid h
  clear h
  have ka : Kp (fun _ => False) w (w.alloc (.cells #[.int .i64 0, .int .i64 0] 38)) := (Kp.refl _ _).alloc _
  have R0 := hid (Rn.B.new w zRn)
  have HC := hid (HN.out _ ka)
  go_enter Try.func29, Try.ntmps29
  go_wp2_with fail
  refine HC.out.mono ?_
  rintro e w1 ⟨rfl, rfl⟩
  clear HC
  go_wp2_with (refine wpList_store_r rfl _ _ rfl _ rfl (e' := zRn) rfl R0.out ?_; intro w6 s6 k6; have S6 := hid s6; have K6 := hid k6; clear s6 k6)
  refine bodyPost_ret (results_cell_tmp2 Try.results29 _ _ _ rfl rfl (Rn.B.load S6.out)) rfl ?_
  exact ⟨rfl, ka.trans K6.out (fun i hi e => by omega)⟩
set_option maxRecDepth 100000 in
set_option maxHeartbeats 4000000 in
theorem greatest_none {w : World} {qv : Option Addr} (h : Non w qv) : Calls Try.prog 28 #[.pointer qv] w fun e w' => e = .returned (.tuple #[.agg zRn.cs, .int .i64 1]) ∧ Kp (fun _ => False) w w' := by
  have HN := hid h
  clear h
  have ka : Kp (fun _ => False) w (w.alloc (.cells #[.int .i64 0, .int .i64 0] 38)) := (Kp.refl _ _).alloc _
  have R0 := hid (Rn.B.new w zRn)
  have HC := hid (HN.out _ ka)
  go_enter Try.func28, Try.ntmps28
  go_wp2_with fail
  refine HC.out.mono ?_
  rintro e w1 ⟨rfl, rfl⟩
  clear HC
  go_wp2_with (refine wpList_store_r rfl _ _ rfl _ rfl (e' := zRn) rfl R0.out ?_; intro w6 s6 k6; have S6 := hid s6; have K6 := hid k6; clear s6 k6)
  refine bodyPost_ret (results_cell_tmp2 Try.results28 _ _ _ rfl rfl (Rn.B.load S6.out)) rfl ?_
  exact ⟨rfl, ka.trans K6.out (fun i hi e => by omega)⟩
set_option maxHeartbeats 4000000 in
theorem drain_valv (w : World) (qv : Option Addr) (most : Int) :
    Calls Try.prog 25 #[.pointer qv, .int .i64 most] w fun e w' => e = .returned (.func (.func 50) #[] #[.pointer (some ⟨w.heap.size, 0, none⟩), .pointer (some ⟨w.heap.size + 1, 0, none⟩)]) ∧ w' = (w.alloc (.cells #[.pointer qv] 30)).alloc (.cells #[.int .i64 most] 2) := by
  go_enter Try.func25, Try.ntmps25
  go_wp2_with fail
  go_ret
  exact ⟨by simp, rfl⟩
end Go.Proofs.Ytgfondgejimkkaa
