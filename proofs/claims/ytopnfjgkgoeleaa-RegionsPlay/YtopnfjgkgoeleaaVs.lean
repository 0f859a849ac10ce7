/- regions: slices.Values of a list, as an iterator. -/
import Derived.Test.YtopnfjgkgoeleaaSq
import Derived.Test.YtopnfjgkgoeleaaAc
namespace Go.Proofs.Ytopnfjgkgoeleaa
open Go.RowKit Go.Shelf
attribute [local go_sem] Oper.semAt_some
set_option linter.unusedVariables false
set_option linter.unusedSimpArgs false
section
variable {F : Fence} {n : Nat}
theorem wpListIn_exec {P : Program} {ops : Array Oper} {rest : List Oper} {o : Oper} {a : Act} {w w' : World} {v : Value} {Q : Exit → Act → World → Prop} (hw : Region.wanted o (yielded ops a.tmps) = true) (hnd : ∀ c, o.op ≠ .defer c) (hab : o.about P w a.eval = none)
    (he : (execOp a.eval o).run P w = .ok (.value v) w') (h : wpListIn F n P ops Q rest (a.put o.dst v) w') : wpListIn F n P ops Q (o :: rest) a w :=
  wpListIn_step fun K hK => by
    rw [if_pos hw]
    refine ⟨fun f hf => (by rw [hab] at hf; cases hf), ?_⟩
    rw [Oper.semAt_eq _ _ _ hnd, he]
    exact hK _ _ h
theorem exec_load_r {o : Oper} {a : Act} {w : World} {x : Operand} {g : Nat} {e : Rn} (ho : o.op = .load 46 x) (hx : a.eval x = .pointer (some ⟨g, 0, none⟩)) (s : Rn.B w g e) :
    (execOp a.eval o).run Try.prog w = .ok (.value (.agg e.cs)) w := by
  unfold execOp
  simp only [ho, hx, Instr.loadAt, Instr.sureAddr, Sem.run_bind, Sem.run_pure, Result.andThen_ok, s.load]
theorem wpListIn_load_r {ops : Array Oper} {rest : List Oper} {o : Oper} {a : Act} {w : World} {Q : Exit → Act → World → Prop} (hw : Region.wanted o (yielded ops a.tmps) = true) (x : Operand) (ho : o.op = .load 46 x) (g : Nat) (hx : a.eval x = .pointer (some ⟨g, 0, none⟩)) {e : Rn} (s : Rn.B w g e)
    (h : wpListIn F n Try.prog ops Q rest (a.put o.dst (.agg e.cs)) w) : wpListIn F n Try.prog ops Q (o :: rest) a w :=
  wpListIn_exec hw (fun c e => by rw [ho] at e; cases e) (by simp [Oper.about, ho]) (exec_load_r ho hx s) h
theorem wpListIn_store_r {ops : Array Oper} {rest : List Oper} {o : Oper} {a : Act} {w : World} {Q : Exit → Act → World → Prop} (hw : Region.wanted o (yielded ops a.tmps) = true) (x y : Operand) (ho : o.op = .store 46 x y) (g : Nat) (hx : a.eval x = .pointer (some ⟨g, 0, none⟩)) {e e' : Rn} (hy : a.eval y = .agg e'.cs) (s : Rn.B w g e)
    (hk : ∀ w', Rn.B w' g e' → Kp (fun i => i = g) w w' → wpListIn F n Try.prog ops Q rest (a.put o.dst undef) w') : wpListIn F n Try.prog ops Q (o :: rest) a w :=
  wpListIn_step fun K hK => by
    rw [if_pos hw]
    refine ⟨fun f hf => (by simp [Oper.about, ho] at hf), ?_⟩
    rw [Oper.semAt_eq _ _ _ (fun c e => by rw [ho] at e; cases e)]
    unfold execOp
    simp only [ho, hx, hy, Instr.storeAt, Instr.sureAddr, Sem.run_bind, Sem.run_pure, Result.andThen_ok, run_storeVar_row w g 46 46 e.cs e'.cs s (by rw [Try.isz46]; rfl) rfl (Rn.one e')]
    exact hK _ _ (hk _ (setRow_heap w g _ _ 46 _ s) (kp_setRow w g _))
end
/-- The blocks that it reads. -/
def RO (bt : Nat) (ao : Option Addr) (L : List Rn) (i : Nat) : Prop := i = bt ∨ (0 < L.length ∧ ∃ off, ao = some ⟨i, off, none⟩)
def KR (O : Nat → Prop) (A B : World) : Prop := ∀ i, O i → B.heap[i]? = A.heap[i]?
theorem srcr_blk {w w' : World} {ao : Option Addr} {L : List Rn} (h : Srcr w ao L) (hk : ∀ i off, 0 < L.length → ao = some ⟨i, off, none⟩ → w'.heap[i]? = w.heap[i]?) : Srcr w' ao L := by
  intro hp
  obtain ⟨g, off, e, hb, hc⟩ := h hp
  have hbk := hk g off hp e
  refine ⟨g, off, e, ?_, fun j u hu => ?_⟩
  · have h2 : w.heap[g]? = some w.heap[g] := Array.getElem?_eq_getElem hb
    rw [← hbk] at h2
    exact (Array.getElem?_eq_some_iff.1 h2).1
  · rw [← hc j u hu]
    unfold World.cell?
    simp only [hbk]
theorem kr_lt {O : Nat → Prop} {A B : World} (h : KR O A B) {i : Nat} (hi : O i) (hl : i < A.heap.size) : i < B.heap.size := by
  have h2 : A.heap[i]? = some A.heap[i] := Array.getElem?_eq_getElem hl
  rw [← h i hi] at h2
  exact (Array.getElem?_eq_some_iff.1 h2).1
theorem take_snoc {L : List Rn} {k : Nat} (h : k < L.length) : L.take k ++ [L.getD k zRn] = L.take (k + 1) := by
  rw [List.take_add_one]
  simp [List.getD, List.getElem?_eq_getElem h]
set_option maxRecDepth 100000 in
set_option maxHeartbeats 4000000 in
theorem val_seq (n : Nat) (hn : 1 ≤ n) (bt : Nat) (ao : Option Addr) (c : Nat) (L : List Rn) (w : World) (hl : L.length ≤ 65536) (hlc : L.length ≤ c) (hs : Srcr w ao L) (s1 : St 73 w bt #[.slice ao L.length c]) :
    SeqP Fence.wide n Try.prog 57 #[] #[.pointer (some ⟨bt, 0, none⟩)] (fun x : Rn => #[.agg x.cs]) (fun ys => ys = L) (fun pre => ∃ j, j ≤ L.length ∧ pre = L.take j) L.length (RO bt ao L) w := by
  intro l J Jx W hW hA hAx hY h0
  have S0 := hid (hs.below hW)
  have T1 := hid (s1.below hW s1.lt)
  have LB : Hid (∀ i, RO bt ao L i → i < W.heap.size) := by
    rintro i (rfl | ⟨hp, off, e⟩)
    · exact Nat.lt_of_lt_of_le s1.lt hW.size
    · obtain ⟨g, of2, e2, hb, _⟩ := S0.out hp
      rw [e] at e2
      cases e2
      exact hb
  clear hs s1 hW
  obtain ⟨N, hN⟩ : ∃ N, N = L.length := ⟨_, rfl⟩
  have c0 : W.cell? ⟨bt, 0, none⟩ = some (.slice ao N c) := by rw [hN]; exact T1.out.cell 0
  have HY := hid hY
  rw [← hN] at hl hlc HY
  have HN := hid hN
  clear hN hY
  refine callsIn_of_wp Try.func57 rfl trivial ?_ rfl
  simp only [Try.ntmps57, List.size_toArray, List.length_cons, List.length_nil, Nat.reduceAdd, Nat.reduceSub, Array.replicate_succ, Array.replicate_zero, List.push_toArray, List.append_toArray, List.nil_append, List.cons_append]
  gi_wp2_with fail
  gi_loopw [7] (fun i wr => ∃ (k : Nat) (O : Nat → Prop), i = .int .i64 k ∧ k ≤ N ∧ Hid (J (L.take k) O wr) ∧ Hid (∀ i, RO bt ao L i → O i) ∧ Hid (KR (RO bt ao L) W wr)) (fun i _ => N - (intOf i).toNat)
  case atStart => exact ⟨0, _, rfl, Nat.zero_le _, h0, fun _ h => h, fun _ _ => rfl⟩
  case round =>
    clear c0
    obtain ⟨k, O, rfl, hk, HJ, HOS, HKR⟩ := hrel
    by_cases hlt : k < N
    · have hkl : k < L.length := by have := HN.out; omega
      obtain ⟨gb, off, rfl, hgb, x0, x1, x2⟩ := (srcr_blk S0.out (fun i off hp e => HKR.out i (Or.inr ⟨hp, off, e⟩))).at (i := k) hkl
      have HTS := hid (take_snoc hkl)
      generalize L.getD k zRn = x at *
      have hplen : Hid ((L.take k).length < N) := by show _ < _; rw [List.length_take]; omega
      obtain ⟨q, hq⟩ : ∃ q, q = wr.heap.size := ⟨_, rfl⟩
      gi_wp2_with (first | (refine wpListIn_store_r (by rfl) (.tmp 4) (.tmp 10) rfl wr.heap.size rfl (e := zRn) (e' := x) rfl (Rn.B.new wr zRn) ?_; intro w2 b2 j2; have k2 : Kp (fun _ => False) wr w2 := ((Kp.refl (fun _ => False) wr).alloc _).trans j2 (fun i h1 h2 => by omega); have E2 := hid b2; have K2 := hid k2; have J2 := hid (hA _ O wr w2 HJ.out (k2.mono (fun _ _ x => x.elim))); obtain ⟨fn, tmps, assign, body, hy, hR⟩ := HY.out _ _ x w2 J2.out hplen.out ⟨k + 1, by have := HN.out; omega, HTS.out⟩; have HR := hid hR; clear hR k2 j2 b2 x0 x1 x2) | (refine wpListIn_load_r (by rfl) (.tmp 4) rfl wr.heap.size rfl E2.out ?_))
      have KR2 : Hid (KR (RO bt (some ⟨gb, off, none⟩) L) W w2) := fun i hi => (K2.out.block i (kr_lt HKR.out hi (LB.out i hi)) (fun x => x)).trans (HKR.out i hi)
      refine HR.out.mono ?_
      rw [HTS.out]
      rintro ee w3 (⟨rfl, hJ3, hk3⟩ | ⟨rfl, hJx3, hk3⟩)
      · have KR3 : Hid (KR (RO bt (some ⟨gb, off, none⟩) L) W w3) := fun i hi => (hk3.block i (kr_lt KR2.out hi (LB.out i hi)) (fun x => x (Or.inl (HOS.out i hi)))).trans (KR2.out i hi)
        have HJ3 := hid hJ3
        clear hk3 hJ3
        gi_wp2
        go_roundw
        case rel => exact ⟨k + 1, _, by go_num, hlt, HJ3, fun i hi => Or.inl (HOS.out i hi), KR3⟩
        case measure => simp [intOf]; omega
      · gi_wp2
        refine bodyPost_ret (results_none rfl _ _ _) rfl ?_
        exact ⟨⟨_, rfl⟩, .inr ⟨_, _, ⟨k + 1, by have := HN.out; omega, rfl⟩, hJx3⟩⟩
    · obtain rfl : k = N := by omega
      have HT : Hid (L.take k = L) := List.take_of_length_le (by have := HN.out; omega)
      gi_wp2_with fail
      go_end0
      exact ⟨⟨_, rfl⟩, .inl ⟨_, _, rfl, by rw [← HT.out]; exact HJ.out⟩⟩
end Go.Proofs.Ytopnfjgkgoeleaa
