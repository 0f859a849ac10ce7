/- counts: row.all, as an iterator. -/
import Derived.Test.YtjhgkcbpllgdiaaDoorSq
import Derived.Test.YtjhgkcbpllgdiaaDoorWm
import Derived.Test.YtjhgkcbpllgdiaaDoorCf
namespace Go.Proofs.YtjhgkcbpllgdiaaDoor
open Go.RowKit Go.Shelf
attribute [local go_sem] Oper.semAt_some
set_option linter.unusedVariables false
section
variable {F : Fence} {n : Nat}
theorem wpListIn_exec {P : Program} {ops : Array Oper} {rest : List Oper} {o : Oper} {a : Act} {w w' : World} {v : Value} {Q : Exit → Act → World → Prop} (hw : Region.wanted o (yielded ops a.tmps) = true) (hnd : ∀ c, o.op ≠ .defer c) (hab : o.about P w a.eval = none)
    (he : (execOp a.eval o).run P w = .ok (.value v) w') (h : wpListIn F n P ops Q rest (a.put o.dst v) w') : wpListIn F n P ops Q (o :: rest) a w :=
  wpListIn_step fun K hK => by
    rw [if_pos hw]
    refine ⟨fun f hf => (by rw [hab] at hf; cases hf), ?_⟩
    rw [Oper.semAt_eq _ _ _ hnd, he]
    exact hK _ _ h
theorem wpListIn_load_rb {ops : Array Oper} {rest : List Oper} {o : Oper} {a : Act} {w : World} {Q : Exit → Act → World → Prop} (hw : Region.wanted o (yielded ops a.tmps) = true) (x : Operand) (ho : o.op = .load 58 x) (g : Nat) (hx : a.eval x = .pointer (some ⟨g, 0, none⟩)) {v : Value} {W : Nat} (s : Rb w g v W)
    (h : wpListIn F n Tryd.prog ops Q rest (a.put o.dst (.agg (rc v W))) w) : wpListIn F n Tryd.prog ops Q (o :: rest) a w :=
  wpListIn_exec hw (fun c e => by rw [ho] at e; cases e) (by simp [Oper.about, ho]) (exec_load_rb ho hx s) h
theorem wpListIn_store_rb {ops : Array Oper} {rest : List Oper} {o : Oper} {a : Act} {w : World} {Q : Exit → Act → World → Prop} (hw : Region.wanted o (yielded ops a.tmps) = true) (x y : Operand) (ho : o.op = .store 58 x y) (g : Nat) (hx : a.eval x = .pointer (some ⟨g, 0, none⟩)) {v : Value} {ao : Option Addr} {m c W W' : Nat} (hy : a.eval y = .agg (rc (.slice ao m c) W')) (s : Rb w g v W)
    (hk : ∀ w', Rb w' g (.slice ao m c) W' → Kp (fun i => i = g) w w' → wpListIn F n Tryd.prog ops Q rest (a.put o.dst undef) w') : wpListIn F n Tryd.prog ops Q (o :: rest) a w :=
  wpListIn_step fun K hK => by
    rw [if_pos hw]
    refine ⟨fun f hf => (by simp [Oper.about, ho] at hf), ?_⟩
    rw [Oper.semAt_eq _ _ _ (fun c e => by rw [ho] at e; cases e)]
    unfold execOp
    simp only [ho, hx, hy, Instr.storeAt, Instr.sureAddr, Sem.run_bind, Sem.run_pure, Result.andThen_ok, run_storeVar_row w g 58 58 (rc v W) (rc (.slice ao m c) W') s (by rw [info58]; rfl) rfl (rc_one ao m c W')]
    exact hK _ _ (hk _ (setRow_heap w g _ _ 58 _ s) (kp_setRow w g _))
end
/-- A count that is told: its place. -/
abbrev Ex (zs : List Int) (W M : Nat) := { i : Nat // i < M ∧ ct zs W i ≠ 0 }
def xenc {zs : List Int} {W M : Nat} (x : Ex zs W M) : Array Value := #[.int .i64 (x.1 : Int), .int .u64 (ct zs W x.1)]
/-- The places that were told. -/
def idx {zs : List Int} {W M : Nat} (L : List (Ex zs W M)) : List Nat := L.map (·.1)
theorem idx_snoc {zs : List Int} {W M : Nat} (L : List (Ex zs W M)) (x : Ex zs W M) : idx (L ++ [x]) = idx L ++ [x.1] := by simp [idx]
theorem idx_len {zs : List Int} {W M : Nat} (L : List (Ex zs W M)) : (idx L).length = L.length := by simp [idx]
/-- The blocks that it reads. -/
def RO (ao : Option Addr) (zs : List Int) (i : Nat) : Prop := 0 < zs.length ∧ ∃ off, ao = some ⟨i, off, none⟩
def KR (O : Nat → Prop) (A B : World) : Prop := ∀ i, O i → B.heap[i]? = A.heap[i]?
theorem src_blk {w w' : World} {ao : Option Addr} {zs : List Int} (h : Src .u8 w ao zs) (hk : ∀ i off, 0 < zs.length → ao = some ⟨i, off, none⟩ → w'.heap[i]? = w.heap[i]?) : Src .u8 w' ao zs := by
  intro hp
  obtain ⟨g, off, e, hc⟩ := h hp
  refine ⟨g, off, e, fun i hi => ?_⟩
  rw [← hc i hi]
  have hb := hk g off hp e
  unfold World.cell?
  simp only [hb]
theorem map_snoc {zs : List Int} {W M : Nat} {pre : List (Ex zs W M)} {k : Nat} (h : idx pre = nzs zs W k) (x : Ex zs W M) (hx : x.1 = k) : idx (pre ++ [x]) = nzs zs W (k + 1) := by
  have hc := x.2.2
  rw [hx] at hc
  rw [idx_snoc, h, nzs, if_neg hc, hx]
theorem map_skip {zs : List Int} {W M : Nat} {pre : List (Ex zs W M)} {k : Nat} (h : idx pre = nzs zs W k) (hc : ct zs W k = 0) : idx pre = nzs zs W (k + 1) := by
  rw [nzs, if_pos hc]; exact h
theorem kr_lt {O : Nat → Prop} {A B : World} (h : KR O A B) {i : Nat} (hi : O i) (hl : i < A.heap.size) : i < B.heap.size := by
  have h2 : A.heap[i]? = some A.heap[i] := Array.getElem?_eq_getElem hl
  rw [← h i hi] at h2
  exact (Array.getElem?_eq_some_iff.1 h2).1
set_option maxRecDepth 100000 in
set_option maxHeartbeats 4000000 in
theorem all_seq (n : Nat) (hn : 1 ≤ n) (ao : Option Addr) (cap : Nat) (zs : List Int) (W M : Nat) (w : World) (hl : zs.length ≤ 1000000000) (hbt : Byt zs) (hW0 : 0 < W) (hW : W ≤ 64) (hM : M = 8 * zs.length / W) (hs : Src .u8 w ao zs) :
    SeqP Fence.wide n Tryd.prog 31 #[.agg (rc (.slice ao zs.length cap) W)] #[] (xenc (zs := zs) (W := W) (M := M)) (fun ys => idx ys = nzs zs W M) (fun pre => ∃ j, j ≤ M ∧ idx pre = nzs zs W j) M (RO ao zs) w := by
  intro l J Jx X hX hA hAx hY h0
  have S0 := hid (hs.below hX)
  have MN := hid (fun w => many_any ao zs.length cap W w (by omega) hW0)
  rw [← hM] at MN
  have hMb : M ≤ 8000000000 := by rw [hM]; exact Nat.le_trans (Nat.div_le_self _ _) (by omega)
  have GE := hid (fun (k : Nat) (hk : k < M) (Y : World) (h : Src .u8 Y ao zs) => (by
    have hft := fits_of hW0 (by rw [← hM]; exact hk)
    obtain ⟨g, off, rfl, _⟩ := h (by omega)
    exact get_any g off cap W k zs Y (by omega) hbt hW0 hW hft h : Calls Tryd.prog 26 #[.agg (rc (.slice ao zs.length cap) W), .int .i64 (k : Int)] Y fun e w' => e = .returned (.int .u64 (ct zs W k)) ∧ Kp (fun _ => False) Y w'))
  have LB : Hid (∀ i, RO ao zs i → i < X.heap.size) := by
    rintro i ⟨hp, off, e⟩
    obtain ⟨g, of2, e2, hc⟩ := S0.out hp
    rw [e] at e2
    cases e2
    exact block_lt_of_cell (hc 0 hp)
  have R0 := hid (Rb.new X (.slice ao zs.length cap) W)
  have k0 : Kp (fun _ => False) X (X.alloc (.cells (rc (.slice ao zs.length cap) W) 58)) := (Kp.refl _ _).alloc _
  have J0 := hid (hA [] _ X _ h0 (k0.mono (fun _ _ x => x.elim)))
  have K0 := hid k0
  clear hs hX hbt k0 h0 hM
  refine callsIn_of_wp Tryd.func31 rfl trivial ?_ rfl
  rw [show rc (.slice ao zs.length cap) W = #[.slice ao zs.length cap, .int .i64 (W : Int)] from rfl]
  simp only [Tryd.ntmps31, List.size_toArray, List.length_cons, List.length_nil, Nat.reduceAdd, Nat.reduceSub, Array.replicate_succ, Array.replicate_zero, List.push_toArray, List.append_toArray, List.nil_append, List.cons_append]
  gi_wp2_with (refine wpListIn_load_rb (by rfl) (.tmp 2) rfl X.heap.size rfl R0.out ?_)
  refine ⟨trivial, (callsIn_wide.2 (MN.out _)).mono ?_⟩
  rintro r w1 ⟨rfl, k1⟩
  have R1 := hid (R0.out.kp k1 (fun x => x))
  have K1 := hid (K0.out.trans k1 (fun _ _ x => x))
  have J1 := hid (hA [] _ _ _ J0.out (k1.mono (fun _ _ x => x.elim)))
  have S1 := hid (S0.out.kp0 K1.out)
  have OB : Hid (X.heap.size < w1.heap.size) := R1.out.lt
  clear k1 R0 J0 K0 MN
  obtain ⟨B, hB⟩ : ∃ B, B = X.heap.size := ⟨_, rfl⟩
  have HB := hid hB
  have O1 : Hid (∀ i, (i = B ∨ RO ao zs i) → ((RO ao zs i ∨ X.heap.size ≤ i ∧ i < (X.alloc (.cells (rc (.slice ao zs.length cap) W) 58)).heap.size) ∨ (X.alloc (.cells (rc (.slice ao zs.length cap) W) 58)).heap.size ≤ i ∧ i < w1.heap.size)) := by
    rintro i (rfl | h)
    · exact .inl (.inr ⟨by omega, by simp; omega⟩)
    · exact .inl (.inl h)
  have L1 : Hid (∀ i, (i = B ∨ RO ao zs i) → i < w1.heap.size) := by
    rintro i (rfl | h)
    · have := OB.out; omega
    · have h1 := LB.out i h; have h2 := K1.out.size; omega
  rw [← hB] at R1 ⊢
  clear hB
  gi_wp2_with fail
  gi_loopw [4, 5, 8] (fun _ _ i wr => ∃ (k : Nat) (pre : List (Ex zs W M)) (O : Nat → Prop), i = .int .i64 k ∧ k ≤ M ∧ idx pre = nzs zs W k ∧ J pre O wr ∧ (∀ i, (i = B ∨ RO ao zs i) → O i) ∧ KR (fun i => i = B ∨ RO ao zs i) w1 wr) (fun _ _ i _ => M - (intOf i).toNat)
  case atStart => exact ⟨0, [], _, rfl, Nat.zero_le _, rfl, J1.out, O1.out, fun _ _ => rfl⟩
  case round =>
    obtain ⟨k, pre, O, rfl, hk, hpre, hJs, hOs, hkr⟩ := hrel
    have HPRE := hid hpre
    have HOS := hid hOs
    have HKR := hid hkr
    have SR := hid (src_blk S1.out (fun i off hp e => hkr i (Or.inr ⟨hp, off, e⟩)))
    have RR : Hid (Rb wr B (.slice ao zs.length cap) W) := by
      have h := R1.out
      unfold Rb St at h
      show wr.heap[B]? = _
      rw [hkr B (Or.inl rfl)]
      exact h
    clear hpre hOs hkr
    by_cases hlt : k < M
    · have hd : (k : Int) < (M : Int) := by omega
      have GX := hid (GE.out k hlt wr SR.out)
      gi_wp2_with (refine wpListIn_load_rb (by rfl) (.tmp 2) rfl B rfl RR.out ?_)
      refine ⟨trivial, (callsIn_wide.2 GX.out).mono ?_⟩
      rintro r w2 ⟨rfl, k2⟩
      have K2 := hid k2
      have hplen : pre.length < M := by
        have h := congrArg List.length HPRE.out
        rw [idx_len] at h
        have h2 := nzs_len zs W k
        omega
      have J2 := hA pre O wr w2 hJs (k2.mono (fun _ _ x => x.elim))
      have KR2 : Hid (KR (fun i => i = B ∨ RO ao zs i) w1 w2) := fun i hi => (K2.out.block i (kr_lt HKR.out hi (L1.out i hi)) (fun x => x)).trans (HKR.out i hi)
      clear k2
      by_cases hc : ct zs W k = 0
      · have HN2 := hid (map_skip HPRE.out hc)
        rw [hc]
        clear hc
        gi_wp2_with fail
        refine ⟨fun _ h => (by cases h), ?_⟩
        gi_wp2_with fail
        go_roundw
        case rel => exact ⟨k + 1, pre, _, by go_num, hlt, HN2.out, J2, fun i hi => Or.inl (HOS.out i hi), KR2.out⟩
        case measure => simp [intOf]; omega
      · have HN2 := hid (map_snoc HPRE.out (⟨k, hlt, hc⟩ : Ex zs W M) rfl)
        obtain ⟨fn, tmps, assign, body, hy, hR⟩ := hY pre _ ⟨k, hlt, hc⟩ w2 J2 hplen ⟨k + 1, hlt, HN2.out⟩
        unfold xenc at hy
        dsimp only at hy
        have HR := hid hR
        have hcn : (ct zs W k == 0) = false := beq_eq_false_iff_ne.2 hc
        clear hR
        gi_wp2_with fail
        refine HR.out.mono ?_
        rintro ee w3 (⟨rfl, hJ3, hk3⟩ | ⟨rfl, hJx3, hk3⟩)
        · have KR3 : Hid (KR (fun i => i = B ∨ RO ao zs i) w1 w3) := fun i hi => (hk3.block i (kr_lt KR2.out hi (L1.out i hi)) (fun x => x (Or.inl (HOS.out i hi)))).trans (KR2.out i hi)
          clear hk3
          gi_wp2
          go_roundw
          case rel => exact ⟨k + 1, _, _, by go_num, hlt, HN2.out, hJ3, fun i hi => Or.inl (HOS.out i hi), KR3.out⟩
          case measure => simp [intOf]; omega
        · gi_wp2
          refine bodyPost_ret (results_none rfl _ _ _) rfl ?_
          exact ⟨⟨_, rfl⟩, .inr ⟨_, _, ⟨k + 1, hlt, HN2.out⟩, hJx3⟩⟩
    · obtain rfl : k = M := by omega
      have hd : ¬ (k : Int) < (k : Int) := by omega
      gi_wp2_with fail
      go_end0
      exact ⟨⟨_, rfl⟩, .inl ⟨pre, HPRE.out, O, hJs⟩⟩
end Go.Proofs.YtjhgkcbpllgdiaaDoor
