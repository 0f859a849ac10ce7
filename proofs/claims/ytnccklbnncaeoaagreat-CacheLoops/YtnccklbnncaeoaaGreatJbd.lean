import Derived.Test.YtnccklbnncaeoaaGreatJbc
import Derived.Test.YtnccklbnncaeoaaGreatJbb
/- cache: maps.Values and slices.Values of pages, as iterators. -/
namespace Go.Proofs.YtnccklbnncaeoaaGreat
open Go.RowKit Go.Shelf
attribute [local go_sem] Oper.semAt_some
set_option linter.unusedVariables false
set_option linter.unusedSimpArgs false
def KR (O : Nat → Prop) (A B : World) : Prop := ∀ i, O i → B.heap[i]? = A.heap[i]?
theorem kr_lt {O : Nat → Prop} {A B : World} (h : KR O A B) {i : Nat} (hi : O i) (hl : i < A.heap.size) : i < B.heap.size := by
  have h2 : A.heap[i]? = some A.heap[i] := Array.getElem?_eq_getElem hl
  rw [← h i hi] at h2
  exact (Array.getElem?_eq_some_iff.1 h2).1
set_option maxRecDepth 100000 in
set_option maxHeartbeats 4000000 in
theorem mval_seq (n : Nat) (hn : 1 ≤ n) (bt m : Nat) (c : Nat → Pc) (L : List Nat) (w : World) (hm : Mn c w m L) (s1 : St 106 w bt #[.map (some m)]) :
    SeqW Fence.wide n Tryz.prog 148 #[] #[.pointer (some ⟨bt, 0, none⟩)] (fun b : Nat => #[ptr b]) (fun ys X => ys.Perm L ∧ KR (fun i => i = bt ∨ i = m) w X) (fun _ _ => True) (fun pre => pre.Nodup ∧ ∀ b ∈ pre, b ∈ L) (fun i => i = bt ∨ i = m) w := by
  intro l J Jx W hW hA hAx hY h0
  obtain ⟨es, q, hmp, hes⟩ := hm
  have T1 := hid (s1.below hW s1.lt)
  have M1 : Hid (Mp (Value.int .i64) W m es q) := hmp.of_block (hW.block m hmp.lt)
  have HES := hid hes
  have LB : Hid (∀ i, (i = bt ∨ i = m) → i < W.heap.size) := by
    rintro i (rfl | rfl)
    · exact T1.out.lt
    · exact M1.out.lt
  have HB := hid (blk_map hes)
  have HBW : Hid (∀ i, (i = bt ∨ i = m) → W.heap[i]? = w.heap[i]?) := by
    rintro i (rfl | rfl)
    · exact hW.block i s1.lt
    · exact hW.block i hmp.lt
  clear s1 hW hmp hes
  have c0 : W.cell? ⟨bt, 0, none⟩ = some (.map (some m)) := T1.out.cell 0
  have HY := hid hY
  clear hY
  have hrg := run_range_mp (P := Tryz.prog) Tryz.und106 M1.out
  refine callsIn_of_wp Tryz.func148 rfl trivial ?_ rfl
  simp only [Tryz.ntmps148, List.size_toArray, List.length_cons, List.length_nil, Nat.reduceAdd, Nat.reduceSub, Array.replicate_succ, Array.replicate_zero, List.push_toArray, List.append_toArray, List.nil_append, List.cons_append]
  gi_wp2_with fail
  have K0 : Kp (fun _ => False) W (W.alloc (.mapIter (some m) q #[] q)) := (Kp.refl _ _).alloc _
  have H0 : Hid (Mi (W.alloc (.mapIter (some m) q #[] q)) W.heap.size m q es []) := mi_new W m q es
  have J0 := hid (hA [] _ W _ h0 (K0.mono (fun _ _ h => h.elim)))
  have R0 : Hid (KR (fun i => i = bt ∨ i = m) W (W.alloc (.mapIter (some m) q #[] q))) := fun i hi => K0.block i (LB.out i hi) (fun h => h)
  have hsz : (W.alloc (.mapIter (some m) q #[] q)).heap.size = W.heap.size + 1 := by simp
  clear hrg c0 K0 h0
  generalize hr : W.heap.size = r at H0 J0 hsz ⊢
  have HR : Hid (W.heap.size = r) := hr
  clear hr
  generalize hV : W.alloc (.mapIter (some m) q #[] q) = V at H0 J0 R0 hsz ⊢
  clear hV
  gi_loopw [4] (fun _ wr => ∃ (ds : List (Int × Value × Nat)) (O : Nat → Prop), Mi wr r m q es ds ∧ Hid (J (ds.map blk) O wr) ∧ Hid (∀ i, (i = bt ∨ i = m ∨ i = r) → O i) ∧ Hid (KR (fun i => i = bt ∨ i = m) W wr)) (fun _ wr => es.length - itn wr r)
  case atStart => exact ⟨[], _, H0.out, J0, fun i hi => by
      rcases hi with e | e | e
      · exact .inl (.inl e)
      · exact .inl (.inr e)
      · exact .inr (by omega), R0⟩
  case round =>
    clear H0 J0 R0 hsz
    obtain ⟨ds, O, hmi, HJ, HOS, HKR⟩ := hrel
    have hrm : r ≠ m := by have := LB.out m (.inr rfl); have := HR.out; omega
    have hm2 : Mp (Value.int .i64) wr m es q := M1.out.of_block (HKR.out m (.inr rfl))
    have hin := hmi.itn
    have hle := hmi.le
    rcases hmi.next (P := Tryz.prog) hm2 hrm 0 with ⟨hp, hrun⟩ | ⟨e, w2, he, hne, hrun, hmi2, hk2, hent⟩
    · have HP : Hid ((ds.map blk).Perm L) := by rw [← HB.out.1]; exact hp.map blk
      clear hp hm2 hmi
      gi_wp2_with fail
      go_end0
      exact ⟨⟨_, rfl⟩, .inl ⟨_, O, ⟨HP.out, fun i hi => (HKR.out i hi).trans (HBW.out i hi)⟩, HJ.out⟩⟩
    · obtain ⟨b, hbe⟩ : ∃ b, blk e = b := ⟨_, rfl⟩
      have hea := HB.out.2 e he
      rw [hbe] at hea
      have hbL : b ∈ L := by rw [← HB.out.1, ← hbe]; exact List.mem_map_of_mem he
      have hkO : Kp O wr w2 := hk2.mono (fun i _ e => HOS.out i (.inr (.inr e)))
      have J2 := hid (hA _ O wr w2 HJ.out hkO)
      have HSP : ((ds ++ [e]).map blk).Nodup ∧ ∀ x ∈ (ds ++ [e]).map blk, x ∈ L := by
        have hsub := hmi2.sub
        refine ⟨?_, fun x hx => ?_⟩
        · rw [List.map_append, List.map_singleton]
          have hnd : (ds.map blk).Nodup := by
            have h1 : (es.map blk).Nodup := by
              have := (Mn.nodup (c := c) (w := wr) (m := m) (L := L) ⟨es, q, hm2, HES.out⟩)
              rw [HB.out.1]; exact this
            have h2 : ∀ ds : List (Int × Value × Nat), ds.Nodup → (∀ d ∈ ds, d ∈ es) → (ds.map blk).Nodup := by
              intro ds
              induction ds with
              | nil => intro _ _; exact List.nodup_nil
              | cons d ds ih =>
                intro hn hs
                rw [List.nodup_cons] at hn
                rw [List.map_cons, List.nodup_cons]
                exact ⟨blk_new M1.out.2 HES.out (fun x hx => hs x (List.mem_cons_of_mem _ hx)) (hs d (by simp)) hn.1, ih hn.2 (fun x hx => hs x (List.mem_cons_of_mem _ hx))⟩
            exact h2 ds hmi.nd hmi.sub
          rw [List.nodup_append]
          refine ⟨hnd, by simp, fun x hx y hy e2 => ?_⟩
          rw [List.mem_singleton.1 hy] at e2
          subst e2
          exact blk_new M1.out.2 HES.out hmi.sub he hne hx
        · obtain ⟨d, hd, rfl⟩ := List.mem_map.1 hx
          rw [← HB.out.1]
          exact List.mem_map_of_mem (hsub d hd)
      rw [List.map_append, List.map_singleton, hbe] at HSP
      obtain ⟨fn, tmps, assign, body, hy, hR⟩ := HY.out _ _ b w2 J2.out HSP
      have HRR := hid hR
      have KR2 : Hid (KR (fun i => i = bt ∨ i = m) W w2) := fun i hi => (hk2.block i (kr_lt HKR.out hi (LB.out i hi)) (fun e => by
        have h1 := LB.out i hi
        have h2 := HR.out
        change i = r at e
        omega)).trans (HKR.out i hi)
      have HMI := hid hmi2
      have HIN : Hid (itn wr r = ds.length) := hin
      have hle2 := hmi2.le
      rw [List.length_append, List.length_singleton] at hle2
      have HBE := hid hbe
      rw [hea.2] at hrun hent
      unfold ptr at hrun hent hy
      clear hR hm2 hmi hmi2 hkO hk2 HSP hbe hin J2
      gi_wp2_with fail
      refine HRR.out.mono ?_
      rintro ee w3 (⟨rfl, hJ3, hk3⟩ | ⟨rfl, hJx3, hk3⟩)
      · have hJ4 := hJ3
        rw [← HBE.out, ← List.map_singleton (f := blk), ← List.map_append] at hJ4
        have HJ3 := hid hJ4
        have hmi3 : Mi w3 r m q es (ds ++ [e]) := HMI.out.kp hk3 (fun h => h (.inl (HOS.out r (.inr (.inr rfl)))))
        have KR3 : Hid (KR (fun i => i = bt ∨ i = m) W w3) := fun i hi => (hk3.block i (kr_lt KR2.out hi (LB.out i hi)) (fun x => x (Or.inl (HOS.out i (hi.elim .inl (fun e => .inr (.inl e))))))).trans (KR2.out i hi)
        have h4 := hmi3.itn
        rw [List.length_append, List.length_singleton] at h4
        have HM3 := hid hmi3
        clear hk3 hJ3 hJ4 hmi3
        gi_wp2
        exact ⟨⟨ds ++ [e], _, HM3.out, HJ3, fun i hi => Or.inl (HOS.out i hi), KR3⟩, by rw [HIN.out, h4]; omega⟩
      · gi_wp2
        refine bodyPost_ret (results_none rfl _ _ _) rfl ?_
        exact ⟨⟨_, rfl⟩, .inr ⟨_, _, trivial, hJx3⟩⟩
/-- The blocks that a row's iterator reads. -/
def RO (bt : Nat) (v : Value) (i : Nat) : Prop := i = bt ∨ v.ownBlock = some i
theorem own_blk {w w' : World} {base n : Nat} {v : Value} {xs : List Value} {t : TypeId} {s : Nat} (h : w.ownsRow base t s v n xs) (hg : ∀ g, v.ownBlock = some g → w'.heap[g]? = w.heap[g]?) : w'.ownsRow base t s v n xs := by
  refine ⟨h.1, ?_⟩
  rcases h.2 with h0 | ⟨g, cap, cur, rfl, h1, h2, h3, h4, h5, h6⟩
  · exact .inl h0
  · exact .inr ⟨g, cap, cur, rfl, h1, by rw [hg g rfl]; exact h2, h3, h4, h5, h6⟩
theorem take_snoc {L : List Nat} {k : Nat} (h : k < L.length) : L.take k ++ [L.getD k 0] = L.take (k + 1) := by
  rw [List.take_add_one]
  simp [List.getD, List.getElem?_eq_getElem h]
set_option maxRecDepth 100000 in
set_option maxHeartbeats 4000000 in
theorem val_seq (n : Nat) (hn : 1 ≤ n) (bt : Nat) (v : Value) (L : List Nat) (w : World) (ho : w.ownsRow 0 138 1 v L.length (L.map ptr)) (s1 : St 108 w bt #[v]) :
    SeqW Fence.wide n Tryz.prog 120 #[] #[.pointer (some ⟨bt, 0, none⟩)] (fun b : Nat => #[ptr b]) (fun ys X => ys = L ∧ KR (RO bt v) w X) (fun _ _ => True) (fun pre => ∃ j, j ≤ L.length ∧ pre = L.take j) (RO bt v) w := by
  intro l J Jx W hW hA hAx hY h0
  have O0 : W.ownsRow 0 138 1 v L.length (L.map ptr) := own_blk ho (fun g e => by
    obtain ⟨cur, h1, _⟩ := ownb ho e
    exact hW.block g (Array.getElem?_eq_some_iff.1 h1).1)
  have T1 := hid (s1.below hW s1.lt)
  have LB : Hid (∀ i, RO bt v i → i < W.heap.size) := by
    rintro i (rfl | e)
    · exact T1.out.lt
    · obtain ⟨cur, h1, _⟩ := ownb O0 e
      exact (Array.getElem?_eq_some_iff.1 h1).1
  have HO := hid O0
  have HBW : Hid (∀ i, RO bt v i → W.heap[i]? = w.heap[i]?) := by
    rintro i (rfl | e)
    · exact hW.block i s1.lt
    · obtain ⟨cur, h1, _⟩ := ownb ho e
      exact hW.block i (Array.getElem?_eq_some_iff.1 h1).1
  obtain ⟨ao, cap, hv, hl, _⟩ := prow O0
  clear ho s1 hW O0
  obtain ⟨N, hN⟩ : ∃ N, N = L.length := ⟨_, rfl⟩
  have c0 : W.cell? ⟨bt, 0, none⟩ = some (.slice ao N cap) := by rw [hN, ← hv]; exact T1.out.cell 0
  have HY := hid hY
  have HV := hid hv
  rw [← hN] at hl HY
  have HN := hid hN
  unfold maxLen at hl
  clear hN hY hv
  refine callsIn_of_wp Tryz.func120 rfl trivial ?_ rfl
  simp only [Tryz.ntmps120, List.size_toArray, List.length_cons, List.length_nil, Nat.reduceAdd, Nat.reduceSub, Array.replicate_succ, Array.replicate_zero, List.push_toArray, List.append_toArray, List.nil_append, List.cons_append]
  gi_wp2_with fail
  gi_loopw [7, 4] (fun i _ wr => ∃ (k : Nat) (O : Nat → Prop), i = .int .i64 k ∧ k ≤ N ∧ Hid (J (L.take k) O wr) ∧ Hid (∀ i, RO bt v i → O i) ∧ Hid (KR (RO bt v) W wr)) (fun i _ _ => N - (intOf i).toNat)
  case atStart => exact ⟨0, _, rfl, Nat.zero_le _, h0, fun _ h => h, fun _ _ => rfl⟩
  case round =>
    clear c0
    obtain ⟨k, O, rfl, hk, HJ, HOS, HKR⟩ := hrel
    by_cases hlt : k < N
    · have hkl : k < L.length := by have := HN.out; omega
      have hlt' : (k : Int) < (N : Int) := by omega
      have ho2 := own_blk HO.out (w' := wr) (fun g e => HKR.out g (.inr e))
      obtain ⟨ao2, cap2, hv2, _, hrow⟩ := prow ho2
      rw [HV.out] at hv2
      obtain ⟨e1, e2⟩ : ao2 = ao ∧ cap2 = cap := by simp only [Value.slice.injEq] at hv2; exact ⟨hv2.1.symm, hv2.2.2.symm⟩
      subst e1 e2
      obtain ⟨r, rfl, hri⟩ := hrow k hkl
      have HTS := hid (take_snoc hkl)
      generalize L.getD k 0 = b at *
      obtain ⟨fn, tmps, assign, body, hy, hR⟩ := HY.out _ _ b wr HJ.out ⟨k + 1, by have := HN.out; omega, HTS.out⟩
      have HRR := hid hR
      unfold ptr at hri hy
      clear hR ho2 hv2 hrow
      gi_wp2_with fail
      refine HRR.out.mono ?_
      rw [HTS.out]
      rintro ee w3 (⟨rfl, hJ3, hk3⟩ | ⟨rfl, hJx3, hk3⟩)
      · have KR3 : Hid (KR (RO bt v) W w3) := fun i hi => (hk3.block i (kr_lt HKR.out hi (LB.out i hi)) (fun x => x (HOS.out i hi))).trans (HKR.out i hi)
        have HJ3 := hid hJ3
        clear hk3 hJ3
        gi_wp2
        exact ⟨⟨k + 1, O, by go_num, hlt, HJ3, HOS, KR3⟩, by simp [intOf]; omega⟩
      · gi_wp2
        refine bodyPost_ret (results_none rfl _ _ _) rfl ?_
        exact ⟨⟨_, rfl⟩, .inr ⟨_, _, trivial, hJx3⟩⟩
    · obtain rfl : k = N := by omega
      have HT : Hid (L.take k = L) := List.take_of_length_le (by have := HN.out; omega)
      gi_wp2_with fail
      go_end0
      exact ⟨⟨_, rfl⟩, .inl ⟨_, _, ⟨rfl, fun i hi => (HKR.out i hi).trans (HBW.out i hi)⟩, by rw [← HT.out]; exact HJ.out⟩⟩
end Go.Proofs.YtnccklbnncaeoaaGreat
/- cache: slices.AppendSeq and Collect over pages. -/
namespace Go.Proofs.YtnccklbnncaeoaaGreat
open Go.RowKit Go.Shelf
attribute [local go_sem] Oper.semAt_some
set_option linter.unusedVariables false
set_option linter.unusedSimpArgs false
theorem kp_putC (W : World) (l : Nat) (o' : Obj) : Kp (fun i => i = l) W (W.putObj l o') := ⟨rfl, rfl, rfl, by simp, fun k _ hk => World.putObj_heap_other hk⟩
def mrkc (D : Nat) : Deferred := { target := .collected D, args := #[] }
theorem leaves_marksc {F : Fence} {n : Nat} {fn : Func} {tmps : Array Value} {R : Ending → World → Prop} (D : Nat) (w : World) (hD : w.heap[D]? = some (.deferred (some [])))
    (fin : ∀ w', Kp (fun i => i = D) w w' → LeavesInM F n Tryz.prog fn tmps R [] .returning w') : LeavesInM F n Tryz.prog fn tmps R [mrkc D] .returning w :=
  ⟨by simp, .inl ⟨_, _, rfl, run_takeDeferred hD, fin _ (kp_putC w D (.deferred none))⟩⟩
theorem act_of {E : (Nat → Value) → Array Value} {a : Act} {ds : List Deferred} (ht : a.tmps = E (fun i => a.tmps.getD i undef)) (hd : a.defers = ds) : ∃ f, a = { tmps := E f, defers := ds } :=
  ⟨fun i => a.tmps.getD i undef, by cases a; simp only at ht hd; rw [hd, ← ht]⟩
theorem Tryz.und108 : Tryz.prog.underlying 108 = some (.slice 138) := by kernel_rfl
/-- What AppendSeq's range holds. -/
structure Ai (w : World) (O0 : Nat → Prop) (T D : Nat) (pre : List Nat) (O : Nat → Prop) (Z : World) : Prop where
  kp : Kp O w Z
  bx : ∃ v, St 108 Z T #[v] ∧ Z.ownsRow w.heap.size 138 1 v pre.length (pre.map ptr) ∧ ∀ g, v.ownBlock = some g → ¬ O g ∧ D + 1 < g
  nO : ¬ O T
  on : ∀ i, O i → O0 i ∨ D + 1 < i
  ol : ∀ i, O i → i < Z.heap.size
theorem Ai.abw {w : World} {O0 : Nat → Prop} {T D : Nat} (hT : T < D) : AbW (fun pre O Z => D + 1 < Z.heap.size ∧ Ai w O0 T D pre O Z) := by
  rintro s O X Y ⟨hs, h⟩ k
  obtain ⟨v, h1, h2, h3⟩ := h.bx
  refine ⟨Nat.lt_of_lt_of_le hs k.size, ⟨(h.kp.mono (fun _ _ e => .inl e)).trans k (fun i hi e => .inl e), ⟨v, h1.kp k h.nO, own_kp h2 k (fun g e => (h3 g e).1), fun g e => ⟨fun o => ?_, (h3 g e).2⟩⟩, fun o => ?_, fun i o => ?_, fun i o => o.elim (fun o => Nat.lt_of_lt_of_le (h.ol i o) k.size) (fun o => o.2)⟩⟩
  · rcases o with o | o
    · exact (h3 g e).1 o
    · obtain ⟨cur, h4, _⟩ := ownb h2 e
      have := (Array.getElem?_eq_some_iff.1 h4).1
      omega
  · rcases o with o | o
    · exact h.nO o
    · have := h1.lt; omega
  · rcases o with o | o
    · exact h.on i o
    · exact .inr (by omega)
theorem Ai.put {w : World} {O0 O : Nat → Prop} {T D : Nat} {pre : List Nat} {Z : World} (h : Ai w O0 T D pre O Z) (hT : T < D) (hw : w.heap.size ≤ T) (o' : Obj) : Ai w O0 T D pre O (Z.putObj (D + 1) o') := by
  obtain ⟨v, h1, h2, h3⟩ := h.bx
  have k := kp_putC Z (D + 1) o'
  exact ⟨h.kp.trans k (fun i hi e => by omega), ⟨v, h1.kp k (by omega), own_kp h2 k (fun g e => by have := (h3 g e).2; omega), h3⟩, h.nO, h.on, fun i o => by simpa using h.ol i o⟩
theorem kr_kp {O0 O : Nat → Prop} {w Z : World} (k : Kp O w Z) (h : KR O0 w Z) (ho : ∀ i, i < w.heap.size → O i → O0 i) : Kp (fun _ => False) w Z := ⟨k.os, k.tape, k.output, k.size, fun i hi _ => by
  by_cases e : O i
  · exact h i (ho i hi e)
  · exact k.block i hi e⟩
def a183 (T : Nat) (x : Nat) (f : Nat → Value) : Array Value := #[f 0, f 1, .pointer (some ⟨T, 0, none⟩), f 3, f 4, ptr x, f 6, f 7, f 8, f 9, f 10, f 11, f 12]
theorem load_108 {w : World} {g : Nat} {v : Value} (h : St 108 w g #[v]) : (loadVar 108 ⟨g, 0, none⟩).run Tryz.prog w = .ok v w := by
  have h1 := h.cell 0
  simp at h1
  simp [go_sem, h1]
theorem Tryz.results183 : Tryz.f183.results = #[.tmp 4] := by kernel_rfl
set_option maxRecDepth 100000 in
set_option maxHeartbeats 8000000 in
theorem appseq_any (w : World) (gf : Nat) (lb : Array Value) (en : Enters Tryz.prog gf) (P1 : List Nat → Prop) (Sp : List Nat → Prop) (O0 : Nat → Prop) (hq : SeqW Fence.wide 19 Tryz.prog gf #[] lb (fun b : Nat => #[ptr b]) (fun ys X => P1 ys ∧ KR O0 w X) (fun _ _ => True) Sp O0 w) (hO : ∀ i, O0 i → i < w.heap.size) (hlen : ∀ pre, Sp pre → pre.length ≤ 1000000) :
    Calls Tryz.prog 183 #[.slice none 0 0, .func (.func gf) #[] lb] w fun e w' => ∃ ys v, P1 ys ∧ e = .returned v ∧ w'.ownsRow w.heap.size 138 1 v ys.length (ys.map ptr) ∧ Kp (fun _ => False) w w' := by
  have SQ := hid hq
  have HO := hid hO
  have HL := hid hlen
  clear hq hO hlen
  refine (callsIn_wide (n := 20)).1 ?_
  refine callsIn_of_wp_marks Tryz.func183 rfl trivial ?_ rfl
  simp only [Tryz.ntmps183, List.size_toArray, List.length_cons, List.length_nil, Nat.reduceAdd, Nat.reduceSub, Array.replicate_succ, Array.replicate_zero, List.push_toArray, List.append_toArray, List.nil_append, List.cons_append]
  refine wpIn_wide.2 ?_
  generalize hQ : bodyPostM _ _ _ _ _ = QQ
  go_wp2_with fail
  have n2 := hid (St.new 108 w #[.slice none 0 0])
  have KX : Hid (Kp (fun _ => False) w (w.alloc (.cells #[.slice none 0 0] 108))) := (Kp.refl _ _).alloc _
  have SX : Hid ((w.alloc (.cells #[.slice none 0 0] 108)).heap.size = w.heap.size + 1) := by show _ = _; simp
  generalize w.alloc (.cells #[.slice none 0 0] 108) = X at *
  obtain ⟨T, hT⟩ : ∃ T, T = w.heap.size := ⟨_, rfl⟩
  rw [← hT] at n2 ⊢
  have HT := hid hT
  clear hT
  have hTX : T < X.heap.size := by have := SX.out; have := HT.out; omega
  have hwT : w.heap.size ≤ T := by have := HT.out; omega
  refine (wpIn_wide (n := 20)).1 ?_
  refine wpIn_rangeFunc_W rfl (by omega) (gf := gf) (pb := #[]) (lb := lb) rfl trivial en SQ.out ?hS ?hSx (fun i hi => by have := HO.out i hi; have := SX.out; omega) (KX.out.below (Nat.le_refl _) (fun _ h => h.elim)) (fun _ => rfl)
    (fun pre O Z => X.heap.size + 1 < Z.heap.size ∧ Ai w O0 T X.heap.size pre O Z) (fun _ _ _ _ => False) (Ai.abw hTX) (fun _ _ _ _ _ h _ => h.elim) ?hI2 (fun _ _ _ _ _ h _ => h.elim) ?h0
    (fun x a' Z => ∃ f', a' = { tmps := a183 T x f', defers := [] }) (fun _ _ _ _ h => h) ?assign ?body ?done (fun _ _ _ _ _ _ _ h _ => h.elim)
  case hS =>
    rintro xs Z r o' ⟨h1, h2⟩ hl
    exact ⟨h1, fun i hi => ((kp_putC Z (X.heap.size + 1) o').block i (kr_lt h2 hi (HO.out i hi)) (by have := HO.out i hi; have := SX.out; omega)).trans (h2 i hi)⟩
  case hSx => exact fun _ _ _ _ _ _ => trivial
  case hI2 => exact fun s O Z o' h hlt => ⟨by simpa using h.1, h.2.put hTX hwT o'⟩
  case h0 =>
    intro r
    have ka : Kp (fun _ => False) X ((X.alloc (.deferred (some []))).alloc (.loop r)) := ((Kp.refl _ _).alloc _).alloc _
    exact ⟨by simp, (KX.out.trans ka (fun _ _ h => h)).mono (fun _ _ h => h.elim), ⟨.slice none 0 0, n2.out.kp ka (fun h => h), ⟨rfl, .inl ⟨rfl, rfl⟩⟩, fun g e => by cases e⟩, fun o => by have := HO.out T o; have := HT.out; omega, fun i o => .inl o, fun i o => by have := HO.out i o; have := SX.out; simp; omega⟩
  case assign =>
    intro l' pre O x Z1 Kk hll hsz hi hK
    have HK := hid hK
    have HI := hid hi
    clear hK hi hll
    unfold ptr
    gi_wp2_with fail
    exact HK.out _ _ (Kp.refl _ _) HI.out (act_of (by kernel_rfl) rfl)
  case body =>
    rintro l' pre O x a' Z hll hsz n1 n3 ⟨hi0, hi⟩ ⟨f', rfl⟩ hsp
    have hpl := HL.out _ hsp
    rw [List.length_append, List.length_singleton] at hpl
    obtain ⟨v, h1, h2, h3⟩ := hi.bx
    obtain ⟨ao, cap, hv, hm⟩ : ∃ ao cap, v = .slice ao pre.length cap ∧ True := by
      rcases h2.2 with ⟨e, h0⟩ | ⟨g, cap, cur, rfl, _⟩
      · exact ⟨none, 0, by rw [h0]; exact e, trivial⟩
      · exact ⟨_, cap, rfl, trivial⟩
    subst hv
    have c0 := h1.cell 0
    have f0 := h1.frozen 0
    simp at c0
    have HI := hid hi
    have H1 := hid h1
    have H2 := hid h2
    have H3 := hid h3
    have HSZ := hid hsz
    have HN1 := hid n1
    clear hi h1 h2 h3 hsp hll
    obtain ⟨i0, hi5, hz0, hz1, hz2⟩ := info_parts Tryz.info138
    have KA : Hid (Kp (fun _ => False) Z (Z.alloc (.cells #[ptr x] 138))) := (Kp.refl _ _).alloc _
    have SA : Hid ((Z.alloc (.cells #[ptr x] 138)).heap.size = Z.heap.size + 1) := by show _ = _; simp
    have NA : Hid (St 138 (Z.alloc (.cells #[ptr x] 138)) Z.heap.size #[ptr x]) := St.new 138 Z #[ptr x]
    have OA : Hid ((Z.alloc (.cells #[ptr x] 138)).ownsRow w.heap.size 138 1 (.slice ao pre.length cap) pre.length (pre.map ptr)) := own_kp H2.out KA.out (fun _ _ h => h)
    have HKW := hid HI.out.kp.size
    unfold a183
    unfold ptr at KA SA NA OA ⊢
    gi_wp2_with (first
      | (gi_at_builtin; refine wpListIn_append_own_at _ rfl (.tmp 8) (.tmp 10) 108 rfl w.heap.size 138 i0 (.pointer none) 1 8 Tryz.und108 hi5 hz0 hz1 hz2 rfl (by decide) (.slice ao pre.length cap) pre.length (pre.map (fun b => .pointer (some ⟨b, 0, none⟩))) rfl OA.out ⟨Z.heap.size, 0, none⟩ 1 1 [.pointer (some ⟨x, 0, none⟩)] rfl rfl (fun j u hu => by rw [add_z]; exact (NA.out.cell j).trans (by simpa using hu)) (fun u hu => by simp at hu; subst hu; rfl) (by unfold maxLen; omega) (by omega) (by have := SA.out; have := HKW.out; omega) ?_
         intro v2 w2 O2 G2 _ L2
         obtain ⟨g2, cap2, hv2e⟩ := own_slice O2
         subst hv2e
         have k2 : Kp (fun i => (Value.slice ao pre.length cap).ownBlock = some i) Z w2 := (KA.out.mono (fun _ _ h => h.elim)).trans (Kp.of_grown G2 (fun i e => e)) (fun _ _ e => e)
         have S2 := H1.out.kp k2 (fun e => by obtain ⟨cur, h4, _⟩ := ownb H2.out e; exact apart_types h4 H1.out (by decide))
         have c2 := S2.cell 0
         have f2 := S2.frozen 0
         simp at c2))
    obtain ⟨v2, hv2d⟩ : ∃ v, v = Value.slice (some ⟨g2, 0, none⟩) (pre.length + 1) cap2 := ⟨_, rfl⟩
    rw [← hv2d] at O2 L2 ⊢
    have hv2 : ∀ g, v2.ownBlock = some g → ¬ O g ∧ X.heap.size + 1 < g := by
      intro g e
      rcases L2 with e2 | e2
      · exact H3.out g (e2 ▸ e)
      · rw [e2] at e
        simp only [Option.some.injEq] at e
        have h6 := SA.out
        rw [h6] at e
        refine ⟨fun o => ?_, by omega⟩
        have := HI.out.ol g o
        omega
    have k3 : Kp (fun i => i = T ∨ (Value.slice ao pre.length cap).ownBlock = some i) Z (w2.setCell ⟨T, 0, none⟩ v2) := (k2.mono (fun _ _ e => .inr e)).trans (kp_setCell w2 T 0 v2 (fun i => i = T) rfl) (fun _ _ e => .inl e)
    refine ⟨k3.mono (fun i hi e => ?_), Nat.lt_of_lt_of_le HSZ.out k3.size, HI.out.kp.trans k3 (fun i hi e => ?_), ⟨v2, ?_, ?_, hv2⟩, HI.out.nO, HI.out.on, fun i o => Nat.lt_of_lt_of_le (HI.out.ol i o) k3.size⟩
    · rcases e with rfl | e
      · exact ⟨HI.out.nO, by omega, by omega⟩
      · have := H3.out i e
        exact ⟨this.1, by omega, by omega⟩
    · rcases e with rfl | e
      · omega
      · have := H3.out i e
        omega
    · have := S2.set 0 v2
      simpa using this
    · have h7 : w2.ownsRow w.heap.size 138 1 v2 (pre ++ [x]).length ((pre ++ [x]).map ptr) := by
        rw [List.length_append, List.length_singleton, List.map_append, List.map_singleton]
        exact O2
      exact own_kp h7 (kp_setCell w2 T 0 v2 (fun i => i = T) rfl) (fun g e => by have := (hv2 g e).2; omega)
  case done =>
    rintro D xs O Z hD ⟨hP, hKR⟩ ⟨hi0, hi⟩ hdd
    obtain ⟨v, h1, h2, h3⟩ := hi.bx
    have c0 := h1.cell 0
    simp at c0
    have HI := hid hi
    have HP := hid hP
    have HKR := hid hKR
    have HD := hid hD
    have HDD := hid hdd
    have H2 := hid h2
    have H3 := hid h3
    clear hi hP hKR hD hdd h1 h2 h3
    go_wp2_with fail
    subst hQ
    refine leaves_marksc D _ HDD.out (fun w' k => ⟨_, results_tmp Tryz.results183 _ _ _, xs, _, HP.out, rfl, own_kp H2.out k (fun g e => by have := (H3.out g e).2; have := HD.out; omega), ?_⟩)
    exact (kr_kp HI.out.kp HKR.out (fun i hi o => (HI.out.on i o).elim id (fun e => by have := SX.out; omega))).trans k (fun i hi e => by have := HD.out; have := SX.out; omega)
end Go.Proofs.YtnccklbnncaeoaaGreat
