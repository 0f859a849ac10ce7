/- Bytes of a file are read. -/
import Derived.Test.YtlnknkeagonmpaaGreatCt
import Derived.RangeFuncWrites
namespace Go.Proofs.YtlnknkeagonmpaaGreat
open Go.RowKit Go.Shelf
attribute [local go_sem] Oper.semAt_some

/-- What has been read of n bytes from a on, behind these pieces. -/
def rb (f : Nat → Int) (a n : Nat) (pre : List (Nat × Nat)) : List Int := (List.range n).map fun i => if pre.any (fun x => decide (x.1 ≤ a + i) && decide (a + i < x.1 + x.2)) then f (a + i) else 0
theorem rb_len (f : Nat → Int) (a n : Nat) (pre : List (Nat × Nat)) : (rb f a n pre).length = n := by simp [rb]
theorem rb_get (f : Nat → Int) (a n : Nat) (pre : List (Nat × Nat)) (i : Nat) (h : i < n) : (rb f a n pre).getD i 0 = if pre.any (fun x => decide (x.1 ≤ a + i) && decide (a + i < x.1 + x.2)) then f (a + i) else 0 := by
  unfold rb
  rw [List.getD_eq_getElem?_getD, List.getElem?_map, List.getElem?_range h]
  rfl
theorem rb_nil (f : Nat → Int) (a n : Nat) : rb f a n [] = List.replicate n 0 := by
  refine ext_getD (by simp [rb_len]) fun i hi => ?_
  rw [rb_len] at hi
  rw [rb_get _ _ _ _ _ hi]
  simp [List.getD, hi]
theorem rb_all (f : Nat → Int) (a n : Nat) : rb f a n (pcs a n) = (List.range n).map fun i => f (a + i) := by
  unfold rb
  apply List.map_congr_left
  intro i hi
  have hi : i < n := by simpa using hi
  obtain ⟨x, hx, h1, h2⟩ := pcs_cover n a (a + i) (by omega) (by omega)
  rw [if_pos]
  exact List.any_eq_true.2 ⟨x, hx, by simp [h1, h2]⟩
/-- The bytes of a piece. -/
def pby (f : Nat → Int) (x : Nat × Nat) : List Int := (List.range x.2).map fun i => f (x.1 + i)
theorem pby_len (f : Nat → Int) (x : Nat × Nat) : (pby f x).length = x.2 := by simp [pby]
theorem pby_get (f : Nat → Int) (x : Nat × Nat) (i : Nat) (h : i < x.2) : (pby f x).getD i 0 = f (x.1 + i) := by simp [pby, List.getD, h]
theorem rb_step (f : Nat → Int) (a n : Nat) (pre : List (Nat × Nat)) (x : Nat × Nat) (h1 : a ≤ x.1) (h2 : x.1 + x.2 ≤ a + n) : rb f a n (pre ++ [x]) = splice (rb f a n pre) (x.1 - a) (pby f x) := by
  have hf : x.1 - a + (pby f x).length ≤ (rb f a n pre).length := by rw [pby_len, rb_len]; omega
  refine ext_getD (by rw [length_splice _ _ _ hf, rb_len, rb_len]) fun i hi => ?_
  rw [rb_len] at hi
  rw [getD_splice _ _ _ _ hf, rb_get _ _ _ _ _ hi, rb_get _ _ _ _ _ hi, pby_len, List.any_append]
  by_cases hc : x.1 - a ≤ i ∧ i < x.1 - a + x.2
  · rw [if_pos hc, pby_get _ _ _ (by omega), if_pos, show x.1 + (i - (x.1 - a)) = a + i by omega]
    rw [Bool.or_eq_true]
    refine .inr ?_
    simp
    omega
  · rw [if_neg hc]
    have : ([x].any fun x => decide (x.1 ≤ a + i) && decide (a + i < x.1 + x.2)) = false := by
      simp
      intro h
      omega
    rw [this, Bool.or_false]
theorem rb_zero (f : Nat → Int) (a n : Nat) (pre : List (Nat × Nat)) (x : Nat × Nat) (h : ∀ i, x.1 ≤ i → i < x.1 + x.2 → f i = 0) : rb f a n (pre ++ [x]) = rb f a n pre := by
  refine ext_getD (by rw [rb_len, rb_len]) fun i hi => ?_
  rw [rb_len] at hi
  rw [rb_get _ _ _ _ _ hi, rb_get _ _ _ _ _ hi, List.any_append]
  by_cases hc : x.1 ≤ a + i ∧ a + i < x.1 + x.2
  · rw [h _ hc.1 hc.2, ite_self, ite_self]
  · have : ([x].any fun x => decide (x.1 ≤ a + i) && decide (a + i < x.1 + x.2)) = false := by
      simp
      intro h
      omega
    rw [this, Bool.or_false]
theorem kfrom_of_kp {F : Nat → Prop} {B : Nat} {W W' : World} (k : Kp F W W') (h : ∀ i, F i → i < B) : KeepsFrom B W W' :=
  ⟨k.size, fun j o hB hj _ => (k.block j (Array.getElem?_eq_some_iff.1 hj).1 (fun hf => by have := h j hf; omega)).trans hj⟩
theorem kp_of_own {B : Nat} {W W' : World} {row : Option Nat} (hg : W.grownBy W' row) (hr : ∀ r, row = some r → B ≤ r ∧ ∃ o : Obj, W.heap[r]? = some o ∧ o.isCells = false) : Kp (fun i => B ≤ i ∧ ∃ o : Obj, W.heap[i]? = some o ∧ o.isCells = false) W W' := Kp.of_grown hg (fun i e => hr i e)
theorem Bs.le {D : Nat → Prop} {w : World} {v : Value} {xs : List Int} (h : Bs D w v xs) : ∃ g off cap, v = .slice (some ⟨g, off, none⟩) xs.length cap ∧ D g ∧ g < w.heap.size ∧ xs.length ≤ cap ∧ cap ≤ maxLen ∧ ∀ i, i < xs.length → w.cell? ⟨g, off + i, none⟩ = some (.int .u8 (xs.getD i 0)) := h
/-- make, inside a fence. -/
theorem wpListIn_make_rw {F : Fence} {nF : Nat} {P : Program} {κ : IntKind} {w : World} {ops : Array Oper} {rest : List Oper} {o : Oper} {a : Act} {Q : Exit → Act → World → Prop} (T ε : TypeId) (bytes : Nat) (hT : P.underlying T = some (.slice ε)) (hinfo : (P.info? ε).map (fun i => (i.zero, i.size, i.bytes)) = some (some (.int κ 0), 1, bytes)) (hb8 : bytes ≤ 8) (hgd : o.guard = none) (l c : Operand) (ho : o.op = Op.makeSlice T l c)
    (n : Nat) (hl : a.eval l = .int .i64 n) (hc : a.eval c = .int .i64 n) (hn : n ≤ 17592186044416)
    (h : ∀ w', Rw κ ε w' w.heap.size (List.replicate n 0) → Below w.heap.size w w' → w'.heap.size = w.heap.size + 1 → wpListIn F nF P ops Q rest (a.put o.dst (.slice (some ⟨w.heap.size, 0, none⟩) n n)) w') : wpListIn F nF P ops Q (o :: rest) a w := by
  obtain ⟨i0, hi, hz0, hz1, hz2⟩ := info_parts hinfo
  refine wpListIn_plain hgd fun K hK => ?_
  have hmul : bytes * n ≤ 140737488355328 := by
    have : bytes * n ≤ 8 * 17592186044416 := Nat.mul_le_mul hb8 hn
    omega
  have hmul2 : (bytes : Int) * (n : Int) ≤ 140737488355328 := by rw [← Int.natCast_mul]; exact Int.ofNat_le.2 hmul
  have hr := run_make (P := P) w T ε i0 (.int κ 0) hT hi hz0 .i64 .i64 n n (by omega) (Int.le_refl _) (by rw [hz2]; omega) (by omega)
  rw [hz1, Int.toNat_natCast, Nat.mul_one, show (Value.int κ 0).cells = #[.int κ 0] from rfl, made_cells] at hr
  unfold Oper.wpIn
  refine ⟨by simp [Oper.about, ho], ?_⟩
  rw [Oper.semAt_plain F _ _ (by rw [ho]; intro c hc'; cases hc')]
  simp only [execOp, ho, hl, hc, hr, Sem.run_bind, Sem.run_pure, Result.andThen_ok]
  exact hK _ _ (h _ (Rw.new κ ε w _) ((Below.refl _ _).alloc (Nat.le_refl _) _) (World.size_alloc _ _))
/-- What the loop of read keeps. -/
structure RdI (D : Nat → Prop) (w : World) (fb lm om : Nat) (pv : Value) (sz : Nat) (L : Nat → Int) (ps : List (Nat × List Int)) (p m : Nat) (pre : List (Nat × Nat)) (W : World) : Prop where
  a : St 83 W w.heap.size #[.pointer (some ⟨fb, 0, none⟩)]
  b : St 2 W (w.heap.size + 1) #[.int .i64 p]
  c : St 39 W (w.heap.size + 1 + 1 + 1) #[.slice (some ⟨w.heap.size + 1 + 1, 0, none⟩) m m]
  r : Rw .u8 5 W (w.heap.size + 1 + 1) (rb (ovs L ps) p m pre)
  f : Fr D W ⟨fb, lm, om, pv⟩ sz L ps
  bel : Below w.heap.size w W
  z : w.heap.size + 6 ≤ W.heap.size
theorem RdI.kp {D F : Nat → Prop} {w W W' : World} {fb lm om : Nat} {pv : Value} {sz : Nat} {L : Nat → Int} {ps : List (Nat × List Int)} {p m : Nat} {pre : List (Nat × Nat)} (h : RdI D w fb lm om pv sz L ps p m pre W) (hw : Fr D w ⟨fb, lm, om, pv⟩ sz L ps) (k : Kp F W W') (hF : ∀ i, F i → w.heap.size + 6 ≤ i) : RdI D w fb lm om pv sz L ps p m pre W' :=
  ⟨h.a.kp k (fun x => by have := hF _ x; omega), h.b.kp k (fun x => by have := hF _ x; omega), h.c.kp k (fun x => by have := hF _ x; omega), h.r.kp k (fun x => by have := hF _ x; omega), h.f.kp k (fun i hi x => by have := hF _ x; have := hw.lt i hi; omega) (fun i hi x => by have := hF _ x; have := hw.db i hi; omega), h.bel.trans (k.below h.bel.size (fun i x => by have := hF i x; omega)), Nat.le_trans h.z k.size⟩
theorem RdI.step {D : Nat → Prop} {w W W' : World} {fb lm om : Nat} {pv : Value} {sz : Nat} {L : Nat → Int} {ps : List (Nat × List Int)} {p m : Nat} {pre pre' : List (Nat × Nat)} (h : RdI D w fb lm om pv sz L ps p m pre W) (hw : Fr D w ⟨fb, lm, om, pv⟩ sz L ps) (k : Kp (fun i => i = w.heap.size + 1 + 1) W W') (hr : Rw .u8 5 W' (w.heap.size + 1 + 1) (rb (ovs L ps) p m pre')) : RdI D w fb lm om pv sz L ps p m pre' W' :=
  ⟨h.a.kp k (by omega), h.b.kp k (by omega), h.c.kp k (by omega), hr, h.f.kp k (fun i hi x => by have := hw.lt i hi; omega) (fun i hi x => by have := hw.db i hi; omega), h.bel.trans (k.below h.bel.size (fun i x => by omega)), Nat.le_trans h.z k.size⟩
theorem kp_put1 (W : World) (l : Nat) (o : Obj) : Kp (fun i => i = l) W (W.putObj l o) := ⟨rfl, rfl, rfl, by simp, fun _ _ hk => World.putObj_heap_other hk⟩
end Go.Proofs.YtlnknkeagonmpaaGreat
