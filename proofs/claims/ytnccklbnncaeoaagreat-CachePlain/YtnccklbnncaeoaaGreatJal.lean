import Derived.Test.YtnccklbnncaeoaaGreatJak
import Derived.RangeFuncWrites
/- Bytes of a file are read. -/
namespace Go.Proofs.YtnccklbnncaeoaaGreat
open Go.RowKit Go.Shelf
attribute [local go_sem] Oper.semAt_some

/-- What has been read of n bytes from a on, behind these pieces. -/
def rb (f : Nat → Int) (a n : Nat) (pre : List (Nat × Nat)) : List Int := (List.range n).map fun i => if pre.any (fun x => decide (x.1 ≤ a + i) && decide (a + i < x.1 + x.2)) then f (a + i) else 0
theorem rb_len (f : Nat → Int) (a n : Nat) (pre : List (Nat × Nat)) : (rb f a n pre).length = n := by simp [rb]
theorem rb_get (f : Nat → Int) (a n : Nat) (pre : List (Nat × Nat)) (i : Nat) (h : i < n) : (rb f a n pre).getD i 0 = if pre.any (fun x => decide (x.1 ≤ a + i) && decide (a + i < x.1 + x.2)) then f (a + i) else 0 := by
  unfold rb
  rw [List.getD_eq_getElem?_getD, List.getElem?_map, List.getElem?_range h]
  rfl
theorem rb_nil (f : Nat → Int) (a n : Nat) : rb f a n [] = List.replicate n 0 := by
  refine ext_getD (by simp [rb_len]) fun i hi => ?_
  rw [rb_len] at hi
  rw [rb_get _ _ _ _ _ hi]
  simp [List.getD, hi]
theorem rb_all (f : Nat → Int) (a n : Nat) : rb f a n (pcs a n) = (List.range n).map fun i => f (a + i) := by
  unfold rb
  apply List.map_congr_left
  intro i hi
  have hi : i < n := by simpa using hi
  obtain ⟨x, hx, h1, h2⟩ := pcs_cover n a (a + i) (by omega) (by omega)
  rw [if_pos]
  exact List.any_eq_true.2 ⟨x, hx, by simp [h1, h2]⟩
/-- The bytes of a piece. -/
def pby (f : Nat → Int) (x : Nat × Nat) : List Int := (List.range x.2).map fun i => f (x.1 + i)
theorem pby_len (f : Nat → Int) (x : Nat × Nat) : (pby f x).length = x.2 := by simp [pby]
theorem pby_get (f : Nat → Int) (x : Nat × Nat) (i : Nat) (h : i < x.2) : (pby f x).getD i 0 = f (x.1 + i) := by simp [pby, List.getD, h]
theorem rb_step (f : Nat → Int) (a n : Nat) (pre : List (Nat × Nat)) (x : Nat × Nat) (h1 : a ≤ x.1) (h2 : x.1 + x.2 ≤ a + n) : rb f a n (pre ++ [x]) = splice (rb f a n pre) (x.1 - a) (pby f x) := by
  have hf : x.1 - a + (pby f x).length ≤ (rb f a n pre).length := by rw [pby_len, rb_len]; omega
  refine ext_getD (by rw [length_splice _ _ _ hf, rb_len, rb_len]) fun i hi => ?_
  rw [rb_len] at hi
  rw [getD_splice _ _ _ _ hf, rb_get _ _ _ _ _ hi, rb_get _ _ _ _ _ hi, pby_len, List.any_append]
  by_cases hc : x.1 - a ≤ i ∧ i < x.1 - a + x.2
  · rw [if_pos hc, pby_get _ _ _ (by omega), if_pos, show x.1 + (i - (x.1 - a)) = a + i by omega]
    rw [Bool.or_eq_true]
    refine .inr ?_
    simp
    omega
  · rw [if_neg hc]
    have : ([x].any fun x => decide (x.1 ≤ a + i) && decide (a + i < x.1 + x.2)) = false := by
      simp
      intro h
      omega
    rw [this, Bool.or_false]
theorem rb_zero (f : Nat → Int) (a n : Nat) (pre : List (Nat × Nat)) (x : Nat × Nat) (h : ∀ i, x.1 ≤ i → i < x.1 + x.2 → f i = 0) : rb f a n (pre ++ [x]) = rb f a n pre := by
  refine ext_getD (by rw [rb_len, rb_len]) fun i hi => ?_
  rw [rb_len] at hi
  rw [rb_get _ _ _ _ _ hi, rb_get _ _ _ _ _ hi, List.any_append]
  by_cases hc : x.1 ≤ a + i ∧ a + i < x.1 + x.2
  · rw [h _ hc.1 hc.2, ite_self, ite_self]
  · have : ([x].any fun x => decide (x.1 ≤ a + i) && decide (a + i < x.1 + x.2)) = false := by
      simp
      intro h
      omega
    rw [this, Bool.or_false]
theorem kfrom_of_kp {F : Nat → Prop} {B : Nat} {W W' : World} (k : Kp F W W') (h : ∀ i, F i → i < B) : KeepsFrom B W W' :=
  ⟨k.size, fun j o hB hj _ => (k.block j (Array.getElem?_eq_some_iff.1 hj).1 (fun hf => by have := h j hf; omega)).trans hj⟩
theorem kp_of_own {B : Nat} {W W' : World} {row : Option Nat} (hg : W.grownBy W' row) (hr : ∀ r, row = some r → B ≤ r ∧ ∃ o : Obj, W.heap[r]? = some o ∧ o.isCells = false) : Kp (fun i => B ≤ i ∧ ∃ o : Obj, W.heap[i]? = some o ∧ o.isCells = false) W W' := Kp.of_grown hg (fun i e => hr i e)
theorem Bs.le {D : Nat → Prop} {w : World} {v : Value} {xs : List Int} (h : Bs D w v xs) : ∃ g off cap, v = .slice (some ⟨g, off, none⟩) xs.length cap ∧ D g ∧ g < w.heap.size ∧ xs.length ≤ cap ∧ cap ≤ maxLen ∧ ∀ i, i < xs.length → w.cell? ⟨g, off + i, none⟩ = some (.int .u8 (xs.getD i 0)) := h
/-- make, inside a fence. -/
theorem wpListIn_make_rw {F : Fence} {nF : Nat} {P : Program} {κ : IntKind} {w : World} {ops : Array Oper} {rest : List Oper} {o : Oper} {a : Act} {Q : Exit → Act → World → Prop} (T ε : TypeId) (bytes : Nat) (hT : P.underlying T = some (.slice ε)) (hinfo : (P.info? ε).map (fun i => (i.zero, i.size, i.bytes)) = some (some (.int κ 0), 1, bytes)) (hb8 : bytes ≤ 8) (hgd : o.guard = none) (l c : Operand) (ho : o.op = Op.makeSlice T l c)
    (n : Nat) (hl : a.eval l = .int .i64 n) (hc : a.eval c = .int .i64 n) (hn : n ≤ 17592186044416)
    (h : ∀ w', Rw κ ε w' w.heap.size (List.replicate n 0) → Below w.heap.size w w' → w'.heap.size = w.heap.size + 1 → wpListIn F nF P ops Q rest (a.put o.dst (.slice (some ⟨w.heap.size, 0, none⟩) n n)) w') : wpListIn F nF P ops Q (o :: rest) a w := by
  obtain ⟨i0, hi, hz0, hz1, hz2⟩ := info_parts hinfo
  refine wpListIn_plain hgd fun K hK => ?_
  have hmul : bytes * n ≤ 140737488355328 := by
    have : bytes * n ≤ 8 * 17592186044416 := Nat.mul_le_mul hb8 hn
    omega
  have hmul2 : (bytes : Int) * (n : Int) ≤ 140737488355328 := by rw [← Int.natCast_mul]; exact Int.ofNat_le.2 hmul
  have hr := run_make (P := P) w T ε i0 (.int κ 0) hT hi hz0 .i64 .i64 n n (by omega) (Int.le_refl _) (by rw [hz2]; omega) (by omega)
  rw [hz1, Int.toNat_natCast, Nat.mul_one, show (Value.int κ 0).cells = #[.int κ 0] from rfl, made_cells] at hr
  unfold Oper.wpIn
  refine ⟨by simp [Oper.about, ho], ?_⟩
  rw [Oper.semAt_plain F _ _ (by rw [ho]; intro c hc'; cases hc')]
  simp only [execOp, ho, hl, hc, hr, Sem.run_bind, Sem.run_pure, Result.andThen_ok]
  exact hK _ _ (h _ (Rw.new κ ε w _) ((Below.refl _ _).alloc (Nat.le_refl _) _) (World.size_alloc _ _))
/-- What the loop of read keeps. -/
structure RdI (D : Nat → Prop) (w : World) (fb lm om : Nat) (pv : Value) (sz : Nat) (L : Nat → Int) (ps : List (Nat × List Int)) (p m : Nat) (pre : List (Nat × Nat)) (W : World) : Prop where
  a : St 159 W w.heap.size #[.pointer (some ⟨fb, 0, none⟩)]
  b : St 2 W (w.heap.size + 1) #[.int .i64 p]
  c : St 47 W (w.heap.size + 1 + 1 + 1) #[.slice (some ⟨w.heap.size + 1 + 1, 0, none⟩) m m]
  r : Rw .u8 5 W (w.heap.size + 1 + 1) (rb (ovs L ps) p m pre)
  f : Fr D W ⟨fb, lm, om, pv⟩ sz L ps
  bel : Below w.heap.size w W
  z : w.heap.size + 6 ≤ W.heap.size
theorem RdI.kp {D F : Nat → Prop} {w W W' : World} {fb lm om : Nat} {pv : Value} {sz : Nat} {L : Nat → Int} {ps : List (Nat × List Int)} {p m : Nat} {pre : List (Nat × Nat)} (h : RdI D w fb lm om pv sz L ps p m pre W) (hw : Fr D w ⟨fb, lm, om, pv⟩ sz L ps) (k : Kp F W W') (hF : ∀ i, F i → w.heap.size + 6 ≤ i) : RdI D w fb lm om pv sz L ps p m pre W' :=
  ⟨h.a.kp k (fun x => by have := hF _ x; omega), h.b.kp k (fun x => by have := hF _ x; omega), h.c.kp k (fun x => by have := hF _ x; omega), h.r.kp k (fun x => by have := hF _ x; omega), h.f.kp k (fun i hi x => by have := hF _ x; have := hw.lt i hi; omega) (fun i hi x => by have := hF _ x; have := hw.db i hi; omega), h.bel.trans (k.below h.bel.size (fun i x => by have := hF i x; omega)), Nat.le_trans h.z k.size⟩
theorem RdI.step {D : Nat → Prop} {w W W' : World} {fb lm om : Nat} {pv : Value} {sz : Nat} {L : Nat → Int} {ps : List (Nat × List Int)} {p m : Nat} {pre pre' : List (Nat × Nat)} (h : RdI D w fb lm om pv sz L ps p m pre W) (hw : Fr D w ⟨fb, lm, om, pv⟩ sz L ps) (k : Kp (fun i => i = w.heap.size + 1 + 1) W W') (hr : Rw .u8 5 W' (w.heap.size + 1 + 1) (rb (ovs L ps) p m pre')) : RdI D w fb lm om pv sz L ps p m pre' W' :=
  ⟨h.a.kp k (by omega), h.b.kp k (by omega), h.c.kp k (by omega), hr, h.f.kp k (fun i hi x => by have := hw.lt i hi; omega) (fun i hi x => by have := hw.db i hi; omega), h.bel.trans (k.below h.bel.size (fun i x => by omega)), Nat.le_trans h.z k.size⟩
theorem kp_put1 (W : World) (l : Nat) (o : Obj) : Kp (fun i => i = l) W (W.putObj l o) := ⟨rfl, rfl, rfl, by simp, fun _ _ hk => World.putObj_heap_other hk⟩
set_option maxRecDepth 100000 in
set_option maxHeartbeats 2000000 in
theorem read_in (F : Fence) (n : Nat) (h33 : F.fn 80) (h45 : F.fn 128) (h63 : F.fn 162) (hro : F.round = none) (hn : 3 ≤ n) (D : Nat → Prop) (fb lm om : Nat) (pv : Value) (sz : Nat) (L : Nat → Int) (ps : List (Nat × List Int)) (p m : Nat) (w : World) (hf : Fr D w ⟨fb, lm, om, pv⟩ sz L ps) (hb : p + m ≤ sz) :
    CallsIn F n Tryz.prog 80 #[.pointer (some ⟨fb, 0, none⟩), .int .i64 p, .int .i64 m] w fun e w' => ∃ g, e = .returned (.slice (some ⟨g, 0, none⟩) m m) ∧ w.heap.size ≤ g ∧ Rw .u8 5 w' g ((List.range m).map fun i => ovs L ps (p + i)) ∧ Below w.heap.size w w' := by
  have h1 : 1 ≤ n := by omega
  have HF : Hid (Fr D w ⟨fb, lm, om, pv⟩ sz L ps) := hf
  have hsb := hf.sb
  clear hf
  refine callsIn_of_wp_marks Tryz.func80 rfl h33 ?_ hro
  simp only [Tryz.ntmps80, List.size_toArray, List.length_cons, List.length_nil, Nat.reduceAdd, Nat.reduceSub, Array.replicate_succ, Array.replicate_zero, List.push_toArray, List.append_toArray, List.nil_append, List.cons_append]
  obtain ⟨Z, hZ⟩ : ∃ Z : List Int, List.replicate m 0 = Z := ⟨_, rfl⟩
  have HZ : Hid (List.replicate m (0 : Int) = Z) := hZ
  clear hZ
  have SA : Hid (St 159 ((w.alloc (.cells #[.pointer (some ⟨fb, 0, none⟩)] 159)).alloc (.cells #[.int .i64 p] 2)) w.heap.size #[.pointer (some ⟨fb, 0, none⟩)]) := (St.new 159 w _).kp (F := fun _ => False) ((Kp.refl _ _).alloc _) (fun h => h)
  have SB : Hid (St 2 ((w.alloc (.cells #[.pointer (some ⟨fb, 0, none⟩)] 159)).alloc (.cells #[.int .i64 p] 2)) (w.heap.size + 1) #[.int .i64 p]) := by have := St.new 2 (w.alloc (.cells #[.pointer (some ⟨fb, 0, none⟩)] 159)) #[.int .i64 p]; rwa [World.size_alloc] at this
  have B0 : Hid (Below w.heap.size w ((w.alloc (.cells #[.pointer (some ⟨fb, 0, none⟩)] 159)).alloc (.cells #[.int .i64 p] 2))) := ((Below.refl _ w).alloc (Nat.le_refl _) _).alloc (by simp) _
  gi_wp2_with (first | (gi_at_make; refine wpListIn_make_rw (κ := .u8) 47 5 1 Tryz.underlying47 Tryz.info5 (by decide) rfl _ _ rfl m rfl rfl (by omega) ?_; intro w1 r1 b1 z1; rw [HZ.out] at r1; rw [World.size_alloc, World.size_alloc] at r1 z1; have sA := SA.out.below b1 (by simp; omega); have sB := SB.out.below b1 (by simp); have bb : Below w.heap.size w w1 := B0.out.trans (b1.mono (by simp; omega)); have cA : w1.cell? ⟨w.heap.size, 0, none⟩ = some (.pointer (some ⟨fb, 0, none⟩)) := sA.cell 0; have cB : w1.cell? ⟨w.heap.size + 1, 0, none⟩ = some (.int .i64 p) := sB.cell 0; clear SA SB B0 b1) | (gi_at_call 128; refine (cuts_in F (n - 1) h45 hro _ _ _).mono ?_; rintro e w' ⟨rfl, rfl⟩))
  have kx : Kp (fun _ => False) w1 (((w1.alloc (.cells #[.slice (some ⟨w.heap.size + 1 + 1, 0, none⟩) m m] 47)).alloc (.cells #[.int .i64 p] 2)).alloc (.cells #[.int .i64 m] 3)) := (((Kp.refl _ _).alloc _).alloc _).alloc _
  have sC : St 47 (((w1.alloc (.cells #[.slice (some ⟨w.heap.size + 1 + 1, 0, none⟩) m m] 47)).alloc (.cells #[.int .i64 p] 2)).alloc (.cells #[.int .i64 m] 3)) (w.heap.size + 1 + 1 + 1) #[.slice (some ⟨w.heap.size + 1 + 1, 0, none⟩) m m] := by
    have := (St.new 47 w1 #[.slice (some ⟨w.heap.size + 1 + 1, 0, none⟩) m m]).kp (F := fun _ => False) (((Kp.refl _ _).alloc (.cells #[.int .i64 p] 2)).alloc (.cells #[.int .i64 m] 3)) (fun h => h)
    rwa [z1] at this
  have sP : St 2 (((w1.alloc (.cells #[.slice (some ⟨w.heap.size + 1 + 1, 0, none⟩) m m] 47)).alloc (.cells #[.int .i64 p] 2)).alloc (.cells #[.int .i64 m] 3)) (w.heap.size + 1 + 1 + 1 + 1) #[.int .i64 p] := by
    have := (St.new 2 (w1.alloc (.cells #[.slice (some ⟨w.heap.size + 1 + 1, 0, none⟩) m m] 47)) #[.int .i64 p]).kp (F := fun _ => False) ((Kp.refl _ _).alloc (.cells #[.int .i64 m] 3)) (fun h => h)
    rwa [World.size_alloc, z1] at this
  have sM : St 3 (((w1.alloc (.cells #[.slice (some ⟨w.heap.size + 1 + 1, 0, none⟩) m m] 47)).alloc (.cells #[.int .i64 p] 2)).alloc (.cells #[.int .i64 m] 3)) (w.heap.size + 1 + 1 + 1 + 1 + 1) #[.int .i64 m] := by
    have := St.new 3 ((w1.alloc (.cells #[.slice (some ⟨w.heap.size + 1 + 1, 0, none⟩) m m] 47)).alloc (.cells #[.int .i64 p] 2)) #[.int .i64 m]
    rwa [World.size_alloc, World.size_alloc, z1] at this
  have z0 : (((w1.alloc (.cells #[.slice (some ⟨w.heap.size + 1 + 1, 0, none⟩) m m] 47)).alloc (.cells #[.int .i64 p] 2)).alloc (.cells #[.int .i64 m] 3)).heap.size = w.heap.size + 6 := by rw [World.size_alloc, World.size_alloc, World.size_alloc, z1]
  generalize (((w1.alloc (.cells #[.slice (some ⟨w.heap.size + 1 + 1, 0, none⟩) m m] 47)).alloc (.cells #[.int .i64 p] 2)).alloc (.cells #[.int .i64 m] 3)) = W0 at kx sC sP sM z0 ⊢
  have i0 : RdI D w fb lm om pv sz L ps p m [] W0 := ⟨sA.kp kx (fun h => h), sB.kp kx (fun h => h), sC, by rw [rb_nil, HZ.out]; exact r1.kp kx (fun h => h), HF.out.kp ((Kp.of_below bb).trans kx (fun _ _ h => h)) (fun _ _ h => h) (fun _ _ h => h), bb.trans (kx.below bb.size (fun _ h => h.elim)), by omega⟩
  clear kx sC sA sB cA cB r1 bb z1
  refine wpIn_rangeFunc_ownH hro h1 (gf := 162) (lb := #[.pointer (some ⟨w.heap.size + 1 + 1 + 1 + 1, 0, none⟩), .pointer (some ⟨w.heap.size + 1 + 1 + 1 + 1 + 1, 0, none⟩)]) rfl h63 (enters_of Tryz.func162 (by kernel_rfl) rfl)
    (cuts_stops F (n - 1) h63 hro (by omega) (w.heap.size + 1 + 1 + 1 + 1) (w.heap.size + 1 + 1 + 1 + 1 + 1) p m (by omega) W0 (sP.cell 0) (sM.cell 0)) (fun _ _ => trivial) (fun _ _ _ _ _ _ _ _ => trivial) (Below.refl _ _) (fun _ => rfl)
    (fun (pre : List (Cx p m)) W => RdI D w fb lm om pv sz L ps p m (pre.map (fun x : Cx p m => x.1)) W) (fun _ _ _ => False)
    (fun s A B row hs hg hr => hs.kp HF.out (kp_of_own hg hr) (fun i hi => by have := hi.1; omega)) (fun _ _ _ _ _ hs _ _ => hs) i0
    (fun x a' W => ∃ Bx, w.heap.size + 6 ≤ Bx ∧ St 133 W Bx #[.int .i64 (x.1.1 : Int), .int .i64 (x.1.2 : Int)] ∧ a' = { tmps := #[.pointer (some ⟨fb, 0, none⟩), .int .i64 p, .int .i64 m, .pointer (some ⟨w.heap.size, 0, none⟩), .pointer (some ⟨w.heap.size + 1, 0, none⟩), undef, .slice none 0 0, .pointer (some ⟨w.heap.size + 1 + 1 + 1, 0, none⟩), .pointer (some ⟨Bx, 0, none⟩), undef, undef, .int .i64 m, .slice (some ⟨w.heap.size + 1 + 1, 0, none⟩) m m, .int .i64 p, .int .i64 m, .func (.func 162) #[] #[.pointer (some ⟨w.heap.size + 1 + 1 + 1 + 1, 0, none⟩), .pointer (some ⟨w.heap.size + 1 + 1 + 1 + 1 + 1, 0, none⟩)], .agg #[.int .i64 (x.1.1 : Int), .int .i64 (x.1.2 : Int)], undef, undef, undef, undef, undef, undef, undef, undef, undef, undef, undef, undef, undef, undef, undef, undef, undef, undef, undef, undef, undef, undef, undef, undef, undef, undef, undef, undef, undef, undef, undef, undef, undef, undef, undef], defers := [] })
    (fun x a' s A B row hs hg hr => by
      obtain ⟨Bx, q1, q2, q3⟩ := hs
      refine ⟨Bx, q1, q2.kp (kp_of_own hg hr) (fun hi => ?_), q3⟩
      obtain ⟨_, o, ho, hc⟩ := hi
      unfold St at q2
      rw [q2] at ho
      cases ho
      cases hc) ?assign ?body ?done ?stop
  case assign =>
    intro l pre x W K hi hK
    dsimp only [cenc]
    gi_wp2
    exact hK _ _ ((KeepsOthers.alloc _ _).from _) trivial (hi.kp HF.out ((Kp.refl (fun _ => False) _).alloc _) (fun _ h => h.elim)) ⟨W.heap.size, hi.z, St.new 133 W _, rfl⟩
  case body =>
    rintro l pre x a' W hl hlr hi ⟨Bx, hBx, sx, rfl⟩ hlen
    obtain ⟨⟨q, c⟩, hx⟩ := x
    dsimp only at sx ⊢
    have hm4 := pcs_mem m p (q, c) hx
    dsimp only at hm4
    have HI : Hid (RdI D w fb lm om pv sz L ps p m (pre.map (fun x : Cx p m => x.1)) W) := hi
    have HP : Hid ((pre ++ [(⟨(q, c), hx⟩ : Cx p m)]).map (fun x : Cx p m => x.1) = pre.map (fun x : Cx p m => x.1) ++ [(q, c)]) := by show _ = _; rw [List.map_append]; rfl
    have cA : W.cell? ⟨w.heap.size, 0, none⟩ = some (.pointer (some ⟨fb, 0, none⟩)) := hi.a.cell 0
    have cB : W.cell? ⟨w.heap.size + 1, 0, none⟩ = some (.int .i64 p) := hi.b.cell 0
    have cC : W.cell? ⟨w.heap.size + 1 + 1 + 1, 0, none⟩ = some (.slice (some ⟨w.heap.size + 1 + 1, 0, none⟩) m m) := hi.c.cell 0
    have x0 : W.cell? ⟨Bx, 0, none⟩ = some (.int .i64 q) := sx.cell 0
    have x1 : W.cell? ⟨Bx, 1, none⟩ = some (.int .i64 c) := sx.cell 1
    have f1 : W.cell? ⟨fb, 1, none⟩ = some (.map (some lm)) := hi.f.st.cell 1
    have f2 : W.cell? ⟨fb, 2, none⟩ = some (.map (some om)) := hi.f.st.cell 2
    obtain ⟨el, cl, hla⟩ := hi.f.la
    obtain ⟨eo, co, hov, -⟩ := hi.f.ov
    dsimp only at hla hov
    obtain ⟨k, hkk⟩ : ∃ k, k = q / 512 := ⟨_, rfl⟩
    have hk : (q : Int) / 512 = (k : Int) := by omega
    obtain ⟨r, hrr⟩ : ∃ r, r = q % 512 := ⟨_, rfl⟩
    have hr : (q : Int) % 512 = (r : Int) := by omega
    have hrc : r + c ≤ 512 := by rw [hrr]; exact hm4.2.2.2
    have HKR : Hid (k = q / 512 ∧ r = q % 512) := ⟨hkk, hrr⟩
    have hsub : (q : Int) - (p : Int) = ((q - p : Nat) : Int) := by omega
    obtain ⟨h41, h42, h43, _⟩ := hm4
    clear hkk hrr hi sx
    have hmc : ¬ m = q - p := by omega
    have hro : (Instr.lookup 161 (.map (some om)) (.int .i64 (k : Int)) false).run Tryz.prog W = .ok ((mget eo (k : Int)).getD (.slice none 0 0)) W := run_lookup_mp (ky_int Tryz.underlying2) Tryz.underlying161 hov.mp (Tryz.zeroValue47 _) (k : Int)
    have hrl : (Instr.lookup 161 (.map (some lm)) (.int .i64 (k : Int)) false).run Tryz.prog W = .ok ((mget el (k : Int)).getD (.slice none 0 0)) W := run_lookup_mp (ky_int Tryz.underlying2) Tryz.underlying161 hla.mp (Tryz.zeroValue47 _) (k : Int)
    have en0 : ∀ w : World, (binOp .eql 47 (.slice none 0 0) (.slice none 0 0)).run Tryz.prog w = .ok (.bool true) w := fun _ => rfl
    cases hqo : mget eo (k : Int) with
    | some uo =>
      rw [hqo] at hro
      obtain ⟨gs, os, cs, rfl, _, hgl, hcs, _, hsc⟩ := hov.so k uo hqo
      rw [sec_len] at hcs hro
      rw [show (some (Value.slice (some ⟨gs, os, none⟩) 512 cs)).getD (.slice none 0 0) = .slice (some ⟨gs, os, none⟩) 512 cs from rfl] at hro
      have HSC : Hid (∀ i, i < 512 → W.cell? ⟨gs, os + i, none⟩ = some (.int .u8 ((sec (ovs L ps) k).getD i 0))) := by rw [sec_len] at hsc; exact hsc
      have e1 : ∀ w : World, (binOp .eql 47 (.slice (some ⟨gs, os, none⟩) 512 cs) (.slice none 0 0)).run Tryz.prog w = .ok (.bool false) w := fun _ => rfl
      have e2 : ∀ w : World, (binOp .neq 47 (.slice (some ⟨gs, os, none⟩) 512 cs) (.slice none 0 0)).run Tryz.prog w = .ok (.bool true) w := fun _ => rfl
      have hcr : ¬ cs = r := by omega
      clear hsc hqo hrl hov hla en0
      gi_wp2_with fail
      refine wpIn_region_tail hmix (by kernel_rfl) ?_
      dsimp only [List.dropLast, List.getLast]
      repeat (gi_big_quiet_step (fail))
      refine wpQuietIn_nil ?_
      intro _ hw'
      obtain ⟨nq, hw2⟩ := hw'
      subst hw2
      have kq := drewN_kp (fun i => i = w.heap.size + 1 + 1) W nq
      have kq0 := drewN_kp (fun _ => False) W nq
      generalize W.drewN nq = X at kq kq0 ⊢
      refine wpListIn_copy_rw rfl (.tmp 44) (.tmp 49) 47 47 rfl 5 Tryz.underlying47 info5s _ _ _ _ _ _ rfl rfl (w.heap.size + 1 + 1) (q - p) 5 (rb (ovs L ps) p m (pre.map (fun x : Cx p m => x.1))) (pby (ovs L ps) (q, c)) (HI.out.r.kp kq0 (fun h => h)) (by rw [pby_len]; exact (Nat.min_eq_right (by show c ≤ 512 - r; omega)).symm) (fun _ => ⟨rfl, _, rfl, fun j hj => ?_⟩) (by rw [pby_len, rb_len]; show q - p + c ≤ m; omega) ?_
      · rw [pby_len] at hj
        have hj : j < c := hj
        rw [add_o, pby_get _ _ _ hj]
        have hc := HSC.out (r + j) (by omega)
        rw [sec_get _ _ _ (by omega), show 512 * k + (r + j) = q + j by have := HKR.out; omega, ← Nat.add_assoc] at hc
        exact kp_cell kq0 hc (fun h => h)
      intro w3 r3 g3
      have hst := rb_step (ovs L ps) p m (pre.map (fun x : Cx p m => x.1)) (q, c) h41 (by show q + c ≤ p + m; omega)
      dsimp only at hst
      rw [← hst, ← HP.out] at r3
      have k3 : Kp (fun i => i = w.heap.size + 1 + 1) W w3 := kq.trans (Kp.of_grown (F := fun i => i = w.heap.size + 1 + 1) g3 (fun i e => by cases e; rfl)) (fun _ _ h => h)
      gi_wp2
      exact ⟨kfrom_of_kp k3 (fun i hi => by omega), trivial, HI.out.step HF.out k3 r3⟩
    | none =>
      rw [hqo] at hro
      rw [show (none : Option Value).getD (.slice none 0 0) = .slice none 0 0 from rfl] at hro
      have hno := hov.no k hqo
      cases hql : mget el (k : Int) with
      | some ul =>
        rw [hql] at hrl
        obtain ⟨gs, os, cs, rfl, _, hgl, hcs, _, hsc⟩ := hla.so k ul hql
        rw [sec_len] at hcs hrl
        rw [show (some (Value.slice (some ⟨gs, os, none⟩) 512 cs)).getD (.slice none 0 0) = .slice (some ⟨gs, os, none⟩) 512 cs from rfl] at hrl
        have HSC : Hid (∀ i, i < 512 → W.cell? ⟨gs, os + i, none⟩ = some (.int .u8 ((sec (ovs L ps) k).getD i 0))) := by rw [sec_len] at hsc; rw [hno]; exact hsc
        have e1 : ∀ w : World, (binOp .eql 47 (.slice (some ⟨gs, os, none⟩) 512 cs) (.slice none 0 0)).run Tryz.prog w = .ok (.bool false) w := fun _ => rfl
        have e2 : ∀ w : World, (binOp .neq 47 (.slice (some ⟨gs, os, none⟩) 512 cs) (.slice none 0 0)).run Tryz.prog w = .ok (.bool true) w := fun _ => rfl
        have hcr : ¬ cs = r := by omega
        clear hsc hqo hql hov hla hno
        gi_wp2_with fail
        refine wpIn_region_tail hmix (by kernel_rfl) ?_
        dsimp only [List.dropLast, List.getLast]
        repeat (gi_big_quiet_step (fail))
        refine wpQuietIn_nil ?_
        intro _ hw'
        obtain ⟨nq, hw2⟩ := hw'
        subst hw2
        have kq := drewN_kp (fun i => i = w.heap.size + 1 + 1) W nq
        have kq0 := drewN_kp (fun _ => False) W nq
        generalize W.drewN nq = X at kq kq0 ⊢
        refine wpListIn_copy_rw rfl (.tmp 44) (.tmp 49) 47 47 rfl 5 Tryz.underlying47 info5s _ _ _ _ _ _ rfl rfl (w.heap.size + 1 + 1) (q - p) 5 (rb (ovs L ps) p m (pre.map (fun x : Cx p m => x.1))) (pby (ovs L ps) (q, c)) (HI.out.r.kp kq0 (fun h => h)) (by rw [pby_len]; exact (Nat.min_eq_right (by show c ≤ 512 - r; omega)).symm) (fun _ => ⟨rfl, _, rfl, fun j hj => ?_⟩) (by rw [pby_len, rb_len]; show q - p + c ≤ m; omega) ?_
        · rw [pby_len] at hj
          have hj : j < c := hj
          rw [add_o, pby_get _ _ _ hj]
          have hc := HSC.out (r + j) (by omega)
          rw [sec_get _ _ _ (by omega), show 512 * k + (r + j) = q + j by have := HKR.out; omega, ← Nat.add_assoc] at hc
          exact kp_cell kq0 hc (fun h => h)
        intro w3 r3 g3
        have hst := rb_step (ovs L ps) p m (pre.map (fun x : Cx p m => x.1)) (q, c) h41 (by show q + c ≤ p + m; omega)
        dsimp only at hst
        rw [← hst, ← HP.out] at r3
        have k3 : Kp (fun i => i = w.heap.size + 1 + 1) W w3 := kq.trans (Kp.of_grown (F := fun i => i = w.heap.size + 1 + 1) g3 (fun i e => by cases e; rfl)) (fun _ _ h => h)
        gi_wp2
        exact ⟨kfrom_of_kp k3 (fun i hi => by omega), trivial, HI.out.step HF.out k3 r3⟩
      | none =>
        rw [hql] at hrl
        rw [show (none : Option Value).getD (.slice none 0 0) = .slice none 0 0 from rfl] at hrl
        have hz := hla.no k hql
        have HZZ : Hid (rb (ovs L ps) p m ((pre ++ [(⟨(q, c), hx⟩ : Cx p m)]).map (fun x : Cx p m => x.1)) = rb (ovs L ps) p m (pre.map (fun x : Cx p m => x.1))) := by
          show _ = _
          rw [HP.out]
          refine rb_zero _ _ _ _ _ fun i h1 h2 => ?_
          have h1 : q ≤ i := h1
          have h2 : i < q + c := h2
          have := sec_ext.1 (hno.trans hz) (i - 512 * k) (by have := HKR.out; omega)
          rw [show 512 * k + (i - 512 * k) = i by have := HKR.out; omega] at this
          exact this
        have e2 : ∀ w : World, (binOp .neq 47 (.slice none 0 0) (.slice none 0 0)).run Tryz.prog w = .ok (.bool false) w := fun _ => rfl
        clear hqo hql hov hla hno hz
        gi_wp2
        exact ⟨KeepsFrom.refl _ _, trivial, HI.out.step HF.out (Kp.refl _ _) (by rw [HZZ.out]; exact HI.out.r)⟩
  case done =>
    rintro D' ys W hD hys hi hK
    have HR := hi.r
    rw [hys, rb_all] at HR
    have cC : W.cell? ⟨w.heap.size + 1 + 1 + 1, 0, none⟩ = some (.slice (some ⟨w.heap.size + 1 + 1, 0, none⟩) m m) := hi.c.cell 0
    gi_wp2
    refine ⟨by simp, .inl ⟨_, _, rfl, run_takeDeferred hK, ?_⟩⟩
    have kp := kp_put1 W D' (.deferred none)
    exact ⟨_, results_tmp rfl _ _ _, w.heap.size + 1 + 1, rfl, by omega, HR.kp kp (by omega), hi.bel.trans (kp.below hi.bel.size (fun i e => by omega))⟩
  case stop =>
    rintro D c pre W _ _ h _
    exact h.elim
end Go.Proofs.YtnccklbnncaeoaaGreat
