import Derived.Test.YtnccklbnncaeoaaGreatJac
import Derived.Test.YtnccklbnncaeoaaGreatJab
import Derived.RangeFuncWrites
import Derived.Deep.RegionHeld3
/- Bytes of a file are read. -/
namespace Go.Proofs.YtnccklbnncaeoaaGreat
open Go.RowKit Go.Shelf
attribute [local go_sem] Oper.semAt_some

/-- What has been read of n bytes from a on, behind these pieces. -/
def rb (f : Nat → Int) (a n : Nat) (pre : List (Nat × Nat)) : List Int := (List.range n).map fun i => if pre.any (fun x => decide (x.1 ≤ a + i) && decide (a + i < x.1 + x.2)) then f (a + i) else 0
theorem rb_len (f : Nat → Int) (a n : Nat) (pre : List (Nat × Nat)) : (rb f a n pre).length = n := by simp [rb]
theorem rb_get (f : Nat → Int) (a n : Nat) (pre : List (Nat × Nat)) (i : Nat) (h : i < n) : (rb f a n pre).getD i 0 = if pre.any (fun x => decide (x.1 ≤ a + i) && decide (a + i < x.1 + x.2)) then f (a + i) else 0 := by
  unfold rb
  rw [List.getD_eq_getElem?_getD, List.getElem?_map, List.getElem?_range h]
  rfl
theorem rb_nil (f : Nat → Int) (a n : Nat) : rb f a n [] = List.replicate n 0 := by
  refine ext_getD (by simp [rb_len]) fun i hi => ?_
  rw [rb_len] at hi
  rw [rb_get _ _ _ _ _ hi]
  simp [List.getD, hi]
theorem rb_all (f : Nat → Int) (a n : Nat) : rb f a n (pcs a n) = (List.range n).map fun i => f (a + i) := by
  unfold rb
  apply List.map_congr_left
  intro i hi
  have hi : i < n := by simpa using hi
  obtain ⟨x, hx, h1, h2⟩ := pcs_cover n a (a + i) (by omega) (by omega)
  rw [if_pos]
  exact List.any_eq_true.2 ⟨x, hx, by simp [h1, h2]⟩
/-- The bytes of a piece. -/
def pby (f : Nat → Int) (x : Nat × Nat) : List Int := (List.range x.2).map fun i => f (x.1 + i)
theorem pby_len (f : Nat → Int) (x : Nat × Nat) : (pby f x).length = x.2 := by simp [pby]
theorem pby_get (f : Nat → Int) (x : Nat × Nat) (i : Nat) (h : i < x.2) : (pby f x).getD i 0 = f (x.1 + i) := by simp [pby, List.getD, h]
theorem rb_step (f : Nat → Int) (a n : Nat) (pre : List (Nat × Nat)) (x : Nat × Nat) (h1 : a ≤ x.1) (h2 : x.1 + x.2 ≤ a + n) : rb f a n (pre ++ [x]) = splice (rb f a n pre) (x.1 - a) (pby f x) := by
  have hf : x.1 - a + (pby f x).length ≤ (rb f a n pre).length := by rw [pby_len, rb_len]; omega
  refine ext_getD (by rw [length_splice _ _ _ hf, rb_len, rb_len]) fun i hi => ?_
  rw [rb_len] at hi
  rw [getD_splice _ _ _ _ hf, rb_get _ _ _ _ _ hi, rb_get _ _ _ _ _ hi, pby_len, List.any_append]
  by_cases hc : x.1 - a ≤ i ∧ i < x.1 - a + x.2
  · rw [if_pos hc, pby_get _ _ _ (by omega), if_pos, show x.1 + (i - (x.1 - a)) = a + i by omega]
    rw [Bool.or_eq_true]
    refine .inr ?_
    simp
    omega
  · rw [if_neg hc]
    have : ([x].any fun x => decide (x.1 ≤ a + i) && decide (a + i < x.1 + x.2)) = false := by
      simp
      intro h
      omega
    rw [this, Bool.or_false]
theorem rb_zero (f : Nat → Int) (a n : Nat) (pre : List (Nat × Nat)) (x : Nat × Nat) (h : ∀ i, x.1 ≤ i → i < x.1 + x.2 → f i = 0) : rb f a n (pre ++ [x]) = rb f a n pre := by
  refine ext_getD (by rw [rb_len, rb_len]) fun i hi => ?_
  rw [rb_len] at hi
  rw [rb_get _ _ _ _ _ hi, rb_get _ _ _ _ _ hi, List.any_append]
  by_cases hc : x.1 ≤ a + i ∧ a + i < x.1 + x.2
  · rw [h _ hc.1 hc.2, ite_self, ite_self]
  · have : ([x].any fun x => decide (x.1 ≤ a + i) && decide (a + i < x.1 + x.2)) = false := by
      simp
      intro h
      omega
    rw [this, Bool.or_false]
theorem kfrom_of_kp {F : Nat → Prop} {B : Nat} {W W' : World} (k : Kp F W W') (h : ∀ i, F i → i < B) : KeepsFrom B W W' :=
  ⟨k.size, fun j o hB hj _ => (k.block j (Array.getElem?_eq_some_iff.1 hj).1 (fun hf => by have := h j hf; omega)).trans hj⟩
theorem kp_of_own {B : Nat} {W W' : World} {row : Option Nat} (hg : W.grownBy W' row) (hr : ∀ r, row = some r → B ≤ r ∧ ∃ o : Obj, W.heap[r]? = some o ∧ o.isCells = false) : Kp (fun i => B ≤ i ∧ ∃ o : Obj, W.heap[i]? = some o ∧ o.isCells = false) W W' := Kp.of_grown hg (fun i e => hr i e)
theorem Bs.le {D : Nat → Prop} {w : World} {v : Value} {xs : List Int} (h : Bs D w v xs) : ∃ g off cap, v = .slice (some ⟨g, off, none⟩) xs.length cap ∧ D g ∧ g < w.heap.size ∧ xs.length ≤ cap ∧ cap ≤ maxLen ∧ ∀ i, i < xs.length → w.cell? ⟨g, off + i, none⟩ = some (.int .u8 (xs.getD i 0)) := h
/-- make, inside a fence. -/
theorem wpListIn_make_rw {F : Fence} {nF : Nat} {P : Program} {κ : IntKind} {w : World} {ops : Array Oper} {rest : List Oper} {o : Oper} {a : Act} {Q : Exit → Act → World → Prop} (T ε : TypeId) (bytes : Nat) (hT : P.underlying T = some (.slice ε)) (hinfo : (P.info? ε).map (fun i => (i.zero, i.size, i.bytes)) = some (some (.int κ 0), 1, bytes)) (hb8 : bytes ≤ 8) (hgd : o.guard = none) (l c : Operand) (ho : o.op = Op.makeSlice T l c)
    (n : Nat) (hl : a.eval l = .int .i64 n) (hc : a.eval c = .int .i64 n) (hn : n ≤ 17592186044416)
    (h : ∀ w', Rw κ ε w' w.heap.size (List.replicate n 0) → Below w.heap.size w w' → w'.heap.size = w.heap.size + 1 → wpListIn F nF P ops Q rest (a.put o.dst (.slice (some ⟨w.heap.size, 0, none⟩) n n)) w') : wpListIn F nF P ops Q (o :: rest) a w := by
  obtain ⟨i0, hi, hz0, hz1, hz2⟩ := info_parts hinfo
  refine wpListIn_plain hgd fun K hK => ?_
  have hmul : bytes * n ≤ 140737488355328 := by
    have : bytes * n ≤ 8 * 17592186044416 := Nat.mul_le_mul hb8 hn
    omega
  have hmul2 : (bytes : Int) * (n : Int) ≤ 140737488355328 := by rw [← Int.natCast_mul]; exact Int.ofNat_le.2 hmul
  have hr := run_make (P := P) w T ε i0 (.int κ 0) hT hi hz0 .i64 .i64 n n (by omega) (Int.le_refl _) (by rw [hz2]; omega) (by omega)
  rw [hz1, Int.toNat_natCast, Nat.mul_one, show (Value.int κ 0).cells = #[.int κ 0] from rfl, made_cells] at hr
  unfold Oper.wpIn
  refine ⟨by simp [Oper.about, ho], ?_⟩
  rw [Oper.semAt_plain F _ _ (by rw [ho]; intro c hc'; cases hc')]
  simp only [execOp, ho, hl, hc, hr, Sem.run_bind, Sem.run_pure, Result.andThen_ok]
  exact hK _ _ (h _ (Rw.new κ ε w _) ((Below.refl _ _).alloc (Nat.le_refl _) _) (World.size_alloc _ _))
/-- What the loop of read keeps. -/
structure RdI (D : Nat → Prop) (w : World) (fb lm om : Nat) (pv : Value) (sz : Nat) (L : Nat → Int) (ps : List (Nat × List Int)) (p m : Nat) (pre : List (Nat × Nat)) (W : World) : Prop where
  a : St 159 W w.heap.size #[.pointer (some ⟨fb, 0, none⟩)]
  b : St 2 W (w.heap.size + 1) #[.int .i64 p]
  c : St 47 W (w.heap.size + 1 + 1 + 1) #[.slice (some ⟨w.heap.size + 1 + 1, 0, none⟩) m m]
  r : Rw .u8 5 W (w.heap.size + 1 + 1) (rb (ovs L ps) p m pre)
  f : Fr D W ⟨fb, lm, om, pv⟩ sz L ps
  bel : Below w.heap.size w W
  z : w.heap.size + 6 ≤ W.heap.size
theorem RdI.kp {D F : Nat → Prop} {w W W' : World} {fb lm om : Nat} {pv : Value} {sz : Nat} {L : Nat → Int} {ps : List (Nat × List Int)} {p m : Nat} {pre : List (Nat × Nat)} (h : RdI D w fb lm om pv sz L ps p m pre W) (hw : Fr D w ⟨fb, lm, om, pv⟩ sz L ps) (k : Kp F W W') (hF : ∀ i, F i → w.heap.size + 6 ≤ i) : RdI D w fb lm om pv sz L ps p m pre W' :=
  ⟨h.a.kp k (fun x => by have := hF _ x; omega), h.b.kp k (fun x => by have := hF _ x; omega), h.c.kp k (fun x => by have := hF _ x; omega), h.r.kp k (fun x => by have := hF _ x; omega), h.f.kp k (fun i hi x => by have := hF _ x; have := hw.lt i hi; omega) (fun i hi x => by have := hF _ x; have := hw.db i hi; omega), h.bel.trans (k.below h.bel.size (fun i x => by have := hF i x; omega)), Nat.le_trans h.z k.size⟩
theorem RdI.step {D : Nat → Prop} {w W W' : World} {fb lm om : Nat} {pv : Value} {sz : Nat} {L : Nat → Int} {ps : List (Nat × List Int)} {p m : Nat} {pre pre' : List (Nat × Nat)} (h : RdI D w fb lm om pv sz L ps p m pre W) (hw : Fr D w ⟨fb, lm, om, pv⟩ sz L ps) (k : Kp (fun i => i = w.heap.size + 1 + 1) W W') (hr : Rw .u8 5 W' (w.heap.size + 1 + 1) (rb (ovs L ps) p m pre')) : RdI D w fb lm om pv sz L ps p m pre' W' :=
  ⟨h.a.kp k (by omega), h.b.kp k (by omega), h.c.kp k (by omega), hr, h.f.kp k (fun i hi x => by have := hw.lt i hi; omega) (fun i hi x => by have := hw.db i hi; omega), h.bel.trans (k.below h.bel.size (fun i x => by omega)), Nat.le_trans h.z k.size⟩
theorem kp_put1 (W : World) (l : Nat) (o : Obj) : Kp (fun i => i = l) W (W.putObj l o) := ⟨rfl, rfl, rfl, by simp, fun _ _ hk => World.putObj_heap_other hk⟩
set_option maxRecDepth 100000 in
set_option maxHeartbeats 2000000 in
theorem read_in (F : Fence) (n : Nat) (h33 : F.fn 80) (h45 : F.fn 128) (h63 : F.fn 162) (hro : F.round = none) (hn : 3 ≤ n) (D : Nat → Prop) (fb lm om : Nat) (pv : Value) (sz : Nat) (L : Nat → Int) (ps : List (Nat × List Int)) (p m : Nat) (w : World) (hf : Fr D w ⟨fb, lm, om, pv⟩ sz L ps) (hb : p + m ≤ sz) :
    CallsIn F n Tryz.prog 80 #[.pointer (some ⟨fb, 0, none⟩), .int .i64 p, .int .i64 m] w fun e w' => ∃ g, e = .returned (.slice (some ⟨g, 0, none⟩) m m) ∧ w.heap.size ≤ g ∧ Rw .u8 5 w' g ((List.range m).map fun i => ovs L ps (p + i)) ∧ Below w.heap.size w w' := by
  have h1 : 1 ≤ n := by omega
  have HF : Hid (Fr D w ⟨fb, lm, om, pv⟩ sz L ps) := hf
  have hsb := hf.sb
  clear hf
  refine callsIn_of_wp_marks Tryz.func80 rfl h33 ?_ hro
  simp only [Tryz.ntmps80, List.size_toArray, List.length_cons, List.length_nil, Nat.reduceAdd, Nat.reduceSub, Array.replicate_succ, Array.replicate_zero, List.push_toArray, List.append_toArray, List.nil_append, List.cons_append]
  obtain ⟨Z, hZ⟩ : ∃ Z : List Int, List.replicate m 0 = Z := ⟨_, rfl⟩
  have HZ : Hid (List.replicate m (0 : Int) = Z) := hZ
  clear hZ
  have SA : Hid (St 159 ((w.alloc (.cells #[.pointer (some ⟨fb, 0, none⟩)] 159)).alloc (.cells #[.int .i64 p] 2)) w.heap.size #[.pointer (some ⟨fb, 0, none⟩)]) := (St.new 159 w _).kp (F := fun _ => False) ((Kp.refl _ _).alloc _) (fun h => h)
  have SB : Hid (St 2 ((w.alloc (.cells #[.pointer (some ⟨fb, 0, none⟩)] 159)).alloc (.cells #[.int .i64 p] 2)) (w.heap.size + 1) #[.int .i64 p]) := by have := St.new 2 (w.alloc (.cells #[.pointer (some ⟨fb, 0, none⟩)] 159)) #[.int .i64 p]; rwa [World.size_alloc] at this
  have B0 : Hid (Below w.heap.size w ((w.alloc (.cells #[.pointer (some ⟨fb, 0, none⟩)] 159)).alloc (.cells #[.int .i64 p] 2))) := ((Below.refl _ w).alloc (Nat.le_refl _) _).alloc (by simp) _
  gi_wp2_with (first | (gi_at_make; refine wpListIn_make_rw (κ := .u8) 47 5 1 Tryz.underlying47 Tryz.info5 (by decide) rfl _ _ rfl m rfl rfl (by omega) ?_; intro w1 r1 b1 z1; rw [HZ.out] at r1; rw [World.size_alloc, World.size_alloc] at r1 z1; have sA := SA.out.below b1 (by simp; omega); have sB := SB.out.below b1 (by simp); have bb : Below w.heap.size w w1 := B0.out.trans (b1.mono (by simp; omega)); have cA : w1.cell? ⟨w.heap.size, 0, none⟩ = some (.pointer (some ⟨fb, 0, none⟩)) := sA.cell 0; have cB : w1.cell? ⟨w.heap.size + 1, 0, none⟩ = some (.int .i64 p) := sB.cell 0; clear SA SB B0 b1) | (gi_at_call 128; refine (cuts_in F (n - 1) h45 hro _ _ _).mono ?_; rintro e w' ⟨rfl, rfl⟩))
  have kx : Kp (fun _ => False) w1 (((w1.alloc (.cells #[.slice (some ⟨w.heap.size + 1 + 1, 0, none⟩) m m] 47)).alloc (.cells #[.int .i64 p] 2)).alloc (.cells #[.int .i64 m] 3)) := (((Kp.refl _ _).alloc _).alloc _).alloc _
  have sC : St 47 (((w1.alloc (.cells #[.slice (some ⟨w.heap.size + 1 + 1, 0, none⟩) m m] 47)).alloc (.cells #[.int .i64 p] 2)).alloc (.cells #[.int .i64 m] 3)) (w.heap.size + 1 + 1 + 1) #[.slice (some ⟨w.heap.size + 1 + 1, 0, none⟩) m m] := by
    have := (St.new 47 w1 #[.slice (some ⟨w.heap.size + 1 + 1, 0, none⟩) m m]).kp (F := fun _ => False) (((Kp.refl _ _).alloc (.cells #[.int .i64 p] 2)).alloc (.cells #[.int .i64 m] 3)) (fun h => h)
    rwa [z1] at this
  have sP : St 2 (((w1.alloc (.cells #[.slice (some ⟨w.heap.size + 1 + 1, 0, none⟩) m m] 47)).alloc (.cells #[.int .i64 p] 2)).alloc (.cells #[.int .i64 m] 3)) (w.heap.size + 1 + 1 + 1 + 1) #[.int .i64 p] := by
    have := (St.new 2 (w1.alloc (.cells #[.slice (some ⟨w.heap.size + 1 + 1, 0, none⟩) m m] 47)) #[.int .i64 p]).kp (F := fun _ => False) ((Kp.refl _ _).alloc (.cells #[.int .i64 m] 3)) (fun h => h)
    rwa [World.size_alloc, z1] at this
  have sM : St 3 (((w1.alloc (.cells #[.slice (some ⟨w.heap.size + 1 + 1, 0, none⟩) m m] 47)).alloc (.cells #[.int .i64 p] 2)).alloc (.cells #[.int .i64 m] 3)) (w.heap.size + 1 + 1 + 1 + 1 + 1) #[.int .i64 m] := by
    have := St.new 3 ((w1.alloc (.cells #[.slice (some ⟨w.heap.size + 1 + 1, 0, none⟩) m m] 47)).alloc (.cells #[.int .i64 p] 2)) #[.int .i64 m]
    rwa [World.size_alloc, World.size_alloc, z1] at this
  have z0 : (((w1.alloc (.cells #[.slice (some ⟨w.heap.size + 1 + 1, 0, none⟩) m m] 47)).alloc (.cells #[.int .i64 p] 2)).alloc (.cells #[.int .i64 m] 3)).heap.size = w.heap.size + 6 := by rw [World.size_alloc, World.size_alloc, World.size_alloc, z1]
  generalize (((w1.alloc (.cells #[.slice (some ⟨w.heap.size + 1 + 1, 0, none⟩) m m] 47)).alloc (.cells #[.int .i64 p] 2)).alloc (.cells #[.int .i64 m] 3)) = W0 at kx sC sP sM z0 ⊢
  have i0 : RdI D w fb lm om pv sz L ps p m [] W0 := ⟨sA.kp kx (fun h => h), sB.kp kx (fun h => h), sC, by rw [rb_nil, HZ.out]; exact r1.kp kx (fun h => h), HF.out.kp ((Kp.of_below bb).trans kx (fun _ _ h => h)) (fun _ _ h => h) (fun _ _ h => h), bb.trans (kx.below bb.size (fun _ h => h.elim)), by omega⟩
  clear kx sC sA sB cA cB r1 bb z1
  refine wpIn_rangeFunc_ownH hro h1 (gf := 162) (lb := #[.pointer (some ⟨w.heap.size + 1 + 1 + 1 + 1, 0, none⟩), .pointer (some ⟨w.heap.size + 1 + 1 + 1 + 1 + 1, 0, none⟩)]) rfl h63 (enters_of Tryz.func162 (by kernel_rfl) rfl)
    (cuts_stops F (n - 1) h63 hro (by omega) (w.heap.size + 1 + 1 + 1 + 1) (w.heap.size + 1 + 1 + 1 + 1 + 1) p m (by omega) W0 (sP.cell 0) (sM.cell 0)) (fun _ _ => trivial) (fun _ _ _ _ _ _ _ _ => trivial) (Below.refl _ _) (fun _ => rfl)
    (fun (pre : List (Cx p m)) W => RdI D w fb lm om pv sz L ps p m (pre.map (fun x : Cx p m => x.1)) W) (fun _ _ _ => False)
    (fun s A B row hs hg hr => hs.kp HF.out (kp_of_own hg hr) (fun i hi => by have := hi.1; omega)) (fun _ _ _ _ _ hs _ _ => hs) i0
    (fun x a' W => ∃ Bx, w.heap.size + 6 ≤ Bx ∧ St 133 W Bx #[.int .i64 (x.1.1 : Int), .int .i64 (x.1.2 : Int)] ∧ a' = { tmps := #[.pointer (some ⟨fb, 0, none⟩), .int .i64 p, .int .i64 m, .pointer (some ⟨w.heap.size, 0, none⟩), .pointer (some ⟨w.heap.size + 1, 0, none⟩), undef, .slice none 0 0, .pointer (some ⟨w.heap.size + 1 + 1 + 1, 0, none⟩), .pointer (some ⟨Bx, 0, none⟩), undef, undef, .int .i64 m, .slice (some ⟨w.heap.size + 1 + 1, 0, none⟩) m m, .int .i64 p, .int .i64 m, .func (.func 162) #[] #[.pointer (some ⟨w.heap.size + 1 + 1 + 1 + 1, 0, none⟩), .pointer (some ⟨w.heap.size + 1 + 1 + 1 + 1 + 1, 0, none⟩)], .agg #[.int .i64 (x.1.1 : Int), .int .i64 (x.1.2 : Int)], undef, undef, undef, undef, undef, undef, undef, undef, undef, undef, undef, undef, undef, undef, undef, undef, undef, undef, undef, undef, undef, undef, undef, undef, undef, undef, undef, undef, undef, undef, undef, undef, undef, undef, undef], defers := [] })
    (fun x a' s A B row hs hg hr => by
      obtain ⟨Bx, q1, q2, q3⟩ := hs
      refine ⟨Bx, q1, q2.kp (kp_of_own hg hr) (fun hi => ?_), q3⟩
      obtain ⟨_, o, ho, hc⟩ := hi
      unfold St at q2
      rw [q2] at ho
      cases ho
      cases hc) ?assign ?body ?done ?stop
  case assign =>
    intro l pre x W K hi hK
    dsimp only [cenc]
    gi_wp2
    exact hK _ _ ((KeepsOthers.alloc _ _).from _) trivial (hi.kp HF.out ((Kp.refl (fun _ => False) _).alloc _) (fun _ h => h.elim)) ⟨W.heap.size, hi.z, St.new 133 W _, rfl⟩
  case body =>
    rintro l pre x a' W hl hlr hi ⟨Bx, hBx, sx, rfl⟩ hlen
    obtain ⟨⟨q, c⟩, hx⟩ := x
    dsimp only at sx ⊢
    have hm4 := pcs_mem m p (q, c) hx
    dsimp only at hm4
    have HI : Hid (RdI D w fb lm om pv sz L ps p m (pre.map (fun x : Cx p m => x.1)) W) := hi
    have HP : Hid ((pre ++ [(⟨(q, c), hx⟩ : Cx p m)]).map (fun x : Cx p m => x.1) = pre.map (fun x : Cx p m => x.1) ++ [(q, c)]) := by show _ = _; rw [List.map_append]; rfl
    have cA : W.cell? ⟨w.heap.size, 0, none⟩ = some (.pointer (some ⟨fb, 0, none⟩)) := hi.a.cell 0
    have cB : W.cell? ⟨w.heap.size + 1, 0, none⟩ = some (.int .i64 p) := hi.b.cell 0
    have cC : W.cell? ⟨w.heap.size + 1 + 1 + 1, 0, none⟩ = some (.slice (some ⟨w.heap.size + 1 + 1, 0, none⟩) m m) := hi.c.cell 0
    have x0 : W.cell? ⟨Bx, 0, none⟩ = some (.int .i64 q) := sx.cell 0
    have x1 : W.cell? ⟨Bx, 1, none⟩ = some (.int .i64 c) := sx.cell 1
    have f1 : W.cell? ⟨fb, 1, none⟩ = some (.map (some lm)) := hi.f.st.cell 1
    have f2 : W.cell? ⟨fb, 2, none⟩ = some (.map (some om)) := hi.f.st.cell 2
    obtain ⟨el, cl, hla⟩ := hi.f.la
    obtain ⟨eo, co, hov, -⟩ := hi.f.ov
    dsimp only at hla hov
    obtain ⟨k, hkk⟩ : ∃ k, k = q / 512 := ⟨_, rfl⟩
    have hk : (q : Int) / 512 = (k : Int) := by omega
    obtain ⟨r, hrr⟩ : ∃ r, r = q % 512 := ⟨_, rfl⟩
    have hr : (q : Int) % 512 = (r : Int) := by omega
    have hrc : r + c ≤ 512 := by rw [hrr]; exact hm4.2.2.2
    have HKR : Hid (k = q / 512 ∧ r = q % 512) := ⟨hkk, hrr⟩
    have hsub : (q : Int) - (p : Int) = ((q - p : Nat) : Int) := by omega
    obtain ⟨h41, h42, h43, _⟩ := hm4
    clear hkk hrr hi sx
    have hmc : ¬ m = q - p := by omega
    have hro : (Instr.lookup 161 (.map (some om)) (.int .i64 (k : Int)) false).run Tryz.prog W = .ok ((mget eo (k : Int)).getD (.slice none 0 0)) W := run_lookup_mp (ky_int Tryz.underlying2) Tryz.underlying161 hov.mp (Tryz.zeroValue47 _) (k : Int)
    have hrl : (Instr.lookup 161 (.map (some lm)) (.int .i64 (k : Int)) false).run Tryz.prog W = .ok ((mget el (k : Int)).getD (.slice none 0 0)) W := run_lookup_mp (ky_int Tryz.underlying2) Tryz.underlying161 hla.mp (Tryz.zeroValue47 _) (k : Int)
    have en0 : ∀ w : World, (binOp .eql 47 (.slice none 0 0) (.slice none 0 0)).run Tryz.prog w = .ok (.bool true) w := fun _ => rfl
    cases hqo : mget eo (k : Int) with
    | some uo =>
      rw [hqo] at hro
      obtain ⟨gs, os, cs, rfl, _, hgl, hcs, _, hsc⟩ := hov.so k uo hqo
      rw [sec_len] at hcs hro
      rw [show (some (Value.slice (some ⟨gs, os, none⟩) 512 cs)).getD (.slice none 0 0) = .slice (some ⟨gs, os, none⟩) 512 cs from rfl] at hro
      have HSC : Hid (∀ i, i < 512 → W.cell? ⟨gs, os + i, none⟩ = some (.int .u8 ((sec (ovs L ps) k).getD i 0))) := by rw [sec_len] at hsc; exact hsc
      have e1 : ∀ w : World, (binOp .eql 47 (.slice (some ⟨gs, os, none⟩) 512 cs) (.slice none 0 0)).run Tryz.prog w = .ok (.bool false) w := fun _ => rfl
      have e2 : ∀ w : World, (binOp .neq 47 (.slice (some ⟨gs, os, none⟩) 512 cs) (.slice none 0 0)).run Tryz.prog w = .ok (.bool true) w := fun _ => rfl
      have hcr : ¬ cs = r := by omega
      clear hsc hqo hrl hov hla en0
      gi_wp2_with fail
      refine wpIn_region_tail hmix (by kernel_rfl) ?_
      dsimp only [List.dropLast, List.getLast]
      repeat (gi_big_quiet_step (fail))
      refine wpQuietIn_nil ?_
      intro _ hw'
      obtain ⟨nq, hw2⟩ := hw'
      subst hw2
      have kq := drewN_kp (fun i => i = w.heap.size + 1 + 1) W nq
      have kq0 := drewN_kp (fun _ => False) W nq
      generalize W.drewN nq = X at kq kq0 ⊢
      refine wpListIn_copy_rw rfl (.tmp 44) (.tmp 49) 47 47 rfl 5 Tryz.underlying47 info5s _ _ _ _ _ _ rfl rfl (w.heap.size + 1 + 1) (q - p) 5 (rb (ovs L ps) p m (pre.map (fun x : Cx p m => x.1))) (pby (ovs L ps) (q, c)) (HI.out.r.kp kq0 (fun h => h)) (by rw [pby_len]; exact (Nat.min_eq_right (by show c ≤ 512 - r; omega)).symm) (fun _ => ⟨rfl, _, rfl, fun j hj => ?_⟩) (by rw [pby_len, rb_len]; show q - p + c ≤ m; omega) ?_
      · rw [pby_len] at hj
        have hj : j < c := hj
        rw [add_o, pby_get _ _ _ hj]
        have hc := HSC.out (r + j) (by omega)
        rw [sec_get _ _ _ (by omega), show 512 * k + (r + j) = q + j by have := HKR.out; omega, ← Nat.add_assoc] at hc
        exact kp_cell kq0 hc (fun h => h)
      intro w3 r3 g3
      have hst := rb_step (ovs L ps) p m (pre.map (fun x : Cx p m => x.1)) (q, c) h41 (by show q + c ≤ p + m; omega)
      dsimp only at hst
      rw [← hst, ← HP.out] at r3
      have k3 : Kp (fun i => i = w.heap.size + 1 + 1) W w3 := kq.trans (Kp.of_grown (F := fun i => i = w.heap.size + 1 + 1) g3 (fun i e => by cases e; rfl)) (fun _ _ h => h)
      gi_wp2
      exact ⟨kfrom_of_kp k3 (fun i hi => by omega), trivial, HI.out.step HF.out k3 r3⟩
    | none =>
      rw [hqo] at hro
      rw [show (none : Option Value).getD (.slice none 0 0) = .slice none 0 0 from rfl] at hro
      have hno := hov.no k hqo
      cases hql : mget el (k : Int) with
      | some ul =>
        rw [hql] at hrl
        obtain ⟨gs, os, cs, rfl, _, hgl, hcs, _, hsc⟩ := hla.so k ul hql
        rw [sec_len] at hcs hrl
        rw [show (some (Value.slice (some ⟨gs, os, none⟩) 512 cs)).getD (.slice none 0 0) = .slice (some ⟨gs, os, none⟩) 512 cs from rfl] at hrl
        have HSC : Hid (∀ i, i < 512 → W.cell? ⟨gs, os + i, none⟩ = some (.int .u8 ((sec (ovs L ps) k).getD i 0))) := by rw [sec_len] at hsc; rw [hno]; exact hsc
        have e1 : ∀ w : World, (binOp .eql 47 (.slice (some ⟨gs, os, none⟩) 512 cs) (.slice none 0 0)).run Tryz.prog w = .ok (.bool false) w := fun _ => rfl
        have e2 : ∀ w : World, (binOp .neq 47 (.slice (some ⟨gs, os, none⟩) 512 cs) (.slice none 0 0)).run Tryz.prog w = .ok (.bool true) w := fun _ => rfl
        have hcr : ¬ cs = r := by omega
        clear hsc hqo hql hov hla hno
        gi_wp2_with fail
        refine wpIn_region_tail hmix (by kernel_rfl) ?_
        dsimp only [List.dropLast, List.getLast]
        repeat (gi_big_quiet_step (fail))
        refine wpQuietIn_nil ?_
        intro _ hw'
        obtain ⟨nq, hw2⟩ := hw'
        subst hw2
        have kq := drewN_kp (fun i => i = w.heap.size + 1 + 1) W nq
        have kq0 := drewN_kp (fun _ => False) W nq
        generalize W.drewN nq = X at kq kq0 ⊢
        refine wpListIn_copy_rw rfl (.tmp 44) (.tmp 49) 47 47 rfl 5 Tryz.underlying47 info5s _ _ _ _ _ _ rfl rfl (w.heap.size + 1 + 1) (q - p) 5 (rb (ovs L ps) p m (pre.map (fun x : Cx p m => x.1))) (pby (ovs L ps) (q, c)) (HI.out.r.kp kq0 (fun h => h)) (by rw [pby_len]; exact (Nat.min_eq_right (by show c ≤ 512 - r; omega)).symm) (fun _ => ⟨rfl, _, rfl, fun j hj => ?_⟩) (by rw [pby_len, rb_len]; show q - p + c ≤ m; omega) ?_
        · rw [pby_len] at hj
          have hj : j < c := hj
          rw [add_o, pby_get _ _ _ hj]
          have hc := HSC.out (r + j) (by omega)
          rw [sec_get _ _ _ (by omega), show 512 * k + (r + j) = q + j by have := HKR.out; omega, ← Nat.add_assoc] at hc
          exact kp_cell kq0 hc (fun h => h)
        intro w3 r3 g3
        have hst := rb_step (ovs L ps) p m (pre.map (fun x : Cx p m => x.1)) (q, c) h41 (by show q + c ≤ p + m; omega)
        dsimp only at hst
        rw [← hst, ← HP.out] at r3
        have k3 : Kp (fun i => i = w.heap.size + 1 + 1) W w3 := kq.trans (Kp.of_grown (F := fun i => i = w.heap.size + 1 + 1) g3 (fun i e => by cases e; rfl)) (fun _ _ h => h)
        gi_wp2
        exact ⟨kfrom_of_kp k3 (fun i hi => by omega), trivial, HI.out.step HF.out k3 r3⟩
      | none =>
        rw [hql] at hrl
        rw [show (none : Option Value).getD (.slice none 0 0) = .slice none 0 0 from rfl] at hrl
        have hz := hla.no k hql
        have HZZ : Hid (rb (ovs L ps) p m ((pre ++ [(⟨(q, c), hx⟩ : Cx p m)]).map (fun x : Cx p m => x.1)) = rb (ovs L ps) p m (pre.map (fun x : Cx p m => x.1))) := by
          show _ = _
          rw [HP.out]
          refine rb_zero _ _ _ _ _ fun i h1 h2 => ?_
          have h1 : q ≤ i := h1
          have h2 : i < q + c := h2
          have := sec_ext.1 (hno.trans hz) (i - 512 * k) (by have := HKR.out; omega)
          rw [show 512 * k + (i - 512 * k) = i by have := HKR.out; omega] at this
          exact this
        have e2 : ∀ w : World, (binOp .neq 47 (.slice none 0 0) (.slice none 0 0)).run Tryz.prog w = .ok (.bool false) w := fun _ => rfl
        clear hqo hql hov hla hno hz
        gi_wp2
        exact ⟨KeepsFrom.refl _ _, trivial, HI.out.step HF.out (Kp.refl _ _) (by rw [HZZ.out]; exact HI.out.r)⟩
  case done =>
    rintro D' ys W hD hys hi hK
    have HR := hi.r
    rw [hys, rb_all] at HR
    have cC : W.cell? ⟨w.heap.size + 1 + 1 + 1, 0, none⟩ = some (.slice (some ⟨w.heap.size + 1 + 1, 0, none⟩) m m) := hi.c.cell 0
    gi_wp2
    refine ⟨by simp, .inl ⟨_, _, rfl, run_takeDeferred hK, ?_⟩⟩
    have kp := kp_put1 W D' (.deferred none)
    exact ⟨_, results_tmp rfl _ _ _, w.heap.size + 1 + 1, rfl, by omega, HR.kp kp (by omega), hi.bel.trans (kp.below hi.bel.size (fun i e => by omega))⟩
  case stop =>
    rintro D c pre W _ _ h _
    exact h.elim
end Go.Proofs.YtnccklbnncaeoaaGreat
/- A file is looked up; its size; its bytes. -/
namespace Go.Proofs.YtnccklbnncaeoaaGreat
open Go.RowKit

theorem ky9 : Ky Tryz.prog 9 .string Value.string := ky_str Tryz.underlying9
set_option maxRecDepth 100000 in
set_option maxHeartbeats 1000000 in
theorem file_nos (s : ByteArray) (v : Value) (w : World) (h : Nos w v) : Calls Tryz.prog 79 #[v, .string s] w fun e w' => e = .returned (.tuple #[.pointer none, .int .i64 1]) ∧ w' = w := by
  have H : Hid (Nos w v) := h
  clear h
  go_enter Tryz.func79, Tryz.ntmps79
  go_wp2_with (first | (go_at_call 87; refine (allowed_nos s v _ H.out).mono ?_; rintro e w' ⟨rfl, rfl⟩))
  go_ret2
  exact ⟨rfl, rfl⟩
set_option maxRecDepth 100000 in
set_option maxHeartbeats 1000000 in
theorem file_bad (s : ByteArray) (g m : Nat) (w : World) (hc : w.cell? ⟨g, 0, none⟩ = some (.map (some m))) (hs : s.size ≤ maxLen) (hn : nmd s = false) : Calls Tryz.prog 79 #[.pointer (some ⟨g, 0, none⟩), .string s] w fun e w' => e = .returned (.tuple #[.pointer none, .int .i64 2]) ∧ w' = w := by
  have HN : Hid (nmd s = false) := hn
  have hb : ((2 : Int) != 0) = true := rfl
  clear hn
  go_enter Tryz.func79, Tryz.ntmps79
  go_wp2_with (first | (go_at_call 87; refine (allowed_live s g m _ hc hs).mono ?_; rintro e w' ⟨rfl, rfl⟩; rw [HN.out]))
  go_ret2
  exact ⟨rfl, rfl⟩
set_option maxRecDepth 100000 in
set_option maxHeartbeats 1000000 in
theorem file_any (s : ByteArray) (g m c : Nat) (es : List (ByteArray × Value × Nat)) (w : World) (hc : w.cell? ⟨g, 0, none⟩ = some (.map (some m))) (hs : s.size ≤ maxLen) (hn : nmd s = true) (hm : Mp Value.string w m es c) (po : Option Addr) (hq : (mget es s).getD (.pointer none) = .pointer po) :
    Calls Tryz.prog 79 #[.pointer (some ⟨g, 0, none⟩), .string s] w fun e w' => e = .returned (.tuple #[.pointer po, .int .i64 (if po = none then 7 else 0)]) ∧ w' = w := by
  have HN : Hid (nmd s = true) := hn
  have HM : Hid (Mp Value.string w m es c) := hm
  have HQ : Hid ((mget es s).getD (.pointer none) = .pointer po) := hq
  clear hn hm hq
  cases po with
  | none =>
    go_enter Tryz.func79, Tryz.ntmps79
    go_wp2_with (first | (go_at_call 87; refine (allowed_live s g m _ hc hs).mono ?_; rintro e w' ⟨rfl, rfl⟩; rw [HN.out]) | (at_lookup; refine wpList_lookup_mp rfl _ _ rfl ky9 Tryz.underlying156 (.pointer none) (Tryz.zeroValue159 _) m c es rfl HM.out s rfl (.pointer none) HQ.out ?_))
    go_ret2
    exact ⟨rfl, rfl⟩
  | some ad =>
    go_enter Tryz.func79, Tryz.ntmps79
    go_wp2_with (first | (go_at_call 87; refine (allowed_live s g m _ hc hs).mono ?_; rintro e w' ⟨rfl, rfl⟩; rw [HN.out]) | (at_lookup; refine wpList_lookup_mp rfl _ _ rfl ky9 Tryz.underlying156 (.pointer none) (Tryz.zeroValue159 _) m c es rfl HM.out s rfl (.pointer (some ad)) HQ.out ?_))
    go_ret2
    exact ⟨rfl, rfl⟩
section
variable {D : Nat → Prop} {w : World} {g fm : Nat} {fv : Value} {steps : Nat} {fs : List Fe} {ft : List (Int × Int)} {es : List (ByteArray × Value × Nat)} {c : Nat}
theorem Sr.c0 (h : Sr D w g fm fv steps fs ft es c) : w.cell? ⟨g, 0, none⟩ = some (.map (some fm)) := h.st.cell 0
/-- There is no such file. -/
theorem Sr.file_none (h : Sr D w g fm fv steps fs ft es c) (s : ByteArray) (hn : nmd s = true) (hq : fget fs s = none) : Calls Tryz.prog 79 #[.pointer (some ⟨g, 0, none⟩), .string s] w fun e w' => e = .returned (.tuple #[.pointer none, .int .i64 7]) ∧ w' = w :=
  file_any s g fm c es w h.c0 (by have := (nmd_ne hn).2.1; unfold maxLen; omega) hn h.mp none (by rw [mget_fs h.ef, hq]; rfl)
theorem Sr.file_some (h : Sr D w g fm fv steps fs ft es c) (s : ByteArray) (hn : nmd s = true) (f : Fe) (hq : fget fs s = some f) : Calls Tryz.prog 79 #[.pointer (some ⟨g, 0, none⟩), .string s] w fun e w' => e = .returned (.tuple #[.pointer (some ⟨f.2.1.fb, 0, none⟩), .int .i64 0]) ∧ w' = w :=
  file_any s g fm c es w h.c0 (by have := (nmd_ne hn).2.1; unfold maxLen; omega) hn h.mp (some ⟨f.2.1.fb, 0, none⟩) (by rw [mget_fs h.ef, hq]; rfl)
end
set_option maxRecDepth 100000 in
set_option maxHeartbeats 1000000 in
theorem size_some (s : ByteArray) (v : Value) (fb sz : Nat) (w : World) (hf : Calls Tryz.prog 79 #[v, .string s] w fun e w' => e = .returned (.tuple #[.pointer (some ⟨fb, 0, none⟩), .int .i64 0]) ∧ w' = w) (hc : w.cell? ⟨fb, 0, none⟩ = some (.int .i64 sz)) :
    Calls Tryz.prog 30 #[v, .string s] w fun e w' => e = .returned (.tuple #[.int .i64 sz, .int .i64 0]) ∧ w' = w := by
  have HF : Hid (Calls Tryz.prog 79 #[v, .string s] w fun e w' => e = .returned (.tuple #[.pointer (some ⟨fb, 0, none⟩), .int .i64 0]) ∧ w' = w) := hf
  clear hf
  go_enter Tryz.func30, Tryz.ntmps30
  go_wp2_with (first | (go_at_call 79; refine HF.out.mono ?_; rintro e w' ⟨rfl, rfl⟩))
  go_ret2
  exact ⟨rfl, rfl⟩
set_option maxRecDepth 100000 in
set_option maxHeartbeats 1000000 in
theorem size_err (s : ByteArray) (v : Value) (e0 : Int) (w : World) (hf : Calls Tryz.prog 79 #[v, .string s] w fun e w' => e = .returned (.tuple #[.pointer none, .int .i64 e0]) ∧ w' = w) (he : e0 ≠ 0) :
    Calls Tryz.prog 30 #[v, .string s] w fun e w' => e = .returned (.tuple #[.int .i64 0, .int .i64 e0]) ∧ w' = w := by
  have HF : Hid (Calls Tryz.prog 79 #[v, .string s] w fun e w' => e = .returned (.tuple #[.pointer none, .int .i64 e0]) ∧ w' = w) := hf
  have hb : (e0 != 0) = true := by simpa using he
  clear hf
  go_enter Tryz.func30, Tryz.ntmps30
  go_wp2_with (first | (go_at_call 79; refine HF.out.mono ?_; rintro e w' ⟨rfl, rfl⟩))
  go_ret2
  exact ⟨rfl, rfl⟩
set_option maxRecDepth 100000 in
set_option maxHeartbeats 1000000 in
theorem read_err (s : ByteArray) (v : Value) (at0 n : Int) (e0 : Int) (w : World) (hf : Calls Tryz.prog 79 #[v, .string s] w fun e w' => e = .returned (.tuple #[.pointer none, .int .i64 e0]) ∧ w' = w) (he : e0 ≠ 0) :
    Calls Tryz.prog 31 #[v, .string s, .int .i64 at0, .int .i64 n] w fun e w' => e = .returned (.tuple #[.slice none 0 0, .int .i64 e0]) ∧ w' = w := by
  have HF : Hid (Calls Tryz.prog 79 #[v, .string s] w fun e w' => e = .returned (.tuple #[.pointer none, .int .i64 e0]) ∧ w' = w) := hf
  have hb : (e0 != 0) = true := by simpa using he
  clear hf
  go_enter Tryz.func31, Tryz.ntmps31
  go_wp2_with (first | (go_at_call 79; refine HF.out.mono ?_; rintro e w' ⟨rfl, rfl⟩))
  go_ret2
  exact ⟨rfl, rfl⟩
/-- How many bytes are read. -/
def rdn (sz p : Nat) (n : Nat) : Nat := min n (sz - p)
set_option maxRecDepth 100000 in
set_option maxHeartbeats 1000000 in
theorem read_some (s : ByteArray) (v : Value) (p n : Nat) (D : Nat → Prop) (fb lm om : Nat) (pv : Value) (sz : Nat) (L : Nat → Int) (ps : List (Nat × List Int)) (w : World) (hf : Calls Tryz.prog 79 #[v, .string s] w fun e w' => e = .returned (.tuple #[.pointer (some ⟨fb, 0, none⟩), .int .i64 0]) ∧ w' = w) (hr : Fr D w ⟨fb, lm, om, pv⟩ sz L ps) (hp : p ≤ sz) :
    Calls Tryz.prog 31 #[v, .string s, .int .i64 p, .int .i64 n] w fun e w' => ∃ g, e = .returned (.tuple #[.slice (some ⟨g, 0, none⟩) (rdn sz p n) (rdn sz p n), .int .i64 0]) ∧ w.heap.size ≤ g ∧ Rw .u8 5 w' g ((List.range (rdn sz p n)).map fun i => ovs L ps (p + i)) ∧ Below w.heap.size w w' := by
  have HF : Hid (Calls Tryz.prog 79 #[v, .string s] w fun e w' => e = .returned (.tuple #[.pointer (some ⟨fb, 0, none⟩), .int .i64 0]) ∧ w' = w) := hf
  have HR : Hid (Fr D w ⟨fb, lm, om, pv⟩ sz L ps) := hr
  have c0 : w.cell? ⟨fb, 0, none⟩ = some (.int .i64 sz) := hr.st.cell 0
  have hsb := hr.sb
  obtain ⟨m, hm⟩ : ∃ m, m = rdn sz p n := ⟨_, rfl⟩
  have hmm : m = min n (sz - p) := hm
  rw [← hm]
  have hsub : (sz : Int) - (p : Int) = ((sz - p : Nat) : Int) := by omega
  have hmin : (if ((sz - p : Nat) : Int) < (n : Int) then ((sz - p : Nat) : Int) else (n : Int)) = (m : Int) := by rw [hmm]; split <;> omega
  have hmin2 : min (n : Int) ((sz - p : Nat) : Int) = (m : Int) := by rw [hmm]; omega
  have hpm : p + m ≤ sz := by omega
  have b1 : decide ((p : Int) < 0) = false := by simp
  have b2 : decide ((sz : Int) < (p : Int)) = false := by simp; omega
  have b3 : decide ((n : Int) < 0) = false := by simp
  clear hf hr hm hmm
  go_enter Tryz.func31, Tryz.ntmps31
  go_wp2_with (first | (go_at_call 79; refine HF.out.mono ?_; rintro e w' ⟨rfl, rfl⟩) | (go_at_call 80; refine (callsIn_wide.1 (read_in Fence.wide 3 trivial trivial trivial rfl (Nat.le_refl _) D fb lm om pv sz L ps p m _ HR.out hpm)).mono ?_; rintro e w1 ⟨g, rfl, h1, h2, h3⟩))
  go_ret2
  exact ⟨g, rfl, h1, h2, h3⟩
end Go.Proofs.YtnccklbnncaeoaaGreat
/- What a file is behind a write. -/
namespace Go.Proofs.YtnccklbnncaeoaaGreat
open Go.RowKit

theorem write_fin (D : Nat → Prop) (fb lm om : Nat) (pv pv' : Value) (sz M n p : Nat) (L : Nat → Int) (ps : List (Nat × List Int)) (xs : List Int) (vs' : List Value) (w W8 X8 w9 : World) (el : List (Int × Value × Nat)) (cl : Nat) (es9 : List (Int × Value × Nat)) (c9 : Nat)
    (HF : Fr D w ⟨fb, lm, om, pv⟩ sz L ps) (hM : M = max sz (p + n)) (hn : n = xs.length) (h1 : 1 ≤ n) (hr : p % 512 + n ≤ 512) (hb : p + n ≤ 268435456) (hnb : ps.length < 1000000000)
    (hl4 : ∀ b, pv'.ownBlock = some b → pv.ownBlock = some b ∨ w.heap.size ≤ b) (K8 : Kp (fun i => i = fb ∨ i = om ∨ pv.ownBlock = some i) w W8) (kq : Kp (fun _ => False) W8 X8)
    (HL8 : Sm (fun i => D i ∨ (w.heap.size ≤ i ∧ pv'.ownBlock ≠ some i)) W8 lm L zero el cl) (HST8 : St 164 W8 fb #[.int .i64 M, .map (some lm), .map (some om), pv']) (HPR8 : Pr (fun i => D i ∨ (w.heap.size ≤ i ∧ pv'.ownBlock ≠ some i)) W8 pv' (ps ++ [(p, xs)]) vs')
    (sm9 : Sm (fun i => (D i ∨ (w.heap.size ≤ i ∧ pv'.ownBlock ≠ some i)) ∨ (X8.heap.size ≤ i ∧ i < w9.heap.size)) w9 om (ov (ovs L ps) (p, xs)) L es9 c9) (k9 : Kp (fun i => i = om) X8 w9) (hcov : Cov es9 (ps ++ [(p, xs)])) :
    ∃ a' : Fa, (a'.fb = fb ∧ a'.lm = lm ∧ a'.om = om) ∧ (∀ i, i ∈ a'.own → i ∈ (Fa.mk fb lm om pv).own ∨ w.heap.size ≤ i) ∧
      Fr (fun i => D i ∨ (w.heap.size ≤ i ∧ i < w9.heap.size ∧ i ∉ a'.own)) w9 a' M L (ps ++ [(p, xs)]) ∧ Kp (fun i => i ∈ (Fa.mk fb lm om pv).own) w w9 := by
  have hlt := HF.lt
  have hfb : fb < w.heap.size := hlt fb (by rw [Fa.mem]; exact .inl rfl)
  have hlm : lm < w.heap.size := hlt lm (by rw [Fa.mem]; exact .inr (.inl rfl))
  have hom : om < w.heap.size := hlt om (by rw [Fa.mem]; exact .inr (.inr (.inl rfl)))
  have nl := HF.lm_ne
  have hne := HF.ne
  have hsb := HF.sb
  dsimp only at nl hne
  have nd0 : ∀ i, D i → i ≠ fb ∧ i ≠ lm ∧ i ≠ om ∧ ¬ pv.ownBlock = some i := fun i hi => by
    have := HF.nd i hi
    rw [Fa.mem] at this
    exact ⟨fun h => this (.inl h), fun h => this (.inr (.inl h)), fun h => this (.inr (.inr (.inl h))), fun h => this (.inr (.inr (.inr h)))⟩
  have k89 : Kp (fun i => i = om) W8 w9 := (kq.mono (G := fun i => i = om) (fun _ _ h => h.elim)).trans k9 (fun _ _ h => h)
  have z8 := K8.size
  have z89 := k89.size
  have zq := kq.size
  have pvlt : ∀ b, pv'.ownBlock = some b → b < W8.heap.size := by
    intro b hb
    rcases HPR8.row.2 with ⟨h4, _⟩ | ⟨g, cap, cur, h4, _, h5, _⟩
    · rw [h4] at hb; cases hb
    · rw [h4] at hb
      have : g = b := by simpa [Value.ownBlock] using hb
      subst this
      exact (Array.getElem?_eq_some_iff.1 h5).1
  have pvom : pv'.ownBlock ≠ some om := by
    intro h
    rcases hl4 _ h with h | h
    · exact (HF.fb_ne h).2.2 rfl
    · omega
  have mem' : ∀ i, i ∈ (Fa.mk fb lm om pv').own ↔ i = fb ∨ i = lm ∨ i = om ∨ pv'.ownBlock = some i := fun i => Fa.mem _ i
  have D1 : ∀ i, i < w9.heap.size → (D i ∨ (w.heap.size ≤ i ∧ pv'.ownBlock ≠ some i)) → D i ∨ (w.heap.size ≤ i ∧ i < w9.heap.size ∧ i ∉ (Fa.mk fb lm om pv').own) := by
    rintro i hi (h | ⟨h, h'⟩)
    · exact .inl h
    · refine .inr ⟨h, hi, fun hm => ?_⟩
      rcases (mem' i).1 hm with rfl | rfl | rfl | e
      · omega
      · omega
      · omega
      · exact h' e
  have D2 : ∀ i, i < w9.heap.size → ((D i ∨ (w.heap.size ≤ i ∧ pv'.ownBlock ≠ some i)) ∨ (X8.heap.size ≤ i ∧ i < w9.heap.size)) → D i ∨ (w.heap.size ≤ i ∧ i < w9.heap.size ∧ i ∉ (Fa.mk fb lm om pv').own) := by
    rintro i hi (h | ⟨h, h'⟩)
    · exact D1 i hi h
    · exact D1 i hi (.inr ⟨by omega, fun e => by have := pvlt i e; omega⟩)
  have DM : ∀ i, (D i ∨ (w.heap.size ≤ i ∧ pv'.ownBlock ≠ some i)) → ¬ i = om := by
    rintro i (h | h) rfl
    · exact (nd0 _ h).2.2.1 rfl
    · omega
  refine ⟨⟨fb, lm, om, pv'⟩, ⟨rfl, rfl, rfl⟩, fun i hi => ?_, ⟨HST8.kp k89 (fun e => nl.2 e.symm), ⟨_, _, (HL8.kp k89 hne DM).mono D1⟩, ⟨es9, c9, ?_, hcov⟩, ⟨vs', (HPR8.kp k89 (fun b hb e => pvom (e ▸ hb)) DM).mono D1⟩, hne, fun i hi => ?_, fun i hi => ?_, fun i hi => HF.lz i (by omega), fun q hq => ?_, by omega, by simp; omega⟩, ?_⟩
  · rcases (mem' i).1 hi with rfl | rfl | rfl | e
    · exact .inl (by rw [Fa.mem]; exact .inl rfl)
    · exact .inl (by rw [Fa.mem]; exact .inr (.inl rfl))
    · exact .inl (by rw [Fa.mem]; exact .inr (.inr (.inl rfl)))
    · rcases hl4 _ e with h | h
      · exact .inl (by rw [Fa.mem]; exact .inr (.inr (.inr h)))
      · exact .inr h
  · rw [ovs_snoc]
    exact sm9.mono D2
  · rcases hi with h | ⟨_, _, h⟩
    · intro hm
      have h0 := nd0 i h
      have h2 := HF.db i h
      rcases (mem' i).1 hm with e | e | e | e
      · exact h0.1 e
      · exact h0.2.1 e
      · exact h0.2.2.1 e
      · rcases hl4 _ e with h' | h'
        · exact h0.2.2.2 h'
        · omega
    · exact h
  · rcases hi with h | ⟨_, h, _⟩
    · have := HF.db i h; omega
    · exact h
  · rcases List.mem_append.1 hq with h | h
    · have := HF.pb q h
      exact ⟨this.1, this.2.1, by omega⟩
    · simp at h
      subst h
      exact ⟨by show 1 ≤ xs.length; omega, by show p % 512 + xs.length ≤ 512; omega, by show p + xs.length ≤ M; omega⟩
  · refine (K8.mono (fun i hi h => ?_)).trans k89 (fun i hi h => ?_)
    · rw [Fa.mem]
      rcases h with h | h | h
      · exact .inl h
      · exact .inr (.inr (.inl h))
      · exact .inr (.inr (.inr h))
    · rw [Fa.mem]; exact .inr (.inr (.inl h))
end Go.Proofs.YtnccklbnncaeoaaGreat
/- A region that draws its order and stores into what it reads: reads are taken first as long as what may come ahead of them keeps S; behind the reads (late) S is no longer asked. Whatever the program. -/
namespace Go.Proofs.YtnccklbnncaeoaaGreat

variable {P : Program} {ops : Array Oper} {Q : Exit → Act → World → Prop} {md : Region.Mode} {S : World → Prop} {late : List Nat}

/-- Whatever order is picked from here on; an operation that is not late keeps S. -/
def wpAnyG (P : Program) (md : Region.Mode) (ops : Array Oper) (Q : Exit → Act → World → Prop) (S : World → Prop) (late : List Nat) : Nat → Array Bool → Act → World → Prop
  | 0, listed, a, w => Region.ready md ops listed = [] ∧ Q .normal a w
  | fuel + 1, listed, a, w =>
    (Region.ready md ops listed = [] → Q .normal a w) ∧
    ∀ i ∈ Region.ready md ops listed, wpOp P ops Q i (fun a' w' => (late.contains i = false → S w → S w') ∧ wpAnyG P md ops Q S late fuel (listed.setIfInBounds i true) a' w') a w
theorem wpAny_of_G : ∀ (fuel : Nat) (listed : Array Bool) (a : Act) (w : World), wpAnyG P md ops Q S late fuel listed a w → wpAny P md ops Q fuel listed a w
  | 0, _, _, _, h => h
  | fuel + 1, _, _, _, h => ⟨h.1, fun i hi => wpOp_mono (fun a' w' h' => wpAny_of_G fuel _ a' w' h'.2) (h.2 i hi)⟩
/-- Whoever is late waits for i. -/
def lateOk (md : Region.Mode) (ops : Array Oper) (late : List Nat) (i : Nat) : Bool := late.all fun j => (anc md ops ops.size j).contains i
theorem lateOk_not {listed : Array Bool} {i j : Nat} (hl : lateOk md ops late i = true) (hc : Clsd md ops listed) (hi : i ∈ Region.ready md ops listed) (hj : late.contains j = true) : j ∉ Region.ready md ops listed := by
  intro hm
  have h0 := (mem_ready.1 hi).1
  have := (List.all_eq_true.1 hl) j (by simpa using hj)
  have := anc_ready hc hm ops.size i (by simpa using this)
  rcases Nat.lt_or_ge i listed.size with h' | h'
  · simp [h'] at h0 this; rw [h0] at this; cases this
  · simp [Array.getElem?_eq_none h'] at this
theorem wpAnyG_first {i : Nat} {oi : Oper} {v : Value} {S' : World → Prop} (hi : ops[i]? = some oi) (hsel : ∀ (j : Nat) (o : Oper) cs b, ops[j]? = some o → o.op ≠ .select cs b)
    (hQ : ∀ c a w, Q (.panic c) (a.put oi.dst v) w → Q (.panic c) a w)
    (hd : ∀ (listed : Array Bool) (j : Nat), Clsd md ops listed → i ∈ Region.ready md ops listed → j ∈ Region.ready md ops listed → j ≠ i → ∀ w w', S' w → (late.contains j = false → S w → S w') → S' w') :
    ∀ (fuel : Nat) (listed : Array Bool) (a : Act) (w : World), Clsd md ops listed →
      (∀ j oj, ops[j]? = some oj → j ≠ i → listed.getD j true = false → (∀ e ∈ oj.after, Region.binds md e = true → e.on ≠ i) → oi.apart ops oj = true) →
      i ∈ Region.ready md ops listed → YieldsIf P ops S' oi v a → S' w →
      wpAnyG P md ops Q S late fuel (listed.setIfInBounds i true) (a.put oi.dst v) w → wpAnyG P md ops Q S late (fuel + 1) listed a w := by
  intro fuel
  induction fuel with
  | zero =>
    intro listed a w _ _ hr hy hS H
    refine ⟨fun h => (by rw [h] at hr; cases hr), fun j hj => ?_⟩
    by_cases hji : j = i
    · subst hji; exact hy.wpOp hi hS ⟨fun _ h => h, H⟩
    · have := ready_mono hj hji
      rw [H.1] at this
      cases this
  | succ fuel ih =>
    intro listed a w hc hfree hr hy hS H
    refine ⟨fun h => (by rw [h] at hr; cases hr), fun j hj => ?_⟩
    by_cases hji : j = i
    · subst hji; exact hy.wpOp hi hS ⟨fun _ h => h, H⟩
    · have h1 := H.2 j (ready_mono hj hji)
      obtain ⟨hjun, oj, hoj, hall⟩ := mem_ready.1 hj
      have hnot : ∀ e ∈ oj.after, Region.binds md e = true → e.on ≠ i := fun e he hb heq => by
        have h1 := hall e he hb
        have h0 := (mem_ready.1 hr).1
        rw [heq] at h1
        rcases Nat.lt_or_ge i listed.size with h' | h'
        · simp [h'] at h0 h1; rw [h0] at h1; cases h1
        · simp [Array.getElem?_eq_none h'] at h1
      have h2 := wpOp_putIf hoj (hfree j oj hoj hji hjun hnot) (fun cs b => hsel i oi cs b hi) (fun cs b => hsel j oj cs b hoj) hQ hy h1
      have hfree' : ∀ k ok, ops[k]? = some ok → k ≠ i → (listed.setIfInBounds j true).getD k true = false →
          (∀ e ∈ ok.after, Region.binds md e = true → e.on ≠ i) → oi.apart ops ok = true := fun k ok hk hki hun hno => by
        refine hfree k ok hk hki ?_ hno
        by_cases hjk : j = k
        · subst hjk; exact hjun
        · rw [getD_set_ne true hjk] at hun; exact hun
      refine wpOp_mono (fun a' w' h3 => ⟨h3.2.1, ih (listed.setIfInBounds j true) a' w' (hc.step hj) hfree' (ready_mono hr (Ne.symm hji)) h3.1 (hd listed j hc hr hj hji w w' hS h3.2.1) ?_⟩) h2
      rw [Array.setIfInBounds_comm _ _ hji]
      exact h3.2.2
def clsdB (md : Region.Mode) (ops : Array Oper) (listed : Array Bool) : Bool := (List.range ops.size).all fun j => !listed.getD j false || match ops[j]? with
  | some o => o.after.all fun e => !Region.binds md e || listed.getD e.on false
  | none => true
theorem clsdB_spec {listed : Array Bool} (h : clsdB md ops listed = true) : Clsd md ops listed := by
  intro j o ho hj e he hb
  have hlt : j < ops.size := (Array.getElem?_eq_some_iff.1 ho).1
  have := (List.all_eq_true.1 h) j (List.mem_range.2 hlt)
  rw [hj, ho] at this
  simp only [Bool.not_true, Bool.false_or] at this
  have := (Array.all_eq_true_iff_forall_mem.1 this) e he
  rw [hb] at this
  simpa using this
def takeB (md : Region.Mode) (ops : Array Oper) (late : List Nat) (listed : Array Bool) (i : Nat) : Bool :=
  Region.noSelect ops && Region.free md ops listed i && (Region.ready md ops listed).contains i && clsdB md ops listed && lateOk md ops late i
/-- A read for which all late ones wait. -/
theorem wpAnyG_take {i : Nat} {oi : Oper} {v : Value} {fuel : Nat} {listed : Array Bool} {a : Act} {w : World} (hi : ops[i]? = some oi) (hB : takeB md ops late listed i = true)
    (hQ : ∀ c a w, Q (.panic c) (a.put oi.dst v) w → Q (.panic c) a w) (hy : YieldsIf P ops S oi v a) (hS : S w)
    (h : wpAnyG P md ops Q S late fuel (listed.setIfInBounds i true) (a.put oi.dst v) w) : wpAnyG P md ops Q S late (fuel + 1) listed a w := by
  simp only [takeB, Bool.and_eq_true] at hB
  obtain ⟨⟨⟨⟨b1, b2⟩, b3⟩, b4⟩, b5⟩ := hB
  refine wpAnyG_first (S' := S) hi (Region.noSelect_spec b1) hQ (fun l j hc hr hj hne w w' hw hww => hww ?_ hw) fuel listed a w (clsdB_spec b4) (Region.free_spec hi b2) (by simpa using b3) hy hS h
  cases hq : late.contains j with
  | false => rfl
  | true => exact absurd hj (lateOk_not b5 hc hr hq)
def takeWB (md : Region.Mode) (ops : Array Oper) (listed : Array Bool) (i : Nat) : Bool :=
  Region.noSelect ops && Region.free md ops listed i && (Region.ready md ops listed).contains i && clsdB md ops listed
/-- One that yields in whatever world. -/
theorem wpAnyG_takeW {i : Nat} {oi : Oper} {v : Value} {fuel : Nat} {listed : Array Bool} {a : Act} {w : World} (hi : ops[i]? = some oi) (hB : takeWB md ops listed i = true)
    (hQ : ∀ c a w, Q (.panic c) (a.put oi.dst v) w → Q (.panic c) a w) (hy : YieldsIf P ops (fun _ => True) oi v a)
    (h : wpAnyG P md ops Q S late fuel (listed.setIfInBounds i true) (a.put oi.dst v) w) : wpAnyG P md ops Q S late (fuel + 1) listed a w := by
  simp only [takeWB, Bool.and_eq_true] at hB
  obtain ⟨⟨⟨b1, b2⟩, b3⟩, b4⟩ := hB
  exact wpAnyG_first (S' := fun _ => True) hi (Region.noSelect_spec b1) hQ (fun l j hc hr hj hne w w' hw hww => trivial) fuel listed a w (clsdB_spec b4) (Region.free_spec hi b2) (by simpa using b3) hy trivial h
/-- One alone may come up. -/
theorem wpAnyG_one {i : Nat} {o : Oper} {fuel : Nat} {listed : Array Bool} {a : Act} {w : World} (hr : Region.ready md ops listed = [i]) (ho : ops[i]? = some o)
    (h : ∀ K' : Act → World → Prop, Shut (∀ a w', (late.contains i = false → S w → S w') → wpAnyG P md ops Q S late fuel (listed.setIfInBounds i true) a w' → K' a w') → if Region.wanted o (yielded ops a.tmps) = true then Oper.wp P o a w K' Q else K' (a.put o.dst undef) w) : wpAnyG P md ops Q S late (fuel + 1) listed a w := by
  refine ⟨fun h0 => absurd (hr ▸ h0) (by simp), fun j hj => ?_⟩
  rw [hr] at hj
  have : j = i := by simpa using hj
  subst this
  exact wpOp_step ho (fun K' hK => h K' (fun a w' hS hW => hK a w' ⟨hS, hW⟩))
/-- Two may come up. -/
theorem wpAnyG_two {i j : Nat} {o o' : Oper} {fuel : Nat} {listed : Array Bool} {a : Act} {w : World} (hr : Region.ready md ops listed = [i, j]) (ho : ops[i]? = some o) (ho' : ops[j]? = some o')
    (h : ∀ K' : Act → World → Prop, Shut (∀ a w', (late.contains i = false → S w → S w') → wpAnyG P md ops Q S late fuel (listed.setIfInBounds i true) a w' → K' a w') → if Region.wanted o (yielded ops a.tmps) = true then Oper.wp P o a w K' Q else K' (a.put o.dst undef) w)
    (h' : ∀ K' : Act → World → Prop, Shut (∀ a w', (late.contains j = false → S w → S w') → wpAnyG P md ops Q S late fuel (listed.setIfInBounds j true) a w' → K' a w') → if Region.wanted o' (yielded ops a.tmps) = true then Oper.wp P o' a w K' Q else K' (a.put o'.dst undef) w) : wpAnyG P md ops Q S late (fuel + 1) listed a w := by
  refine ⟨fun h0 => absurd (hr ▸ h0) (by simp), fun k hk => ?_⟩
  rw [hr] at hk
  rcases List.mem_cons.1 hk with rfl | hk
  · exact wpOp_step ho (fun K' hK => h K' (fun a w' hS hW => hK a w' ⟨hS, hW⟩))
  · have : k = j := by simpa using hk
    subst this
    exact wpOp_step ho' (fun K' hK => h' K' (fun a w' hS hW => hK a w' ⟨hS, hW⟩))
theorem wpAnyG_done {listed : Array Bool} {a : Act} {w : World} (hr : Region.ready md ops listed = []) (h : Q .normal a w) : ∀ fuel, wpAnyG P md ops Q S late fuel listed a w
  | 0 => ⟨hr, h⟩
  | _ + 1 => ⟨fun _ => h, by rw [hr]; simp⟩
theorem wp_region_G {id : Nat} {a : Act} {w : World} (S : World → Prop) (late : List Nat) (hm : P.follows .mixedOrders = true) (hS : S w.drew)
    (h : S w.drew → wpAnyG P .any ops Q S late ops.size (Array.replicate ops.size false) a w.drew) : (Code.region id ops true).wp P Q a w :=
  wp_region_any hm (wpAny_of_G _ _ _ _ (h hS))
end Go.Proofs.YtnccklbnncaeoaaGreat
