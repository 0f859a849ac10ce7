/- CountsAll's walk. -/
import Derived.Test.YtjhgkcbpllgdiaaDoorAq
namespace Go.Proofs.YtjhgkcbpllgdiaaDoor
open Go.RowKit Go.Shelf
attribute [local go_sem] Oper.semAt_some
set_option linter.unusedVariables false
theorem wpListIn_append_i {F : Fence} {n : Nat} {w : World} {ops : Array Oper} {rest : List Oper} {o : Oper} {a : Act} {Q : Exit → Act → World → Prop} (hgd : Region.wanted o (yielded ops a.tmps) = true) (s x : Operand)
    (ho : o.op = .call { callee := .builtin .append, args := #[s, x], argTypes := #[22, 22] })
    (base : Nat) (v : Value) (xs : List Int) (hs : a.eval s = v) (hown : OwnI .u8 5 w base v xs)
    (ao : Option Addr) (m c : Nat) (news : List Int) (hx : a.eval x = .slice ao m c) (hl : news.length = m) (hn : ao = none → c = 0) (hsrc : Src .u8 w ao news)
    (hb : xs.length + news.length ≤ 17592186044416) (hbase : base ≤ w.heap.size)
    (h : ∀ v' w', OwnI .u8 5 w' base v' (xs ++ news) → w.grownBy w' v.ownBlock → Below base w w' → wpListIn F n Tryd.prog ops Q rest (a.put o.dst v') w') : wpListIn F n Tryd.prog ops Q (o :: rest) a w := by
  obtain ⟨i0, hi, hz0, hz1, hz2⟩ := info_parts info5
  subst hl
  have hlt := hown.lt
  obtain ⟨v', w', hrun, h1, h2, _⟩ := run_append_rw (P := Tryd.prog) w base 22 o.type i0 Tryd.underlying22 hi hz0 hz1 (by omega) v xs hown ao c news hn hsrc hb hbase
  refine wpListIn_exec (v := v') (w' := w') hgd (fun c e => by rw [ho] at e; cases e) (by simp [Oper.about, ho, resolve, Target.leads]) ?_ (h v' w' h1 h2 (below_of_grown h2 _ hbase fun k hk => (hlt k hk).1))
  unfold execOp
  simp only [ho, resolve, invoke, builtin, Sem.run_bind, Sem.run_pure, Result.andThen_ok, List.map_toArray, List.map_cons, List.map_nil, hs, hx, hrun]
theorem own_slice2 {w : World} {base : Nat} {v : Value} {zs : List Int} (h : OwnI .u8 5 w base v zs) : ∃ a5 c5, v = .slice a5 zs.length c5 ∧ (a5 = none → c5 = 0) ∧ Src .u8 w a5 zs ∧ (∀ x, a5 = some x → x.spot = none) ∧ (∀ x, a5 = some x → base ≤ x.block ∧ x.block < w.heap.size ∧ x.off = 0 ∧ ∃ L, Rw .u8 5 w x.block L ∧ zs.length ≤ L.length) := by
  rcases h with ⟨rfl, rfl⟩ | ⟨g, cap, tl, rfl, hb, hr, h3, h4⟩
  · exact ⟨none, 0, rfl, (fun _ => rfl), Src.nil _ _ _, (fun x e => by cases e), (fun x e => by cases e)⟩
  · exact ⟨some ⟨g, 0, none⟩, cap, rfl, (fun e => by cases e), row_src hr, (fun x e => by cases e; rfl), (fun x e => by cases e; exact ⟨hb, hr.lt, rfl, _, hr, by simp⟩)⟩
/-- What stands behind All and Widen, wherever the bytes of one's own are written over. -/
theorem zfacts {w X0 X Z : World} {T2 T4 T5 T7 : Nat} {ao : Option Addr} {cap : Nat} {zs : List Int} {o lv : Int} {a5 : Option Addr} (hb : Bs w X0 T2 T4 T5 T7 ao cap zs o lv) (k : Kp (fun _ => False) X0 X) (h5 : ∀ x, a5 = some x → X0.heap.size ≤ x.block) (kz : Kp (mbk a5) X Z) (hw : Wd w) : Bs w Z T2 T4 T5 T7 ao cap zs o lv := by
  have hx := hb.same k
  have ne : ∀ j, j < X0.heap.size → ¬ mbk a5 j := fun j hj ⟨x, e, hx⟩ => by have := h5 x e; omega
  have hs0 := k.size
  refine ⟨hx.kp.trans kz (fun i h1 h2 => ne i (by have := hb.kp.size; omega) h2), hx.s2.kp kz (ne _ hb.s2.lt), hx.s4.kp kz (ne _ hb.s4.lt), hx.s5.kp kz (ne _ hb.s5.lt), hx.s7.kp kz (ne _ hb.s7.lt), src_blk hx.src (fun i off hp e => ?_), hx.wd.kp kz (ne 0 hb.wd.lt), hb.l4⟩
  obtain ⟨g, of2, e2, hc⟩ := hb.src hp
  rw [e] at e2
  cases e2
  have := block_lt_of_cell (hc 0 hp)
  exact kz.block i (Nat.lt_of_lt_of_le this k.size) (ne i this)
/-- THE WALK. -/
def cA : Code := ((Go.Code.region 0 #[{ dst := some 2, op := Go.Op.box 22 (Go.Operand.tmp 0), type := 0, pos := "law.go:84", after := #[], guard := none }, { dst := some 3, op := Go.Op.box 48 (Go.Operand.tmp 1), type := 0, pos := "law.go:84", after := #[], guard := none }, { dst := some 4, op := Go.Op.alloc 4, type := 0, pos := "law.go:84", after := #[], guard := none }] false).seq (c1.seq (((Go.Code.region 2 #[{ dst := some 34, op := Go.Op.load 22 (Go.Operand.tmp 2), type := 22, pos := "law.go:86", after := #[], guard := none }, { dst := some 35, op := Go.Op.call { callee := Go.Callee.builtin Go.Builtin.len, args := #[Go.Operand.tmp 34], argTypes := #[22] }, type := 3, pos := "law.go:86", after := #[{ on := 0, ground := Go.Ground.data }], guard := none }, { dst := some 36, op := Go.Op.binOp Go.BinOp.gtr 3 (Go.Operand.tmp 35) (Go.Operand.const (Go.Value.int Go.IntKind.i64 600)) 3, type := 4, pos := "law.go:86", after := #[{ on := 1, ground := Go.Ground.data }], guard := none }] false).seq (Go.Code.cond (Go.Operand.tmp 36) ((Go.Code.region 3 #[{ dst := some 37, op := Go.Op.call { callee := Go.Callee.value (Go.Operand.func 6), args := #[], argTypes := #[] }, type := 4, pos := "law.go:87", after := #[], guard := none }, { dst := none, op := Go.Op.store 4 (Go.Operand.tmp 4) (Go.Operand.tmp 37), type := 0, pos := "law.go:87", after := #[{ on := 0, ground := Go.Ground.data }, { on := 0, ground := Go.Ground.chain }, { on := 0, ground := Go.Ground.phase }], guard := none }] false).seq Go.Code.ret) Go.Code.skip)).seq ((Go.Code.region 4 #[{ dst := some 38, op := Go.Op.load 22 (Go.Operand.tmp 2), type := 22, pos := "law.go:89", after := #[], guard := none }, { dst := some 39, op := Go.Op.call { callee := Go.Callee.builtin Go.Builtin.append, args := #[Go.Operand.const (Go.Value.slice none 0 0), Go.Operand.tmp 38], argTypes := #[22, 22] }, type := 22, pos := "law.go:89", after := #[{ on := 0, ground := Go.Ground.data }], guard := none }, { dst := some 8, op := Go.Op.assign (Go.Operand.tmp 39), type := 22, pos := "law.go:89", after := #[{ on := 1, ground := Go.Ground.data }, { on := 1, ground := Go.Ground.chain }, { on := 0, ground := Go.Ground.phase }, { on := 1, ground := Go.Ground.phase }], guard := none }] false).seq ((Go.Code.region 5 #[{ dst := some 40, op := Go.Op.move (Go.Operand.tmp 8), type := 22, pos := "law.go:90", after := #[], guard := none }, { dst := some 41, op := Go.Op.load 3 (Go.Operand.tmp 5), type := 3, pos := "law.go:90", after := #[], guard := none }, { dst := some 42, op := Go.Op.call { callee := Go.Callee.value (Go.Operand.func 19), args := #[Go.Operand.tmp 40, Go.Operand.tmp 41], argTypes := #[22, 3] }, type := 50, pos := "law.go:90", after := #[{ on := 0, ground := Go.Ground.data }, { on := 1, ground := Go.Ground.data }], guard := none }, { dst := some 9, op := Go.Op.assign (Go.Operand.tmp 42), type := 50, pos := "law.go:90", after := #[{ on := 2, ground := Go.Ground.data }, { on := 2, ground := Go.Ground.chain }, { on := 0, ground := Go.Ground.phase }, { on := 1, ground := Go.Ground.phase }, { on := 2, ground := Go.Ground.phase }], guard := none }] false).seq ((Go.Code.region 6 #[{ dst := some 44, op := Go.Op.move (Go.Operand.tmp 8), type := 22, pos := "law.go:91", after := #[], guard := none }, { dst := some 45, op := Go.Op.load 3 (Go.Operand.tmp 5), type := 3, pos := "law.go:91", after := #[], guard := none }, { dst := some 46, op := Go.Op.move (Go.Operand.tmp 6), type := 3, pos := "law.go:91", after := #[], guard := none }, { dst := some 47, op := Go.Op.call { callee := Go.Callee.value (Go.Operand.func 20), args := #[Go.Operand.tmp 44, Go.Operand.tmp 45, Go.Operand.tmp 46], argTypes := #[22, 3, 3] }, type := 52, pos := "law.go:91", after := #[{ on := 0, ground := Go.Ground.data }, { on := 1, ground := Go.Ground.data }, { on := 2, ground := Go.Ground.data }], guard := none }, { dst := some 43, op := Go.Op.move (Go.Operand.tmp 47), type := 52, pos := "law.go:91", after := #[{ on := 3, ground := Go.Ground.data }], guard := none }, { dst := some 48, op := Go.Op.extract (Go.Operand.tmp 43) 0, type := 22, pos := "law.go:91", after := #[{ on := 4, ground := Go.Ground.data }], guard := none }, { dst := some 49, op := Go.Op.extract (Go.Operand.tmp 43) 1, type := 27, pos := "law.go:91", after := #[{ on := 4, ground := Go.Ground.data }, { on := 7, ground := Go.Ground.gcOnly Go.Departure.lateStores }], guard := none }, { dst := some 10, op := Go.Op.assign (Go.Operand.tmp 48), type := 22, pos := "law.go:91", after := #[{ on := 5, ground := Go.Ground.data }, { on := 3, ground := Go.Ground.chain }, { on := 0, ground := Go.Ground.phase }, { on := 1, ground := Go.Ground.phase }, { on := 2, ground := Go.Ground.phase }, { on := 3, ground := Go.Ground.phase }, { on := 4, ground := Go.Ground.phase }, { on := 5, ground := Go.Ground.phase }, { on := 6, ground := Go.Ground.textOnly Go.Departure.lateStores }], guard := none }, { dst := some 11, op := Go.Op.assign (Go.Operand.tmp 49), type := 27, pos := "law.go:91", after := #[{ on := 6, ground := Go.Ground.data }, { on := 7, ground := Go.Ground.chain }, { on := 0, ground := Go.Ground.phase }, { on := 1, ground := Go.Ground.phase }, { on := 2, ground := Go.Ground.phase }, { on := 3, ground := Go.Ground.phase }, { on := 4, ground := Go.Ground.phase }, { on := 5, ground := Go.Ground.phase }, { on := 6, ground := Go.Ground.phase }, { on := 7, ground := Go.Ground.phase }], guard := none }] false).seq (((Go.Code.region 7 #[{ dst := some 50, op := Go.Op.move (Go.Operand.tmp 9), type := 50, pos := "law.go:92", after := #[], guard := none }, { dst := some 51, op := Go.Op.binOp Go.BinOp.eql 50 (Go.Operand.tmp 50) (Go.Operand.const Go.Value.nilFunc) 50, type := 4, pos := "law.go:92", after := #[{ on := 0, ground := Go.Ground.data }], guard := none }] false).seq (Go.Code.cond (Go.Operand.tmp 51) ((Go.Code.region 8 #[{ dst := none, op := Go.Op.store 4 (Go.Operand.tmp 4) (Go.Operand.const (Go.Value.bool false)), type := 0, pos := "law.go:93", after := #[], guard := none }] false).seq Go.Code.ret) Go.Code.skip)).seq cZ)))))))
set_option maxRecDepth 100000 in
set_option maxHeartbeats 8000000 in
theorem alls_big (ao : Option Addr) (cap : Nat) (zs : List Int) (o t lv : Int) (w : World) (hl : zs.length ≤ 9223372036854775807) (hz : Byt zs) (hw : Wd w) (hnil : ao = none → cap = 0) (hs : Src .u8 w ao zs) (hb : 600 < zs.length) : Calls Tryd.prog 5 #[.slice ao zs.length cap, .agg #[.int .i64 o, .int .i64 t, .int .i64 lv]] w fun e w' => e = .returned (.bool true) ∧ Kp (fun _ => False) w w' := by
  have A1 := St.new 22 w #[.slice ao zs.length cap]
  have A2 := St.new 48 (w.alloc (.cells #[.slice ao zs.length cap] 22)) #[.int .i64 o, .int .i64 t, .int .i64 lv]
  have A3 := St.new 4 ((w.alloc (.cells #[.slice ao zs.length cap] 22)).alloc (.cells #[.int .i64 o, .int .i64 t, .int .i64 lv] 48)) #[.bool false]
  have k0 : Kp (fun _ => False) w (((w.alloc (.cells #[.slice ao zs.length cap] 22)).alloc (.cells #[.int .i64 o, .int .i64 t, .int .i64 lv] 48)).alloc (.cells #[.bool false] 4)) := (((Kp.refl _ _).alloc _).alloc _).alloc _
  have D2 := hid (A1.kp ((((Kp.refl (fun _ => False) _).alloc (.cells #[.int .i64 o, .int .i64 t, .int .i64 lv] 48)).alloc (.cells #[.bool false] 4))) (fun x => x))
  have D3 := hid (A2.kp (((Kp.refl (fun _ => False) _).alloc (.cells #[.bool false] 4))) (fun x => x))
  have D4 := hid A3
  rw [World.size_alloc] at D3
  rw [World.size_alloc, World.size_alloc] at D4
  have K0 := hid k0
  have S0 := hid hs
  have W0 := hid hw
  have NIL := hid hnil
  have HZ := hid hz
  clear A1 A2 A3 k0 hs hw hnil hz
  refine (callsIn_wide (n := 20)).1 ?_
  refine callsIn_of_wp_marks (c := cA) Tryd.func5 (by kernel_rfl) trivial ?_ rfl
  simp only [Tryd.ntmps5, List.size_toArray, List.length_cons, List.length_nil, Nat.reduceAdd, Nat.reduceSub, Array.replicate_succ, Array.replicate_zero, List.push_toArray, List.append_toArray, List.nil_append, List.cons_append]
  unfold cA
  generalize hQ : bodyPostM _ _ _ _ _ = QQ
  gi_wp2_with fail
  obtain ⟨V, hV⟩ : ∃ V, V = ((w.alloc (.cells #[.slice ao zs.length cap] 22)).alloc (.cells #[.int .i64 o, .int .i64 t, .int .i64 lv] 48)).alloc (.cells #[.bool false] 4) := ⟨_, rfl⟩
  obtain ⟨T2, hT⟩ : ∃ B, B = w.heap.size := ⟨_, rfl⟩
  rw [← hV, ← hT] at D2 D3 D4
  rw [← hV] at K0 ⊢
  rw [← hT]
  have LT : Hid (w.heap.size ≤ T2) := by show _ ≤ _; omega
  clear hV hT
  refine wpIn_mono (c1_wp V T2 (T2 + 1) (T2 + 1 + 1) ao zs.length cap o t lv _ ?h1 D3.out) ?_
  case h1 => kernel_rfl
  intro e a1 X0 hh
  cases e with
  | normal =>
    obtain ⟨T5, T7, ⟨f1, rfl⟩, bx⟩ := hh
    have BS : Hid (Bs w X0 T2 (T2 + 1 + 1) T5 T7 ao cap zs o lv) := ⟨K0.out.trans bx.kp (fun _ _ x => x), D2.out.kp bx.kp (fun x => x), D4.out.kp bx.kp (fun x => x), bx.s5, bx.s7, S0.out.kp0 (K0.out.trans bx.kp (fun _ _ x => x)), W0.out.kp (K0.out.trans bx.kp (fun _ _ x => x)) (fun x => x), by have := LT.out; omega⟩
    have c2 : X0.cell? ⟨T2, 0, none⟩ = some (.slice ao zs.length cap) := BS.out.s2.cell 0
    have c5 : X0.cell? ⟨T5, 0, none⟩ = some (.int .i64 o) := BS.out.s5.cell 0
    clear bx D2 D3 D4
    unfold eP
    have dl : decide ((600 : Int) < (zs.length : Int)) = true := by simp; omega
    have dl2 : (600 : Int) < (zs.length : Int) := by omega
    gi_wp2_with fail
    refine ⟨trivial, (callsIn_wide.2 (known_any X0 BS.out.wd)).mono ?_⟩
    rintro r V3 ⟨rfl, k3⟩
    have K3 := hid k3
    have SR3 := hid (BS.out.s4.kp k3 (fun x => x))
    have cR : V3.cell? ⟨T2 + 1 + 1, 0, none⟩ = some (.bool false) := SR3.out.cell 0
    have fR : V3.frozen? ⟨T2 + 1 + 1, 0, none⟩ = false := SR3.out.frozen 0
    clear k3
    gi_wp2_with fail
    subst hQ
    have k4 := kp_setCell V3 (T2 + 1 + 1) 0 (.bool true) (fun j => j = T2 + 1 + 1) rfl
    have s4 := SR3.out.set 0 (.bool true)
    refine ⟨_, results_cell1 Tryd.results5 _ _ (T2 + 1 + 1) rfl (load_bool4 (s4.cell 0)), rfl, ?_⟩
    exact (BS.out.kp.trans K3.out (fun _ _ x => x)).trans k4 (fun i h1 h2 => by have := LT.out; omega)
  | _ => exact hh.elim
set_option maxRecDepth 100000 in
set_option maxHeartbeats 8000000 in
theorem alls_no1 (ao : Option Addr) (cap : Nat) (zs : List Int) (o t lv : Int) (w : World) (hl : zs.length ≤ 9223372036854775807) (hz : Byt zs) (hw : Wd w) (hnil : ao = none → cap = 0) (hs : Src .u8 w ao zs) (hl : zs.length ≤ 600) (ho : ¬ Ord o) : Calls Tryd.prog 5 #[.slice ao zs.length cap, .agg #[.int .i64 o, .int .i64 t, .int .i64 lv]] w fun e w' => e = .returned (.bool true) ∧ Kp (fun _ => False) w w' := by
  have A1 := St.new 22 w #[.slice ao zs.length cap]
  have A2 := St.new 48 (w.alloc (.cells #[.slice ao zs.length cap] 22)) #[.int .i64 o, .int .i64 t, .int .i64 lv]
  have A3 := St.new 4 ((w.alloc (.cells #[.slice ao zs.length cap] 22)).alloc (.cells #[.int .i64 o, .int .i64 t, .int .i64 lv] 48)) #[.bool false]
  have k0 : Kp (fun _ => False) w (((w.alloc (.cells #[.slice ao zs.length cap] 22)).alloc (.cells #[.int .i64 o, .int .i64 t, .int .i64 lv] 48)).alloc (.cells #[.bool false] 4)) := (((Kp.refl _ _).alloc _).alloc _).alloc _
  have D2 := hid (A1.kp ((((Kp.refl (fun _ => False) _).alloc (.cells #[.int .i64 o, .int .i64 t, .int .i64 lv] 48)).alloc (.cells #[.bool false] 4))) (fun x => x))
  have D3 := hid (A2.kp (((Kp.refl (fun _ => False) _).alloc (.cells #[.bool false] 4))) (fun x => x))
  have D4 := hid A3
  rw [World.size_alloc] at D3
  rw [World.size_alloc, World.size_alloc] at D4
  have K0 := hid k0
  have S0 := hid hs
  have W0 := hid hw
  have NIL := hid hnil
  have HZ := hid hz
  clear A1 A2 A3 k0 hs hw hnil hz
  refine (callsIn_wide (n := 20)).1 ?_
  refine callsIn_of_wp_marks (c := cA) Tryd.func5 (by kernel_rfl) trivial ?_ rfl
  simp only [Tryd.ntmps5, List.size_toArray, List.length_cons, List.length_nil, Nat.reduceAdd, Nat.reduceSub, Array.replicate_succ, Array.replicate_zero, List.push_toArray, List.append_toArray, List.nil_append, List.cons_append]
  unfold cA
  generalize hQ : bodyPostM _ _ _ _ _ = QQ
  gi_wp2_with fail
  obtain ⟨V, hV⟩ : ∃ V, V = ((w.alloc (.cells #[.slice ao zs.length cap] 22)).alloc (.cells #[.int .i64 o, .int .i64 t, .int .i64 lv] 48)).alloc (.cells #[.bool false] 4) := ⟨_, rfl⟩
  obtain ⟨T2, hT⟩ : ∃ B, B = w.heap.size := ⟨_, rfl⟩
  rw [← hV, ← hT] at D2 D3 D4
  rw [← hV] at K0 ⊢
  rw [← hT]
  have LT : Hid (w.heap.size ≤ T2) := by show _ ≤ _; omega
  clear hV hT
  refine wpIn_mono (c1_wp V T2 (T2 + 1) (T2 + 1 + 1) ao zs.length cap o t lv _ ?h1 D3.out) ?_
  case h1 => kernel_rfl
  intro e a1 X0 hh
  cases e with
  | normal =>
    obtain ⟨T5, T7, ⟨f1, rfl⟩, bx⟩ := hh
    have BS : Hid (Bs w X0 T2 (T2 + 1 + 1) T5 T7 ao cap zs o lv) := ⟨K0.out.trans bx.kp (fun _ _ x => x), D2.out.kp bx.kp (fun x => x), D4.out.kp bx.kp (fun x => x), bx.s5, bx.s7, S0.out.kp0 (K0.out.trans bx.kp (fun _ _ x => x)), W0.out.kp (K0.out.trans bx.kp (fun _ _ x => x)) (fun x => x), by have := LT.out; omega⟩
    have c2 : X0.cell? ⟨T2, 0, none⟩ = some (.slice ao zs.length cap) := BS.out.s2.cell 0
    have c5 : X0.cell? ⟨T5, 0, none⟩ = some (.int .i64 o) := BS.out.s5.cell 0
    clear bx D2 D3 D4
    unfold eP
    have dl : decide ((600 : Int) < (zs.length : Int)) = false := by simp; omega
    have dl2 : ¬ (600 : Int) < (zs.length : Int) := by omega
    have T1 : Hid (([] : List Int).length + zs.length ≤ 17592186044416) := by show _ ≤ _; simp; omega
    gi_wp2_with (refine wpListIn_append_i (by rfl) (.const (.slice none 0 0)) (.tmp 38) rfl X0.heap.size (.slice none 0 0) [] rfl (OwnI.nil _ _ _ _) _ _ _ zs rfl rfl NIL.out BS.out.src T1.out (Nat.le_refl _) ?_; intro v4 X1 o4 q4 b4; have K1 := hid (Kp.of_below (F := fun _ => False) b4); have HO4 := hid (own_slice2 o4); clear o4 q4 b4; obtain ⟨a5, c5', rfl, hn5, s5, hp5, hr5⟩ := HO4.out; have d5 : X1.cell? ⟨T5, 0, none⟩ = some (.int .i64 o) := (BS.out.same K1.out).s5.cell 0)
    have N5 := hid hn5
    have S5 := hid s5
    have P5 := hid hp5
    have R5 := hid hr5
    have B1 := hid (BS.out.same K1.out)
    clear hn5 s5 hp5 hr5 HO4 c2 c5 dl dl2 T1
    refine ⟨trivial, (callsIn_wide.2 (all_no a5 zs.length c5' o X1 ho)).mono ?_⟩
    rintro r X2 ⟨rfl, k2⟩
    have B2 := hid (B1.out.same k2)
    have e5 : X2.cell? ⟨T5, 0, none⟩ = some (.int .i64 o) := B2.out.s5.cell 0
    have K2 := hid k2
    clear k2 d5
    gi_wp2_with fail
    refine ⟨trivial, (callsIn_wide.2 (widen_no1 a5 zs.length c5' o t X2 ho)).mono ?_⟩
    rintro r X3 ⟨rfl, k3⟩
    have K3 := hid (K2.out.trans k3 (fun _ _ x => x))
    have K30 := hid k3
    clear k3 e5
    have hf : ∀ w, (binOp .eql 50 (.func (.func 29) #[] #[]) .nilFunc).run Tryd.prog w = .ok (.bool false) w := fun _ => rfl
    gi_wp2_with fail
    subst hQ
    refine fin_wp w X3 T2 (T2 + 1 + 1) T5 T7 29 #[] (fun _ => False) ao cap zs o lv t 0 0 a5 c5' none 0 0 2 _ ?h2 rfl hl HZ.out (.inr ⟨ho, rfl⟩) (fun hp => by obtain ⟨g, off, e, _⟩ := S5.out hp; exact ⟨_, e⟩) (fun x e => ?hx) (fun Z kz => ⟨zfacts BS.out (K1.out.trans K3.out (fun _ _ x => x)) (fun x e => (R5.out x e).1) kz W0.out, ?sq, fun f => ?ck⟩)
    case h2 => kernel_rfl
    case hx =>
      obtain ⟨h1, h2, h3, L, h4, h5⟩ := R5.out x e
      exact ⟨P5.out x e, h3, L, h4.kp K3.out (fun x => x), h5⟩
    case sq =>
      exact ⟨fun i hi => hi.elim, enters_of Tryd.func29 (by kernel_rfl) rfl, fun Y ky => none_seq 19 (by omega) zs 0 Y⟩
    case ck =>
      have bz := zfacts BS.out (K1.out.trans K3.out (fun _ _ x => x)) (fun x e => (R5.out x e).1) kz W0.out
      exact chk_no w Z T2 (T2 + 1 + 1) T5 T7 _ ao cap zs o lv t f bz (.inl ho)
  | _ => exact hh.elim
set_option maxRecDepth 100000 in
set_option maxHeartbeats 8000000 in
theorem alls_no2 (ao : Option Addr) (cap : Nat) (zs : List Int) (o t lv : Int) (w : World) (hl : zs.length ≤ 9223372036854775807) (hz : Byt zs) (hw : Wd w) (hnil : ao = none → cap = 0) (hs : Src .u8 w ao zs) (hl : zs.length ≤ 600) (ho : Ord o) (ht : ¬ Ord t) : Calls Tryd.prog 5 #[.slice ao zs.length cap, .agg #[.int .i64 o, .int .i64 t, .int .i64 lv]] w fun e w' => e = .returned (.bool true) ∧ Kp (fun _ => False) w w' := by
  have A1 := St.new 22 w #[.slice ao zs.length cap]
  have A2 := St.new 48 (w.alloc (.cells #[.slice ao zs.length cap] 22)) #[.int .i64 o, .int .i64 t, .int .i64 lv]
  have A3 := St.new 4 ((w.alloc (.cells #[.slice ao zs.length cap] 22)).alloc (.cells #[.int .i64 o, .int .i64 t, .int .i64 lv] 48)) #[.bool false]
  have k0 : Kp (fun _ => False) w (((w.alloc (.cells #[.slice ao zs.length cap] 22)).alloc (.cells #[.int .i64 o, .int .i64 t, .int .i64 lv] 48)).alloc (.cells #[.bool false] 4)) := (((Kp.refl _ _).alloc _).alloc _).alloc _
  have D2 := hid (A1.kp ((((Kp.refl (fun _ => False) _).alloc (.cells #[.int .i64 o, .int .i64 t, .int .i64 lv] 48)).alloc (.cells #[.bool false] 4))) (fun x => x))
  have D3 := hid (A2.kp (((Kp.refl (fun _ => False) _).alloc (.cells #[.bool false] 4))) (fun x => x))
  have D4 := hid A3
  rw [World.size_alloc] at D3
  rw [World.size_alloc, World.size_alloc] at D4
  have K0 := hid k0
  have S0 := hid hs
  have W0 := hid hw
  have NIL := hid hnil
  have HZ := hid hz
  clear A1 A2 A3 k0 hs hw hnil hz
  refine (callsIn_wide (n := 20)).1 ?_
  refine callsIn_of_wp_marks (c := cA) Tryd.func5 (by kernel_rfl) trivial ?_ rfl
  simp only [Tryd.ntmps5, List.size_toArray, List.length_cons, List.length_nil, Nat.reduceAdd, Nat.reduceSub, Array.replicate_succ, Array.replicate_zero, List.push_toArray, List.append_toArray, List.nil_append, List.cons_append]
  unfold cA
  generalize hQ : bodyPostM _ _ _ _ _ = QQ
  gi_wp2_with fail
  obtain ⟨V, hV⟩ : ∃ V, V = ((w.alloc (.cells #[.slice ao zs.length cap] 22)).alloc (.cells #[.int .i64 o, .int .i64 t, .int .i64 lv] 48)).alloc (.cells #[.bool false] 4) := ⟨_, rfl⟩
  obtain ⟨T2, hT⟩ : ∃ B, B = w.heap.size := ⟨_, rfl⟩
  rw [← hV, ← hT] at D2 D3 D4
  rw [← hV] at K0 ⊢
  rw [← hT]
  have LT : Hid (w.heap.size ≤ T2) := by show _ ≤ _; omega
  clear hV hT
  refine wpIn_mono (c1_wp V T2 (T2 + 1) (T2 + 1 + 1) ao zs.length cap o t lv _ ?h1 D3.out) ?_
  case h1 => kernel_rfl
  intro e a1 X0 hh
  cases e with
  | normal =>
    obtain ⟨T5, T7, ⟨f1, rfl⟩, bx⟩ := hh
    have BS : Hid (Bs w X0 T2 (T2 + 1 + 1) T5 T7 ao cap zs o lv) := ⟨K0.out.trans bx.kp (fun _ _ x => x), D2.out.kp bx.kp (fun x => x), D4.out.kp bx.kp (fun x => x), bx.s5, bx.s7, S0.out.kp0 (K0.out.trans bx.kp (fun _ _ x => x)), W0.out.kp (K0.out.trans bx.kp (fun _ _ x => x)) (fun x => x), by have := LT.out; omega⟩
    have c2 : X0.cell? ⟨T2, 0, none⟩ = some (.slice ao zs.length cap) := BS.out.s2.cell 0
    have c5 : X0.cell? ⟨T5, 0, none⟩ = some (.int .i64 o) := BS.out.s5.cell 0
    clear bx D2 D3 D4
    unfold eP
    have dl : decide ((600 : Int) < (zs.length : Int)) = false := by simp; omega
    have dl2 : ¬ (600 : Int) < (zs.length : Int) := by omega
    have T1 : Hid (([] : List Int).length + zs.length ≤ 17592186044416) := by show _ ≤ _; simp; omega
    gi_wp2_with (refine wpListIn_append_i (by rfl) (.const (.slice none 0 0)) (.tmp 38) rfl X0.heap.size (.slice none 0 0) [] rfl (OwnI.nil _ _ _ _) _ _ _ zs rfl rfl NIL.out BS.out.src T1.out (Nat.le_refl _) ?_; intro v4 X1 o4 q4 b4; have K1 := hid (Kp.of_below (F := fun _ => False) b4); have HO4 := hid (own_slice2 o4); clear o4 q4 b4; obtain ⟨a5, c5', rfl, hn5, s5, hp5, hr5⟩ := HO4.out; have d5 : X1.cell? ⟨T5, 0, none⟩ = some (.int .i64 o) := (BS.out.same K1.out).s5.cell 0)
    have N5 := hid hn5
    have S5 := hid s5
    have P5 := hid hp5
    have R5 := hid hr5
    have B1 := hid (BS.out.same K1.out)
    clear hn5 s5 hp5 hr5 HO4 c2 c5 dl dl2 T1
    obtain ⟨k, rfl⟩ : ∃ k : Nat, o = k := ⟨o.toNat, by unfold Ord at ho; omega⟩
    have h7 : k < 7 := by unfold Ord at ho; omega
    refine ⟨trivial, (callsIn_wide.2 (all_ok a5 c5' k zs X1 (by omega) N5.out S5.out P5.out h7 B1.out.wd)).mono ?_⟩
    rintro r X2 ⟨a6, c6, rfl, s6, l6, k2⟩
    have S6 := hid s6
    have L6 := hid l6
    clear s6 l6
    have B2 := hid (B1.out.same k2)
    have e5 : X2.cell? ⟨T5, 0, none⟩ = some (.int .i64 (k : Int)) := B2.out.s5.cell 0
    have K2 := hid k2
    clear k2 d5
    gi_wp2_with fail
    refine ⟨trivial, (callsIn_wide.2 (widen_no2 a5 zs.length c5' k t X2 h7 ht B2.out.wd)).mono ?_⟩
    rintro r X3 ⟨rfl, k3⟩
    have K3 := hid (K2.out.trans k3 (fun _ _ x => x))
    have K30 := hid k3
    clear k3 e5
    have hf : ∀ w, (binOp .eql 50 (.func (.func 31) #[.agg (rc (.slice a6 zs.length c6) (2 ^ k))] #[]) .nilFunc).run Tryd.prog w = .ok (.bool false) w := fun _ => rfl
    gi_wp2_with fail
    subst hQ
    refine fin_wp w X3 T2 (T2 + 1 + 1) T5 T7 31 #[.agg (rc (.slice a6 zs.length c6) (2 ^ k))] (RO a6 zs) ao cap zs (k : Int) lv t (2 ^ k) (8 * zs.length / 2 ^ k) a5 c5' none 0 0 2 _ ?h2 rfl hl HZ.out (.inl ⟨k, rfl, h7, rfl, rfl⟩) (fun hp => by obtain ⟨g, off, e, _⟩ := S5.out hp; exact ⟨_, e⟩) (fun x e => ?hx) (fun Z kz => ⟨zfacts BS.out (K1.out.trans K3.out (fun _ _ x => x)) (fun x e => (R5.out x e).1) kz W0.out, ?sq, fun f => ?ck⟩)
    case h2 => kernel_rfl
    case hx =>
      obtain ⟨h1, h2, h3, L, h4, h5⟩ := R5.out x e
      exact ⟨P5.out x e, h3, L, h4.kp K3.out (fun x => x), h5⟩
    case sq =>
      refine ⟨fun i hi => ?_, enters_of Tryd.func31 (by kernel_rfl) rfl, fun Y ky => ?_⟩
      · obtain ⟨hp, off, e⟩ := hi
        have h1 := (L6.out i off e).2
        have h2 := K30.out.size
        have h3 := kz.size
        omega
      · refine all_seq 19 (by omega) a6 c6 zs (2 ^ k) (8 * zs.length / 2 ^ k) Y (by omega) HZ.out (pow_pos7 k) (w64 h7) rfl ?_
        refine Src.kp0 (src_blk (S6.out.kp0 K30.out) (fun i off hp e => ?_)) ky
        have h1 := L6.out i off e
        have h2 := K30.out.size
        exact kz.block i (by omega) (fun ⟨x, e5, hb⟩ => by have h3 := (R5.out x e5).2.1; omega)
    case ck =>
      have bz := zfacts BS.out (K1.out.trans K3.out (fun _ _ x => x)) (fun x e => (R5.out x e).1) kz W0.out
      exact chk_no w Z T2 (T2 + 1 + 1) T5 T7 _ ao cap zs (k : Int) lv t f bz (.inr ht)
  | _ => exact hh.elim
set_option maxRecDepth 100000 in
set_option maxHeartbeats 8000000 in
theorem alls_ok (ao : Option Addr) (cap : Nat) (zs : List Int) (o t lv : Int) (w : World) (hl : zs.length ≤ 9223372036854775807) (hz : Byt zs) (hw : Wd w) (hnil : ao = none → cap = 0) (hs : Src .u8 w ao zs) (hl : zs.length ≤ 600) (ho : Ord o) (ht : Ord t) : Calls Tryd.prog 5 #[.slice ao zs.length cap, .agg #[.int .i64 o, .int .i64 t, .int .i64 lv]] w fun e w' => e = .returned (.bool true) ∧ Kp (fun _ => False) w w' := by
  have A1 := St.new 22 w #[.slice ao zs.length cap]
  have A2 := St.new 48 (w.alloc (.cells #[.slice ao zs.length cap] 22)) #[.int .i64 o, .int .i64 t, .int .i64 lv]
  have A3 := St.new 4 ((w.alloc (.cells #[.slice ao zs.length cap] 22)).alloc (.cells #[.int .i64 o, .int .i64 t, .int .i64 lv] 48)) #[.bool false]
  have k0 : Kp (fun _ => False) w (((w.alloc (.cells #[.slice ao zs.length cap] 22)).alloc (.cells #[.int .i64 o, .int .i64 t, .int .i64 lv] 48)).alloc (.cells #[.bool false] 4)) := (((Kp.refl _ _).alloc _).alloc _).alloc _
  have D2 := hid (A1.kp ((((Kp.refl (fun _ => False) _).alloc (.cells #[.int .i64 o, .int .i64 t, .int .i64 lv] 48)).alloc (.cells #[.bool false] 4))) (fun x => x))
  have D3 := hid (A2.kp (((Kp.refl (fun _ => False) _).alloc (.cells #[.bool false] 4))) (fun x => x))
  have D4 := hid A3
  rw [World.size_alloc] at D3
  rw [World.size_alloc, World.size_alloc] at D4
  have K0 := hid k0
  have S0 := hid hs
  have W0 := hid hw
  have NIL := hid hnil
  have HZ := hid hz
  clear A1 A2 A3 k0 hs hw hnil hz
  refine (callsIn_wide (n := 20)).1 ?_
  refine callsIn_of_wp_marks (c := cA) Tryd.func5 (by kernel_rfl) trivial ?_ rfl
  simp only [Tryd.ntmps5, List.size_toArray, List.length_cons, List.length_nil, Nat.reduceAdd, Nat.reduceSub, Array.replicate_succ, Array.replicate_zero, List.push_toArray, List.append_toArray, List.nil_append, List.cons_append]
  unfold cA
  generalize hQ : bodyPostM _ _ _ _ _ = QQ
  gi_wp2_with fail
  obtain ⟨V, hV⟩ : ∃ V, V = ((w.alloc (.cells #[.slice ao zs.length cap] 22)).alloc (.cells #[.int .i64 o, .int .i64 t, .int .i64 lv] 48)).alloc (.cells #[.bool false] 4) := ⟨_, rfl⟩
  obtain ⟨T2, hT⟩ : ∃ B, B = w.heap.size := ⟨_, rfl⟩
  rw [← hV, ← hT] at D2 D3 D4
  rw [← hV] at K0 ⊢
  rw [← hT]
  have LT : Hid (w.heap.size ≤ T2) := by show _ ≤ _; omega
  clear hV hT
  refine wpIn_mono (c1_wp V T2 (T2 + 1) (T2 + 1 + 1) ao zs.length cap o t lv _ ?h1 D3.out) ?_
  case h1 => kernel_rfl
  intro e a1 X0 hh
  cases e with
  | normal =>
    obtain ⟨T5, T7, ⟨f1, rfl⟩, bx⟩ := hh
    have BS : Hid (Bs w X0 T2 (T2 + 1 + 1) T5 T7 ao cap zs o lv) := ⟨K0.out.trans bx.kp (fun _ _ x => x), D2.out.kp bx.kp (fun x => x), D4.out.kp bx.kp (fun x => x), bx.s5, bx.s7, S0.out.kp0 (K0.out.trans bx.kp (fun _ _ x => x)), W0.out.kp (K0.out.trans bx.kp (fun _ _ x => x)) (fun x => x), by have := LT.out; omega⟩
    have c2 : X0.cell? ⟨T2, 0, none⟩ = some (.slice ao zs.length cap) := BS.out.s2.cell 0
    have c5 : X0.cell? ⟨T5, 0, none⟩ = some (.int .i64 o) := BS.out.s5.cell 0
    clear bx D2 D3 D4
    unfold eP
    have dl : decide ((600 : Int) < (zs.length : Int)) = false := by simp; omega
    have dl2 : ¬ (600 : Int) < (zs.length : Int) := by omega
    have T1 : Hid (([] : List Int).length + zs.length ≤ 17592186044416) := by show _ ≤ _; simp; omega
    gi_wp2_with (refine wpListIn_append_i (by rfl) (.const (.slice none 0 0)) (.tmp 38) rfl X0.heap.size (.slice none 0 0) [] rfl (OwnI.nil _ _ _ _) _ _ _ zs rfl rfl NIL.out BS.out.src T1.out (Nat.le_refl _) ?_; intro v4 X1 o4 q4 b4; have K1 := hid (Kp.of_below (F := fun _ => False) b4); have HO4 := hid (own_slice2 o4); clear o4 q4 b4; obtain ⟨a5, c5', rfl, hn5, s5, hp5, hr5⟩ := HO4.out; have d5 : X1.cell? ⟨T5, 0, none⟩ = some (.int .i64 o) := (BS.out.same K1.out).s5.cell 0)
    have N5 := hid hn5
    have S5 := hid s5
    have P5 := hid hp5
    have R5 := hid hr5
    have B1 := hid (BS.out.same K1.out)
    clear hn5 s5 hp5 hr5 HO4 c2 c5 dl dl2 T1
    obtain ⟨k, rfl⟩ : ∃ k : Nat, o = k := ⟨o.toNat, by unfold Ord at ho; omega⟩
    have h7 : k < 7 := by unfold Ord at ho; omega
    obtain ⟨j, rfl⟩ : ∃ k : Nat, t = k := ⟨t.toNat, by unfold Ord at ht; omega⟩
    have j7 : j < 7 := by unfold Ord at ht; omega
    refine ⟨trivial, (callsIn_wide.2 (all_ok a5 c5' k zs X1 (by omega) N5.out S5.out P5.out h7 B1.out.wd)).mono ?_⟩
    rintro r X2 ⟨a6, c6, rfl, s6, l6, k2⟩
    have S6 := hid s6
    have L6 := hid l6
    clear s6 l6
    have B2 := hid (B1.out.same k2)
    have e5 : X2.cell? ⟨T5, 0, none⟩ = some (.int .i64 (k : Int)) := B2.out.s5.cell 0
    have K2 := hid k2
    clear k2 d5
    gi_wp2_with fail
    refine ⟨trivial, (callsIn_wide.2 (widen_in a5 c5' k j zs X2 (by omega) HZ.out h7 j7 B2.out.wd (S5.out.kp0 K2.out))).mono ?_⟩
    rintro r X3 ⟨aw, cw, R, E, rfl, wr, sw, lw, _, k3⟩
    have WR := hid wr
    have SW := hid sw
    have LW := hid lw
    clear wr sw lw
    have K3 := hid (K2.out.trans k3 (fun _ _ x => x))
    have K30 := hid k3
    clear k3 e5
    have hf : ∀ w, (binOp .eql 50 (.func (.func 31) #[.agg (rc (.slice a6 zs.length c6) (2 ^ k))] #[]) .nilFunc).run Tryd.prog w = .ok (.bool false) w := fun _ => rfl
    gi_wp2_with fail
    subst hQ
    refine fin_wp w X3 T2 (T2 + 1 + 1) T5 T7 31 #[.agg (rc (.slice a6 zs.length c6) (2 ^ k))] (RO a6 zs) ao cap zs (k : Int) lv (j : Int) (2 ^ k) (8 * zs.length / 2 ^ k) a5 c5' aw R.length cw E _ ?h2 rfl hl HZ.out (.inl ⟨k, rfl, h7, rfl, rfl⟩) (fun hp => by obtain ⟨g, off, e, _⟩ := S5.out hp; exact ⟨_, e⟩) (fun x e => ?hx) (fun Z kz => ⟨zfacts BS.out (K1.out.trans K3.out (fun _ _ x => x)) (fun x e => (R5.out x e).1) kz W0.out, ?sq, fun f => ?ck⟩)
    case h2 => kernel_rfl
    case hx =>
      obtain ⟨h1, h2, h3, L, h4, h5⟩ := R5.out x e
      exact ⟨P5.out x e, h3, L, h4.kp K3.out (fun x => x), h5⟩
    case sq =>
      refine ⟨fun i hi => ?_, enters_of Tryd.func31 (by kernel_rfl) rfl, fun Y ky => ?_⟩
      · obtain ⟨hp, off, e⟩ := hi
        have h1 := (L6.out i off e).2
        have h2 := K30.out.size
        have h3 := kz.size
        omega
      · refine all_seq 19 (by omega) a6 c6 zs (2 ^ k) (8 * zs.length / 2 ^ k) Y (by omega) HZ.out (pow_pos7 k) (w64 h7) rfl ?_
        refine Src.kp0 (src_blk (S6.out.kp0 K30.out) (fun i off hp e => ?_)) ky
        have h1 := L6.out i off e
        have h2 := K30.out.size
        exact kz.block i (by omega) (fun ⟨x, e5, hb⟩ => by have h3 := (R5.out x e5).2.1; omega)
    case ck =>
      have bz := zfacts BS.out (K1.out.trans K3.out (fun _ _ x => x)) (fun x e => (R5.out x e).1) kz W0.out
      refine chk_ok w Z T2 (T2 + 1 + 1) T5 T7 _ ao cap zs lv k j aw cw R E f hl HZ.out h7 j7 bz WR.out (src_blk SW.out (fun i off hp e => ?_))
      have h1 := LW.out i off e
      exact kz.block i h1.2 (fun ⟨x, e5, hb⟩ => by have h3 := (R5.out x e5).2.1; have h4 := K2.out.size; omega)
  | _ => exact hh.elim
theorem alls_walk (ao : Option Addr) (cap : Nat) (zs : List Int) (o t lv : Int) (w : World) (hl : zs.length ≤ 9223372036854775807) (hz : Byt zs) (hw : Wd w) (hnil : ao = none → cap = 0) (hs : Src .u8 w ao zs) : Calls Tryd.prog 5 #[.slice ao zs.length cap, .agg #[.int .i64 o, .int .i64 t, .int .i64 lv]] w fun e w' => e = .returned (.bool true) ∧ Kp (fun _ => False) w w' := by
  by_cases hb : zs.length ≤ 600
  case neg => exact alls_big ao cap zs o t lv w hl hz hw hnil hs (by omega)
  by_cases ho : Ord o
  case neg => exact alls_no1 ao cap zs o t lv w hl hz hw hnil hs hb ho
  by_cases ht : Ord t
  case neg => exact alls_no2 ao cap zs o t lv w hl hz hw hnil hs hb ho ht
  exact alls_ok ao cap zs o t lv w hl hz hw hnil hs hb ho ht
end Go.Proofs.YtjhgkcbpllgdiaaDoor
