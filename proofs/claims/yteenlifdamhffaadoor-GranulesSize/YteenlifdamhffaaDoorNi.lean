/- granules: Set. -/
import Derived.Test.YteenlifdamhffaaDoorNh
namespace Go.Proofs.YteenlifdamhffaaDoor
open Go.RowKit
set_option linter.unusedVariables false
set_option linter.unusedSimpArgs false
def q21r4_0 : Oper := { dst := some 16, op := Go.Op.move (Go.Operand.tmp 0), type := 24, pos := "granules.go:43", after := #[], guard := none }
def q21r4_1 : Oper := { dst := some 17, op := Go.Op.nilCheck (Go.Operand.tmp 16), type := 0, pos := "granules.go:43", after := #[{ on := 0, ground := Go.Ground.data }], guard := none }
def q21r4_2 : Oper := { dst := some 18, op := Go.Op.fieldAddr 88 (Go.Operand.tmp 17) 1, type := 0, pos := "granules.go:43", after := #[{ on := 1, ground := Go.Ground.data }], guard := none }
def q21r4_3 : Oper := { dst := some 19, op := Go.Op.load 84 (Go.Operand.tmp 18), type := 84, pos := "granules.go:43", after := #[{ on := 2, ground := Go.Ground.data }], guard := none }
def q21r4_4 : Oper := { dst := some 20, op := Go.Op.move (Go.Operand.tmp 0), type := 24, pos := "granules.go:43", after := #[], guard := none }
def q21r4_5 : Oper := { dst := some 21, op := Go.Op.nilCheck (Go.Operand.tmp 20), type := 0, pos := "granules.go:43", after := #[{ on := 4, ground := Go.Ground.data }], guard := none }
def q21r4_6 : Oper := { dst := some 22, op := Go.Op.fieldAddr 88 (Go.Operand.tmp 21) 0, type := 0, pos := "granules.go:43", after := #[{ on := 5, ground := Go.Ground.data }], guard := none }
def q21r4_7 : Oper := { dst := some 23, op := Go.Op.load 82 (Go.Operand.tmp 22), type := 82, pos := "granules.go:43", after := #[{ on := 6, ground := Go.Ground.data }], guard := none }
def q21r4_8 : Oper := { dst := some 24, op := Go.Op.move (Go.Operand.tmp 1), type := 2, pos := "granules.go:43", after := #[], guard := none }
def q21r4_9 : Oper := { dst := some 25, op := Go.Op.move (Go.Operand.tmp 2), type := 2, pos := "granules.go:43", after := #[], guard := none }
def q21r4_10 : Oper := { dst := some 26, op := Go.Op.call { callee := Go.Callee.value (Go.Operand.func 60), args := #[Go.Operand.tmp 23, Go.Operand.tmp 24, Go.Operand.tmp 25], argTypes := #[82, 2, 2] }, type := 107, pos := "granules.go:43", after := #[{ on := 7, ground := Go.Ground.data }, { on := 8, ground := Go.Ground.data }, { on := 9, ground := Go.Ground.data }], guard := none }
def q21r4_11 : Oper := { dst := some 27, op := Go.Op.extract (Go.Operand.tmp 26) 0, type := 2, pos := "granules.go:43", after := #[{ on := 10, ground := Go.Ground.data }], guard := none }
def q21r4_12 : Oper := { dst := some 28, op := Go.Op.extract (Go.Operand.tmp 26) 1, type := 2, pos := "granules.go:43", after := #[{ on := 10, ground := Go.Ground.data }], guard := none }
def q21r4_13 : Oper := { dst := some 29, op := Go.Op.call { callee := Go.Callee.value (Go.Operand.func 59), args := #[Go.Operand.tmp 19, Go.Operand.tmp 27, Go.Operand.tmp 28], argTypes := #[84, 2, 2] }, type := 3, pos := "granules.go:43", after := #[{ on := 3, ground := Go.Ground.data }, { on := 11, ground := Go.Ground.data }, { on := 12, ground := Go.Ground.data }, { on := 10, ground := Go.Ground.chain }], guard := none }
def q21r4_14 : Oper := { dst := some 6, op := Go.Op.assign (Go.Operand.tmp 29), type := 3, pos := "granules.go:43", after := #[{ on := 13, ground := Go.Ground.data }, { on := 13, ground := Go.Ground.chain }, { on := 0, ground := Go.Ground.phase }, { on := 1, ground := Go.Ground.phase }, { on := 2, ground := Go.Ground.phase }, { on := 3, ground := Go.Ground.phase }, { on := 4, ground := Go.Ground.phase }, { on := 5, ground := Go.Ground.phase }, { on := 6, ground := Go.Ground.phase }, { on := 7, ground := Go.Ground.phase }, { on := 8, ground := Go.Ground.phase }, { on := 9, ground := Go.Ground.phase }, { on := 10, ground := Go.Ground.phase }, { on := 11, ground := Go.Ground.phase }, { on := 12, ground := Go.Ground.phase }, { on := 13, ground := Go.Ground.phase }], guard := none }
def q21r4_15 : Oper := { dst := some 7, op := Go.Op.assign (Go.Operand.const (Go.Value.int Go.IntKind.i64 0)), type := 25, pos := "granules.go:43", after := #[{ on := 14, ground := Go.Ground.chain }, { on := 0, ground := Go.Ground.phase }, { on := 1, ground := Go.Ground.phase }, { on := 2, ground := Go.Ground.phase }, { on := 3, ground := Go.Ground.phase }, { on := 4, ground := Go.Ground.phase }, { on := 5, ground := Go.Ground.phase }, { on := 6, ground := Go.Ground.phase }, { on := 7, ground := Go.Ground.phase }, { on := 8, ground := Go.Ground.phase }, { on := 9, ground := Go.Ground.phase }, { on := 10, ground := Go.Ground.phase }, { on := 11, ground := Go.Ground.phase }, { on := 12, ground := Go.Ground.phase }, { on := 13, ground := Go.Ground.phase }, { on := 14, ground := Go.Ground.phase }], guard := none }
def o21r4 : Array Oper := #[q21r4_0, q21r4_1, q21r4_2, q21r4_3, q21r4_4, q21r4_5, q21r4_6, q21r4_7, q21r4_8, q21r4_9, q21r4_10, q21r4_11, q21r4_12, q21r4_13, q21r4_14, q21r4_15]
def p21r4_16 : List (Nat × Oper) := []
def p21r4_15 : List (Nat × Oper) := (0, q21r4_15) :: p21r4_16
def p21r4_14 : List (Nat × Oper) := (0, q21r4_14) :: p21r4_15
def p21r4_13 : List (Nat × Oper) := (1, q21r4_13) :: p21r4_14
def p21r4_12 : List (Nat × Oper) := (0, q21r4_12) :: p21r4_13
def p21r4_11 : List (Nat × Oper) := (0, q21r4_11) :: p21r4_12
def p21r4_10 : List (Nat × Oper) := (1, q21r4_10) :: p21r4_11
def p21r4_9 : List (Nat × Oper) := (0, q21r4_9) :: p21r4_10
def p21r4_8 : List (Nat × Oper) := (0, q21r4_8) :: p21r4_9
def p21r4_7 : List (Nat × Oper) := (0, q21r4_7) :: p21r4_8
def p21r4_6 : List (Nat × Oper) := (0, q21r4_6) :: p21r4_7
def p21r4_5 : List (Nat × Oper) := (0, q21r4_5) :: p21r4_6
def p21r4_4 : List (Nat × Oper) := (0, q21r4_4) :: p21r4_5
def p21r4_3 : List (Nat × Oper) := (0, q21r4_3) :: p21r4_4
def p21r4_2 : List (Nat × Oper) := (0, q21r4_2) :: p21r4_3
def p21r4_1 : List (Nat × Oper) := (0, q21r4_1) :: p21r4_2
def p21r4_0 : List (Nat × Oper) := (0, q21r4_0) :: p21r4_1
def c21r4 : List (Nat × Nat) := [(0, 0), (0, 1), (0, 2), (0, 3), (0, 4), (0, 5), (0, 6), (0, 7), (0, 8), (0, 9), (1, 10), (0, 11), (0, 12), (1, 13), (0, 14), (0, 15)]
theorem b21r4 : (Region.noSelect o21r4 && (c21r4.length == o21r4.size) && planB o21r4 [] c21r4 (Array.replicate o21r4.size false)) = true := by kernel_rfl
theorem d21r4 : (c21r4.map fun p => (p.1, o21r4[p.2]?)) = (p21r4_0.map fun p => (p.1, some p.2)) := by kernel_rfl
set_option maxRecDepth 100000 in
set_option maxHeartbeats 4000000 in
theorem set_bad (Q r sz gr : Nat) (ws : List Nat) (w : World) (h : Bm w Q r sz gr ws) (a n : Int) (ha : a ≤ 9223372036854775807) (hc : askc sz a n ≠ 0) :
    Calls Tryd.prog 21 #[ptr Q, .int .i64 a, .int .i64 n] w fun e w' => e = .returned (.tuple #[.int .i64 0, .int .i64 (askc sz a n)]) ∧ Kp (fun _ => False) w w' := by
  have HA := hid (asked_any Q r sz gr ws w h a n ha)
  obtain ⟨z, hz⟩ : ∃ z, askc sz a n = z := ⟨_, rfl⟩
  rw [hz] at HA hc ⊢
  have hz3 : (z != 0) = true := by simpa using hc
  have hz4 : (z == 0) = false := by simpa using hc
  unfold ptr at *
  clear h
  go_enter Tryd.func21, Tryd.ntmps21
  go_wp2_with (first | (go_at_call 58; refine HA.out.mono ?_; rintro _ w1 ⟨rfl, k⟩))
  go_ret2
  exact ⟨rfl, k⟩
set_option maxRecDepth 100000 in
set_option maxHeartbeats 4000000 in
theorem set_ok (Q r sz gr : Nat) (ws : List Nat) (w : World) (h : Bm w Q r sz gr ws) (a n : Nat) (han : a + n ≤ sz) :
    Calls Tryd.prog 21 #[ptr Q, .int .i64 a, .int .i64 n] w (StP true Q r sz gr ws (tch gr a n).1 (tch gr a n).2 w) := by
  have HA := hid (asked_any Q r sz gr ws w h (a : Int) (n : Int) (by have := h.szb; omega))
  have hc0 : askc sz (a : Int) (n : Int) = 0 := by
    unfold askc
    rw [if_neg (by omega), if_neg (by omega)]
  rw [hc0] at HA
  have HH := hid h
  have hgb := h.grb
  have hsb := h.szb
  have HNE : Hid (¬ Q = r) := h.ne
  have HTL : Hid ((tch gr a n).2 ≤ frm gr sz) := tch_le han
  have ht1 : (tch gr a n).1 ≤ a := tch_1
  obtain ⟨t1, e1⟩ : ∃ t, (tch gr a n).1 = t := ⟨_, rfl⟩
  obtain ⟨t2, e2⟩ : ∃ t, (tch gr a n).2 = t := ⟨_, rfl⟩
  have HTC0 : ∀ U, Calls Tryd.prog 60 #[.agg #[.int .i64 sz, .int .i64 gr], .int .i64 a, .int .i64 n] U fun e w' => e = .returned (.tuple #[.int .i64 (tch gr a n).1, .int .i64 (tch gr a n).2]) ∧ Kp (fun _ => False) U w' := fun U => touched_any sz gr a n (by omega) (by omega) U
  rw [e1, e2] at HTC0
  rw [e2] at HTL
  rw [e1] at ht1
  rw [e1, e2]
  clear e1 e2 hc0
  unfold ptr at *
  go_enter Tryd.func21, Tryd.ntmps21
  go_wp2_with (first | (go_at_call 58; refine HA.out.mono ?_; rintro _ w1 ⟨rfl, k⟩))
  have KX := hid k
  have HB := hid (HH.out.kp0 k)
  obtain ⟨X0, hX0⟩ : ∃ X, w1 = X := ⟨_, rfl⟩
  rw [hX0] at KX HB
  rw [hX0]
  have C0 : Hid (X0.cell? ⟨Q, 0, none⟩ = some (.int .i64 sz)) := HB.out.st.cell 0
  have C1 : Hid (X0.cell? ⟨Q, 1, none⟩ = some (.int .i64 gr)) := HB.out.st.cell 1
  have C2 : Hid (X0.cell? ⟨Q, 2, none⟩ = some (.slice (some ⟨r, 0, none⟩) (nwd (frm gr sz)) (nwd (frm gr sz)))) := HB.out.st.cell 2
  have K00 : Hid (Kp (fun _ => False) X0 X0.drew) := (Kp.refl _ _).drew
  have WK : Hid (∀ {U}, Kp (fun _ => False) X0 U → Kp (fun i => i = r) X0 U) := fun {U} h => h.mono (fun _ _ h => h.elim)
  have HTC : Hid (∀ U, Kp (fun _ => False) X0 U → Calls Tryd.prog 60 #[.agg #[.int .i64 sz, .int .i64 gr], .int .i64 a, .int .i64 n] U fun e w' => e = .returned (.tuple #[.int .i64 t1, .int .i64 t2]) ∧ Kp (fun _ => False) U w') := fun U _ => HTC0 U
  have HST : Hid (∀ U, Kp (fun _ => False) X0 U → Calls Tryd.prog 59 #[.slice (some ⟨r, 0, none⟩) (nwd (frm gr sz)) (nwd (frm gr sz)), .int .i64 t1, .int .i64 t2] U (SetP true r t1 t2 ws U)) := fun U kU => set_any r _ _ t1 t2 ws U h.ln.symm h.W (by have h1 := nwd_fact (frm gr sz); have h2 := h.ln; have h3 := HTL.out; omega) (by omega) h.lb.1 (HB.out.rw.kp kU (fun e => e))
  clear HA k hX0 HTC0 h
  change (Code.region 4 o21r4 true).wp _ _ _ _
  refine wp_region_plan (fun w' => Kp (fun i => i = r) X0 w') [] c21r4 p21r4_0 hmix b21r4 d21r4 (fun _ _ d _ _ h => by cases d <;> exact h) ?_
  refine plan_take (o := q21r4_0) (r := p21r4_1) ?vd0 (WK.out K00.out) (by rfl) ?hyd0 ?restd0
  case hyd0 => (intro w hSw; (try dsimp only at hSw); have c0 := kp_cell hSw C0.out HNE.out; have c1 := kp_cell hSw C1.out HNE.out; have c2 := kp_cell hSw C2.out HNE.out; simp only [q21r4_0]; go_simp; try with_reducible rfl)
  try simp only [q21r4_0, Act.put, List.setIfInBounds_toArray, List.set_cons_zero, List.set_cons_succ]
  refine plan_take (o := q21r4_1) (r := p21r4_2) ?vd1 (WK.out K00.out) (by rfl) ?hyd1 ?restd1
  case hyd1 => (intro w hSw; (try dsimp only at hSw); have c0 := kp_cell hSw C0.out HNE.out; have c1 := kp_cell hSw C1.out HNE.out; have c2 := kp_cell hSw C2.out HNE.out; simp only [q21r4_1]; go_simp; try with_reducible rfl)
  try simp only [q21r4_1, Act.put, List.setIfInBounds_toArray, List.set_cons_zero, List.set_cons_succ]
  refine plan_take (o := q21r4_2) (r := p21r4_3) ?vd2 (WK.out K00.out) (by rfl) ?hyd2 ?restd2
  case hyd2 => (intro w hSw; (try dsimp only at hSw); have c0 := kp_cell hSw C0.out HNE.out; have c1 := kp_cell hSw C1.out HNE.out; have c2 := kp_cell hSw C2.out HNE.out; simp only [q21r4_2]; go_simp; try with_reducible rfl)
  try simp only [q21r4_2, Act.put, List.setIfInBounds_toArray, List.set_cons_zero, List.set_cons_succ]
  refine plan_take (o := q21r4_3) (r := p21r4_4) ?vd3 (WK.out K00.out) (by rfl) ?hyd3 ?restd3
  case hyd3 => (intro w hSw; (try dsimp only at hSw); have c0 := kp_cell hSw C0.out HNE.out; have c1 := kp_cell hSw C1.out HNE.out; have c2 := kp_cell hSw C2.out HNE.out; simp only [q21r4_3]; go_simp; try with_reducible rfl)
  try simp only [q21r4_3, Act.put, List.setIfInBounds_toArray, List.set_cons_zero, List.set_cons_succ]
  refine plan_take (o := q21r4_4) (r := p21r4_5) ?vd4 (WK.out K00.out) (by rfl) ?hyd4 ?restd4
  case hyd4 => (intro w hSw; (try dsimp only at hSw); have c0 := kp_cell hSw C0.out HNE.out; have c1 := kp_cell hSw C1.out HNE.out; have c2 := kp_cell hSw C2.out HNE.out; simp only [q21r4_4]; go_simp; try with_reducible rfl)
  try simp only [q21r4_4, Act.put, List.setIfInBounds_toArray, List.set_cons_zero, List.set_cons_succ]
  refine plan_take (o := q21r4_5) (r := p21r4_6) ?vd5 (WK.out K00.out) (by rfl) ?hyd5 ?restd5
  case hyd5 => (intro w hSw; (try dsimp only at hSw); have c0 := kp_cell hSw C0.out HNE.out; have c1 := kp_cell hSw C1.out HNE.out; have c2 := kp_cell hSw C2.out HNE.out; simp only [q21r4_5]; go_simp; try with_reducible rfl)
  try simp only [q21r4_5, Act.put, List.setIfInBounds_toArray, List.set_cons_zero, List.set_cons_succ]
  refine plan_take (o := q21r4_6) (r := p21r4_7) ?vd6 (WK.out K00.out) (by rfl) ?hyd6 ?restd6
  case hyd6 => (intro w hSw; (try dsimp only at hSw); have c0 := kp_cell hSw C0.out HNE.out; have c1 := kp_cell hSw C1.out HNE.out; have c2 := kp_cell hSw C2.out HNE.out; simp only [q21r4_6]; go_simp; try with_reducible rfl)
  try simp only [q21r4_6, Act.put, List.setIfInBounds_toArray, List.set_cons_zero, List.set_cons_succ]
  refine plan_take (o := q21r4_7) (r := p21r4_8) ?vd7 (WK.out K00.out) (by rfl) ?hyd7 ?restd7
  case hyd7 => (intro w hSw; (try dsimp only at hSw); have c0 := kp_cell hSw C0.out HNE.out; have c1 := kp_cell hSw C1.out HNE.out; have c2 := kp_cell hSw C2.out HNE.out; simp only [q21r4_7]; go_simp; try with_reducible rfl)
  try simp only [q21r4_7, Act.put, List.setIfInBounds_toArray, List.set_cons_zero, List.set_cons_succ]
  refine plan_take (o := q21r4_8) (r := p21r4_9) ?vd8 (WK.out K00.out) (by rfl) ?hyd8 ?restd8
  case hyd8 => (intro w hSw; (try dsimp only at hSw); have c0 := kp_cell hSw C0.out HNE.out; have c1 := kp_cell hSw C1.out HNE.out; have c2 := kp_cell hSw C2.out HNE.out; simp only [q21r4_8]; go_simp; try with_reducible rfl)
  try simp only [q21r4_8, Act.put, List.setIfInBounds_toArray, List.set_cons_zero, List.set_cons_succ]
  refine plan_take (o := q21r4_9) (r := p21r4_10) ?vd9 (WK.out K00.out) (by rfl) ?hyd9 ?restd9
  case hyd9 => (intro w hSw; (try dsimp only at hSw); have c0 := kp_cell hSw C0.out HNE.out; have c1 := kp_cell hSw C1.out HNE.out; have c2 := kp_cell hSw C2.out HNE.out; simp only [q21r4_9]; go_simp; try with_reducible rfl)
  try simp only [q21r4_9, Act.put, List.setIfInBounds_toArray, List.set_cons_zero, List.set_cons_succ]
  refine plan_act (o := q21r4_10) (r := p21r4_11) (fun K hK => ?_)
  simp only [q21r4_10]
  refine ite_pos2 (by rfl) ?_
  go_simp
  refine (HTC.out _ K00.out).mono ?_
  rintro e w5 ⟨rfl, k5⟩
  have K5 : Hid (Kp (fun _ => False) X0 w5) := (K00.out).trans k5 (fun _ _ h => h)
  clear k5
  go_wp2_with fail
  refine hK.out _ _ (fun _ => (WK.out K5.out)) ?_
  clear hK K
  try simp only [q21r4_10, Act.put, List.setIfInBounds_toArray, List.set_cons_zero, List.set_cons_succ]
  refine plan_take (o := q21r4_11) (r := p21r4_12) ?vd11 (WK.out K5.out) (by rfl) ?hyd11 ?restd11
  case hyd11 => (intro w hSw; (try dsimp only at hSw); have c0 := kp_cell hSw C0.out HNE.out; have c1 := kp_cell hSw C1.out HNE.out; have c2 := kp_cell hSw C2.out HNE.out; simp only [q21r4_11]; go_simp; try with_reducible rfl)
  try simp only [q21r4_11, Act.put, List.setIfInBounds_toArray, List.set_cons_zero, List.set_cons_succ]
  refine plan_take (o := q21r4_12) (r := p21r4_13) ?vd12 (WK.out K5.out) (by rfl) ?hyd12 ?restd12
  case hyd12 => (intro w hSw; (try dsimp only at hSw); have c0 := kp_cell hSw C0.out HNE.out; have c1 := kp_cell hSw C1.out HNE.out; have c2 := kp_cell hSw C2.out HNE.out; simp only [q21r4_12]; go_simp; try with_reducible rfl)
  try simp only [q21r4_12, Act.put, List.setIfInBounds_toArray, List.set_cons_zero, List.set_cons_succ]
  refine plan_act (o := q21r4_13) (r := p21r4_14) (fun K hK => ?_)
  simp only [q21r4_13]
  refine ite_pos2 (by rfl) ?_
  go_simp
  refine (HST.out _ K5.out).mono ?_
  rintro e w6 ⟨rfl, k6, ws6, l6, W6, d6, r6⟩
  have K6 : Hid (Kp (fun i => i = r) X0 w6) := (K5.out.mono (G := fun i => i = r) (fun _ _ h => h.elim)).trans k6 (fun _ _ h => h)
  have HB6 := hid (HB.out.upd K6.out l6 W6 d6 r6 HTL.out)
  have HD6 := hid d6
  clear k6 l6 W6 d6 r6
  go_wp2_with fail
  refine hK.out _ _ (fun _ => K6.out) ?_
  clear hK K
  try simp only [q21r4_13, Act.put, List.setIfInBounds_toArray, List.set_cons_zero, List.set_cons_succ]
  refine plan_take (o := q21r4_14) (r := p21r4_15) ?vd14 K6.out (by rfl) ?hyd14 ?restd14
  case hyd14 => (intro w hSw; (try dsimp only at hSw); have c0 := kp_cell hSw C0.out HNE.out; have c1 := kp_cell hSw C1.out HNE.out; have c2 := kp_cell hSw C2.out HNE.out; simp only [q21r4_14]; go_simp; try with_reducible rfl)
  try simp only [q21r4_14, Act.put, List.setIfInBounds_toArray, List.set_cons_zero, List.set_cons_succ]
  refine plan_take (o := q21r4_15) (r := p21r4_16) ?vd15 K6.out (by rfl) ?hyd15 ?restd15
  case hyd15 => (intro w hSw; (try dsimp only at hSw); have c0 := kp_cell hSw C0.out HNE.out; have c1 := kp_cell hSw C1.out HNE.out; have c2 := kp_cell hSw C2.out HNE.out; simp only [q21r4_15]; go_simp; try with_reducible rfl)
  try simp only [q21r4_15, Act.put, List.setIfInBounds_toArray, List.set_cons_zero, List.set_cons_succ]
  refine plan_done ?_
  go_wp2_with fail
  go_ret2
  exact ⟨rfl, (KX.out.mono (G := fun i => i = r) (fun _ _ h => h.elim)).trans K6.out (fun _ _ h => h), ws6, HB6.out, HD6.out⟩
end Go.Proofs.YteenlifdamhffaaDoor
