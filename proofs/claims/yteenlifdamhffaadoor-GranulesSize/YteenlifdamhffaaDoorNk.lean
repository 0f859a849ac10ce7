/- granules: Has. -/
import Derived.Test.YteenlifdamhffaaDoorNh
namespace Go.Proofs.YteenlifdamhffaaDoor
open Go.RowKit
set_option linter.unusedVariables false
set_option linter.unusedSimpArgs false
def q22r5_0 : Oper := { dst := some 19, op := Go.Op.move (Go.Operand.tmp 0), type := 24, pos := "granules.go:71", after := #[], guard := none }
def q22r5_1 : Oper := { dst := some 20, op := Go.Op.nilCheck (Go.Operand.tmp 19), type := 0, pos := "granules.go:71", after := #[{ on := 0, ground := Go.Ground.data }], guard := none }
def q22r5_2 : Oper := { dst := some 21, op := Go.Op.fieldAddr 88 (Go.Operand.tmp 20) 1, type := 0, pos := "granules.go:71", after := #[{ on := 1, ground := Go.Ground.data }], guard := none }
def q22r5_3 : Oper := { dst := some 22, op := Go.Op.load 84 (Go.Operand.tmp 21), type := 84, pos := "granules.go:71", after := #[{ on := 2, ground := Go.Ground.data }], guard := none }
def q22r5_4 : Oper := { dst := some 23, op := Go.Op.move (Go.Operand.tmp 0), type := 24, pos := "granules.go:71", after := #[], guard := none }
def q22r5_5 : Oper := { dst := some 24, op := Go.Op.nilCheck (Go.Operand.tmp 23), type := 0, pos := "granules.go:71", after := #[{ on := 4, ground := Go.Ground.data }], guard := none }
def q22r5_6 : Oper := { dst := some 25, op := Go.Op.fieldAddr 88 (Go.Operand.tmp 24) 0, type := 0, pos := "granules.go:71", after := #[{ on := 5, ground := Go.Ground.data }], guard := none }
def q22r5_7 : Oper := { dst := some 26, op := Go.Op.load 82 (Go.Operand.tmp 25), type := 82, pos := "granules.go:71", after := #[{ on := 6, ground := Go.Ground.data }], guard := none }
def q22r5_8 : Oper := { dst := some 27, op := Go.Op.move (Go.Operand.tmp 1), type := 2, pos := "granules.go:71", after := #[], guard := none }
def q22r5_9 : Oper := { dst := some 28, op := Go.Op.call { callee := Go.Callee.value (Go.Operand.func 62), args := #[Go.Operand.tmp 26, Go.Operand.tmp 27], argTypes := #[82, 2] }, type := 2, pos := "granules.go:71", after := #[{ on := 7, ground := Go.Ground.data }, { on := 8, ground := Go.Ground.data }], guard := none }
def q22r5_10 : Oper := { dst := some 29, op := Go.Op.call { callee := Go.Callee.value (Go.Operand.func 61), args := #[Go.Operand.tmp 22, Go.Operand.tmp 28], argTypes := #[84, 2] }, type := 4, pos := "granules.go:71", after := #[{ on := 3, ground := Go.Ground.data }, { on := 9, ground := Go.Ground.data }, { on := 9, ground := Go.Ground.chain }], guard := none }
def q22r5_11 : Oper := { dst := some 4, op := Go.Op.assign (Go.Operand.tmp 29), type := 4, pos := "granules.go:71", after := #[{ on := 10, ground := Go.Ground.data }, { on := 10, ground := Go.Ground.chain }, { on := 0, ground := Go.Ground.phase }, { on := 1, ground := Go.Ground.phase }, { on := 2, ground := Go.Ground.phase }, { on := 3, ground := Go.Ground.phase }, { on := 4, ground := Go.Ground.phase }, { on := 5, ground := Go.Ground.phase }, { on := 6, ground := Go.Ground.phase }, { on := 7, ground := Go.Ground.phase }, { on := 8, ground := Go.Ground.phase }, { on := 9, ground := Go.Ground.phase }, { on := 10, ground := Go.Ground.phase }], guard := none }
def q22r5_12 : Oper := { dst := some 5, op := Go.Op.assign (Go.Operand.const (Go.Value.int Go.IntKind.i64 0)), type := 25, pos := "granules.go:71", after := #[{ on := 11, ground := Go.Ground.chain }, { on := 0, ground := Go.Ground.phase }, { on := 1, ground := Go.Ground.phase }, { on := 2, ground := Go.Ground.phase }, { on := 3, ground := Go.Ground.phase }, { on := 4, ground := Go.Ground.phase }, { on := 5, ground := Go.Ground.phase }, { on := 6, ground := Go.Ground.phase }, { on := 7, ground := Go.Ground.phase }, { on := 8, ground := Go.Ground.phase }, { on := 9, ground := Go.Ground.phase }, { on := 10, ground := Go.Ground.phase }, { on := 11, ground := Go.Ground.phase }], guard := none }
def o22r5 : Array Oper := #[q22r5_0, q22r5_1, q22r5_2, q22r5_3, q22r5_4, q22r5_5, q22r5_6, q22r5_7, q22r5_8, q22r5_9, q22r5_10, q22r5_11, q22r5_12]
def p22r5_13 : List (Nat × Oper) := []
def p22r5_12 : List (Nat × Oper) := (0, q22r5_12) :: p22r5_13
def p22r5_11 : List (Nat × Oper) := (0, q22r5_11) :: p22r5_12
def p22r5_10 : List (Nat × Oper) := (1, q22r5_10) :: p22r5_11
def p22r5_9 : List (Nat × Oper) := (1, q22r5_9) :: p22r5_10
def p22r5_8 : List (Nat × Oper) := (0, q22r5_8) :: p22r5_9
def p22r5_7 : List (Nat × Oper) := (0, q22r5_7) :: p22r5_8
def p22r5_6 : List (Nat × Oper) := (0, q22r5_6) :: p22r5_7
def p22r5_5 : List (Nat × Oper) := (0, q22r5_5) :: p22r5_6
def p22r5_4 : List (Nat × Oper) := (0, q22r5_4) :: p22r5_5
def p22r5_3 : List (Nat × Oper) := (0, q22r5_3) :: p22r5_4
def p22r5_2 : List (Nat × Oper) := (0, q22r5_2) :: p22r5_3
def p22r5_1 : List (Nat × Oper) := (0, q22r5_1) :: p22r5_2
def p22r5_0 : List (Nat × Oper) := (0, q22r5_0) :: p22r5_1
def c22r5 : List (Nat × Nat) := [(0, 0), (0, 1), (0, 2), (0, 3), (0, 4), (0, 5), (0, 6), (0, 7), (0, 8), (1, 9), (1, 10), (0, 11), (0, 12)]
theorem b22r5 : (Region.noSelect o22r5 && (c22r5.length == o22r5.size) && planB o22r5 [] c22r5 (Array.replicate o22r5.size false)) = true := by kernel_rfl
theorem d22r5 : (c22r5.map fun p => (p.1, o22r5[p.2]?)) = (p22r5_0.map fun p => (p.1, some p.2)) := by kernel_rfl
set_option maxRecDepth 100000 in
set_option maxHeartbeats 4000000 in
theorem mhas_bad (Q r sz gr : Nat) (ws : List Nat) (w : World) (h : Bm w Q r sz gr ws) (a : Int) (ha : a < 0 ∨ (sz : Int) ≤ a) :
    Calls Tryd.prog 22 #[ptr Q, .int .i64 a] w fun e w' => e = .returned (.tuple #[.bool false, .int .i64 4]) ∧ Kp (fun _ => False) w w' := by
  have HN := hid (none_some Q (sz : Int) (gr : Int) w (h.st.cell 0) (h.st.cell 1))
  rw [h.may] at HN
  have HH := hid h
  unfold ptr
  clear h
  by_cases h0 : a < 0
  · clear ha
    go_enter Tryd.func22, Tryd.ntmps22
    go_wp2_with (first | (go_at_call 44; refine HN.out.mono ?_; rintro _ w1 ⟨rfl, k⟩))
    go_ret2
    exact ⟨rfl, k⟩
  · have h1 : (sz : Int) ≤ a := by omega
    clear ha
    go_enter Tryd.func22, Tryd.ntmps22
    go_wp2_with (first | (go_at_call 44; refine HN.out.mono ?_; rintro _ w1 ⟨rfl, k⟩; have c0 := (HH.out.kp0 k).st.cell 0; simp at c0))
    go_ret2
    exact ⟨rfl, k⟩
set_option maxRecDepth 100000 in
set_option maxHeartbeats 4000000 in
theorem mhas_ok (Q r sz gr : Nat) (ws : List Nat) (w : World) (h : Bm w Q r sz gr ws) (a : Nat) (ha : a < sz) :
    Calls Tryd.prog 22 #[ptr Q, .int .i64 a] w fun e w' => e = .returned (.tuple #[.bool (dty ws (a / 2 ^ gr)), .int .i64 0]) ∧ Kp (fun _ => False) w w' := by
  have HN := hid (none_some Q (sz : Int) (gr : Int) w (h.st.cell 0) (h.st.cell 1))
  rw [h.may] at HN
  have HH := hid h
  have hgb := h.grb
  obtain ⟨g, hg⟩ : ∃ g, a / 2 ^ gr = g := ⟨_, rfl⟩
  have hg64 : g < 64 * ws.length := by
    have h1 : a / 2 ^ gr < frm gr sz := by
      unfold frm
      have hp := Nat.two_pow_pos gr
      have e : (a + 2 ^ gr) / 2 ^ gr = a / 2 ^ gr + 1 := Nat.add_div_right a hp
      have h2 : (a + 2 ^ gr) / 2 ^ gr ≤ (sz + 2 ^ gr - 1) / 2 ^ gr := Nat.div_le_div_right (by omega)
      omega
    have h3 := nwd_fact (frm gr sz)
    have h4 := h.ln
    omega
  have HOF0 := fun U => of_any sz gr a (by omega) U
  rw [hg] at HOF0 ⊢
  have h0 : ¬ (a : Int) < 0 := by omega
  have h1 : ¬ (sz : Int) ≤ (a : Int) := by omega
  unfold ptr
  clear hg
  go_enter Tryd.func22, Tryd.ntmps22
  go_wp2_with (first | (go_at_call 44; refine HN.out.mono ?_; rintro _ w1 ⟨rfl, k⟩; have c0 := (HH.out.kp0 k).st.cell 0; simp at c0))
  have KX := hid k
  have HB := hid (HH.out.kp0 k)
  obtain ⟨X0, hX0⟩ : ∃ X, w1 = X := ⟨_, rfl⟩
  rw [hX0] at KX HB
  rw [hX0]
  have C0 : Hid (X0.cell? ⟨Q, 0, none⟩ = some (.int .i64 sz)) := HB.out.st.cell 0
  have C1 : Hid (X0.cell? ⟨Q, 1, none⟩ = some (.int .i64 gr)) := HB.out.st.cell 1
  have C2 : Hid (X0.cell? ⟨Q, 2, none⟩ = some (.slice (some ⟨r, 0, none⟩) (nwd (frm gr sz)) (nwd (frm gr sz)))) := HB.out.st.cell 2
  have K00 : Hid (Kp (fun _ => False) X0 X0.drew) := (Kp.refl _ _).drew
  have HOF : Hid (∀ U, Kp (fun _ => False) X0 U → Calls Tryd.prog 62 #[.agg #[.int .i64 sz, .int .i64 gr], .int .i64 a] U fun e w' => e = .returned (.int .i64 (g : Int)) ∧ Kp (fun _ => False) U w') := fun U _ => HOF0 U
  have HHA : Hid (∀ U, Kp (fun _ => False) X0 U → Calls Tryd.prog 61 #[.slice (some ⟨r, 0, none⟩) (nwd (frm gr sz)) (nwd (frm gr sz)), .int .i64 g] U fun e w' => e = .returned (.bool (dty ws g)) ∧ w' = U) := fun U kU => has_any r _ _ g ws U h.ln.symm h.W hg64 h.lb.1 (HB.out.rw.kp kU (fun e => e))
  clear HN k c0 hX0 HOF0 h
  change (Code.region 5 o22r5 true).wp _ _ _ _
  refine wp_region_plan (fun w' => Kp (fun _ => False) X0 w') [] c22r5 p22r5_0 hmix b22r5 d22r5 (fun _ _ d _ _ h => by cases d <;> exact h) ?_
  refine plan_take (o := q22r5_0) (r := p22r5_1) ?ve0 K00.out (by rfl) ?hye0 ?reste0
  case hye0 => (intro w hSw; (try dsimp only at hSw); have c0 := hSw.cell C0.out; have c1 := hSw.cell C1.out; have c2 := hSw.cell C2.out; simp only [q22r5_0]; go_simp; try with_reducible rfl)
  try simp only [q22r5_0, Act.put, List.setIfInBounds_toArray, List.set_cons_zero, List.set_cons_succ]
  refine plan_take (o := q22r5_1) (r := p22r5_2) ?ve1 K00.out (by rfl) ?hye1 ?reste1
  case hye1 => (intro w hSw; (try dsimp only at hSw); have c0 := hSw.cell C0.out; have c1 := hSw.cell C1.out; have c2 := hSw.cell C2.out; simp only [q22r5_1]; go_simp; try with_reducible rfl)
  try simp only [q22r5_1, Act.put, List.setIfInBounds_toArray, List.set_cons_zero, List.set_cons_succ]
  refine plan_take (o := q22r5_2) (r := p22r5_3) ?ve2 K00.out (by rfl) ?hye2 ?reste2
  case hye2 => (intro w hSw; (try dsimp only at hSw); have c0 := hSw.cell C0.out; have c1 := hSw.cell C1.out; have c2 := hSw.cell C2.out; simp only [q22r5_2]; go_simp; try with_reducible rfl)
  try simp only [q22r5_2, Act.put, List.setIfInBounds_toArray, List.set_cons_zero, List.set_cons_succ]
  refine plan_take (o := q22r5_3) (r := p22r5_4) ?ve3 K00.out (by rfl) ?hye3 ?reste3
  case hye3 => (intro w hSw; (try dsimp only at hSw); have c0 := hSw.cell C0.out; have c1 := hSw.cell C1.out; have c2 := hSw.cell C2.out; simp only [q22r5_3]; go_simp; try with_reducible rfl)
  try simp only [q22r5_3, Act.put, List.setIfInBounds_toArray, List.set_cons_zero, List.set_cons_succ]
  refine plan_take (o := q22r5_4) (r := p22r5_5) ?ve4 K00.out (by rfl) ?hye4 ?reste4
  case hye4 => (intro w hSw; (try dsimp only at hSw); have c0 := hSw.cell C0.out; have c1 := hSw.cell C1.out; have c2 := hSw.cell C2.out; simp only [q22r5_4]; go_simp; try with_reducible rfl)
  try simp only [q22r5_4, Act.put, List.setIfInBounds_toArray, List.set_cons_zero, List.set_cons_succ]
  refine plan_take (o := q22r5_5) (r := p22r5_6) ?ve5 K00.out (by rfl) ?hye5 ?reste5
  case hye5 => (intro w hSw; (try dsimp only at hSw); have c0 := hSw.cell C0.out; have c1 := hSw.cell C1.out; have c2 := hSw.cell C2.out; simp only [q22r5_5]; go_simp; try with_reducible rfl)
  try simp only [q22r5_5, Act.put, List.setIfInBounds_toArray, List.set_cons_zero, List.set_cons_succ]
  refine plan_take (o := q22r5_6) (r := p22r5_7) ?ve6 K00.out (by rfl) ?hye6 ?reste6
  case hye6 => (intro w hSw; (try dsimp only at hSw); have c0 := hSw.cell C0.out; have c1 := hSw.cell C1.out; have c2 := hSw.cell C2.out; simp only [q22r5_6]; go_simp; try with_reducible rfl)
  try simp only [q22r5_6, Act.put, List.setIfInBounds_toArray, List.set_cons_zero, List.set_cons_succ]
  refine plan_take (o := q22r5_7) (r := p22r5_8) ?ve7 K00.out (by rfl) ?hye7 ?reste7
  case hye7 => (intro w hSw; (try dsimp only at hSw); have c0 := hSw.cell C0.out; have c1 := hSw.cell C1.out; have c2 := hSw.cell C2.out; simp only [q22r5_7]; go_simp; try with_reducible rfl)
  try simp only [q22r5_7, Act.put, List.setIfInBounds_toArray, List.set_cons_zero, List.set_cons_succ]
  refine plan_take (o := q22r5_8) (r := p22r5_9) ?ve8 K00.out (by rfl) ?hye8 ?reste8
  case hye8 => (intro w hSw; (try dsimp only at hSw); have c0 := hSw.cell C0.out; have c1 := hSw.cell C1.out; have c2 := hSw.cell C2.out; simp only [q22r5_8]; go_simp; try with_reducible rfl)
  try simp only [q22r5_8, Act.put, List.setIfInBounds_toArray, List.set_cons_zero, List.set_cons_succ]
  refine plan_act (o := q22r5_9) (r := p22r5_10) (fun K hK => ?_)
  simp only [q22r5_9]
  refine ite_pos2 (by rfl) ?_
  go_simp
  refine (HOF.out _ K00.out).mono ?_
  rintro e w5 ⟨rfl, k5⟩
  have K5 : Hid (Kp (fun _ => False) X0 w5) := (K00.out).trans k5 (fun _ _ h => h)
  clear k5
  go_wp2_with fail
  refine hK.out _ _ (fun _ => K5.out) ?_
  clear hK K
  try simp only [q22r5_9, Act.put, List.setIfInBounds_toArray, List.set_cons_zero, List.set_cons_succ]
  refine plan_act (o := q22r5_10) (r := p22r5_11) (fun K hK => ?_)
  simp only [q22r5_10]
  refine ite_pos2 (by rfl) ?_
  go_simp
  refine (HHA.out _ K5.out).mono ?_
  rintro e w6 ⟨rfl, h6⟩
  subst h6
  have K6 := K5
  go_wp2_with fail
  refine hK.out _ _ (fun _ => K6.out) ?_
  clear hK K
  try simp only [q22r5_10, Act.put, List.setIfInBounds_toArray, List.set_cons_zero, List.set_cons_succ]
  refine plan_take (o := q22r5_11) (r := p22r5_12) ?ve11 K6.out (by rfl) ?hye11 ?reste11
  case hye11 => (intro w hSw; (try dsimp only at hSw); have c0 := hSw.cell C0.out; have c1 := hSw.cell C1.out; have c2 := hSw.cell C2.out; simp only [q22r5_11]; go_simp; try with_reducible rfl)
  try simp only [q22r5_11, Act.put, List.setIfInBounds_toArray, List.set_cons_zero, List.set_cons_succ]
  refine plan_take (o := q22r5_12) (r := p22r5_13) ?ve12 K6.out (by rfl) ?hye12 ?reste12
  case hye12 => (intro w hSw; (try dsimp only at hSw); have c0 := hSw.cell C0.out; have c1 := hSw.cell C1.out; have c2 := hSw.cell C2.out; simp only [q22r5_12]; go_simp; try with_reducible rfl)
  try simp only [q22r5_12, Act.put, List.setIfInBounds_toArray, List.set_cons_zero, List.set_cons_succ]
  refine plan_done ?_
  go_wp2_with fail
  go_ret2
  exact ⟨rfl, KX.out.trans K6.out (fun _ _ h => h)⟩
end Go.Proofs.YteenlifdamhffaaDoor
