/- granules: which granules are touched, covered; Set, Reset, Has. -/
import Derived.Test.YteenlifdamhffaaDoorNg
namespace Go.Proofs.YteenlifdamhffaaDoor
open Go.RowKit
set_option linter.unusedVariables false
set_option linter.unusedSimpArgs false
/-- The granules in which one of n bytes lies. -/
def tch (gr a n : Nat) : Nat × Nat := if n = 0 then (0, 0) else (a / 2 ^ gr, frm gr (a + n))
/-- The granules all of whose bytes are among n. -/
def cov (sz gr a n : Nat) : Nat × Nat := if a + n = sz then (frm gr a, frm gr sz) else (frm gr a, (a + n) / 2 ^ gr)
def q60r3_0 : Oper := { dst := some 10, op := Go.Op.load 82 (Go.Operand.tmp 3), type := 82, pos := "layout.go:37", after := #[], guard := none }
def q60r3_1 : Oper := { dst := some 11, op := Go.Op.move (Go.Operand.tmp 1), type := 2, pos := "layout.go:37", after := #[], guard := none }
def q60r3_2 : Oper := { dst := some 12, op := Go.Op.call { callee := Go.Callee.value (Go.Operand.func 62), args := #[Go.Operand.tmp 10, Go.Operand.tmp 11], argTypes := #[82, 2] }, type := 2, pos := "layout.go:37", after := #[{ on := 0, ground := Go.Ground.data }, { on := 1, ground := Go.Ground.data }], guard := none }
def q60r3_3 : Oper := { dst := some 13, op := Go.Op.load 82 (Go.Operand.tmp 3), type := 82, pos := "layout.go:37", after := #[], guard := none }
def q60r3_4 : Oper := { dst := some 14, op := Go.Op.move (Go.Operand.tmp 1), type := 2, pos := "layout.go:37", after := #[], guard := none }
def q60r3_5 : Oper := { dst := some 15, op := Go.Op.move (Go.Operand.tmp 2), type := 2, pos := "layout.go:37", after := #[], guard := none }
def q60r3_6 : Oper := { dst := some 16, op := Go.Op.binOp Go.BinOp.add 2 (Go.Operand.tmp 14) (Go.Operand.tmp 15) 2, type := 2, pos := "layout.go:37", after := #[{ on := 4, ground := Go.Ground.data }, { on := 5, ground := Go.Ground.data }], guard := none }
def q60r3_7 : Oper := { dst := some 17, op := Go.Op.call { callee := Go.Callee.value (Go.Operand.func 73), args := #[Go.Operand.tmp 13, Go.Operand.tmp 16], argTypes := #[82, 2] }, type := 2, pos := "layout.go:37", after := #[{ on := 3, ground := Go.Ground.data }, { on := 6, ground := Go.Ground.data }, { on := 2, ground := Go.Ground.chain }], guard := none }
def q60r3_8 : Oper := { dst := some 6, op := Go.Op.assign (Go.Operand.tmp 12), type := 2, pos := "layout.go:37", after := #[{ on := 2, ground := Go.Ground.data }, { on := 7, ground := Go.Ground.chain }, { on := 0, ground := Go.Ground.phase }, { on := 1, ground := Go.Ground.phase }, { on := 2, ground := Go.Ground.phase }, { on := 3, ground := Go.Ground.textOnly Go.Departure.lateStores }, { on := 4, ground := Go.Ground.textOnly Go.Departure.lateStores }, { on := 5, ground := Go.Ground.textOnly Go.Departure.lateStores }, { on := 6, ground := Go.Ground.textOnly Go.Departure.lateStores }, { on := 7, ground := Go.Ground.textOnly Go.Departure.lateStoresUnsure }], guard := none }
def q60r3_9 : Oper := { dst := some 7, op := Go.Op.assign (Go.Operand.tmp 17), type := 2, pos := "layout.go:37", after := #[{ on := 7, ground := Go.Ground.data }, { on := 8, ground := Go.Ground.chain }, { on := 0, ground := Go.Ground.phase }, { on := 1, ground := Go.Ground.phase }, { on := 2, ground := Go.Ground.phase }, { on := 3, ground := Go.Ground.phase }, { on := 4, ground := Go.Ground.phase }, { on := 5, ground := Go.Ground.phase }, { on := 6, ground := Go.Ground.phase }, { on := 7, ground := Go.Ground.phase }, { on := 8, ground := Go.Ground.phase }], guard := none }
def o60r3 : Array Oper := #[q60r3_0, q60r3_1, q60r3_2, q60r3_3, q60r3_4, q60r3_5, q60r3_6, q60r3_7, q60r3_8, q60r3_9]
def p60r3_10 : List (Nat × Oper) := []
def p60r3_9 : List (Nat × Oper) := (0, q60r3_9) :: p60r3_10
def p60r3_8 : List (Nat × Oper) := (0, q60r3_8) :: p60r3_9
def p60r3_7 : List (Nat × Oper) := (1, q60r3_7) :: p60r3_8
def p60r3_6 : List (Nat × Oper) := (1, q60r3_2) :: p60r3_7
def p60r3_5 : List (Nat × Oper) := (0, q60r3_6) :: p60r3_6
def p60r3_4 : List (Nat × Oper) := (0, q60r3_5) :: p60r3_5
def p60r3_3 : List (Nat × Oper) := (0, q60r3_4) :: p60r3_4
def p60r3_2 : List (Nat × Oper) := (0, q60r3_3) :: p60r3_3
def p60r3_1 : List (Nat × Oper) := (0, q60r3_1) :: p60r3_2
def p60r3_0 : List (Nat × Oper) := (0, q60r3_0) :: p60r3_1
def c60r3 : List (Nat × Nat) := [(0, 0), (0, 1), (0, 3), (0, 4), (0, 5), (0, 6), (1, 2), (1, 7), (0, 8), (0, 9)]
theorem b60r3 : (Region.noSelect o60r3 && (c60r3.length == o60r3.size) && planB o60r3 [] c60r3 (Array.replicate o60r3.size false)) = true := by kernel_rfl
theorem d60r3 : (c60r3.map fun p => (p.1, o60r3[p.2]?)) = (p60r3_0.map fun p => (p.1, some p.2)) := by kernel_rfl
def q67r2_0 : Oper := { dst := some 14, op := Go.Op.load 82 (Go.Operand.tmp 3), type := 82, pos := "layout.go:44", after := #[], guard := none }
def q67r2_1 : Oper := { dst := some 15, op := Go.Op.move (Go.Operand.tmp 1), type := 2, pos := "layout.go:44", after := #[], guard := none }
def q67r2_2 : Oper := { dst := some 16, op := Go.Op.call { callee := Go.Callee.value (Go.Operand.func 73), args := #[Go.Operand.tmp 14, Go.Operand.tmp 15], argTypes := #[82, 2] }, type := 2, pos := "layout.go:44", after := #[{ on := 0, ground := Go.Ground.data }, { on := 1, ground := Go.Ground.data }], guard := none }
def q67r2_3 : Oper := { dst := some 17, op := Go.Op.load 82 (Go.Operand.tmp 3), type := 82, pos := "layout.go:44", after := #[], guard := none }
def q67r2_4 : Oper := { dst := some 18, op := Go.Op.call { callee := Go.Callee.value (Go.Operand.func 37), args := #[Go.Operand.tmp 17], argTypes := #[82] }, type := 2, pos := "layout.go:44", after := #[{ on := 3, ground := Go.Ground.data }, { on := 2, ground := Go.Ground.chain }], guard := none }
def q67r2_5 : Oper := { dst := some 6, op := Go.Op.assign (Go.Operand.tmp 16), type := 2, pos := "layout.go:44", after := #[{ on := 2, ground := Go.Ground.data }, { on := 4, ground := Go.Ground.chain }, { on := 0, ground := Go.Ground.phase }, { on := 1, ground := Go.Ground.phase }, { on := 2, ground := Go.Ground.phase }, { on := 3, ground := Go.Ground.textOnly Go.Departure.lateStores }, { on := 4, ground := Go.Ground.textOnly Go.Departure.lateStoresUnsure }], guard := none }
def q67r2_6 : Oper := { dst := some 7, op := Go.Op.assign (Go.Operand.tmp 18), type := 2, pos := "layout.go:44", after := #[{ on := 4, ground := Go.Ground.data }, { on := 5, ground := Go.Ground.chain }, { on := 0, ground := Go.Ground.phase }, { on := 1, ground := Go.Ground.phase }, { on := 2, ground := Go.Ground.phase }, { on := 3, ground := Go.Ground.phase }, { on := 4, ground := Go.Ground.phase }, { on := 5, ground := Go.Ground.phase }], guard := none }
def o67r2 : Array Oper := #[q67r2_0, q67r2_1, q67r2_2, q67r2_3, q67r2_4, q67r2_5, q67r2_6]
def p67r2_7 : List (Nat × Oper) := []
def p67r2_6 : List (Nat × Oper) := (0, q67r2_6) :: p67r2_7
def p67r2_5 : List (Nat × Oper) := (0, q67r2_5) :: p67r2_6
def p67r2_4 : List (Nat × Oper) := (1, q67r2_4) :: p67r2_5
def p67r2_3 : List (Nat × Oper) := (1, q67r2_2) :: p67r2_4
def p67r2_2 : List (Nat × Oper) := (0, q67r2_3) :: p67r2_3
def p67r2_1 : List (Nat × Oper) := (0, q67r2_1) :: p67r2_2
def p67r2_0 : List (Nat × Oper) := (0, q67r2_0) :: p67r2_1
def c67r2 : List (Nat × Nat) := [(0, 0), (0, 1), (0, 3), (1, 2), (1, 4), (0, 5), (0, 6)]
theorem b67r2 : (Region.noSelect o67r2 && (c67r2.length == o67r2.size) && planB o67r2 [] c67r2 (Array.replicate o67r2.size false)) = true := by kernel_rfl
theorem d67r2 : (c67r2.map fun p => (p.1, o67r2[p.2]?)) = (p67r2_0.map fun p => (p.1, some p.2)) := by kernel_rfl
def q67r3_0 : Oper := { dst := some 19, op := Go.Op.load 82 (Go.Operand.tmp 3), type := 82, pos := "layout.go:46", after := #[], guard := none }
def q67r3_1 : Oper := { dst := some 20, op := Go.Op.move (Go.Operand.tmp 1), type := 2, pos := "layout.go:46", after := #[], guard := none }
def q67r3_2 : Oper := { dst := some 21, op := Go.Op.call { callee := Go.Callee.value (Go.Operand.func 73), args := #[Go.Operand.tmp 19, Go.Operand.tmp 20], argTypes := #[82, 2] }, type := 2, pos := "layout.go:46", after := #[{ on := 0, ground := Go.Ground.data }, { on := 1, ground := Go.Ground.data }], guard := none }
def q67r3_3 : Oper := { dst := some 22, op := Go.Op.load 82 (Go.Operand.tmp 3), type := 82, pos := "layout.go:46", after := #[], guard := none }
def q67r3_4 : Oper := { dst := some 23, op := Go.Op.move (Go.Operand.tmp 1), type := 2, pos := "layout.go:46", after := #[], guard := none }
def q67r3_5 : Oper := { dst := some 24, op := Go.Op.move (Go.Operand.tmp 2), type := 2, pos := "layout.go:46", after := #[], guard := none }
def q67r3_6 : Oper := { dst := some 25, op := Go.Op.binOp Go.BinOp.add 2 (Go.Operand.tmp 23) (Go.Operand.tmp 24) 2, type := 2, pos := "layout.go:46", after := #[{ on := 4, ground := Go.Ground.data }, { on := 5, ground := Go.Ground.data }], guard := none }
def q67r3_7 : Oper := { dst := some 26, op := Go.Op.call { callee := Go.Callee.value (Go.Operand.func 62), args := #[Go.Operand.tmp 22, Go.Operand.tmp 25], argTypes := #[82, 2] }, type := 2, pos := "layout.go:46", after := #[{ on := 3, ground := Go.Ground.data }, { on := 6, ground := Go.Ground.data }, { on := 2, ground := Go.Ground.chain }], guard := none }
def q67r3_8 : Oper := { dst := some 6, op := Go.Op.assign (Go.Operand.tmp 21), type := 2, pos := "layout.go:46", after := #[{ on := 2, ground := Go.Ground.data }, { on := 7, ground := Go.Ground.chain }, { on := 0, ground := Go.Ground.phase }, { on := 1, ground := Go.Ground.phase }, { on := 2, ground := Go.Ground.phase }, { on := 3, ground := Go.Ground.textOnly Go.Departure.lateStores }, { on := 4, ground := Go.Ground.textOnly Go.Departure.lateStores }, { on := 5, ground := Go.Ground.textOnly Go.Departure.lateStores }, { on := 6, ground := Go.Ground.textOnly Go.Departure.lateStores }, { on := 7, ground := Go.Ground.textOnly Go.Departure.lateStoresUnsure }], guard := none }
def q67r3_9 : Oper := { dst := some 7, op := Go.Op.assign (Go.Operand.tmp 26), type := 2, pos := "layout.go:46", after := #[{ on := 7, ground := Go.Ground.data }, { on := 8, ground := Go.Ground.chain }, { on := 0, ground := Go.Ground.phase }, { on := 1, ground := Go.Ground.phase }, { on := 2, ground := Go.Ground.phase }, { on := 3, ground := Go.Ground.phase }, { on := 4, ground := Go.Ground.phase }, { on := 5, ground := Go.Ground.phase }, { on := 6, ground := Go.Ground.phase }, { on := 7, ground := Go.Ground.phase }, { on := 8, ground := Go.Ground.phase }], guard := none }
def o67r3 : Array Oper := #[q67r3_0, q67r3_1, q67r3_2, q67r3_3, q67r3_4, q67r3_5, q67r3_6, q67r3_7, q67r3_8, q67r3_9]
def p67r3_10 : List (Nat × Oper) := []
def p67r3_9 : List (Nat × Oper) := (0, q67r3_9) :: p67r3_10
def p67r3_8 : List (Nat × Oper) := (0, q67r3_8) :: p67r3_9
def p67r3_7 : List (Nat × Oper) := (1, q67r3_7) :: p67r3_8
def p67r3_6 : List (Nat × Oper) := (1, q67r3_2) :: p67r3_7
def p67r3_5 : List (Nat × Oper) := (0, q67r3_6) :: p67r3_6
def p67r3_4 : List (Nat × Oper) := (0, q67r3_5) :: p67r3_5
def p67r3_3 : List (Nat × Oper) := (0, q67r3_4) :: p67r3_4
def p67r3_2 : List (Nat × Oper) := (0, q67r3_3) :: p67r3_3
def p67r3_1 : List (Nat × Oper) := (0, q67r3_1) :: p67r3_2
def p67r3_0 : List (Nat × Oper) := (0, q67r3_0) :: p67r3_1
def c67r3 : List (Nat × Nat) := [(0, 0), (0, 1), (0, 3), (0, 4), (0, 5), (0, 6), (1, 2), (1, 7), (0, 8), (0, 9)]
theorem b67r3 : (Region.noSelect o67r3 && (c67r3.length == o67r3.size) && planB o67r3 [] c67r3 (Array.replicate o67r3.size false)) = true := by kernel_rfl
theorem d67r3 : (c67r3.map fun p => (p.1, o67r3[p.2]?)) = (p67r3_0.map fun p => (p.1, some p.2)) := by kernel_rfl
set_option maxRecDepth 100000 in
set_option maxHeartbeats 4000000 in
theorem touched_any (sz gr a n : Nat) (hg : gr ≤ 26) (ha : a + n ≤ 4611686018427387904) (w : World) : Calls Tryd.prog 60 #[.agg #[.int .i64 sz, .int .i64 gr], .int .i64 a, .int .i64 n] w fun e w' => e = .returned (.tuple #[.int .i64 (tch gr a n).1, .int .i64 (tch gr a n).2]) ∧ Kp (fun _ => False) w w' := by
  have s1 := St.new 82 w #[.int .i64 sz, .int .i64 gr]
  have k1 : Kp (fun _ => False) w (w.alloc (.cells #[.int .i64 sz, .int .i64 gr] 82)) := (Kp.refl _ _).alloc _
  obtain ⟨X0, hX0⟩ : ∃ X, w.alloc (.cells #[.int .i64 sz, .int .i64 gr] 82) = X := ⟨_, rfl⟩
  obtain ⟨B, hB⟩ : ∃ B, w.heap.size = B := ⟨_, rfl⟩
  rw [hX0, hB] at s1
  rw [hX0] at k1
  have KX := hid k1
  have C0 : Hid (X0.cell? ⟨B, 0, none⟩ = some (.int .i64 sz)) := s1.cell 0
  have C1 : Hid (X0.cell? ⟨B, 1, none⟩ = some (.int .i64 gr)) := s1.cell 1
  have K00 : Hid (Kp (fun _ => False) X0 X0.drew) := (Kp.refl _ _).drew
  have HOF : Hid (∀ U, Kp (fun _ => False) X0 U → Calls Tryd.prog 62 #[.agg #[.int .i64 sz, .int .i64 gr], .int .i64 a] U fun e w' => e = .returned (.int .i64 ((a / 2 ^ gr : Nat) : Int)) ∧ Kp (fun _ => False) U w') := fun U _ => of_any sz gr a hg U
  have HFR : Hid (∀ U, Kp (fun _ => False) X0 U → Calls Tryd.prog 73 #[.agg #[.int .i64 sz, .int .i64 gr], .int .i64 ((a : Int) + (n : Int))] U fun e w' => e = .returned (.int .i64 (frm gr (a + n))) ∧ Kp (fun _ => False) U w') := fun U _ => by
    have h := frm_any sz gr (a + n) hg ha U
    rw [Int.natCast_add] at h
    exact h
  have hwr : IntKind.i64.wrap ((a : Int) + (n : Int)) = (a : Int) + (n : Int) := by
    simp only [IntKind.wrap, IntKind.bits, IntKind.signed]
    simp
    omega
  unfold tch
  by_cases hn : n = 0
  · rw [if_pos hn]
    clear HOF HFR s1 k1
    go_enter Tryd.func60, Tryd.ntmps60
    go_wp2_with fail
    go_ret2
    exact ⟨rfl, KX.out⟩
  rw [if_neg hn]
  obtain ⟨t1, ht1⟩ : ∃ t, a / 2 ^ gr = t := ⟨_, rfl⟩
  obtain ⟨t2, ht2⟩ : ∃ t, frm gr (a + n) = t := ⟨_, rfl⟩
  rw [ht1] at HOF ⊢
  rw [ht2] at HFR ⊢
  have hn' : ¬ (n : Int) = 0 := by omega
  clear s1 k1 ht1 ht2
  go_enter Tryd.func60, Tryd.ntmps60
  go_wp2_with fail
  clear hX0 hB
  change (Code.region 3 o60r3 true).wp _ _ _ _
  refine wp_region_plan (fun w' => Kp (fun _ => False) X0 w') [] c60r3 p60r3_0 hmix b60r3 d60r3 (fun _ _ d _ _ h => by cases d <;> exact h) ?_
  refine plan_take (o := q60r3_0) (r := p60r3_1) ?va0 K00.out (by rfl) ?hya0 ?resta0
  case hya0 => (intro w hSw; (try dsimp only at hSw); have c0 := hSw.cell C0.out; have c1 := hSw.cell C1.out; simp only [q60r3_0]; go_simp; try with_reducible rfl)
  try simp only [q60r3_0, Act.put, List.setIfInBounds_toArray, List.set_cons_zero, List.set_cons_succ]
  refine plan_take (o := q60r3_1) (r := p60r3_2) ?va1 K00.out (by rfl) ?hya1 ?resta1
  case hya1 => (intro w hSw; (try dsimp only at hSw); have c0 := hSw.cell C0.out; have c1 := hSw.cell C1.out; simp only [q60r3_1]; go_simp; try with_reducible rfl)
  try simp only [q60r3_1, Act.put, List.setIfInBounds_toArray, List.set_cons_zero, List.set_cons_succ]
  refine plan_take (o := q60r3_3) (r := p60r3_3) ?va3 K00.out (by rfl) ?hya3 ?resta3
  case hya3 => (intro w hSw; (try dsimp only at hSw); have c0 := hSw.cell C0.out; have c1 := hSw.cell C1.out; simp only [q60r3_3]; go_simp; try with_reducible rfl)
  try simp only [q60r3_3, Act.put, List.setIfInBounds_toArray, List.set_cons_zero, List.set_cons_succ]
  refine plan_take (o := q60r3_4) (r := p60r3_4) ?va4 K00.out (by rfl) ?hya4 ?resta4
  case hya4 => (intro w hSw; (try dsimp only at hSw); have c0 := hSw.cell C0.out; have c1 := hSw.cell C1.out; simp only [q60r3_4]; go_simp; try with_reducible rfl)
  try simp only [q60r3_4, Act.put, List.setIfInBounds_toArray, List.set_cons_zero, List.set_cons_succ]
  refine plan_take (o := q60r3_5) (r := p60r3_5) ?va5 K00.out (by rfl) ?hya5 ?resta5
  case hya5 => (intro w hSw; (try dsimp only at hSw); have c0 := hSw.cell C0.out; have c1 := hSw.cell C1.out; simp only [q60r3_5]; go_simp; try with_reducible rfl)
  try simp only [q60r3_5, Act.put, List.setIfInBounds_toArray, List.set_cons_zero, List.set_cons_succ]
  refine plan_take (o := q60r3_6) (r := p60r3_6) ?va6 K00.out (by rfl) ?hya6 ?resta6
  case hya6 => (intro w hSw; (try dsimp only at hSw); have c0 := hSw.cell C0.out; have c1 := hSw.cell C1.out; simp only [q60r3_6]; go_simp; try with_reducible rfl)
  try simp only [q60r3_6, Act.put, List.setIfInBounds_toArray, List.set_cons_zero, List.set_cons_succ]
  refine plan_act (o := q60r3_2) (r := p60r3_7) (fun K hK => ?_)
  simp only [q60r3_2]
  refine ite_pos2 (by rfl) ?_
  go_simp
  refine (HOF.out _ K00.out).mono ?_
  rintro e w5 ⟨rfl, k5⟩
  have K5 : Hid (Kp (fun _ => False) X0 w5) := (K00.out).trans k5 (fun _ _ h => h)
  clear k5
  go_wp2_with fail
  refine hK.out _ _ (fun _ => K5.out) ?_
  clear hK K
  try simp only [q60r3_2, Act.put, List.setIfInBounds_toArray, List.set_cons_zero, List.set_cons_succ]
  refine plan_act (o := q60r3_7) (r := p60r3_8) (fun K hK => ?_)
  simp only [q60r3_7]
  refine ite_pos2 (by rfl) ?_
  go_simp
  refine (HFR.out _ K5.out).mono ?_
  rintro e w6 ⟨rfl, k6⟩
  have K6 : Hid (Kp (fun _ => False) X0 w6) := (K5.out).trans k6 (fun _ _ h => h)
  clear k6
  go_wp2_with fail
  refine hK.out _ _ (fun _ => K6.out) ?_
  clear hK K
  try simp only [q60r3_7, Act.put, List.setIfInBounds_toArray, List.set_cons_zero, List.set_cons_succ]
  refine plan_take (o := q60r3_8) (r := p60r3_9) ?va8 K6.out (by rfl) ?hya8 ?resta8
  case hya8 => (intro w hSw; (try dsimp only at hSw); have c0 := hSw.cell C0.out; have c1 := hSw.cell C1.out; simp only [q60r3_8]; go_simp; try with_reducible rfl)
  try simp only [q60r3_8, Act.put, List.setIfInBounds_toArray, List.set_cons_zero, List.set_cons_succ]
  refine plan_take (o := q60r3_9) (r := p60r3_10) ?va9 K6.out (by rfl) ?hya9 ?resta9
  case hya9 => (intro w hSw; (try dsimp only at hSw); have c0 := hSw.cell C0.out; have c1 := hSw.cell C1.out; simp only [q60r3_9]; go_simp; try with_reducible rfl)
  try simp only [q60r3_9, Act.put, List.setIfInBounds_toArray, List.set_cons_zero, List.set_cons_succ]
  refine plan_done ?_
  go_wp2_with fail
  go_ret2
  exact ⟨rfl, KX.out.trans K6.out (fun _ _ h => h)⟩
set_option maxRecDepth 100000 in
set_option maxHeartbeats 4000000 in
theorem covered_any (sz gr a n : Nat) (hg : gr ≤ 26) (hs : sz ≤ 67108864) (ha : a + n ≤ 4611686018427387904) (w : World) : Calls Tryd.prog 67 #[.agg #[.int .i64 sz, .int .i64 gr], .int .i64 a, .int .i64 n] w fun e w' => e = .returned (.tuple #[.int .i64 (cov sz gr a n).1, .int .i64 (cov sz gr a n).2]) ∧ Kp (fun _ => False) w w' := by
  have s1 := St.new 82 w #[.int .i64 sz, .int .i64 gr]
  have k1 : Kp (fun _ => False) w (w.alloc (.cells #[.int .i64 sz, .int .i64 gr] 82)) := (Kp.refl _ _).alloc _
  obtain ⟨X0, hX0⟩ : ∃ X, w.alloc (.cells #[.int .i64 sz, .int .i64 gr] 82) = X := ⟨_, rfl⟩
  obtain ⟨B, hB⟩ : ∃ B, w.heap.size = B := ⟨_, rfl⟩
  rw [hX0, hB] at s1
  rw [hX0] at k1
  have KX := hid k1
  have C0 : Hid (X0.cell? ⟨B, 0, none⟩ = some (.int .i64 sz)) := s1.cell 0
  have C1 : Hid (X0.cell? ⟨B, 1, none⟩ = some (.int .i64 gr)) := s1.cell 1
  have K00 : Hid (Kp (fun _ => False) X0 X0.drew) := (Kp.refl _ _).drew
  have HFA : Hid (∀ U, Kp (fun _ => False) X0 U → Calls Tryd.prog 73 #[.agg #[.int .i64 sz, .int .i64 gr], .int .i64 a] U fun e w' => e = .returned (.int .i64 (frm gr a)) ∧ Kp (fun _ => False) U w') := fun U _ => frm_any sz gr a hg (by omega) U
  have HMY : Hid (∀ U, Kp (fun _ => False) X0 U → Calls Tryd.prog 37 #[.agg #[.int .i64 sz, .int .i64 gr]] U fun e w' => e = .returned (.int .i64 (frm gr sz)) ∧ Kp (fun _ => False) U w') := fun U _ => many_any sz gr hg (by omega) U
  have HOF : Hid (∀ U, Kp (fun _ => False) X0 U → Calls Tryd.prog 62 #[.agg #[.int .i64 sz, .int .i64 gr], .int .i64 ((a : Int) + (n : Int))] U fun e w' => e = .returned (.int .i64 (((a + n) / 2 ^ gr : Nat) : Int)) ∧ Kp (fun _ => False) U w') := fun U _ => by
    have h := of_any sz gr (a + n) hg U
    rw [Int.natCast_add] at h
    exact h
  have hwr : IntKind.i64.wrap ((a : Int) + (n : Int)) = (a : Int) + (n : Int) := by
    simp only [IntKind.wrap, IntKind.bits, IntKind.signed]
    simp
    omega
  unfold cov
  obtain ⟨t0, ht0⟩ : ∃ t, frm gr a = t := ⟨_, rfl⟩
  obtain ⟨t1, ht1⟩ : ∃ t, (a + n) / 2 ^ gr = t := ⟨_, rfl⟩
  obtain ⟨t2, ht2⟩ : ∃ t, frm gr sz = t := ⟨_, rfl⟩
  rw [ht0] at HFA ⊢
  rw [ht1] at HOF ⊢
  rw [ht2] at HMY ⊢
  clear ht0 ht1 ht2
  by_cases he : a + n = sz
  · have he' : (a : Int) + (n : Int) = (sz : Int) := by omega
    rw [if_pos he]
    have c0 := C0.out
    clear s1 k1
    go_enter Tryd.func67, Tryd.ntmps67
    go_wp2_with fail
    clear hX0 hB c0
    change (Code.region 2 o67r2 true).wp _ _ _ _
    refine wp_region_plan (fun w' => Kp (fun _ => False) X0 w') [] c67r2 p67r2_0 hmix b67r2 d67r2 (fun _ _ d _ _ h => by cases d <;> exact h) ?_
    refine plan_take (o := q67r2_0) (r := p67r2_1) ?vb0 K00.out (by rfl) ?hyb0 ?restb0
    case hyb0 => (intro w hSw; (try dsimp only at hSw); have c0 := hSw.cell C0.out; have c1 := hSw.cell C1.out; simp only [q67r2_0]; go_simp; try with_reducible rfl)
    try simp only [q67r2_0, Act.put, List.setIfInBounds_toArray, List.set_cons_zero, List.set_cons_succ]
    refine plan_take (o := q67r2_1) (r := p67r2_2) ?vb1 K00.out (by rfl) ?hyb1 ?restb1
    case hyb1 => (intro w hSw; (try dsimp only at hSw); have c0 := hSw.cell C0.out; have c1 := hSw.cell C1.out; simp only [q67r2_1]; go_simp; try with_reducible rfl)
    try simp only [q67r2_1, Act.put, List.setIfInBounds_toArray, List.set_cons_zero, List.set_cons_succ]
    refine plan_take (o := q67r2_3) (r := p67r2_3) ?vb3 K00.out (by rfl) ?hyb3 ?restb3
    case hyb3 => (intro w hSw; (try dsimp only at hSw); have c0 := hSw.cell C0.out; have c1 := hSw.cell C1.out; simp only [q67r2_3]; go_simp; try with_reducible rfl)
    try simp only [q67r2_3, Act.put, List.setIfInBounds_toArray, List.set_cons_zero, List.set_cons_succ]
    refine plan_act (o := q67r2_2) (r := p67r2_4) (fun K hK => ?_)
    simp only [q67r2_2]
    refine ite_pos2 (by rfl) ?_
    go_simp
    refine (HFA.out _ K00.out).mono ?_
    rintro e w5 ⟨rfl, k5⟩
    have K5 : Hid (Kp (fun _ => False) X0 w5) := (K00.out).trans k5 (fun _ _ h => h)
    clear k5
    go_wp2_with fail
    refine hK.out _ _ (fun _ => K5.out) ?_
    clear hK K
    try simp only [q67r2_2, Act.put, List.setIfInBounds_toArray, List.set_cons_zero, List.set_cons_succ]
    refine plan_act (o := q67r2_4) (r := p67r2_5) (fun K hK => ?_)
    simp only [q67r2_4]
    refine ite_pos2 (by rfl) ?_
    go_simp
    refine (HMY.out _ K5.out).mono ?_
    rintro e w6 ⟨rfl, k6⟩
    have K6 : Hid (Kp (fun _ => False) X0 w6) := (K5.out).trans k6 (fun _ _ h => h)
    clear k6
    go_wp2_with fail
    refine hK.out _ _ (fun _ => K6.out) ?_
    clear hK K
    try simp only [q67r2_4, Act.put, List.setIfInBounds_toArray, List.set_cons_zero, List.set_cons_succ]
    refine plan_take (o := q67r2_5) (r := p67r2_6) ?vb5 K6.out (by rfl) ?hyb5 ?restb5
    case hyb5 => (intro w hSw; (try dsimp only at hSw); have c0 := hSw.cell C0.out; have c1 := hSw.cell C1.out; simp only [q67r2_5]; go_simp; try with_reducible rfl)
    try simp only [q67r2_5, Act.put, List.setIfInBounds_toArray, List.set_cons_zero, List.set_cons_succ]
    refine plan_take (o := q67r2_6) (r := p67r2_7) ?vb6 K6.out (by rfl) ?hyb6 ?restb6
    case hyb6 => (intro w hSw; (try dsimp only at hSw); have c0 := hSw.cell C0.out; have c1 := hSw.cell C1.out; simp only [q67r2_6]; go_simp; try with_reducible rfl)
    try simp only [q67r2_6, Act.put, List.setIfInBounds_toArray, List.set_cons_zero, List.set_cons_succ]
    refine plan_done ?_
    go_wp2_with fail
    go_ret2
    exact ⟨rfl, KX.out.trans K6.out (fun _ _ h => h)⟩
  · have he' : ¬ (a : Int) + (n : Int) = (sz : Int) := by omega
    rw [if_neg he]
    have c0 := C0.out
    clear s1 k1
    go_enter Tryd.func67, Tryd.ntmps67
    go_wp2_with fail
    clear hX0 hB c0
    change (Code.region 3 o67r3 true).wp _ _ _ _
    refine wp_region_plan (fun w' => Kp (fun _ => False) X0 w') [] c67r3 p67r3_0 hmix b67r3 d67r3 (fun _ _ d _ _ h => by cases d <;> exact h) ?_
    refine plan_take (o := q67r3_0) (r := p67r3_1) ?vc0 K00.out (by rfl) ?hyc0 ?restc0
    case hyc0 => (intro w hSw; (try dsimp only at hSw); have c0 := hSw.cell C0.out; have c1 := hSw.cell C1.out; simp only [q67r3_0]; go_simp; try with_reducible rfl)
    try simp only [q67r3_0, Act.put, List.setIfInBounds_toArray, List.set_cons_zero, List.set_cons_succ]
    refine plan_take (o := q67r3_1) (r := p67r3_2) ?vc1 K00.out (by rfl) ?hyc1 ?restc1
    case hyc1 => (intro w hSw; (try dsimp only at hSw); have c0 := hSw.cell C0.out; have c1 := hSw.cell C1.out; simp only [q67r3_1]; go_simp; try with_reducible rfl)
    try simp only [q67r3_1, Act.put, List.setIfInBounds_toArray, List.set_cons_zero, List.set_cons_succ]
    refine plan_take (o := q67r3_3) (r := p67r3_3) ?vc3 K00.out (by rfl) ?hyc3 ?restc3
    case hyc3 => (intro w hSw; (try dsimp only at hSw); have c0 := hSw.cell C0.out; have c1 := hSw.cell C1.out; simp only [q67r3_3]; go_simp; try with_reducible rfl)
    try simp only [q67r3_3, Act.put, List.setIfInBounds_toArray, List.set_cons_zero, List.set_cons_succ]
    refine plan_take (o := q67r3_4) (r := p67r3_4) ?vc4 K00.out (by rfl) ?hyc4 ?restc4
    case hyc4 => (intro w hSw; (try dsimp only at hSw); have c0 := hSw.cell C0.out; have c1 := hSw.cell C1.out; simp only [q67r3_4]; go_simp; try with_reducible rfl)
    try simp only [q67r3_4, Act.put, List.setIfInBounds_toArray, List.set_cons_zero, List.set_cons_succ]
    refine plan_take (o := q67r3_5) (r := p67r3_5) ?vc5 K00.out (by rfl) ?hyc5 ?restc5
    case hyc5 => (intro w hSw; (try dsimp only at hSw); have c0 := hSw.cell C0.out; have c1 := hSw.cell C1.out; simp only [q67r3_5]; go_simp; try with_reducible rfl)
    try simp only [q67r3_5, Act.put, List.setIfInBounds_toArray, List.set_cons_zero, List.set_cons_succ]
    refine plan_take (o := q67r3_6) (r := p67r3_6) ?vc6 K00.out (by rfl) ?hyc6 ?restc6
    case hyc6 => (intro w hSw; (try dsimp only at hSw); have c0 := hSw.cell C0.out; have c1 := hSw.cell C1.out; simp only [q67r3_6]; go_simp; try with_reducible rfl)
    try simp only [q67r3_6, Act.put, List.setIfInBounds_toArray, List.set_cons_zero, List.set_cons_succ]
    refine plan_act (o := q67r3_2) (r := p67r3_7) (fun K hK => ?_)
    simp only [q67r3_2]
    refine ite_pos2 (by rfl) ?_
    go_simp
    refine (HFA.out _ K00.out).mono ?_
    rintro e w5 ⟨rfl, k5⟩
    have K5 : Hid (Kp (fun _ => False) X0 w5) := (K00.out).trans k5 (fun _ _ h => h)
    clear k5
    go_wp2_with fail
    refine hK.out _ _ (fun _ => K5.out) ?_
    clear hK K
    try simp only [q67r3_2, Act.put, List.setIfInBounds_toArray, List.set_cons_zero, List.set_cons_succ]
    refine plan_act (o := q67r3_7) (r := p67r3_8) (fun K hK => ?_)
    simp only [q67r3_7]
    refine ite_pos2 (by rfl) ?_
    go_simp
    refine (HOF.out _ K5.out).mono ?_
    rintro e w6 ⟨rfl, k6⟩
    have K6 : Hid (Kp (fun _ => False) X0 w6) := (K5.out).trans k6 (fun _ _ h => h)
    clear k6
    go_wp2_with fail
    refine hK.out _ _ (fun _ => K6.out) ?_
    clear hK K
    try simp only [q67r3_7, Act.put, List.setIfInBounds_toArray, List.set_cons_zero, List.set_cons_succ]
    refine plan_take (o := q67r3_8) (r := p67r3_9) ?vc8 K6.out (by rfl) ?hyc8 ?restc8
    case hyc8 => (intro w hSw; (try dsimp only at hSw); have c0 := hSw.cell C0.out; have c1 := hSw.cell C1.out; simp only [q67r3_8]; go_simp; try with_reducible rfl)
    try simp only [q67r3_8, Act.put, List.setIfInBounds_toArray, List.set_cons_zero, List.set_cons_succ]
    refine plan_take (o := q67r3_9) (r := p67r3_10) ?vc9 K6.out (by rfl) ?hyc9 ?restc9
    case hyc9 => (intro w hSw; (try dsimp only at hSw); have c0 := hSw.cell C0.out; have c1 := hSw.cell C1.out; simp only [q67r3_9]; go_simp; try with_reducible rfl)
    try simp only [q67r3_9, Act.put, List.setIfInBounds_toArray, List.set_cons_zero, List.set_cons_succ]
    refine plan_done ?_
    go_wp2_with fail
    go_ret2
    exact ⟨rfl, KX.out.trans K6.out (fun _ _ h => h)⟩
theorem Bm.upd {w w' : World} {Q r sz gr : Nat} {ws ws' : List Nat} {op : Bool} {fr to : Nat} (h : Bm w Q r sz gr ws) (k : Kp (fun i => i = r) w w') (hl : ws'.length = ws.length) (hW : W64 ws') (hd : ∀ g, dty ws' g = app op (dty ws g) (decide (fr ≤ g ∧ g < to))) (hr : Rw .u64 102 w' r (up ws')) (ht : to ≤ frm gr sz) : Bm w' Q r sz gr ws' :=
  ⟨h.st.kp k h.ne, hr, hl.trans h.ln, hW, fun g hg => by
    rw [hd g, h.far g hg, decide_eq_false (by omega)]
    cases op <;> rfl, h.szb, h.grb⟩
theorem tch_le {gr a n sz : Nat} (h : a + n ≤ sz) : (tch gr a n).2 ≤ frm gr sz := by
  unfold tch
  split
  · exact Nat.zero_le _
  · exact frm_mono h
theorem div_frm (gr a : Nat) : a / 2 ^ gr ≤ frm gr a := by
  unfold frm
  exact Nat.div_le_div_right (by have := Nat.two_pow_pos gr; omega)
theorem cov_le {gr a n sz : Nat} (h : a + n ≤ sz) : (cov sz gr a n).2 ≤ frm gr sz := by
  unfold cov
  split
  · exact Nat.le_refl _
  · exact Nat.le_trans (div_frm _ _) (frm_mono h)
theorem tch_1 {gr a n : Nat} : (tch gr a n).1 ≤ a := by
  unfold tch
  split
  · exact Nat.zero_le _
  · exact Nat.div_le_self _ _
theorem cov_1 {sz gr a n : Nat} : (cov sz gr a n).1 ≤ a := by
  unfold cov
  split <;> exact frm_le _ _
/-- What Set and Reset leave. -/
def StP (op : Bool) (Q r sz gr : Nat) (ws : List Nat) (fr to : Nat) (w : World) (e : Ending) (w' : World) : Prop :=
  e = .returned (.tuple #[.int .i64 (cnt (cs op ws) fr (to - fr) : Nat), .int .i64 0]) ∧ Kp (fun i => i = r) w w' ∧ ∃ ws', Bm w' Q r sz gr ws' ∧ ∀ g, dty ws' g = app op (dty ws g) (decide (fr ≤ g ∧ g < to))
end Go.Proofs.YteenlifdamhffaaDoor
