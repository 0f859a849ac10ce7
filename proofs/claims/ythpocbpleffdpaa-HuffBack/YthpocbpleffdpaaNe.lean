/- huff.New of two symbols of one bit each. -/
import Derived.Test.YthpocbpleffdpaaBy
import Derived.Test.YthpocbpleffdpaaRp
import Derived.Test.YthpocbpleffdpaaLent
namespace Go.Proofs.Ythpocbpleffdpaa
open Go.RowKit
set_option linter.unusedVariables false
set_option linter.unusedSimpArgs false
theorem hmix : Try.prog.follows .mixedOrders = true := by kernel_rfl
theorem ite_pos2 {b : Bool} {a c : Prop} (h : b = true) (k : a) : (if b = true then a else c) := by rw [h, if_pos rfl]; exact k
set_option maxRecDepth 100000 in
set_option maxHeartbeats 4000000 in
theorem clone_11 (a : Option Addr) (cap : Nat) (w : World) (hs : Src .i64 w a [1, 1]) : Calls Try.prog 54 #[.slice a 2 cap] w fun e w' => (∃ g c, e = .returned (.slice (some ⟨g, 0, none⟩) 2 c)) ∧ Below w.heap.size w w' := by
  obtain ⟨b, off, rfl, hc⟩ := hs (by simp)
  have hsrc0 : Src .i64 (w.alloc (.cells #[] 3)) (some ⟨b, off, none⟩) [1, 1] := hs.below ((Below.refl _ _).alloc (Nat.le_refl _) _)
  clear hs hc
  have hnn : ∀ U : World, (binOp .eql 22 (.slice (some ⟨b, off, none⟩) 2 cap) (.slice none 0 0)).run Try.prog U = .ok (.bool false) U := fun _ => rfl
  go_enter Try.func54, Try.ntmps54
  go_wp2_with (first | (at_builtin; refine wpList_append_i 22 3 8 Try.underlying22 infoI (by decide) rfl (.tmp 5) (.tmp 6) rfl w.heap.size (.slice (some ⟨w.heap.size, 0, none⟩) 0 0) [] rfl (own_empty .i64 3 w) _ _ _ [1, 1] rfl rfl (fun e => by cases e) hsrc0 (by simp) (by simp) ?_; intro v1 w1 o1 q1 n1 b1))
  go_ret
  have hv : ∃ g c, v1 = .slice (some ⟨g, 0, none⟩) 2 c := by
    rcases o1 with ⟨_, h2⟩ | ⟨g, cap, tl, rfl, _⟩
    · simp at h2
    · exact ⟨g, cap, rfl⟩
  obtain ⟨g, c, rfl⟩ := hv
  exact ⟨⟨g, c, rfl⟩, ((Below.refl w.heap.size w).alloc (Nat.le_refl _) _).trans b1⟩
theorem exec_load_mid {o : Oper} {a : Act} {w : World} {x : Operand} {g : Nat} {v : Value} (ho : o.op = .load 77 x) (hx : a.eval x = .pointer (some ⟨g, 0, none⟩)) (hl : (loadVar 77 ⟨g, 0, none⟩).run Try.prog w = .ok v w) :
    (execOp a.eval o).run Try.prog w = .ok (.value v) w := by
  unfold execOp
  simp only [ho, hx, Instr.loadAt, Instr.sureAddr, Sem.run_bind, Sem.run_pure, Result.andThen_ok, hl]
theorem lit11 : (M11.map (Value.int .i64)).toArray = #[.int .i64 0, .int .i64 2, .int .i64 0, .int .i64 0, .int .i64 0, .int .i64 0, .int .i64 0, .int .i64 0, .int .i64 0, .int .i64 0, .int .i64 0, .int .i64 0, .int .i64 0, .int .i64 0, .int .i64 0, .int .i64 0] := rfl
theorem cl_11 : cl (cds [1, 1] 2) = M11 := by decide +kernel
theorem may_11 : may [1, 1] = 0 := by decide +kernel
def q26r5_0 : Oper := { dst := some 17, op := Go.Op.move (Go.Operand.tmp 0), type := 22, pos := "code.go:27", after := #[], guard := none }
def q26r5_1 : Oper := { dst := some 18, op := Go.Op.call { callee := Go.Callee.value (Go.Operand.func 54), args := #[Go.Operand.tmp 17], argTypes := #[22] }, type := 22, pos := "code.go:28", after := #[{ on := 0, ground := Go.Ground.data }], guard := none }
def q26r5_2 : Oper := { dst := some 19, op := Go.Op.move (Go.Operand.tmp 4), type := 27, pos := "code.go:27", after := #[], guard := none }
def q26r5_3 : Oper := { dst := some 20, op := Go.Op.move (Go.Operand.tmp 0), type := 22, pos := "code.go:27", after := #[], guard := none }
def q26r5_4 : Oper := { dst := some 21, op := Go.Op.call { callee := Go.Callee.value (Go.Operand.func 44), args := #[Go.Operand.tmp 20], argTypes := #[22] }, type := 3, pos := "code.go:30", after := #[{ on := 3, ground := Go.Ground.data }, { on := 1, ground := Go.Ground.chain }], guard := none }
def q26r5_5 : Oper := { dst := some 22, op := Go.Op.load 77 (Go.Operand.tmp 6), type := 77, pos := "code.go:27", after := #[], guard := none }
def q26r5_6 : Oper := { dst := some 23, op := Go.Op.move (Go.Operand.tmp 0), type := 22, pos := "code.go:27", after := #[], guard := none }
def q26r5_7 : Oper := { dst := some 24, op := Go.Op.load 77 (Go.Operand.tmp 6), type := 77, pos := "code.go:27", after := #[], guard := none }
def q26r5_8 : Oper := { dst := some 25, op := Go.Op.call { callee := Go.Callee.value (Go.Operand.func 55), args := #[Go.Operand.tmp 23, Go.Operand.tmp 24], argTypes := #[22, 77] }, type := 22, pos := "code.go:32", after := #[{ on := 6, ground := Go.Ground.data }, { on := 7, ground := Go.Ground.data }, { on := 4, ground := Go.Ground.chain }], guard := none }
def q26r5_9 : Oper := { dst := some 26, op := Go.Op.build 89 #[(0, Go.Operand.tmp 18), (1, Go.Operand.tmp 19), (2, Go.Operand.tmp 21), (3, Go.Operand.tmp 22), (4, Go.Operand.tmp 25)], type := 89, pos := "code.go:27", after := #[{ on := 1, ground := Go.Ground.data }, { on := 2, ground := Go.Ground.data }, { on := 4, ground := Go.Ground.data }, { on := 5, ground := Go.Ground.data }, { on := 8, ground := Go.Ground.data }], guard := none }
def q26r5_10 : Oper := { dst := some 27, op := Go.Op.box 89 (Go.Operand.tmp 26), type := 53, pos := "code.go:27", after := #[{ on := 9, ground := Go.Ground.data }], guard := none }
def q26r5_11 : Oper := { dst := some 2, op := Go.Op.assign (Go.Operand.tmp 27), type := 53, pos := "code.go:27", after := #[{ on := 10, ground := Go.Ground.data }, { on := 8, ground := Go.Ground.chain }, { on := 0, ground := Go.Ground.phase }, { on := 1, ground := Go.Ground.phase }, { on := 2, ground := Go.Ground.phase }, { on := 3, ground := Go.Ground.phase }, { on := 4, ground := Go.Ground.phase }, { on := 5, ground := Go.Ground.phase }, { on := 6, ground := Go.Ground.phase }, { on := 7, ground := Go.Ground.phase }, { on := 8, ground := Go.Ground.phase }, { on := 9, ground := Go.Ground.phase }, { on := 10, ground := Go.Ground.phase }], guard := none }
def q26r5_12 : Oper := { dst := some 3, op := Go.Op.assign (Go.Operand.const (Go.Value.int Go.IntKind.i64 0)), type := 24, pos := "code.go:27", after := #[{ on := 11, ground := Go.Ground.chain }, { on := 0, ground := Go.Ground.phase }, { on := 1, ground := Go.Ground.phase }, { on := 2, ground := Go.Ground.phase }, { on := 3, ground := Go.Ground.phase }, { on := 4, ground := Go.Ground.phase }, { on := 5, ground := Go.Ground.phase }, { on := 6, ground := Go.Ground.phase }, { on := 7, ground := Go.Ground.phase }, { on := 8, ground := Go.Ground.phase }, { on := 9, ground := Go.Ground.phase }, { on := 10, ground := Go.Ground.phase }, { on := 11, ground := Go.Ground.phase }], guard := none }
def o26r5 : Array Oper := #[q26r5_0, q26r5_1, q26r5_2, q26r5_3, q26r5_4, q26r5_5, q26r5_6, q26r5_7, q26r5_8, q26r5_9, q26r5_10, q26r5_11, q26r5_12]
def p26r5_13 : List (Nat × Oper) := []
def p26r5_12 : List (Nat × Oper) := (0, q26r5_12) :: p26r5_13
def p26r5_11 : List (Nat × Oper) := (0, q26r5_11) :: p26r5_12
def p26r5_10 : List (Nat × Oper) := (1, q26r5_10) :: p26r5_11
def p26r5_9 : List (Nat × Oper) := (0, q26r5_9) :: p26r5_10
def p26r5_8 : List (Nat × Oper) := (1, q26r5_8) :: p26r5_9
def p26r5_7 : List (Nat × Oper) := (1, q26r5_4) :: p26r5_8
def p26r5_6 : List (Nat × Oper) := (1, q26r5_1) :: p26r5_7
def p26r5_5 : List (Nat × Oper) := (0, q26r5_7) :: p26r5_6
def p26r5_4 : List (Nat × Oper) := (0, q26r5_6) :: p26r5_5
def p26r5_3 : List (Nat × Oper) := (0, q26r5_5) :: p26r5_4
def p26r5_2 : List (Nat × Oper) := (0, q26r5_3) :: p26r5_3
def p26r5_1 : List (Nat × Oper) := (0, q26r5_2) :: p26r5_2
def p26r5_0 : List (Nat × Oper) := (0, q26r5_0) :: p26r5_1
def c26r5 : List (Nat × Nat) := [(0, 0), (0, 2), (0, 3), (0, 5), (0, 6), (0, 7), (1, 1), (1, 4), (1, 8), (0, 9), (1, 10), (0, 11), (0, 12)]
theorem b26r5 : (Region.noSelect o26r5 && (c26r5.length == o26r5.size) && planB o26r5 [] c26r5 (Array.replicate o26r5.size false)) = true := by kernel_rfl
theorem d26r5 : (c26r5.map fun p => (p.1, o26r5[p.2]?)) = (p26r5_0.map fun p => (p.1, some p.2)) := by kernel_rfl

set_option maxRecDepth 100000 in
set_option maxHeartbeats 8000000 in
theorem new_11 (a : Option Addr) (cap : Nat) (w : World) (hs : Src .i64 w a [1, 1]) : Calls Try.prog 26 #[.slice a 2 cap] w fun e w' => (∃ p, e = .returned (.tuple #[.pointer (some p), .int .i64 0])) ∧ Below w.heap.size w w' := by
  have HWI : Hid (Wi 15 [1, 1]) := by
    show Wi 15 [1, 1]
    intro z hz
    simp at hz
    subst hz
    omega
  have HCO : Hid (Calls Try.prog 10 #[.slice a 2 cap] w fun e w' => (∃ g, e = .returned (.tuple #[.slice (some ⟨g, 0, none⟩) 2 2, .int .i64 0])) ∧ Below w.heap.size w w') := (codes_ok a cap [1, 1] w hs may_11 HWI.out (by simp)).mono (fun e w' ⟨g, h1, _, _, h4⟩ => ⟨⟨g, h1⟩, h4⟩)
  have HNU : Hid (∀ U, Below w.heap.size w U → Calls Try.prog 47 #[.slice a 2 cap] U fun e w' => e = .returned (.agg (M11.map (Value.int .i64)).toArray) ∧ Below U.heap.size U w') := fun U hU => by
    have := numbered_any a cap [1, 1] U (by simp) (hs.below hU) HWI.out
    rw [show cds [1, 1] ([1, 1] : List Int).length = cds [1, 1] 2 from rfl, cl_11] at this
    exact this
  have HS := hid hs
  clear hs
  go_enter Try.func26, Try.ntmps26
  generalize hC5 : Code.region 5 _ _ = C5
  go_wp2_with (first | (go_at_call 10; refine HCO.out.mono ?_; rintro e w1 ⟨⟨g, rfl⟩, b1⟩; have B1 := hid b1; clear b1) | (go_at_call 47; refine (HNU.out w1 B1.out).mono ?_; rintro e w2 ⟨rfl, b2⟩; have B2 := hid (B1.out.trans (b2.mono B1.out.size)); clear b2) | (refine wpList_arr_new w w2 _ rfl M11 rfl rfl (.tmp 6) (.tmp 16) rfl rfl rfl B2.out ?_; intro X r4 b4; have R4 := hid r4; have B4 := hid b4; clear r4 b4))
  subst hC5
  obtain ⟨B0, hB0⟩ : ∃ B0, B0 = X.heap.size := ⟨_, rfl⟩
  have H0 : Hid (Below B0 X X.drew) := ⟨rfl, rfl, rfl, Nat.le_refl _, fun _ _ => rfl⟩
  have HTR : Hid (∀ U V : World, Below B0 X U → Below U.heap.size U V → Below B0 X V) := fun U V h k => h.trans (k.mono (by rw [hB0]; exact h.size))
  have HSX : Hid (∀ U, Below B0 X U → Src .i64 U a [1, 1]) := fun U hU => (HS.out.below B4.out).below (by rw [← hB0]; exact hU)
  have HCL : Hid (∀ U, Below B0 X U → Calls Try.prog 54 #[.slice a 2 cap] U fun e w' => (∃ g c, e = .returned (.slice (some ⟨g, 0, none⟩) 2 c)) ∧ Below U.heap.size U w') := fun U hU => clone_11 a cap U (HSX.out U hU)
  have HWE : Hid (∀ U, Below B0 X U → Calls Try.prog 44 #[.slice a 2 cap] U fun e w' => e = .returned (.int .i64 (wgt [1, 1] : Int)) ∧ Below U.heap.size U w') := fun U hU => weight_any a cap [1, 1] U (by simp) (HSX.out U hU) HWI.out
  have HBY : Hid (∀ U, Below B0 X U → Calls Try.prog 55 #[.slice a 2 cap, .agg (M11.map (Value.int .i64)).toArray] U fun e w' => (∃ g, e = .returned (.slice (some ⟨g, 0, none⟩) 2 2)) ∧ Below U.heap.size U w') := fun U hU => bycode_11 a cap U (HSX.out U hU)
  have HLD : Hid (∀ U, Below B0 X U → (loadVar 77 ⟨w2.heap.size, 0, none⟩).run Try.prog U = .ok (.agg (M11.map (Value.int .i64)).toArray) U) := fun U hU => run_loadVar_mid (P := Try.prog) U w2.heap.size 0 77 (M11.map (Value.int .i64)) _ (R4.out.below (by rw [← hB0]; exact hU) R4.out.lt).range Try.underlying77 rfl (by rw [List.length_map]; exact info77)
  have HB4 := hid B4.out
  rw [lit11] at HBY HLD
  clear HCO HNU HS
  go_wp2_with fail
  change (Code.region 5 o26r5 true).wp _ _ _ _
  refine wp_region_plan (fun w' => Below B0 X w') [] c26r5 p26r5_0 hmix b26r5 d26r5 (fun _ _ d _ _ h => by cases d <;> exact h) ?_
  refine plan_take (o := q26r5_0) (r := p26r5_1) ?vx0 H0.out (by rfl) ?hyx0 ?restx0
  case hyx0 => (intro w hSw; (try dsimp only at hSw); simp only [q26r5_0]; go_simp; try with_reducible rfl)
  try simp only [q26r5_0, Act.put, List.setIfInBounds_toArray, List.set_cons_zero, List.set_cons_succ]
  refine plan_take (o := q26r5_2) (r := p26r5_2) ?vx2 H0.out (by rfl) ?hyx2 ?restx2
  case hyx2 => (intro w hSw; (try dsimp only at hSw); simp only [q26r5_2]; go_simp; try with_reducible rfl)
  try simp only [q26r5_2, Act.put, List.setIfInBounds_toArray, List.set_cons_zero, List.set_cons_succ]
  refine plan_take (o := q26r5_3) (r := p26r5_3) ?vx3 H0.out (by rfl) ?hyx3 ?restx3
  case hyx3 => (intro w hSw; (try dsimp only at hSw); simp only [q26r5_3]; go_simp; try with_reducible rfl)
  try simp only [q26r5_3, Act.put, List.setIfInBounds_toArray, List.set_cons_zero, List.set_cons_succ]
  refine plan_take (o := q26r5_5) (r := p26r5_4) (.agg #[.int .i64 0, .int .i64 2, .int .i64 0, .int .i64 0, .int .i64 0, .int .i64 0, .int .i64 0, .int .i64 0, .int .i64 0, .int .i64 0, .int .i64 0, .int .i64 0, .int .i64 0, .int .i64 0, .int .i64 0, .int .i64 0]) H0.out (by rfl) ?hyx5 ?restx5
  case hyx5 => (intro w hSw; exact exec_load_mid rfl rfl (HLD.out w hSw))
  try simp only [q26r5_5, Act.put, List.setIfInBounds_toArray, List.set_cons_zero, List.set_cons_succ]
  refine plan_take (o := q26r5_6) (r := p26r5_5) ?vx6 H0.out (by rfl) ?hyx6 ?restx6
  case hyx6 => (intro w hSw; (try dsimp only at hSw); simp only [q26r5_6]; go_simp; try with_reducible rfl)
  try simp only [q26r5_6, Act.put, List.setIfInBounds_toArray, List.set_cons_zero, List.set_cons_succ]
  refine plan_take (o := q26r5_7) (r := p26r5_6) (.agg #[.int .i64 0, .int .i64 2, .int .i64 0, .int .i64 0, .int .i64 0, .int .i64 0, .int .i64 0, .int .i64 0, .int .i64 0, .int .i64 0, .int .i64 0, .int .i64 0, .int .i64 0, .int .i64 0, .int .i64 0, .int .i64 0]) H0.out (by rfl) ?hyx7 ?restx7
  case hyx7 => (intro w hSw; exact exec_load_mid rfl rfl (HLD.out w hSw))
  try simp only [q26r5_7, Act.put, List.setIfInBounds_toArray, List.set_cons_zero, List.set_cons_succ]
  refine plan_act (o := q26r5_1) (r := p26r5_7) (fun K hK => ?_)
  simp only [q26r5_1]
  refine ite_pos2 (by rfl) ?_
  go_simp
  refine (HCL.out _ H0.out).mono ?_
  rintro e w1 ⟨⟨g1, c1, rfl⟩, b1⟩
  have B1 : Hid (Below B0 X w1) := HTR.out _ _ H0.out b1
  clear b1
  go_wp2_with fail
  refine hK.out _ _ (fun _ => B1.out) ?_
  clear hK K
  try simp only [q26r5_1, Act.put, List.setIfInBounds_toArray, List.set_cons_zero, List.set_cons_succ]
  refine plan_act (o := q26r5_4) (r := p26r5_8) (fun K hK => ?_)
  simp only [q26r5_4]
  refine ite_pos2 (by rfl) ?_
  go_simp
  refine (HWE.out _ B1.out).mono ?_
  rintro e w2 ⟨rfl, b2⟩
  have B2 : Hid (Below B0 X w2) := HTR.out _ _ B1.out b2
  clear b2
  go_wp2_with fail
  refine hK.out _ _ (fun _ => B2.out) ?_
  clear hK K
  try simp only [q26r5_4, Act.put, List.setIfInBounds_toArray, List.set_cons_zero, List.set_cons_succ]
  refine plan_act (o := q26r5_8) (r := p26r5_9) (fun K hK => ?_)
  simp only [q26r5_8]
  refine ite_pos2 (by rfl) ?_
  go_simp
  refine (HBY.out _ B2.out).mono ?_
  rintro e w3 ⟨⟨g3, rfl⟩, b3⟩
  have B3 : Hid (Below B0 X w3) := HTR.out _ _ B2.out b3
  clear b3
  go_wp2_with fail
  refine hK.out _ _ (fun _ => B3.out) ?_
  clear hK K
  try simp only [q26r5_8, Act.put, List.setIfInBounds_toArray, List.set_cons_zero, List.set_cons_succ]
  refine plan_take (o := q26r5_9) (r := p26r5_10) ?vx9 B3.out (by rfl) ?hyx9 ?restx9
  case hyx9 => (intro w hSw; (try dsimp only at hSw); simp only [q26r5_9]; go_simp; try with_reducible rfl)
  try simp only [q26r5_9, Act.put, List.setIfInBounds_toArray, List.set_cons_zero, List.set_cons_succ]
  refine plan_act (o := q26r5_10) (r := p26r5_11) (fun K hK => ?_)
  simp only [q26r5_10]
  refine ite_pos2 (by rfl) ?_
  go_simp
  have HAL : Hid (∀ ob : Obj, Below B0 X (w3.alloc ob)) := fun ob => B3.out.alloc (by rw [hB0]; exact B3.out.size) ob
  refine hK.out _ _ (fun _ => HAL.out _) ?_
  clear hK K
  try simp only [q26r5_10, Act.put, List.setIfInBounds_toArray, List.set_cons_zero, List.set_cons_succ]
  refine plan_take (o := q26r5_11) (r := p26r5_12) ?vx11 (HAL.out _) (by rfl) ?hyx11 ?restx11
  case hyx11 => (intro w hSw; (try dsimp only at hSw); simp only [q26r5_11]; go_simp; try with_reducible rfl)
  try simp only [q26r5_11, Act.put, List.setIfInBounds_toArray, List.set_cons_zero, List.set_cons_succ]
  refine plan_take (o := q26r5_12) (r := p26r5_13) ?vx12 (HAL.out _) (by rfl) ?hyx12 ?restx12
  case hyx12 => (intro w hSw; (try dsimp only at hSw); simp only [q26r5_12]; go_simp; try with_reducible rfl)
  try simp only [q26r5_12, Act.put, List.setIfInBounds_toArray, List.set_cons_zero, List.set_cons_succ]
  refine plan_done ?_
  go_wp2_with fail
  go_ret2
  exact ⟨⟨_, rfl⟩, HB4.out.trans ((HAL.out _).mono (by rw [hB0]; exact HB4.out.size))⟩
end Go.Proofs.Ythpocbpleffdpaa
