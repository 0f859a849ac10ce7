/- The statements' known head: there and back. -/
import Derived.Test.YtejdmnhdjeogaaaRd
import Derived.Test.YtejdmnhdjeogaaaRp
namespace Go.Proofs.Ytejdmnhdjeogaaa
open Go.RowKit
set_option linter.unusedVariables false
/-- The head that is known to be. -/
def sm : Hd := ⟨9, 0, 1024, 1024, 1, 4, 512, 1, 0, 0, 0, 0, 0, 0, ⟨#[]⟩⟩
theorem sm_may : May sm := by
  have hc : clu sm.bits = 512 := rfl
  have ht : tbl sm = 1 := rfl
  exact { b9 := by decide, b16 := by decide, flags := by decide, s0 := by decide, s1 := by decide, s5 := by decide, n0 := by decide, n1 := by decide, n2 := by rw [ht]; decide, o0 := by decide, o1 := by decide, c0 := by decide, c1 := by decide,
          l1 := Or.inr ⟨by decide, by rw [hc]; exact ⟨by decide, by decide, by decide⟩⟩, counts := by rw [hc]; exact ⟨by decide, by decide, by decide⟩, snaps := Or.inl ⟨rfl, rfl, rfl⟩, maps := Or.inl ⟨rfl, rfl, rfl⟩, nn := fun b hb => absurd hb (by simp [sm]), long := by decide }
theorem sm_wf : sm.Wf := sm_may.wf (by decide)
theorem sec_bz {h : Hd} (m : May h) {w : World} {G : Nat} (hr : Rw 5 w G (secL h)) : Bz w G 0 512 512 (secL h) := ⟨secL_length h m.long, secL_byt h, hr.cells, Nat.le_refl _, by decide⟩
theorem sec_back {h : Hd} (m : May h) (hf : 0 ≤ h.flags) : Cnd (secL h) ∧ rdH (secL h) = h := sec_cnd m hf (secL_byt h) (by rw [List.take_of_length_le (by rw [secL_length h m.long]; omega)])
theorem conv_mark {h : Hd} (m : May h) {w : World} {G : Nat} (hr : Rw 5 w G (secL h)) (c : Nat) : (convert 26 9 (.slice (some ⟨G, 0, none⟩) 4 c)).run Try.prog w = .ok (.string ⟨#[80, 65, 76, 49]⟩) w := by
  have hl := secL_length h m.long
  have e := run_convert_rw w 26 9 5 Try.underlying26 Try.underlying5 Try.underlying9 (some ⟨G, 0, none⟩) 4 c ((secL h).take 4) (by simp; omega) (fun _ => ⟨G, 0, rfl, fun i hi => by
    rw [hr.cells i (by omega)]
    simp [List.getD, hi]⟩)
  rw [take_mark h] at e
  exact e
set_option maxRecDepth 100000 in
set_option maxHeartbeats 2000000 in
theorem some_any (w : World) : Calls Try.prog 20 #[] w fun e w' => e = .returned (.agg sm.cs) ∧ Kp (fun _ => False) w w' := by
  go_enter Try.func20, Try.ntmps20
  go_wp2_with fail
  refine bodyPost_ret (results_cell1 Try.results20 _ _ _ rfl (Hb.new w sm).load) rfl ⟨rfl, (Kp.refl _ _).alloc _⟩
def q6r3_0 : Oper := { dst := some 15, op := Go.Op.move (Go.Operand.tmp 2), type := 27, pos := "law.go:19", after := #[], guard := none }
def q6r3_1 : Oper := { dst := some 16, op := Go.Op.binOp Go.BinOp.eql 27 (Go.Operand.tmp 15) (Go.Operand.const (Go.Value.int Go.IntKind.i64 0)) 27, type := 4, pos := "law.go:19", after := #[{ on := 0, ground := Go.Ground.data }], guard := none }
def q6r3_2 : Oper := { dst := some 17, op := Go.Op.move (Go.Operand.tmp 16), type := 4, pos := "law.go:19", after := #[{ on := 1, ground := Go.Ground.data }], guard := none }
def q6r3_3 : Oper := { dst := some 18, op := Go.Op.move (Go.Operand.tmp 1), type := 26, pos := "law.go:19", after := #[{ on := 2, ground := Go.Ground.guard }], guard := some (2, true) }
def q6r3_4 : Oper := { dst := some 19, op := Go.Op.call { callee := Go.Callee.builtin Go.Builtin.len, args := #[Go.Operand.tmp 18], argTypes := #[26] }, type := 3, pos := "law.go:19", after := #[{ on := 3, ground := Go.Ground.data }, { on := 2, ground := Go.Ground.guard }], guard := some (2, true) }
def q6r3_5 : Oper := { dst := some 20, op := Go.Op.binOp Go.BinOp.eql 3 (Go.Operand.tmp 19) (Go.Operand.const (Go.Value.int Go.IntKind.i64 512)) 3, type := 4, pos := "law.go:19", after := #[{ on := 4, ground := Go.Ground.data }, { on := 2, ground := Go.Ground.guard }], guard := some (2, true) }
def q6r3_6 : Oper := { dst := some 21, op := Go.Op.pick (Go.Operand.tmp 17) (Go.Operand.tmp 20) (Go.Operand.const (Go.Value.bool false)), type := 4, pos := "law.go:19", after := #[{ on := 2, ground := Go.Ground.data }, { on := 5, ground := Go.Ground.data }], guard := none }
def q6r3_7 : Oper := { dst := some 22, op := Go.Op.move (Go.Operand.tmp 21), type := 4, pos := "law.go:19", after := #[{ on := 6, ground := Go.Ground.data }, { on := 2, ground := Go.Ground.chain }], guard := none }
def q6r3_8 : Oper := { dst := some 23, op := Go.Op.move (Go.Operand.tmp 1), type := 26, pos := "law.go:19", after := #[{ on := 7, ground := Go.Ground.guard }], guard := some (7, true) }
def q6r3_9 : Oper := { dst := some 24, op := Go.Op.slice 26 (Go.Operand.tmp 23) none (some (Go.Operand.const (Go.Value.int Go.IntKind.i64 4))) none, type := 26, pos := "law.go:19", after := #[{ on := 8, ground := Go.Ground.data }, { on := 7, ground := Go.Ground.guard }], guard := some (7, true) }
def q6r3_10 : Oper := { dst := some 25, op := Go.Op.convert 26 9 (Go.Operand.tmp 24), type := 9, pos := "law.go:19", after := #[{ on := 9, ground := Go.Ground.data }, { on := 7, ground := Go.Ground.guard }], guard := some (7, true) }
def q6r3_11 : Oper := { dst := some 26, op := Go.Op.binOp Go.BinOp.eql 9 (Go.Operand.tmp 25) (Go.Operand.const (Go.Value.string { data := #[80, 65, 76, 49] })) 9, type := 4, pos := "law.go:19", after := #[{ on := 10, ground := Go.Ground.data }, { on := 7, ground := Go.Ground.guard }], guard := some (7, true) }
def q6r3_12 : Oper := { dst := some 27, op := Go.Op.pick (Go.Operand.tmp 22) (Go.Operand.tmp 26) (Go.Operand.const (Go.Value.bool false)), type := 4, pos := "law.go:19", after := #[{ on := 7, ground := Go.Ground.data }, { on := 11, ground := Go.Ground.data }], guard := none }
def q6r3_13 : Oper := { dst := some 28, op := Go.Op.move (Go.Operand.tmp 27), type := 4, pos := "law.go:19", after := #[{ on := 12, ground := Go.Ground.data }, { on := 7, ground := Go.Ground.chain }], guard := none }
def q6r3_14 : Oper := { dst := some 29, op := Go.Op.move (Go.Operand.tmp 4), type := 27, pos := "law.go:19", after := #[{ on := 13, ground := Go.Ground.guard }], guard := some (13, true) }
def q6r3_15 : Oper := { dst := some 30, op := Go.Op.binOp Go.BinOp.eql 27 (Go.Operand.tmp 29) (Go.Operand.const (Go.Value.int Go.IntKind.i64 0)) 27, type := 4, pos := "law.go:19", after := #[{ on := 14, ground := Go.Ground.data }, { on := 13, ground := Go.Ground.guard }], guard := some (13, true) }
def q6r3_16 : Oper := { dst := some 31, op := Go.Op.pick (Go.Operand.tmp 28) (Go.Operand.tmp 30) (Go.Operand.const (Go.Value.bool false)), type := 4, pos := "law.go:19", after := #[{ on := 13, ground := Go.Ground.data }, { on := 15, ground := Go.Ground.data }], guard := none }
def q6r3_17 : Oper := { dst := some 32, op := Go.Op.move (Go.Operand.tmp 31), type := 4, pos := "law.go:19", after := #[{ on := 16, ground := Go.Ground.data }, { on := 13, ground := Go.Ground.chain }], guard := none }
def q6r3_18 : Oper := { dst := some 33, op := Go.Op.load 24 (Go.Operand.tmp 3), type := 24, pos := "law.go:19", after := #[{ on := 17, ground := Go.Ground.guard }], guard := some (17, true) }
def q6r3_19 : Oper := { dst := some 34, op := Go.Op.call { callee := Go.Callee.value (Go.Operand.func 20), args := #[], argTypes := #[] }, type := 24, pos := "law.go:19", after := #[{ on := 17, ground := Go.Ground.chain }, { on := 17, ground := Go.Ground.guard }], guard := some (17, true) }
def q6r3_20 : Oper := { dst := some 35, op := Go.Op.binOp Go.BinOp.eql 24 (Go.Operand.tmp 33) (Go.Operand.tmp 34) 24, type := 4, pos := "law.go:19", after := #[{ on := 18, ground := Go.Ground.data }, { on := 19, ground := Go.Ground.data }, { on := 17, ground := Go.Ground.guard }], guard := some (17, true) }
def q6r3_21 : Oper := { dst := some 36, op := Go.Op.pick (Go.Operand.tmp 32) (Go.Operand.tmp 35) (Go.Operand.const (Go.Value.bool false)), type := 4, pos := "law.go:19", after := #[{ on := 17, ground := Go.Ground.data }, { on := 20, ground := Go.Ground.data }], guard := none }
def q6r3_22 : Oper := { dst := some 37, op := Go.Op.move (Go.Operand.tmp 36), type := 4, pos := "law.go:19", after := #[{ on := 21, ground := Go.Ground.data }, { on := 19, ground := Go.Ground.chain }], guard := none }
def q6r3_23 : Oper := { dst := some 38, op := Go.Op.load 24 (Go.Operand.tmp 3), type := 24, pos := "law.go:19", after := #[{ on := 22, ground := Go.Ground.guard }], guard := some (22, true) }
def q6r3_24 : Oper := { dst := some 39, op := Go.Op.call { callee := Go.Callee.value (Go.Operand.func 12), args := #[Go.Operand.tmp 38], argTypes := #[24] }, type := 2, pos := "law.go:19", after := #[{ on := 23, ground := Go.Ground.data }, { on := 22, ground := Go.Ground.chain }, { on := 22, ground := Go.Ground.guard }], guard := some (22, true) }
def q6r3_25 : Oper := { dst := some 40, op := Go.Op.binOp Go.BinOp.eql 2 (Go.Operand.tmp 39) (Go.Operand.const (Go.Value.int Go.IntKind.i64 2)) 2, type := 4, pos := "law.go:19", after := #[{ on := 24, ground := Go.Ground.data }, { on := 22, ground := Go.Ground.guard }], guard := some (22, true) }
def q6r3_26 : Oper := { dst := some 41, op := Go.Op.pick (Go.Operand.tmp 37) (Go.Operand.tmp 40) (Go.Operand.const (Go.Value.bool false)), type := 4, pos := "law.go:19", after := #[{ on := 22, ground := Go.Ground.data }, { on := 25, ground := Go.Ground.data }], guard := none }
def q6r3_27 : Oper := { dst := some 42, op := Go.Op.move (Go.Operand.tmp 41), type := 4, pos := "law.go:19", after := #[{ on := 26, ground := Go.Ground.data }, { on := 24, ground := Go.Ground.chain }], guard := none }
def q6r3_28 : Oper := { dst := some 43, op := Go.Op.load 24 (Go.Operand.tmp 3), type := 24, pos := "law.go:19", after := #[{ on := 27, ground := Go.Ground.guard }], guard := some (27, true) }
def q6r3_29 : Oper := { dst := some 44, op := Go.Op.call { callee := Go.Callee.value (Go.Operand.func 13), args := #[Go.Operand.tmp 43], argTypes := #[24] }, type := 2, pos := "law.go:19", after := #[{ on := 28, ground := Go.Ground.data }, { on := 27, ground := Go.Ground.chain }, { on := 27, ground := Go.Ground.guard }], guard := some (27, true) }
def q6r3_30 : Oper := { dst := some 45, op := Go.Op.binOp Go.BinOp.eql 2 (Go.Operand.tmp 44) (Go.Operand.const (Go.Value.int Go.IntKind.i64 1)) 2, type := 4, pos := "law.go:19", after := #[{ on := 29, ground := Go.Ground.data }, { on := 27, ground := Go.Ground.guard }], guard := some (27, true) }
def q6r3_31 : Oper := { dst := some 46, op := Go.Op.pick (Go.Operand.tmp 42) (Go.Operand.tmp 45) (Go.Operand.const (Go.Value.bool false)), type := 4, pos := "law.go:19", after := #[{ on := 27, ground := Go.Ground.data }, { on := 30, ground := Go.Ground.data }], guard := none }
def q6r3_32 : Oper := { dst := some 0, op := Go.Op.assign (Go.Operand.tmp 46), type := 4, pos := "law.go:19", after := #[{ on := 31, ground := Go.Ground.data }, { on := 29, ground := Go.Ground.chain }, { on := 0, ground := Go.Ground.phase }, { on := 1, ground := Go.Ground.phase }, { on := 2, ground := Go.Ground.phase }, { on := 3, ground := Go.Ground.phase }, { on := 4, ground := Go.Ground.phase }, { on := 5, ground := Go.Ground.phase }, { on := 6, ground := Go.Ground.phase }, { on := 7, ground := Go.Ground.phase }, { on := 8, ground := Go.Ground.phase }, { on := 9, ground := Go.Ground.phase }, { on := 10, ground := Go.Ground.phase }, { on := 11, ground := Go.Ground.phase }, { on := 12, ground := Go.Ground.phase }, { on := 13, ground := Go.Ground.phase }, { on := 14, ground := Go.Ground.phase }, { on := 15, ground := Go.Ground.phase }, { on := 16, ground := Go.Ground.phase }, { on := 17, ground := Go.Ground.phase }, { on := 18, ground := Go.Ground.phase }, { on := 19, ground := Go.Ground.phase }, { on := 20, ground := Go.Ground.phase }, { on := 21, ground := Go.Ground.phase }, { on := 22, ground := Go.Ground.phase }, { on := 23, ground := Go.Ground.phase }, { on := 24, ground := Go.Ground.phase }, { on := 25, ground := Go.Ground.phase }, { on := 26, ground := Go.Ground.phase }, { on := 27, ground := Go.Ground.phase }, { on := 28, ground := Go.Ground.phase }, { on := 29, ground := Go.Ground.phase }, { on := 30, ground := Go.Ground.phase }, { on := 31, ground := Go.Ground.phase }], guard := none }
def o6r3 : Array Oper := #[q6r3_0, q6r3_1, q6r3_2, q6r3_3, q6r3_4, q6r3_5, q6r3_6, q6r3_7, q6r3_8, q6r3_9, q6r3_10, q6r3_11, q6r3_12, q6r3_13, q6r3_14, q6r3_15, q6r3_16, q6r3_17, q6r3_18, q6r3_19, q6r3_20, q6r3_21, q6r3_22, q6r3_23, q6r3_24, q6r3_25, q6r3_26, q6r3_27, q6r3_28, q6r3_29, q6r3_30, q6r3_31, q6r3_32]
def p6r3_33 : List (Nat × Oper) := []
def p6r3_32 : List (Nat × Oper) := (0, q6r3_32) :: p6r3_33
def p6r3_31 : List (Nat × Oper) := (0, q6r3_31) :: p6r3_32
def p6r3_30 : List (Nat × Oper) := (0, q6r3_30) :: p6r3_31
def p6r3_29 : List (Nat × Oper) := (1, q6r3_29) :: p6r3_30
def p6r3_28 : List (Nat × Oper) := (0, q6r3_28) :: p6r3_29
def p6r3_27 : List (Nat × Oper) := (0, q6r3_27) :: p6r3_28
def p6r3_26 : List (Nat × Oper) := (0, q6r3_26) :: p6r3_27
def p6r3_25 : List (Nat × Oper) := (0, q6r3_25) :: p6r3_26
def p6r3_24 : List (Nat × Oper) := (1, q6r3_24) :: p6r3_25
def p6r3_23 : List (Nat × Oper) := (0, q6r3_23) :: p6r3_24
def p6r3_22 : List (Nat × Oper) := (0, q6r3_22) :: p6r3_23
def p6r3_21 : List (Nat × Oper) := (0, q6r3_21) :: p6r3_22
def p6r3_20 : List (Nat × Oper) := (0, q6r3_20) :: p6r3_21
def p6r3_19 : List (Nat × Oper) := (1, q6r3_19) :: p6r3_20
def p6r3_18 : List (Nat × Oper) := (0, q6r3_18) :: p6r3_19
def p6r3_17 : List (Nat × Oper) := (0, q6r3_17) :: p6r3_18
def p6r3_16 : List (Nat × Oper) := (0, q6r3_16) :: p6r3_17
def p6r3_15 : List (Nat × Oper) := (0, q6r3_15) :: p6r3_16
def p6r3_14 : List (Nat × Oper) := (0, q6r3_14) :: p6r3_15
def p6r3_13 : List (Nat × Oper) := (0, q6r3_13) :: p6r3_14
def p6r3_12 : List (Nat × Oper) := (0, q6r3_12) :: p6r3_13
def p6r3_11 : List (Nat × Oper) := (0, q6r3_11) :: p6r3_12
def p6r3_10 : List (Nat × Oper) := (0, q6r3_10) :: p6r3_11
def p6r3_9 : List (Nat × Oper) := (0, q6r3_9) :: p6r3_10
def p6r3_8 : List (Nat × Oper) := (0, q6r3_8) :: p6r3_9
def p6r3_7 : List (Nat × Oper) := (0, q6r3_7) :: p6r3_8
def p6r3_6 : List (Nat × Oper) := (0, q6r3_6) :: p6r3_7
def p6r3_5 : List (Nat × Oper) := (0, q6r3_5) :: p6r3_6
def p6r3_4 : List (Nat × Oper) := (0, q6r3_4) :: p6r3_5
def p6r3_3 : List (Nat × Oper) := (0, q6r3_3) :: p6r3_4
def p6r3_2 : List (Nat × Oper) := (0, q6r3_2) :: p6r3_3
def p6r3_1 : List (Nat × Oper) := (0, q6r3_1) :: p6r3_2
def p6r3_0 : List (Nat × Oper) := (0, q6r3_0) :: p6r3_1
def c6r3 : List (Nat × Nat) := [(0, 0), (0, 1), (0, 2), (0, 3), (0, 4), (0, 5), (0, 6), (0, 7), (0, 8), (0, 9), (0, 10), (0, 11), (0, 12), (0, 13), (0, 14), (0, 15), (0, 16), (0, 17), (0, 18), (1, 19), (0, 20), (0, 21), (0, 22), (0, 23), (1, 24), (0, 25), (0, 26), (0, 27), (0, 28), (1, 29), (0, 30), (0, 31), (0, 32)]
theorem b6r3 : (Region.noSelect o6r3 && (c6r3.length == o6r3.size) && planB o6r3 [] c6r3 (Array.replicate o6r3.size false)) = true := by kernel_rfl
theorem d6r3 : (c6r3.map fun p => (p.1, o6r3[p.2]?)) = (p6r3_0.map fun p => (p.1, some p.2)) := by kernel_rfl
set_option maxRecDepth 100000 in
set_option maxHeartbeats 8000000 in
theorem known_any (w : World) : Calls Try.prog 6 #[] w fun e w' => e = .returned (.bool true) ∧ Kp (fun _ => False) w w' := by
  go_enter Try.func6, Try.ntmps6
  go_wp2_with (first | (go_at_call 20; refine (some_any _).mono ?_; rintro e w1 ⟨rfl, k1⟩) | (go_at_call 7; refine (bytes_ok sm _ sm_wf sm_may).mono ?_; rintro e w2 ⟨G, rfl, hG, r2, k2⟩) | (go_at_call 15; refine (read_yes G 0 512 512 (secL sm) _ (sec_bz sm_may r2) (by omega) (sec_back sm_may (by decide)).1).mono ?_; rw [(sec_back sm_may (by decide)).2]; rintro e w3 ⟨rfl, k3⟩) | (refine wpList_store_hd rfl (.tmp 3) (.tmp 13) rfl w3.heap.size rfl (h := zH) (h' := sm) rfl (Hb.new w3 zH) ?_; intro w4 b4 k4))
  have KA : Hid (Kp (fun _ => False) w w3) := (k1.trans k2 (fun _ _ x => x)).trans k3 (fun _ _ x => x)
  have KB : Hid (Kp (fun i => i = w3.heap.size) w3 w4) := ((Kp.refl (fun i => i = w3.heap.size) w3).alloc _).trans k4 (fun _ _ h => h)
  have RG : Hid (Rw 5 w4 G (secL sm)) := hid (by
    have e3 := r2.kp k3 (fun x => x)
    exact e3.kp KB.out (by have := e3.lt; omega))
  have K4 : Hid (Kp (fun _ => False) w w4) := KA.out.trans KB.out (fun i h1 h2 => by have := KA.out.size; omega)
  have HB := hid b4
  clear k1 k2 k3 k4 b4 r2 KA KB hG
  generalize w3.heap.size = B at *
  have h0 : Kp (fun _ => False) w4 w4.drew := (Kp.refl _ _).drew
  change (Code.region 3 o6r3 true).wp _ _ _ _
  refine wp_region_plan (fun w' => Kp (fun _ => False) w4 w') [] c6r3 p6r3_0 hmix b6r3 d6r3 (fun _ _ d _ _ h => by cases d <;> exact h) ?_
  refine plan_take (o := q6r3_0) (r := p6r3_1) ?v0 h0 (by rfl) ?hy0 ?rest0
  case hy0 => (intro w _; simp only [q6r3_0]; go_simp; try with_reducible rfl)
  try simp only [q6r3_0, Act.put, List.setIfInBounds_toArray, List.set_cons_zero, List.set_cons_succ]
  refine plan_take (o := q6r3_1) (r := p6r3_2) ?v1 h0 (by rfl) ?hy1 ?rest1
  case hy1 => (intro w _; simp only [q6r3_1]; go_simp; try with_reducible rfl)
  try simp only [q6r3_1, Act.put, List.setIfInBounds_toArray, List.set_cons_zero, List.set_cons_succ]
  refine plan_take (o := q6r3_2) (r := p6r3_3) ?v2 h0 (by rfl) ?hy2 ?rest2
  case hy2 => (intro w _; simp only [q6r3_2]; go_simp; try with_reducible rfl)
  try simp only [q6r3_2, Act.put, List.setIfInBounds_toArray, List.set_cons_zero, List.set_cons_succ]
  refine plan_take (o := q6r3_3) (r := p6r3_4) ?v3 h0 (by rfl) ?hy3 ?rest3
  case hy3 => (intro w _; simp only [q6r3_3]; go_simp; try with_reducible rfl)
  try simp only [q6r3_3, Act.put, List.setIfInBounds_toArray, List.set_cons_zero, List.set_cons_succ]
  refine plan_take (o := q6r3_4) (r := p6r3_5) ?v4 h0 (by rfl) ?hy4 ?rest4
  case hy4 => (intro w _; simp only [q6r3_4]; go_simp; try with_reducible rfl)
  try simp only [q6r3_4, Act.put, List.setIfInBounds_toArray, List.set_cons_zero, List.set_cons_succ]
  refine plan_take (o := q6r3_5) (r := p6r3_6) ?v5 h0 (by rfl) ?hy5 ?rest5
  case hy5 => (intro w _; simp only [q6r3_5]; go_simp; try with_reducible rfl)
  try simp only [q6r3_5, Act.put, List.setIfInBounds_toArray, List.set_cons_zero, List.set_cons_succ]
  refine plan_take (o := q6r3_6) (r := p6r3_7) ?v6 h0 (by rfl) ?hy6 ?rest6
  case hy6 => (intro w _; simp only [q6r3_6]; go_simp; try with_reducible rfl)
  try simp only [q6r3_6, Act.put, List.setIfInBounds_toArray, List.set_cons_zero, List.set_cons_succ]
  refine plan_take (o := q6r3_7) (r := p6r3_8) ?v7 h0 (by rfl) ?hy7 ?rest7
  case hy7 => (intro w _; simp only [q6r3_7]; go_simp; try with_reducible rfl)
  try simp only [q6r3_7, Act.put, List.setIfInBounds_toArray, List.set_cons_zero, List.set_cons_succ]
  refine plan_take (o := q6r3_8) (r := p6r3_9) ?v8 h0 (by rfl) ?hy8 ?rest8
  case hy8 => (intro w _; simp only [q6r3_8]; go_simp; try with_reducible rfl)
  try simp only [q6r3_8, Act.put, List.setIfInBounds_toArray, List.set_cons_zero, List.set_cons_succ]
  refine plan_take (o := q6r3_9) (r := p6r3_10) ?v9 h0 (by rfl) ?hy9 ?rest9
  case hy9 => (intro w _; simp only [q6r3_9]; go_simp; try with_reducible rfl)
  try simp only [q6r3_9, Act.put, List.setIfInBounds_toArray, List.set_cons_zero, List.set_cons_succ]
  refine plan_take (o := q6r3_10) (r := p6r3_11) ?v10 h0 (by rfl) ?hy10 ?rest10
  case hy10 => (intro w hSw; (try dsimp only at hSw); have hcv := conv_mark sm_may (RG.out.kp hSw (fun x => x)); simp only [q6r3_10]; go_simp; try with_reducible rfl)
  try simp only [q6r3_10, Act.put, List.setIfInBounds_toArray, List.set_cons_zero, List.set_cons_succ]
  refine plan_take (o := q6r3_11) (r := p6r3_12) ?v11 h0 (by rfl) ?hy11 ?rest11
  case hy11 => (intro w _; simp only [q6r3_11]; go_simp; try with_reducible rfl)
  try simp only [q6r3_11, Act.put, List.setIfInBounds_toArray, List.set_cons_zero, List.set_cons_succ]
  refine plan_take (o := q6r3_12) (r := p6r3_13) ?v12 h0 (by rfl) ?hy12 ?rest12
  case hy12 => (intro w _; simp only [q6r3_12]; go_simp; try with_reducible rfl)
  try simp only [q6r3_12, Act.put, List.setIfInBounds_toArray, List.set_cons_zero, List.set_cons_succ]
  refine plan_take (o := q6r3_13) (r := p6r3_14) ?v13 h0 (by rfl) ?hy13 ?rest13
  case hy13 => (intro w _; simp only [q6r3_13]; go_simp; try with_reducible rfl)
  try simp only [q6r3_13, Act.put, List.setIfInBounds_toArray, List.set_cons_zero, List.set_cons_succ]
  refine plan_take (o := q6r3_14) (r := p6r3_15) ?v14 h0 (by rfl) ?hy14 ?rest14
  case hy14 => (intro w _; simp only [q6r3_14]; go_simp; try with_reducible rfl)
  try simp only [q6r3_14, Act.put, List.setIfInBounds_toArray, List.set_cons_zero, List.set_cons_succ]
  refine plan_take (o := q6r3_15) (r := p6r3_16) ?v15 h0 (by rfl) ?hy15 ?rest15
  case hy15 => (intro w _; simp only [q6r3_15]; go_simp; try with_reducible rfl)
  try simp only [q6r3_15, Act.put, List.setIfInBounds_toArray, List.set_cons_zero, List.set_cons_succ]
  refine plan_take (o := q6r3_16) (r := p6r3_17) ?v16 h0 (by rfl) ?hy16 ?rest16
  case hy16 => (intro w _; simp only [q6r3_16]; go_simp; try with_reducible rfl)
  try simp only [q6r3_16, Act.put, List.setIfInBounds_toArray, List.set_cons_zero, List.set_cons_succ]
  refine plan_take (o := q6r3_17) (r := p6r3_18) ?v17 h0 (by rfl) ?hy17 ?rest17
  case hy17 => (intro w _; simp only [q6r3_17]; go_simp; try with_reducible rfl)
  try simp only [q6r3_17, Act.put, List.setIfInBounds_toArray, List.set_cons_zero, List.set_cons_succ]
  refine plan_take (o := q6r3_18) (r := p6r3_19) (.agg sm.cs) h0 (by rfl) ?hy18 ?rest18
  case hy18 => exact fun w hSw => exec_load_hd rfl rfl (HB.out.kp hSw (fun x => x))
  try simp only [q6r3_18, Act.put, List.setIfInBounds_toArray, List.set_cons_zero, List.set_cons_succ]
  refine plan_act (o := q6r3_19) (r := p6r3_20) (fun K hK => ?_)
  simp only [q6r3_19]
  go_simp
  refine (some_any _).mono ?_
  rintro _ w5 ⟨rfl, k5⟩
  go_wp2_with fail
  refine hK.out _ _ (fun h => h.trans k5 (fun _ _ x => x)) ?_
  have s5 : Kp (fun _ => False) w4 w5 := h0.trans k5 (fun _ _ x => x)
  clear hK K
  refine plan_take (o := q6r3_20) (r := p6r3_21) (.bool true) s5 (by rfl) ?hy20 ?rest20
  case hy20 => exact fun w hSw => (by rw [exec_eq_hd (x := .tmp 33) (y := .tmp 34) (h := sm) (k := sm) rfl rfl rfl, eqH_self])
  try simp only [q6r3_20, Act.put, List.setIfInBounds_toArray, List.set_cons_zero, List.set_cons_succ]
  refine plan_take (o := q6r3_21) (r := p6r3_22) ?v21 s5 (by rfl) ?hy21 ?rest21
  case hy21 => (intro w _; simp only [q6r3_21]; go_simp; try with_reducible rfl)
  try simp only [q6r3_21, Act.put, List.setIfInBounds_toArray, List.set_cons_zero, List.set_cons_succ]
  refine plan_take (o := q6r3_22) (r := p6r3_23) ?v22 s5 (by rfl) ?hy22 ?rest22
  case hy22 => (intro w _; simp only [q6r3_22]; go_simp; try with_reducible rfl)
  try simp only [q6r3_22, Act.put, List.setIfInBounds_toArray, List.set_cons_zero, List.set_cons_succ]
  refine plan_take (o := q6r3_23) (r := p6r3_24) (.agg sm.cs) s5 (by rfl) ?hy23 ?rest23
  case hy23 => exact fun w hSw => exec_load_hd rfl rfl (HB.out.kp hSw (fun x => x))
  try simp only [q6r3_23, Act.put, List.setIfInBounds_toArray, List.set_cons_zero, List.set_cons_succ]
  refine plan_act (o := q6r3_24) (r := p6r3_25) (fun K hK => ?_)
  simp only [q6r3_24]
  go_simp
  refine (guestE_ok sm _ sm_wf sm_may).mono ?_
  rintro _ w6 ⟨rfl, k6⟩
  rw [show gst sm = 2 from rfl]
  go_wp2_with fail
  refine hK.out _ _ (fun h => h.trans k6 (fun _ _ x => x)) ?_
  have s6 : Kp (fun _ => False) w4 w6 := s5.trans k6 (fun _ _ x => x)
  clear hK K
  refine plan_take (o := q6r3_25) (r := p6r3_26) ?v25 s6 (by rfl) ?hy25 ?rest25
  case hy25 => (intro w _; simp only [q6r3_25]; go_simp; try with_reducible rfl)
  try simp only [q6r3_25, Act.put, List.setIfInBounds_toArray, List.set_cons_zero, List.set_cons_succ]
  refine plan_take (o := q6r3_26) (r := p6r3_27) ?v26 s6 (by rfl) ?hy26 ?rest26
  case hy26 => (intro w _; simp only [q6r3_26]; go_simp; try with_reducible rfl)
  try simp only [q6r3_26, Act.put, List.setIfInBounds_toArray, List.set_cons_zero, List.set_cons_succ]
  refine plan_take (o := q6r3_27) (r := p6r3_28) ?v27 s6 (by rfl) ?hy27 ?rest27
  case hy27 => (intro w _; simp only [q6r3_27]; go_simp; try with_reducible rfl)
  try simp only [q6r3_27, Act.put, List.setIfInBounds_toArray, List.set_cons_zero, List.set_cons_succ]
  refine plan_take (o := q6r3_28) (r := p6r3_29) (.agg sm.cs) s6 (by rfl) ?hy28 ?rest28
  case hy28 => exact fun w hSw => exec_load_hd rfl rfl (HB.out.kp hSw (fun x => x))
  try simp only [q6r3_28, Act.put, List.setIfInBounds_toArray, List.set_cons_zero, List.set_cons_succ]
  refine plan_act (o := q6r3_29) (r := p6r3_30) (fun K hK => ?_)
  simp only [q6r3_29]
  go_simp
  refine (tablesE_ok sm _ sm_wf sm_may).mono ?_
  rintro _ w7 ⟨rfl, k7⟩
  rw [show tbl sm = 1 from rfl]
  go_wp2_with fail
  refine hK.out _ _ (fun h => h.trans k7 (fun _ _ x => x)) ?_
  have s7 : Kp (fun _ => False) w4 w7 := s6.trans k7 (fun _ _ x => x)
  clear hK K
  refine plan_take (o := q6r3_30) (r := p6r3_31) ?v30 s7 (by rfl) ?hy30 ?rest30
  case hy30 => (intro w _; simp only [q6r3_30]; go_simp; try with_reducible rfl)
  try simp only [q6r3_30, Act.put, List.setIfInBounds_toArray, List.set_cons_zero, List.set_cons_succ]
  refine plan_take (o := q6r3_31) (r := p6r3_32) ?v31 s7 (by rfl) ?hy31 ?rest31
  case hy31 => (intro w _; simp only [q6r3_31]; go_simp; try with_reducible rfl)
  try simp only [q6r3_31, Act.put, List.setIfInBounds_toArray, List.set_cons_zero, List.set_cons_succ]
  refine plan_take (o := q6r3_32) (r := p6r3_33) ?v32 s7 (by rfl) ?hy32 ?rest32
  case hy32 => (intro w _; simp only [q6r3_32]; go_simp; try with_reducible rfl)
  try simp only [q6r3_32, Act.put, List.setIfInBounds_toArray, List.set_cons_zero]
  refine plan_done ?_
  go_wp2_with fail
  go_ret
  exact ⟨rfl, K4.out.trans s7 (fun _ _ x => x)⟩
end Go.Proofs.Ytejdmnhdjeogaaa
