/- The walk of HeadBytes. -/
import Derived.Test.YtejdmnhdjeogaaaAw
import Derived.Test.YtejdmnhdjeogaaaRm
import Derived.Test.YtejdmnhdjeogaaaRb
namespace Go.Proofs.Ytejdmnhdjeogaaa
open Go.RowKit
set_option linter.unusedVariables false
theorem rmay_yes {h : Hd} {w : World} (wf : h.Wf) (hn : h.name.size ≤ maxLen) (m : May h) : Calls Try.prog 8 #[.agg h.cs] w fun e w' => e = .returned (.bool true) ∧ Kp (fun _ => False) w w' := by
  refine (rmay h w wf hn).mono ?_
  rintro e w' ⟨⟨_, rfl⟩ | ⟨q, _⟩, k⟩
  · exact ⟨rfl, k⟩
  · exact absurd m q
theorem rmay_no {h : Hd} {w : World} (wf : h.Wf) (hn : h.name.size ≤ maxLen) (m : ¬ May h) : Calls Try.prog 8 #[.agg h.cs] w fun e w' => e = .returned (.bool false) ∧ Kp (fun _ => False) w w' := by
  refine (rmay h w wf hn).mono ?_
  rintro e w' ⟨⟨q, _⟩ | ⟨_, rfl⟩, k⟩
  · exact absurd q m
  · exact ⟨rfl, k⟩
theorem conv_own {h : Hd} (m : May h) {w : World} {g : Nat} {tl : List Int} (hr : Rw 5 w g (secL h ++ tl)) (c : Nat) : (convert 26 9 (.slice (some ⟨g, 0, none⟩) 512 c)).run Try.prog w = .ok (.string (strOfNums (secL h))) w :=
  run_convert_rw w 26 9 5 Try.underlying26 Try.underlying5 Try.underlying9 (some ⟨g, 0, none⟩) 512 c (secL h) (secL_length h m.long) (fun _ => ⟨g, 0, rfl, fun i hi => by
    have hl := secL_length h m.long
    rw [Nat.zero_add, hr.cell i (by rw [List.length_append]; omega)]
    simp [List.getD, List.getElem?_append_left (show i < (secL h).length by omega)]⟩)
theorem row_zs {w : World} {g : Nat} {zs tl : List Int} (h : Rw 5 w g (zs ++ tl)) : ∀ i, i < zs.length → w.cell? ⟨g, 0 + i, none⟩ = some (.int .u8 (zs.getD i 0)) := fun i hi => by
  rw [Nat.zero_add, h.cell i (by rw [List.length_append]; omega)]
  simp only [List.getD]
  rw [List.getElem?_append_left hi]
def q3r7_0 : Oper := { dst := some 58, op := Go.Op.load 24 (Go.Operand.tmp 1), type := 24, pos := "law.go:32", after := #[], guard := none }
def q3r7_1 : Oper := { dst := some 59, op := Go.Op.call { callee := Go.Callee.value (Go.Operand.func 9), args := #[Go.Operand.tmp 58], argTypes := #[24] }, type := 27, pos := "law.go:32", after := #[{ on := 0, ground := Go.Ground.data }], guard := none }
def q3r7_2 : Oper := { dst := some 60, op := Go.Op.binOp Go.BinOp.neq 27 (Go.Operand.tmp 59) (Go.Operand.const (Go.Value.int Go.IntKind.i64 0)) 27, type := 4, pos := "law.go:32", after := #[{ on := 1, ground := Go.Ground.data }], guard := none }
def q3r7_3 : Oper := { dst := some 61, op := Go.Op.move (Go.Operand.tmp 60), type := 4, pos := "law.go:32", after := #[{ on := 2, ground := Go.Ground.data }, { on := 1, ground := Go.Ground.chain }], guard := none }
def q3r7_4 : Oper := { dst := some 62, op := Go.Op.move (Go.Operand.tmp 4), type := 27, pos := "law.go:32", after := #[{ on := 3, ground := Go.Ground.guard }], guard := some (3, false) }
def q3r7_5 : Oper := { dst := some 63, op := Go.Op.binOp Go.BinOp.neq 27 (Go.Operand.tmp 62) (Go.Operand.const (Go.Value.int Go.IntKind.i64 0)) 27, type := 4, pos := "law.go:32", after := #[{ on := 4, ground := Go.Ground.data }, { on := 3, ground := Go.Ground.guard }], guard := some (3, false) }
def q3r7_6 : Oper := { dst := some 64, op := Go.Op.pick (Go.Operand.tmp 61) (Go.Operand.const (Go.Value.bool true)) (Go.Operand.tmp 63), type := 4, pos := "law.go:32", after := #[{ on := 3, ground := Go.Ground.data }, { on := 5, ground := Go.Ground.data }], guard := none }
def q3r7_7 : Oper := { dst := some 65, op := Go.Op.move (Go.Operand.tmp 64), type := 4, pos := "law.go:32", after := #[{ on := 6, ground := Go.Ground.data }, { on := 3, ground := Go.Ground.chain }], guard := none }
def q3r7_8 : Oper := { dst := some 66, op := Go.Op.move (Go.Operand.tmp 3), type := 26, pos := "law.go:32", after := #[{ on := 7, ground := Go.Ground.guard }], guard := some (7, false) }
def q3r7_9 : Oper := { dst := some 67, op := Go.Op.convert 26 9 (Go.Operand.tmp 66), type := 9, pos := "law.go:32", after := #[{ on := 8, ground := Go.Ground.data }, { on := 7, ground := Go.Ground.guard }], guard := some (7, false) }
def q3r7_10 : Oper := { dst := some 68, op := Go.Op.load 24 (Go.Operand.tmp 1), type := 24, pos := "law.go:32", after := #[{ on := 7, ground := Go.Ground.guard }], guard := some (7, false) }
def q3r7_11 : Oper := { dst := some 69, op := Go.Op.call { callee := Go.Callee.value (Go.Operand.func 14), args := #[Go.Operand.tmp 68], argTypes := #[24] }, type := 26, pos := "law.go:32", after := #[{ on := 10, ground := Go.Ground.data }, { on := 7, ground := Go.Ground.chain }, { on := 7, ground := Go.Ground.guard }], guard := some (7, false) }
def q3r7_12 : Oper := { dst := some 70, op := Go.Op.convert 26 9 (Go.Operand.tmp 69), type := 9, pos := "law.go:32", after := #[{ on := 11, ground := Go.Ground.data }, { on := 7, ground := Go.Ground.guard }], guard := some (7, false) }
def q3r7_13 : Oper := { dst := some 71, op := Go.Op.binOp Go.BinOp.neq 9 (Go.Operand.tmp 67) (Go.Operand.tmp 70) 9, type := 4, pos := "law.go:32", after := #[{ on := 9, ground := Go.Ground.data }, { on := 12, ground := Go.Ground.data }, { on := 7, ground := Go.Ground.guard }], guard := some (7, false) }
def q3r7_14 : Oper := { dst := some 72, op := Go.Op.pick (Go.Operand.tmp 65) (Go.Operand.const (Go.Value.bool true)) (Go.Operand.tmp 71), type := 4, pos := "law.go:32", after := #[{ on := 7, ground := Go.Ground.data }, { on := 13, ground := Go.Ground.data }], guard := none }
def o3r7 : Array Oper := #[q3r7_0, q3r7_1, q3r7_2, q3r7_3, q3r7_4, q3r7_5, q3r7_6, q3r7_7, q3r7_8, q3r7_9, q3r7_10, q3r7_11, q3r7_12, q3r7_13, q3r7_14]
def p3r7_15 : List (Nat × Oper) := []
def p3r7_14 : List (Nat × Oper) := (0, q3r7_14) :: p3r7_15
def p3r7_13 : List (Nat × Oper) := (0, q3r7_13) :: p3r7_14
def p3r7_12 : List (Nat × Oper) := (1, q3r7_12) :: p3r7_13
def p3r7_11 : List (Nat × Oper) := (1, q3r7_11) :: p3r7_12
def p3r7_10 : List (Nat × Oper) := (0, q3r7_10) :: p3r7_11
def p3r7_9 : List (Nat × Oper) := (0, q3r7_9) :: p3r7_10
def p3r7_8 : List (Nat × Oper) := (0, q3r7_8) :: p3r7_9
def p3r7_7 : List (Nat × Oper) := (0, q3r7_7) :: p3r7_8
def p3r7_6 : List (Nat × Oper) := (0, q3r7_6) :: p3r7_7
def p3r7_5 : List (Nat × Oper) := (0, q3r7_5) :: p3r7_6
def p3r7_4 : List (Nat × Oper) := (0, q3r7_4) :: p3r7_5
def p3r7_3 : List (Nat × Oper) := (0, q3r7_3) :: p3r7_4
def p3r7_2 : List (Nat × Oper) := (0, q3r7_2) :: p3r7_3
def p3r7_1 : List (Nat × Oper) := (1, q3r7_1) :: p3r7_2
def p3r7_0 : List (Nat × Oper) := (0, q3r7_0) :: p3r7_1
def c3r7 : List (Nat × Nat) := [(0, 0), (1, 1), (0, 2), (0, 3), (0, 4), (0, 5), (0, 6), (0, 7), (0, 8), (0, 9), (0, 10), (1, 11), (1, 12), (0, 13), (0, 14)]
theorem b3r7 : (Region.noSelect o3r7 && (c3r7.length == o3r7.size) && planB o3r7 [] c3r7 (Array.replicate o3r7.size false)) = true := by kernel_rfl
theorem d3r7 : (c3r7.map fun p => (p.1, o3r7[p.2]?)) = (p3r7_0.map fun p => (p.1, some p.2)) := by kernel_rfl
def q3r11_0 : Oper := { dst := some 83, op := Go.Op.load 24 (Go.Operand.tmp 6), type := 24, pos := "law.go:37", after := #[], guard := none }
def q3r11_1 : Oper := { dst := some 84, op := Go.Op.load 24 (Go.Operand.tmp 1), type := 24, pos := "law.go:37", after := #[], guard := none }
def q3r11_2 : Oper := { dst := some 85, op := Go.Op.binOp Go.BinOp.eql 24 (Go.Operand.tmp 83) (Go.Operand.tmp 84) 24, type := 4, pos := "law.go:37", after := #[{ on := 0, ground := Go.Ground.data }, { on := 1, ground := Go.Ground.data }], guard := none }
def q3r11_3 : Oper := { dst := some 86, op := Go.Op.move (Go.Operand.tmp 85), type := 4, pos := "law.go:37", after := #[{ on := 2, ground := Go.Ground.data }], guard := none }
def q3r11_4 : Oper := { dst := some 87, op := Go.Op.move (Go.Operand.tmp 7), type := 27, pos := "law.go:37", after := #[{ on := 3, ground := Go.Ground.guard }], guard := some (3, true) }
def q3r11_5 : Oper := { dst := some 88, op := Go.Op.binOp Go.BinOp.eql 27 (Go.Operand.tmp 87) (Go.Operand.const (Go.Value.int Go.IntKind.i64 0)) 27, type := 4, pos := "law.go:37", after := #[{ on := 4, ground := Go.Ground.data }, { on := 3, ground := Go.Ground.guard }], guard := some (3, true) }
def q3r11_6 : Oper := { dst := some 89, op := Go.Op.pick (Go.Operand.tmp 86) (Go.Operand.tmp 88) (Go.Operand.const (Go.Value.bool false)), type := 4, pos := "law.go:37", after := #[{ on := 3, ground := Go.Ground.data }, { on := 5, ground := Go.Ground.data }], guard := none }
def q3r11_7 : Oper := { dst := some 90, op := Go.Op.move (Go.Operand.tmp 89), type := 4, pos := "law.go:37", after := #[{ on := 6, ground := Go.Ground.data }, { on := 3, ground := Go.Ground.chain }], guard := none }
def q3r11_8 : Oper := { dst := some 91, op := Go.Op.load 24 (Go.Operand.tmp 1), type := 24, pos := "law.go:37", after := #[{ on := 7, ground := Go.Ground.guard }], guard := some (7, true) }
def q3r11_9 : Oper := { dst := some 92, op := Go.Op.call { callee := Go.Callee.value (Go.Operand.func 10), args := #[Go.Operand.tmp 91], argTypes := #[24] }, type := 2, pos := "law.go:37", after := #[{ on := 8, ground := Go.Ground.data }, { on := 7, ground := Go.Ground.chain }, { on := 7, ground := Go.Ground.guard }], guard := some (7, true) }
def q3r11_10 : Oper := { dst := some 93, op := Go.Op.move (Go.Operand.tmp 8), type := 2, pos := "law.go:37", after := #[{ on := 7, ground := Go.Ground.guard }], guard := some (7, true) }
def q3r11_11 : Oper := { dst := some 94, op := Go.Op.binOp Go.BinOp.eql 2 (Go.Operand.tmp 92) (Go.Operand.tmp 93) 2, type := 4, pos := "law.go:37", after := #[{ on := 9, ground := Go.Ground.data }, { on := 10, ground := Go.Ground.data }, { on := 7, ground := Go.Ground.guard }], guard := some (7, true) }
def q3r11_12 : Oper := { dst := some 95, op := Go.Op.pick (Go.Operand.tmp 90) (Go.Operand.tmp 94) (Go.Operand.const (Go.Value.bool false)), type := 4, pos := "law.go:37", after := #[{ on := 7, ground := Go.Ground.data }, { on := 11, ground := Go.Ground.data }], guard := none }
def q3r11_13 : Oper := { dst := some 96, op := Go.Op.move (Go.Operand.tmp 95), type := 4, pos := "law.go:37", after := #[{ on := 12, ground := Go.Ground.data }, { on := 9, ground := Go.Ground.chain }], guard := none }
def q3r11_14 : Oper := { dst := some 97, op := Go.Op.load 24 (Go.Operand.tmp 1), type := 24, pos := "law.go:37", after := #[{ on := 13, ground := Go.Ground.guard }], guard := some (13, true) }
def q3r11_15 : Oper := { dst := some 98, op := Go.Op.call { callee := Go.Callee.value (Go.Operand.func 11), args := #[Go.Operand.tmp 97], argTypes := #[24] }, type := 2, pos := "law.go:37", after := #[{ on := 14, ground := Go.Ground.data }, { on := 13, ground := Go.Ground.chain }, { on := 13, ground := Go.Ground.guard }], guard := some (13, true) }
def q3r11_16 : Oper := { dst := some 99, op := Go.Op.move (Go.Operand.tmp 8), type := 2, pos := "law.go:37", after := #[{ on := 13, ground := Go.Ground.guard }], guard := some (13, true) }
def q3r11_17 : Oper := { dst := some 100, op := Go.Op.binOp Go.BinOp.quo 2 (Go.Operand.tmp 99) (Go.Operand.const (Go.Value.int Go.IntKind.i64 8)) 2, type := 2, pos := "law.go:37", after := #[{ on := 16, ground := Go.Ground.data }, { on := 13, ground := Go.Ground.guard }], guard := some (13, true) }
def q3r11_18 : Oper := { dst := some 101, op := Go.Op.binOp Go.BinOp.eql 2 (Go.Operand.tmp 98) (Go.Operand.tmp 100) 2, type := 4, pos := "law.go:37", after := #[{ on := 15, ground := Go.Ground.data }, { on := 17, ground := Go.Ground.data }, { on := 13, ground := Go.Ground.guard }], guard := some (13, true) }
def q3r11_19 : Oper := { dst := some 102, op := Go.Op.pick (Go.Operand.tmp 96) (Go.Operand.tmp 101) (Go.Operand.const (Go.Value.bool false)), type := 4, pos := "law.go:37", after := #[{ on := 13, ground := Go.Ground.data }, { on := 18, ground := Go.Ground.data }], guard := none }
def q3r11_20 : Oper := { dst := some 103, op := Go.Op.move (Go.Operand.tmp 102), type := 4, pos := "law.go:37", after := #[{ on := 19, ground := Go.Ground.data }, { on := 15, ground := Go.Ground.chain }], guard := none }
def q3r11_21 : Oper := { dst := some 104, op := Go.Op.load 24 (Go.Operand.tmp 1), type := 24, pos := "law.go:37", after := #[{ on := 20, ground := Go.Ground.guard }], guard := some (20, true) }
def q3r11_22 : Oper := { dst := some 105, op := Go.Op.call { callee := Go.Callee.value (Go.Operand.func 12), args := #[Go.Operand.tmp 104], argTypes := #[24] }, type := 2, pos := "law.go:37", after := #[{ on := 21, ground := Go.Ground.data }, { on := 20, ground := Go.Ground.chain }, { on := 20, ground := Go.Ground.guard }], guard := some (20, true) }
def q3r11_23 : Oper := { dst := some 106, op := Go.Op.load 24 (Go.Operand.tmp 1), type := 24, pos := "law.go:37", after := #[{ on := 20, ground := Go.Ground.guard }], guard := some (20, true) }
def q3r11_24 : Oper := { dst := some 107, op := Go.Op.call { callee := Go.Callee.value (Go.Operand.func 17), args := #[Go.Operand.tmp 106], argTypes := #[24] }, type := 2, pos := "law.go:37", after := #[{ on := 23, ground := Go.Ground.data }, { on := 22, ground := Go.Ground.chain }, { on := 20, ground := Go.Ground.guard }], guard := some (20, true) }
def q3r11_25 : Oper := { dst := some 108, op := Go.Op.binOp Go.BinOp.eql 2 (Go.Operand.tmp 105) (Go.Operand.tmp 107) 2, type := 4, pos := "law.go:37", after := #[{ on := 22, ground := Go.Ground.data }, { on := 24, ground := Go.Ground.data }, { on := 20, ground := Go.Ground.guard }], guard := some (20, true) }
def q3r11_26 : Oper := { dst := some 109, op := Go.Op.pick (Go.Operand.tmp 103) (Go.Operand.tmp 108) (Go.Operand.const (Go.Value.bool false)), type := 4, pos := "law.go:37", after := #[{ on := 20, ground := Go.Ground.data }, { on := 25, ground := Go.Ground.data }], guard := none }
def q3r11_27 : Oper := { dst := some 110, op := Go.Op.move (Go.Operand.tmp 109), type := 4, pos := "law.go:37", after := #[{ on := 26, ground := Go.Ground.data }, { on := 24, ground := Go.Ground.chain }], guard := none }
def q3r11_28 : Oper := { dst := some 111, op := Go.Op.load 24 (Go.Operand.tmp 1), type := 24, pos := "law.go:37", after := #[{ on := 27, ground := Go.Ground.guard }], guard := some (27, true) }
def q3r11_29 : Oper := { dst := some 112, op := Go.Op.call { callee := Go.Callee.value (Go.Operand.func 13), args := #[Go.Operand.tmp 111], argTypes := #[24] }, type := 2, pos := "law.go:37", after := #[{ on := 28, ground := Go.Ground.data }, { on := 27, ground := Go.Ground.chain }, { on := 27, ground := Go.Ground.guard }], guard := some (27, true) }
def q3r11_30 : Oper := { dst := some 113, op := Go.Op.load 24 (Go.Operand.tmp 1), type := 24, pos := "law.go:37", after := #[{ on := 27, ground := Go.Ground.guard }], guard := some (27, true) }
def q3r11_31 : Oper := { dst := some 114, op := Go.Op.call { callee := Go.Callee.value (Go.Operand.func 18), args := #[Go.Operand.tmp 113], argTypes := #[24] }, type := 2, pos := "law.go:37", after := #[{ on := 30, ground := Go.Ground.data }, { on := 29, ground := Go.Ground.chain }, { on := 27, ground := Go.Ground.guard }], guard := some (27, true) }
def q3r11_32 : Oper := { dst := some 115, op := Go.Op.binOp Go.BinOp.eql 2 (Go.Operand.tmp 112) (Go.Operand.tmp 114) 2, type := 4, pos := "law.go:37", after := #[{ on := 29, ground := Go.Ground.data }, { on := 31, ground := Go.Ground.data }, { on := 27, ground := Go.Ground.guard }], guard := some (27, true) }
def q3r11_33 : Oper := { dst := some 116, op := Go.Op.pick (Go.Operand.tmp 110) (Go.Operand.tmp 115) (Go.Operand.const (Go.Value.bool false)), type := 4, pos := "law.go:37", after := #[{ on := 27, ground := Go.Ground.data }, { on := 32, ground := Go.Ground.data }], guard := none }
def q3r11_34 : Oper := { dst := some 117, op := Go.Op.move (Go.Operand.tmp 116), type := 4, pos := "law.go:37", after := #[{ on := 33, ground := Go.Ground.data }, { on := 31, ground := Go.Ground.chain }], guard := none }
def q3r11_35 : Oper := { dst := some 118, op := Go.Op.call { callee := Go.Callee.value (Go.Operand.func 6), args := #[], argTypes := #[] }, type := 4, pos := "law.go:37", after := #[{ on := 34, ground := Go.Ground.chain }, { on := 34, ground := Go.Ground.guard }], guard := some (34, true) }
def q3r11_36 : Oper := { dst := some 119, op := Go.Op.pick (Go.Operand.tmp 117) (Go.Operand.tmp 118) (Go.Operand.const (Go.Value.bool false)), type := 4, pos := "law.go:37", after := #[{ on := 34, ground := Go.Ground.data }, { on := 35, ground := Go.Ground.data }], guard := none }
def q3r11_37 : Oper := { dst := some 2, op := Go.Op.assign (Go.Operand.tmp 119), type := 4, pos := "law.go:37", after := #[{ on := 36, ground := Go.Ground.data }, { on := 35, ground := Go.Ground.chain }, { on := 0, ground := Go.Ground.phase }, { on := 1, ground := Go.Ground.phase }, { on := 2, ground := Go.Ground.phase }, { on := 3, ground := Go.Ground.phase }, { on := 4, ground := Go.Ground.phase }, { on := 5, ground := Go.Ground.phase }, { on := 6, ground := Go.Ground.phase }, { on := 7, ground := Go.Ground.phase }, { on := 8, ground := Go.Ground.phase }, { on := 9, ground := Go.Ground.phase }, { on := 10, ground := Go.Ground.phase }, { on := 11, ground := Go.Ground.phase }, { on := 12, ground := Go.Ground.phase }, { on := 13, ground := Go.Ground.phase }, { on := 14, ground := Go.Ground.phase }, { on := 15, ground := Go.Ground.phase }, { on := 16, ground := Go.Ground.phase }, { on := 17, ground := Go.Ground.phase }, { on := 18, ground := Go.Ground.phase }, { on := 19, ground := Go.Ground.phase }, { on := 20, ground := Go.Ground.phase }, { on := 21, ground := Go.Ground.phase }, { on := 22, ground := Go.Ground.phase }, { on := 23, ground := Go.Ground.phase }, { on := 24, ground := Go.Ground.phase }, { on := 25, ground := Go.Ground.phase }, { on := 26, ground := Go.Ground.phase }, { on := 27, ground := Go.Ground.phase }, { on := 28, ground := Go.Ground.phase }, { on := 29, ground := Go.Ground.phase }, { on := 30, ground := Go.Ground.phase }, { on := 31, ground := Go.Ground.phase }, { on := 32, ground := Go.Ground.phase }, { on := 33, ground := Go.Ground.phase }, { on := 34, ground := Go.Ground.phase }, { on := 35, ground := Go.Ground.phase }, { on := 36, ground := Go.Ground.phase }], guard := none }
def o3r11 : Array Oper := #[q3r11_0, q3r11_1, q3r11_2, q3r11_3, q3r11_4, q3r11_5, q3r11_6, q3r11_7, q3r11_8, q3r11_9, q3r11_10, q3r11_11, q3r11_12, q3r11_13, q3r11_14, q3r11_15, q3r11_16, q3r11_17, q3r11_18, q3r11_19, q3r11_20, q3r11_21, q3r11_22, q3r11_23, q3r11_24, q3r11_25, q3r11_26, q3r11_27, q3r11_28, q3r11_29, q3r11_30, q3r11_31, q3r11_32, q3r11_33, q3r11_34, q3r11_35, q3r11_36, q3r11_37]
def p3r11_38 : List (Nat × Oper) := []
def p3r11_37 : List (Nat × Oper) := (0, q3r11_37) :: p3r11_38
def p3r11_36 : List (Nat × Oper) := (0, q3r11_36) :: p3r11_37
def p3r11_35 : List (Nat × Oper) := (1, q3r11_35) :: p3r11_36
def p3r11_34 : List (Nat × Oper) := (0, q3r11_34) :: p3r11_35
def p3r11_33 : List (Nat × Oper) := (0, q3r11_33) :: p3r11_34
def p3r11_32 : List (Nat × Oper) := (0, q3r11_32) :: p3r11_33
def p3r11_31 : List (Nat × Oper) := (1, q3r11_31) :: p3r11_32
def p3r11_30 : List (Nat × Oper) := (1, q3r11_29) :: p3r11_31
def p3r11_29 : List (Nat × Oper) := (0, q3r11_30) :: p3r11_30
def p3r11_28 : List (Nat × Oper) := (0, q3r11_28) :: p3r11_29
def p3r11_27 : List (Nat × Oper) := (0, q3r11_27) :: p3r11_28
def p3r11_26 : List (Nat × Oper) := (0, q3r11_26) :: p3r11_27
def p3r11_25 : List (Nat × Oper) := (0, q3r11_25) :: p3r11_26
def p3r11_24 : List (Nat × Oper) := (1, q3r11_24) :: p3r11_25
def p3r11_23 : List (Nat × Oper) := (1, q3r11_22) :: p3r11_24
def p3r11_22 : List (Nat × Oper) := (0, q3r11_23) :: p3r11_23
def p3r11_21 : List (Nat × Oper) := (0, q3r11_21) :: p3r11_22
def p3r11_20 : List (Nat × Oper) := (0, q3r11_20) :: p3r11_21
def p3r11_19 : List (Nat × Oper) := (0, q3r11_19) :: p3r11_20
def p3r11_18 : List (Nat × Oper) := (0, q3r11_18) :: p3r11_19
def p3r11_17 : List (Nat × Oper) := (1, q3r11_15) :: p3r11_18
def p3r11_16 : List (Nat × Oper) := (0, q3r11_17) :: p3r11_17
def p3r11_15 : List (Nat × Oper) := (0, q3r11_16) :: p3r11_16
def p3r11_14 : List (Nat × Oper) := (0, q3r11_14) :: p3r11_15
def p3r11_13 : List (Nat × Oper) := (0, q3r11_13) :: p3r11_14
def p3r11_12 : List (Nat × Oper) := (0, q3r11_12) :: p3r11_13
def p3r11_11 : List (Nat × Oper) := (0, q3r11_11) :: p3r11_12
def p3r11_10 : List (Nat × Oper) := (1, q3r11_9) :: p3r11_11
def p3r11_9 : List (Nat × Oper) := (0, q3r11_10) :: p3r11_10
def p3r11_8 : List (Nat × Oper) := (0, q3r11_8) :: p3r11_9
def p3r11_7 : List (Nat × Oper) := (0, q3r11_7) :: p3r11_8
def p3r11_6 : List (Nat × Oper) := (0, q3r11_6) :: p3r11_7
def p3r11_5 : List (Nat × Oper) := (0, q3r11_5) :: p3r11_6
def p3r11_4 : List (Nat × Oper) := (0, q3r11_4) :: p3r11_5
def p3r11_3 : List (Nat × Oper) := (0, q3r11_3) :: p3r11_4
def p3r11_2 : List (Nat × Oper) := (0, q3r11_2) :: p3r11_3
def p3r11_1 : List (Nat × Oper) := (0, q3r11_1) :: p3r11_2
def p3r11_0 : List (Nat × Oper) := (0, q3r11_0) :: p3r11_1
def c3r11 : List (Nat × Nat) := [(0, 0), (0, 1), (0, 2), (0, 3), (0, 4), (0, 5), (0, 6), (0, 7), (0, 8), (0, 10), (1, 9), (0, 11), (0, 12), (0, 13), (0, 14), (0, 16), (0, 17), (1, 15), (0, 18), (0, 19), (0, 20), (0, 21), (0, 23), (1, 22), (1, 24), (0, 25), (0, 26), (0, 27), (0, 28), (0, 30), (1, 29), (1, 31), (0, 32), (0, 33), (0, 34), (1, 35), (0, 36), (0, 37)]
theorem b3r11 : (Region.noSelect o3r11 && (c3r11.length == o3r11.size) && planB o3r11 [] c3r11 (Array.replicate o3r11.size false)) = true := by kernel_rfl
theorem d3r11 : (c3r11.map fun p => (p.1, o3r11[p.2]?)) = (p3r11_0.map fun p => (p.1, some p.2)) := by kernel_rfl
set_option maxRecDepth 100000 in
set_option maxHeartbeats 8000000 in
theorem bytes_walk (h : Hd) (w : World) (wf : h.Wf) (hn : h.name.size ≤ maxLen) : Calls Try.prog 3 #[.agg h.cs] w fun e w' => e = .returned (.bool true) ∧ Kp (fun _ => False) w w' := by
  have hl : h.name.size ≤ 9223372036854775807 := by unfold maxLen at hn; omega
  have HB := hid (Hb.new w h)
  have HK : Hid (Kp (fun _ => False) w (w.alloc (.cells h.cs 24))) := (Kp.refl _ _).alloc _
  have c14 : (w.alloc (.cells h.cs 24)).cell? ⟨w.heap.size, 14, none⟩ = some (.string h.name) := HB.out.cell 14
  have hz : (w.alloc (.cells h.cs 24)).heap.size = w.heap.size + 1 := by simp
  have WF := hid wf
  have HN := hid hn
  have HL := hid hl
  clear wf hn hl
  go_enter Try.func3, Try.ntmps3
  by_cases hb : 1000 < h.name.size
  · have hbi : (1000 : Int) < (h.name.size : Int) := by omega
    go_wp2_with (go_at_call 6; refine (known_any _).mono ?_; rintro e w1 ⟨rfl, k1⟩)
    go_ret
    exact ⟨rfl, HK.out.trans k1 (fun _ _ x => x)⟩
  · have hbi : ¬ (1000 : Int) < (h.name.size : Int) := by omega
    clear hb
    by_cases m : May h
    · have MM := hid m
      clear m
      go_wp2_with (first | (refine wpList_load_hd rfl (.tmp 1) rfl w.heap.size rfl HB.out ?_) | (go_at_call 7; refine (bytes_ok h _ WF.out MM.out).mono ?_; rintro e w1 ⟨G, rfl, hG, r1, k1⟩; have j1 := hid k1) | (refine wpList_load_hd rfl (.tmp 1) rfl w.heap.size rfl (HB.out.kp j1.out (fun x => x)) ?_) | (go_at_call 8; refine (rmay_yes WF.out HN.out MM.out).mono ?_; rintro e w2 ⟨rfl, k2⟩; have j2 := hid (j1.out.trans k2 (fun _ _ x => x))))
      have RG := hid (r1.kp k2 (fun x => x))
      have HB2 := hid (HB.out.kp j2.out (fun x => x))
      have K2 := hid (HK.out.trans j2.out (fun _ _ x => x))
      have hGB : w.heap.size + 1 ≤ G := by rw [hz] at hG; exact hG
      clear HB HK c14 hz k1 k2 j1 j2 r1 hG
      generalize hBB : w.heap.size = B at *
      have hlen := secL_length h MM.out.long
      have HLEN := hid hlen
      clear hlen
      have h0 : Kp (fun _ => False) w2 w2.drew := (Kp.refl _ _).drew
      change (Code.region 7 o3r7 true).wp _ _ _ _
      refine wp_region_plan (fun w' => Kp (fun _ => False) w2 w') [] c3r7 p3r7_0 hmix b3r7 d3r7 (fun _ _ d _ _ h => by cases d <;> exact h) ?_
      refine plan_take (o := q3r7_0) (r := p3r7_1) (.agg h.cs) h0 (by rfl) ?hys0 ?rests0
      case hys0 => exact fun w hSw => exec_load_hd rfl rfl (HB2.out.kp hSw (fun x => x))
      try simp only [q3r7_0, Act.put, List.setIfInBounds_toArray, List.set_cons_zero, List.set_cons_succ]
      refine plan_act (o := q3r7_1) (r := p3r7_2) (fun K hK => ?_)
      simp only [q3r7_1]
      go_simp
      refine (check_ok h _ WF.out MM.out).mono ?_
      rintro _ w3 ⟨rfl, k3⟩
      go_wp2_with fail
      refine hK.out _ _ (fun h => h.trans k3 (fun _ _ x => x)) ?_
      have s3 : Kp (fun _ => False) w2 w3 := h0.trans k3 (fun _ _ x => x)
      clear hK K
      refine plan_take (o := q3r7_2) (r := p3r7_3) ?vs2 s3 (by rfl) ?hys2 ?rests2
      case hys2 => (intro w _; simp only [q3r7_2]; go_simp; try with_reducible rfl)
      try simp only [q3r7_2, Act.put, List.setIfInBounds_toArray, List.set_cons_zero, List.set_cons_succ]
      refine plan_take (o := q3r7_3) (r := p3r7_4) ?vs3 s3 (by rfl) ?hys3 ?rests3
      case hys3 => (intro w _; simp only [q3r7_3]; go_simp; try with_reducible rfl)
      try simp only [q3r7_3, Act.put, List.setIfInBounds_toArray, List.set_cons_zero, List.set_cons_succ]
      refine plan_take (o := q3r7_4) (r := p3r7_5) ?vs4 s3 (by rfl) ?hys4 ?rests4
      case hys4 => (intro w _; simp only [q3r7_4]; go_simp; try with_reducible rfl)
      try simp only [q3r7_4, Act.put, List.setIfInBounds_toArray, List.set_cons_zero, List.set_cons_succ]
      refine plan_take (o := q3r7_5) (r := p3r7_6) ?vs5 s3 (by rfl) ?hys5 ?rests5
      case hys5 => (intro w _; simp only [q3r7_5]; go_simp; try with_reducible rfl)
      try simp only [q3r7_5, Act.put, List.setIfInBounds_toArray, List.set_cons_zero, List.set_cons_succ]
      refine plan_take (o := q3r7_6) (r := p3r7_7) ?vs6 s3 (by rfl) ?hys6 ?rests6
      case hys6 => (intro w _; simp only [q3r7_6]; go_simp; try with_reducible rfl)
      try simp only [q3r7_6, Act.put, List.setIfInBounds_toArray, List.set_cons_zero, List.set_cons_succ]
      refine plan_take (o := q3r7_7) (r := p3r7_8) ?vs7 s3 (by rfl) ?hys7 ?rests7
      case hys7 => (intro w _; simp only [q3r7_7]; go_simp; try with_reducible rfl)
      try simp only [q3r7_7, Act.put, List.setIfInBounds_toArray, List.set_cons_zero, List.set_cons_succ]
      refine plan_take (o := q3r7_8) (r := p3r7_9) ?vs8 s3 (by rfl) ?hys8 ?rests8
      case hys8 => (intro w _; simp only [q3r7_8]; go_simp; try with_reducible rfl)
      try simp only [q3r7_8, Act.put, List.setIfInBounds_toArray, List.set_cons_zero, List.set_cons_succ]
      refine plan_take (o := q3r7_9) (r := p3r7_10) ?vs9 s3 (by rfl) ?hys9 ?rests9
      case hys9 => (intro w hSw; (try dsimp only at hSw); have hcv := conv_sec MM.out (RG.out.kp hSw (fun x => x)); simp only [q3r7_9]; go_simp; try with_reducible rfl)
      try simp only [q3r7_9, Act.put, List.setIfInBounds_toArray, List.set_cons_zero, List.set_cons_succ]
      refine plan_take (o := q3r7_10) (r := p3r7_11) (.agg h.cs) s3 (by rfl) ?hys10 ?rests10
      case hys10 => exact fun w hSw => exec_load_hd rfl rfl (HB2.out.kp hSw (fun x => x))
      try simp only [q3r7_10, Act.put, List.setIfInBounds_toArray, List.set_cons_zero, List.set_cons_succ]
      refine plan_act (o := q3r7_11) (r := p3r7_12) (fun K hK => ?_)
      simp only [q3r7_11]
      go_simp
      refine (rbytes h _ MM.out WF.out.flags.1).mono ?_
      rintro _ w4 ⟨v4, rfl, o4, k4⟩
      obtain ⟨g4, cap4, tl4, rfl, hg4, hr4, h34, h44⟩ := o4.some (by rw [HLEN.out]; omega)
      rw [HLEN.out]
      have RO := hid hr4
      clear o4 hr4 h34
      go_wp2_with fail
      refine hK.out _ _ (fun h => h.trans k4 (fun _ _ x => x)) ?_
      have s4 : Kp (fun _ => False) w2 w4 := s3.trans k4 (fun _ _ x => x)
      clear hK K
      refine plan_act (o := q3r7_12) (r := p3r7_13) (fun K hK => ?_)
      simp only [q3r7_12]
      have hcv := conv_own MM.out RO.out
      go_simp
      refine hK.out _ _ (fun h => h) ?_
      clear hK K hcv
      refine plan_take (o := q3r7_13) (r := p3r7_14) ?vs13 s4 (by rfl) ?hys13 ?rests13
      case hys13 => (intro w _; simp only [q3r7_13]; go_simp; try with_reducible rfl)
      try simp only [q3r7_13, Act.put, List.setIfInBounds_toArray, List.set_cons_zero, List.set_cons_succ]
      refine plan_take (o := q3r7_14) (r := p3r7_15) ?vs14 s4 (by rfl) ?hys14 ?rests14
      case hys14 => (intro w _; simp only [q3r7_14]; go_simp; try with_reducible rfl)
      try simp only [q3r7_14, Act.put, List.setIfInBounds_toArray, List.set_cons_zero, List.set_cons_succ]
      refine plan_done ?_
      have RG4 := hid (RG.out.kp s4 (fun x => x))
      have HB4 := hid (HB2.out.kp s4 (fun x => x))
      have K4 := hid (K2.out.trans s4 (fun _ _ x => x))
      have hB4 := HB4.out.lt
      clear RG HB2 K2 s3 s4 k3 k4 RO h0 hg4 h44
      have CX : Hid (∀ i, i < (secL h).length → (w4.alloc (.cells #[.int .u8 1, .int .u8 2, .int .u8 3] 5)).cell? ⟨G, i, none⟩ = some (.int .u8 ((secL h).getD i 0))) := fun i hi => (RG4.out.kp ((Kp.refl (fun _ => False) w4).alloc _) (fun x => x)).cell i hi
      have SX : Hid (Src (w4.alloc (.cells #[.int .u8 1, .int .u8 2, .int .u8 3] 5)) (some ⟨w4.heap.size, 0, none⟩) [1, 2, 3]) := Src.mk (Rw.new 5 w4 [1, 2, 3]).cells
      have KX : Hid (Kp (fun _ => False) w4 (w4.alloc (.cells #[.int .u8 1, .int .u8 2, .int .u8 3] 5))) := (Kp.refl _ _).alloc _
      have ZX : Hid (w4.heap.size ≤ (w4.alloc (.cells #[.int .u8 1, .int .u8 2, .int .u8 3] 5)).heap.size) := KX.out.size
      have LX : Hid (¬ (secL h).length + ([1, 2, 3] : List Int).length ≤ 512) := (by show ¬ _; rw [HLEN.out]; decide)
      have LY : Hid ((secL h).length + ([1, 2, 3] : List Int).length ≤ 140737488355328) := (by show _ ≤ _; rw [HLEN.out]; decide)
      have HBY : Hid (Byt (secL h ++ [1, 2, 3])) := (secL_byt h).append (fun z hz => by simp at hz; omega)
      have HCN := hid (sec_cnd MM.out WF.out.flags.1 HBY.out (by rw [List.take_append_of_le_length (by rw [HLEN.out]; omega), List.take_of_length_le (by rw [HLEN.out]; omega)]))
      have HP3 : Hid (0 < ([1, 2, 3] : List Int).length) := (by show _ < _; decide)
      go_wp2_with (at_builtin; refine wpList_append_full rfl (.tmp 74) (.tmp 75) rfl w4.heap.size G 512 512 (secL h) rfl HLEN.out CX.out ⟨w4.heap.size, 0, none⟩ 3 3 ([1, 2, 3] : List Int) rfl rfl SX.out HP3.out LX.out LY.out ZX.out ?_; intro v5 w5 o5 b5; have O5 := hid o5; clear o5)
      obtain ⟨g5, cap5, tl5, rfl, hg5, hr5, h35, h45⟩ := O5.out.some (by rw [List.length_append, HLEN.out]; exact Nat.lt_of_lt_of_le (show 0 < 512 by decide) (Nat.le_add_right _ _))
      have RO5 := hid hr5
      have H35 := hid h35
      clear O5 hr5 h35
      have h515 : (secL h ++ ([1, 2, 3] : List Int)).length = 515 := by rw [List.length_append, HLEN.out, List.length_cons, List.length_cons, List.length_cons, List.length_nil]
      rw [h515]
      clear h515
      have BZ : Hid (Bz w5 g5 0 515 cap5 (secL h ++ [1, 2, 3])) := ⟨by have e := HLEN.out; simp [e], HBY.out, row_zs RO5.out, by have h1 := H35.out; rw [List.length_append, List.length_append, HLEN.out] at h1; simp at h1; omega, by omega⟩
      have K45 : Hid (Kp (fun _ => False) w4 w5) := ⟨b5.os.trans KX.out.os, b5.tape.trans KX.out.tape, b5.output.trans KX.out.output, Nat.le_trans KX.out.size b5.size, fun i hi hf => (b5.block i hi).trans (KX.out.block i hi hf)⟩
      refine (read_yes g5 0 515 cap5 (secL h ++ [1, 2, 3]) w5 BZ.out (by omega) HCN.out.1).mono ?_
      rw [HCN.out.2]
      rintro e w6 ⟨rfl, k6⟩
      have K6 := hid (K45.out.trans k6 (fun _ _ x => x))
      have HB6 := hid (HB4.out.kp K6.out (fun x => x))
      clear k6 K45 BZ RO5 H35 CX SX KX ZX LX LY hg5 h45
      go_wp2_with (refine wpList_store_hd rfl (.tmp 6) (.tmp 78) rfl w6.heap.size rfl (h := zH) (h' := h) rfl (Hb.new w6 zH) ?_; intro w7 b7 k7; have KB : Hid (Kp (fun i => i = w6.heap.size) w6 w7) := ((Kp.refl (fun i => i = w6.heap.size) w6).alloc _).trans k7 (fun _ _ h => h); have HB7 := hid (HB6.out.kp KB.out (by have := HB6.out.lt; omega)); have y0 : w7.cell? ⟨B, 0, none⟩ = some (.int .i64 h.bits) := HB7.out.cell 0)
      refine (rcluster h.bits w7 MM.out.b9 MM.out.b16).mono ?_
      rintro e w8 ⟨rfl, ew8⟩
      go_wp2_with fail
      have HX7 := hid b7
      have K7 : Hid (Kp (fun _ => False) w w7) := (K4.out.trans K6.out (fun _ _ x => x)).trans KB.out (fun i h1 h2 => by have a1 := K4.out.size; have a2 := K6.out.size; omega)
      have hbd := clu_bd MM.out.b9 MM.out.b16
      have hq : IntKind.i64.wrap ((clu h.bits).tdiv 8) = clu h.bits / 8 := by rw [Int.tdiv_eq_ediv_of_nonneg (by omega), IntKind.wrap_i64]; omega
      clear b7 k7 KB K4 K6 HB6 HB4 RG4 y0 ew8
      generalize w6.heap.size = C at *
      have h0 : Kp (fun _ => False) w7 w7.drew := (Kp.refl _ _).drew
      change (Code.region 11 o3r11 true).wp _ _ _ _
      refine wp_region_plan (fun w' => Kp (fun _ => False) w7 w') [] c3r11 p3r11_0 hmix b3r11 d3r11 (fun _ _ d _ _ h => by cases d <;> exact h) ?_
      refine plan_take (o := q3r11_0) (r := p3r11_1) (.agg h.cs) h0 (by rfl) ?hye0 ?reste0
      case hye0 => exact fun w hSw => exec_load_hd rfl rfl (HX7.out.kp hSw (fun x => x))
      try simp only [q3r11_0, Act.put, List.setIfInBounds_toArray, List.set_cons_zero, List.set_cons_succ]
      refine plan_take (o := q3r11_1) (r := p3r11_2) (.agg h.cs) h0 (by rfl) ?hye1 ?reste1
      case hye1 => exact fun w hSw => exec_load_hd rfl rfl (HB7.out.kp hSw (fun x => x))
      try simp only [q3r11_1, Act.put, List.setIfInBounds_toArray, List.set_cons_zero, List.set_cons_succ]
      refine plan_take (o := q3r11_2) (r := p3r11_3) (.bool true) h0 (by rfl) ?hye2 ?reste2
      case hye2 => exact fun w hSw => (by rw [exec_eq_hd (x := .tmp 83) (y := .tmp 84) (h := h) (k := h) rfl rfl rfl, eqH_self])
      try simp only [q3r11_2, Act.put, List.setIfInBounds_toArray, List.set_cons_zero, List.set_cons_succ]
      refine plan_take (o := q3r11_3) (r := p3r11_4) ?ve3 h0 (by rfl) ?hye3 ?reste3
      case hye3 => (intro w _; simp only [q3r11_3]; go_simp; try with_reducible rfl)
      try simp only [q3r11_3, Act.put, List.setIfInBounds_toArray, List.set_cons_zero, List.set_cons_succ]
      refine plan_take (o := q3r11_4) (r := p3r11_5) ?ve4 h0 (by rfl) ?hye4 ?reste4
      case hye4 => (intro w _; simp only [q3r11_4]; go_simp; try with_reducible rfl)
      try simp only [q3r11_4, Act.put, List.setIfInBounds_toArray, List.set_cons_zero, List.set_cons_succ]
      refine plan_take (o := q3r11_5) (r := p3r11_6) ?ve5 h0 (by rfl) ?hye5 ?reste5
      case hye5 => (intro w _; simp only [q3r11_5]; go_simp; try with_reducible rfl)
      try simp only [q3r11_5, Act.put, List.setIfInBounds_toArray, List.set_cons_zero, List.set_cons_succ]
      refine plan_take (o := q3r11_6) (r := p3r11_7) ?ve6 h0 (by rfl) ?hye6 ?reste6
      case hye6 => (intro w _; simp only [q3r11_6]; go_simp; try with_reducible rfl)
      try simp only [q3r11_6, Act.put, List.setIfInBounds_toArray, List.set_cons_zero, List.set_cons_succ]
      refine plan_take (o := q3r11_7) (r := p3r11_8) ?ve7 h0 (by rfl) ?hye7 ?reste7
      case hye7 => (intro w _; simp only [q3r11_7]; go_simp; try with_reducible rfl)
      try simp only [q3r11_7, Act.put, List.setIfInBounds_toArray, List.set_cons_zero, List.set_cons_succ]
      refine plan_take (o := q3r11_8) (r := p3r11_9) (.agg h.cs) h0 (by rfl) ?hye8 ?reste8
      case hye8 => exact fun w hSw => exec_load_hd rfl rfl (HB7.out.kp hSw (fun x => x))
      try simp only [q3r11_8, Act.put, List.setIfInBounds_toArray, List.set_cons_zero, List.set_cons_succ]
      refine plan_take (o := q3r11_10) (r := p3r11_10) ?ve10 h0 (by rfl) ?hye10 ?reste10
      case hye10 => (intro w _; simp only [q3r11_10]; go_simp; try with_reducible rfl)
      try simp only [q3r11_10, Act.put, List.setIfInBounds_toArray, List.set_cons_zero, List.set_cons_succ]
      refine plan_act (o := q3r11_9) (r := p3r11_11) (fun K hK => ?_)
      simp only [q3r11_9]
      go_simp
      refine (clusterE_ok h _ WF.out MM.out).mono ?_
      rintro _ w9 ⟨rfl, k9⟩
      go_wp2_with fail
      refine hK.out _ _ (fun h => h.trans k9 (fun _ _ x => x)) ?_
      have s9 : Kp (fun _ => False) w7 w9 := h0.trans k9 (fun _ _ x => x)
      clear hK K
      refine plan_take (o := q3r11_11) (r := p3r11_12) ?ve11 s9 (by rfl) ?hye11 ?reste11
      case hye11 => (intro w _; simp only [q3r11_11]; go_simp; try with_reducible rfl)
      try simp only [q3r11_11, Act.put, List.setIfInBounds_toArray, List.set_cons_zero, List.set_cons_succ]
      refine plan_take (o := q3r11_12) (r := p3r11_13) ?ve12 s9 (by rfl) ?hye12 ?reste12
      case hye12 => (intro w _; simp only [q3r11_12]; go_simp; try with_reducible rfl)
      try simp only [q3r11_12, Act.put, List.setIfInBounds_toArray, List.set_cons_zero, List.set_cons_succ]
      refine plan_take (o := q3r11_13) (r := p3r11_14) ?ve13 s9 (by rfl) ?hye13 ?reste13
      case hye13 => (intro w _; simp only [q3r11_13]; go_simp; try with_reducible rfl)
      try simp only [q3r11_13, Act.put, List.setIfInBounds_toArray, List.set_cons_zero, List.set_cons_succ]
      refine plan_take (o := q3r11_14) (r := p3r11_15) (.agg h.cs) s9 (by rfl) ?hye14 ?reste14
      case hye14 => exact fun w hSw => exec_load_hd rfl rfl (HB7.out.kp hSw (fun x => x))
      try simp only [q3r11_14, Act.put, List.setIfInBounds_toArray, List.set_cons_zero, List.set_cons_succ]
      refine plan_take (o := q3r11_16) (r := p3r11_16) ?ve16 s9 (by rfl) ?hye16 ?reste16
      case hye16 => (intro w _; simp only [q3r11_16]; go_simp; try with_reducible rfl)
      try simp only [q3r11_16, Act.put, List.setIfInBounds_toArray, List.set_cons_zero, List.set_cons_succ]
      refine plan_take (o := q3r11_17) (r := p3r11_17) ?ve17 s9 (by rfl) ?hye17 ?reste17
      case hye17 => (intro w _; simp only [q3r11_17]; go_simp; try with_reducible rfl)
      try simp only [q3r11_17, Act.put, List.setIfInBounds_toArray, List.set_cons_zero, List.set_cons_succ]
      refine plan_act (o := q3r11_15) (r := p3r11_18) (fun K hK => ?_)
      simp only [q3r11_15]
      go_simp
      refine (entriesE_ok h _ WF.out MM.out).mono ?_
      rintro _ w10 ⟨rfl, k10⟩
      go_wp2_with fail
      refine hK.out _ _ (fun h => h.trans k10 (fun _ _ x => x)) ?_
      have s10 : Kp (fun _ => False) w7 w10 := s9.trans k10 (fun _ _ x => x)
      clear hK K
      refine plan_take (o := q3r11_18) (r := p3r11_19) ?ve18 s10 (by rfl) ?hye18 ?reste18
      case hye18 => (intro w _; simp only [q3r11_18]; go_simp; try with_reducible rfl)
      try simp only [q3r11_18, Act.put, List.setIfInBounds_toArray, List.set_cons_zero, List.set_cons_succ]
      refine plan_take (o := q3r11_19) (r := p3r11_20) ?ve19 s10 (by rfl) ?hye19 ?reste19
      case hye19 => (intro w _; simp only [q3r11_19]; go_simp; try with_reducible rfl)
      try simp only [q3r11_19, Act.put, List.setIfInBounds_toArray, List.set_cons_zero, List.set_cons_succ]
      refine plan_take (o := q3r11_20) (r := p3r11_21) ?ve20 s10 (by rfl) ?hye20 ?reste20
      case hye20 => (intro w _; simp only [q3r11_20]; go_simp; try with_reducible rfl)
      try simp only [q3r11_20, Act.put, List.setIfInBounds_toArray, List.set_cons_zero, List.set_cons_succ]
      refine plan_take (o := q3r11_21) (r := p3r11_22) (.agg h.cs) s10 (by rfl) ?hye21 ?reste21
      case hye21 => exact fun w hSw => exec_load_hd rfl rfl (HB7.out.kp hSw (fun x => x))
      try simp only [q3r11_21, Act.put, List.setIfInBounds_toArray, List.set_cons_zero, List.set_cons_succ]
      refine plan_take (o := q3r11_23) (r := p3r11_23) (.agg h.cs) s10 (by rfl) ?hye23 ?reste23
      case hye23 => exact fun w hSw => exec_load_hd rfl rfl (HB7.out.kp hSw (fun x => x))
      try simp only [q3r11_23, Act.put, List.setIfInBounds_toArray, List.set_cons_zero, List.set_cons_succ]
      refine plan_act (o := q3r11_22) (r := p3r11_24) (fun K hK => ?_)
      simp only [q3r11_22]
      go_simp
      refine (guestE_ok h _ WF.out MM.out).mono ?_
      rintro _ w11 ⟨rfl, k11⟩
      go_wp2_with fail
      refine hK.out _ _ (fun h => h.trans k11 (fun _ _ x => x)) ?_
      have s11 : Kp (fun _ => False) w7 w11 := s10.trans k11 (fun _ _ x => x)
      clear hK K
      refine plan_act (o := q3r11_24) (r := p3r11_25) (fun K hK => ?_)
      simp only [q3r11_24]
      go_simp
      refine (rguest h _ MM.out.b9 MM.out.b16 MM.out.s0 MM.out.s1).mono ?_
      rintro _ w12 ⟨rfl, k12⟩
      go_wp2_with fail
      refine hK.out _ _ (fun h => h.trans k12 (fun _ _ x => x)) ?_
      have s12 : Kp (fun _ => False) w7 w12 := s11.trans k12 (fun _ _ x => x)
      clear hK K
      refine plan_take (o := q3r11_25) (r := p3r11_26) ?ve25 s12 (by rfl) ?hye25 ?reste25
      case hye25 => (intro w _; simp only [q3r11_25]; go_simp; try with_reducible rfl)
      try simp only [q3r11_25, Act.put, List.setIfInBounds_toArray, List.set_cons_zero, List.set_cons_succ]
      refine plan_take (o := q3r11_26) (r := p3r11_27) ?ve26 s12 (by rfl) ?hye26 ?reste26
      case hye26 => (intro w _; simp only [q3r11_26]; go_simp; try with_reducible rfl)
      try simp only [q3r11_26, Act.put, List.setIfInBounds_toArray, List.set_cons_zero, List.set_cons_succ]
      refine plan_take (o := q3r11_27) (r := p3r11_28) ?ve27 s12 (by rfl) ?hye27 ?reste27
      case hye27 => (intro w _; simp only [q3r11_27]; go_simp; try with_reducible rfl)
      try simp only [q3r11_27, Act.put, List.setIfInBounds_toArray, List.set_cons_zero, List.set_cons_succ]
      refine plan_take (o := q3r11_28) (r := p3r11_29) (.agg h.cs) s12 (by rfl) ?hye28 ?reste28
      case hye28 => exact fun w hSw => exec_load_hd rfl rfl (HB7.out.kp hSw (fun x => x))
      try simp only [q3r11_28, Act.put, List.setIfInBounds_toArray, List.set_cons_zero, List.set_cons_succ]
      refine plan_take (o := q3r11_30) (r := p3r11_30) (.agg h.cs) s12 (by rfl) ?hye30 ?reste30
      case hye30 => exact fun w hSw => exec_load_hd rfl rfl (HB7.out.kp hSw (fun x => x))
      try simp only [q3r11_30, Act.put, List.setIfInBounds_toArray, List.set_cons_zero, List.set_cons_succ]
      refine plan_act (o := q3r11_29) (r := p3r11_31) (fun K hK => ?_)
      simp only [q3r11_29]
      go_simp
      refine (tablesE_ok h _ WF.out MM.out).mono ?_
      rintro _ w13 ⟨rfl, k13⟩
      go_wp2_with fail
      refine hK.out _ _ (fun h => h.trans k13 (fun _ _ x => x)) ?_
      have s13 : Kp (fun _ => False) w7 w13 := s12.trans k13 (fun _ _ x => x)
      clear hK K
      refine plan_act (o := q3r11_31) (r := p3r11_32) (fun K hK => ?_)
      simp only [q3r11_31]
      go_simp
      refine (rtables h _ MM.out.b9 MM.out.b16 MM.out.s0 MM.out.s1).mono ?_
      rintro _ w14 ⟨rfl, k14⟩
      go_wp2_with fail
      refine hK.out _ _ (fun h => h.trans k14 (fun _ _ x => x)) ?_
      have s14 : Kp (fun _ => False) w7 w14 := s13.trans k14 (fun _ _ x => x)
      clear hK K
      refine plan_take (o := q3r11_32) (r := p3r11_33) ?ve32 s14 (by rfl) ?hye32 ?reste32
      case hye32 => (intro w _; simp only [q3r11_32]; go_simp; try with_reducible rfl)
      try simp only [q3r11_32, Act.put, List.setIfInBounds_toArray, List.set_cons_zero, List.set_cons_succ]
      refine plan_take (o := q3r11_33) (r := p3r11_34) ?ve33 s14 (by rfl) ?hye33 ?reste33
      case hye33 => (intro w _; simp only [q3r11_33]; go_simp; try with_reducible rfl)
      try simp only [q3r11_33, Act.put, List.setIfInBounds_toArray, List.set_cons_zero, List.set_cons_succ]
      refine plan_take (o := q3r11_34) (r := p3r11_35) ?ve34 s14 (by rfl) ?hye34 ?reste34
      case hye34 => (intro w _; simp only [q3r11_34]; go_simp; try with_reducible rfl)
      try simp only [q3r11_34, Act.put, List.setIfInBounds_toArray, List.set_cons_zero, List.set_cons_succ]
      refine plan_act (o := q3r11_35) (r := p3r11_36) (fun K hK => ?_)
      simp only [q3r11_35]
      go_simp
      refine (known_any _).mono ?_
      rintro _ w15 ⟨rfl, k15⟩
      go_wp2_with fail
      refine hK.out _ _ (fun h => h.trans k15 (fun _ _ x => x)) ?_
      have s15 : Kp (fun _ => False) w7 w15 := s14.trans k15 (fun _ _ x => x)
      clear hK K
      refine plan_take (o := q3r11_36) (r := p3r11_37) ?ve36 s15 (by rfl) ?hye36 ?reste36
      case hye36 => (intro w _; simp only [q3r11_36]; go_simp; try with_reducible rfl)
      try simp only [q3r11_36, Act.put, List.setIfInBounds_toArray, List.set_cons_zero, List.set_cons_succ]
      refine plan_take (o := q3r11_37) (r := p3r11_38) ?ve37 s15 (by rfl) ?hye37 ?reste37
      case hye37 => (intro w _; simp only [q3r11_37]; go_simp; try with_reducible rfl)
      try simp only [q3r11_37, Act.put, List.setIfInBounds_toArray, List.set_cons_zero, List.set_cons_succ]
      refine plan_done ?_
      go_wp2_with fail
      go_ret
      exact ⟨rfl, K7.out.trans s15 (fun _ _ x => x)⟩
    · have MM := hid m
      clear m
      go_wp2_with (first | (refine wpList_load_hd rfl (.tmp 1) rfl w.heap.size rfl HB.out ?_) | (go_at_call 7; refine (bytes_bad h _ WF.out HL.out MM.out).mono ?_; rintro e w1 ⟨rfl, k1⟩; have j1 := hid k1) | (refine wpList_load_hd rfl (.tmp 1) rfl w.heap.size rfl (HB.out.kp j1.out (fun x => x)) ?_) | (go_at_call 8; refine (rmay_no WF.out HN.out MM.out).mono ?_; rintro e w2 ⟨rfl, k2⟩; have j2 := hid (j1.out.trans k2 (fun _ _ x => x))) | (refine wpList_load_hd rfl (.tmp 1) rfl w.heap.size rfl (HB.out.kp j2.out (fun x => x)) ?_) | (go_at_call 9; refine (check_bad h _ WF.out HL.out MM.out).mono ?_; rintro e w3 ⟨rfl, k3⟩; have j3 := hid (j2.out.trans k3 (fun _ _ x => x))) | (refine wpList_load_hd_g (by rfl) (.tmp 1) rfl w.heap.size rfl (HB.out.kp j3.out (fun x => x)) ?_) | (go_at_call 10; refine (clusterE_bad h _ WF.out HL.out MM.out).mono ?_; rintro e w4 ⟨rfl, k4⟩; have j4 := hid (j3.out.trans k4 (fun _ _ x => x))) | (refine wpList_load_hd_g (by rfl) (.tmp 1) rfl w.heap.size rfl (HB.out.kp j4.out (fun x => x)) ?_) | (go_at_call 11; refine (entriesE_bad h _ WF.out HL.out MM.out).mono ?_; rintro e w5 ⟨rfl, k5⟩; have j5 := hid (j4.out.trans k5 (fun _ _ x => x))) | (refine wpList_load_hd_g (by rfl) (.tmp 1) rfl w.heap.size rfl (HB.out.kp j5.out (fun x => x)) ?_) | (go_at_call 12; refine (guestE_bad h _ WF.out HL.out MM.out).mono ?_; rintro e w6 ⟨rfl, k6⟩; have j6 := hid (j5.out.trans k6 (fun _ _ x => x))) | (refine wpList_load_hd_g (by rfl) (.tmp 1) rfl w.heap.size rfl (HB.out.kp j6.out (fun x => x)) ?_) | (go_at_call 13; refine (tablesE_bad h _ WF.out HL.out MM.out).mono ?_; rintro e w7 ⟨rfl, k7⟩; have j7 := hid (j6.out.trans k7 (fun _ _ x => x))) | (go_at_call 6; refine (known_any _).mono ?_; rintro e w8 ⟨rfl, k8⟩))
      go_ret
      exact ⟨rfl, (HK.out.trans j7.out (fun _ _ x => x)).trans k8 (fun _ _ x => x)⟩
end Go.Proofs.Ytejdmnhdjeogaaa
