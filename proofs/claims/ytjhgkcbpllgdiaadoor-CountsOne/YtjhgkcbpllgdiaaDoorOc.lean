/- CountsOne's walk: the last region as it stands. -/
import Derived.Test.YtjhgkcbpllgdiaaDoorCv
import Derived.Test.YtjhgkcbpllgdiaaDoorRp
namespace Go.Proofs.YtjhgkcbpllgdiaaDoor
open Go.RowKit
set_option linter.unusedVariables false
def q3r30_0 : Oper := { dst := some 285, op := Go.Op.move (Go.Operand.tmp 24), type := 23, pos := "law.go:60", after := #[], guard := none }
def q3r30_1 : Oper := { dst := some 286, op := Go.Op.move (Go.Operand.tmp 27), type := 23, pos := "law.go:60", after := #[], guard := none }
def q3r30_2 : Oper := { dst := some 287, op := Go.Op.binOp Go.BinOp.eql 23 (Go.Operand.tmp 285) (Go.Operand.tmp 286) 23, type := 4, pos := "law.go:60", after := #[{ on := 0, ground := Go.Ground.data }, { on := 1, ground := Go.Ground.data }], guard := none }
def q3r30_3 : Oper := { dst := some 288, op := Go.Op.move (Go.Operand.tmp 287), type := 4, pos := "law.go:60", after := #[{ on := 2, ground := Go.Ground.data }], guard := none }
def q3r30_4 : Oper := { dst := some 289, op := Go.Op.move (Go.Operand.tmp 25), type := 27, pos := "law.go:60", after := #[{ on := 3, ground := Go.Ground.guard }], guard := some (3, true) }
def q3r30_5 : Oper := { dst := some 290, op := Go.Op.binOp Go.BinOp.eql 27 (Go.Operand.tmp 289) (Go.Operand.const (Go.Value.int Go.IntKind.i64 0)) 27, type := 4, pos := "law.go:60", after := #[{ on := 4, ground := Go.Ground.data }, { on := 3, ground := Go.Ground.guard }], guard := some (3, true) }
def q3r30_6 : Oper := { dst := some 291, op := Go.Op.pick (Go.Operand.tmp 288) (Go.Operand.tmp 290) (Go.Operand.const (Go.Value.bool false)), type := 4, pos := "law.go:60", after := #[{ on := 3, ground := Go.Ground.data }, { on := 5, ground := Go.Ground.data }], guard := none }
def q3r30_7 : Oper := { dst := some 292, op := Go.Op.move (Go.Operand.tmp 291), type := 4, pos := "law.go:60", after := #[{ on := 6, ground := Go.Ground.data }, { on := 3, ground := Go.Ground.chain }], guard := none }
def q3r30_8 : Oper := { dst := some 293, op := Go.Op.move (Go.Operand.tmp 10), type := 22, pos := "law.go:60", after := #[{ on := 7, ground := Go.Ground.guard }], guard := some (7, true) }
def q3r30_9 : Oper := { dst := some 294, op := Go.Op.convert 22 9 (Go.Operand.tmp 293), type := 9, pos := "law.go:60", after := #[{ on := 8, ground := Go.Ground.data }, { on := 7, ground := Go.Ground.guard }], guard := some (7, true) }
def q3r30_10 : Oper := { dst := some 295, op := Go.Op.move (Go.Operand.tmp 22), type := 22, pos := "law.go:60", after := #[{ on := 7, ground := Go.Ground.guard }], guard := some (7, true) }
def q3r30_11 : Oper := { dst := some 296, op := Go.Op.move (Go.Operand.tmp 1), type := 3, pos := "law.go:60", after := #[{ on := 7, ground := Go.Ground.guard }], guard := some (7, true) }
def q3r30_12 : Oper := { dst := some 297, op := Go.Op.move (Go.Operand.tmp 7), type := 3, pos := "law.go:60", after := #[{ on := 7, ground := Go.Ground.guard }], guard := some (7, true) }
def q3r30_13 : Oper := { dst := some 298, op := Go.Op.move (Go.Operand.tmp 27), type := 23, pos := "law.go:60", after := #[{ on := 7, ground := Go.Ground.guard }], guard := some (7, true) }
def q3r30_14 : Oper := { dst := some 299, op := Go.Op.call { callee := Go.Callee.value (Go.Operand.func 16), args := #[Go.Operand.tmp 295, Go.Operand.tmp 296, Go.Operand.tmp 297, Go.Operand.tmp 298], argTypes := #[22, 3, 3, 23] }, type := 22, pos := "law.go:60", after := #[{ on := 10, ground := Go.Ground.data }, { on := 11, ground := Go.Ground.data }, { on := 12, ground := Go.Ground.data }, { on := 13, ground := Go.Ground.data }, { on := 7, ground := Go.Ground.chain }, { on := 7, ground := Go.Ground.guard }], guard := some (7, true) }
def q3r30_15 : Oper := { dst := some 300, op := Go.Op.convert 22 9 (Go.Operand.tmp 299), type := 9, pos := "law.go:60", after := #[{ on := 14, ground := Go.Ground.data }, { on := 7, ground := Go.Ground.guard }], guard := some (7, true) }
def q3r30_16 : Oper := { dst := some 301, op := Go.Op.binOp Go.BinOp.eql 9 (Go.Operand.tmp 294) (Go.Operand.tmp 300) 9, type := 4, pos := "law.go:60", after := #[{ on := 9, ground := Go.Ground.data }, { on := 15, ground := Go.Ground.data }, { on := 7, ground := Go.Ground.guard }], guard := some (7, true) }
def q3r30_17 : Oper := { dst := some 302, op := Go.Op.pick (Go.Operand.tmp 292) (Go.Operand.tmp 301) (Go.Operand.const (Go.Value.bool false)), type := 4, pos := "law.go:60", after := #[{ on := 7, ground := Go.Ground.data }, { on := 16, ground := Go.Ground.data }], guard := none }
def q3r30_18 : Oper := { dst := some 303, op := Go.Op.move (Go.Operand.tmp 302), type := 4, pos := "law.go:60", after := #[{ on := 17, ground := Go.Ground.data }, { on := 14, ground := Go.Ground.chain }], guard := none }
def q3r30_19 : Oper := { dst := some 304, op := Go.Op.move (Go.Operand.tmp 10), type := 22, pos := "law.go:60", after := #[{ on := 18, ground := Go.Ground.guard }], guard := some (18, true) }
def q3r30_20 : Oper := { dst := some 305, op := Go.Op.move (Go.Operand.tmp 10), type := 22, pos := "law.go:60", after := #[{ on := 18, ground := Go.Ground.guard }], guard := some (18, true) }
def q3r30_21 : Oper := { dst := some 306, op := Go.Op.call { callee := Go.Callee.builtin Go.Builtin.len, args := #[Go.Operand.tmp 305], argTypes := #[22] }, type := 3, pos := "law.go:60", after := #[{ on := 20, ground := Go.Ground.data }, { on := 18, ground := Go.Ground.guard }], guard := some (18, true) }
def q3r30_22 : Oper := { dst := some 307, op := Go.Op.binOp Go.BinOp.add 3 (Go.Operand.tmp 306) (Go.Operand.const (Go.Value.int Go.IntKind.i64 1)) 3, type := 3, pos := "law.go:60", after := #[{ on := 21, ground := Go.Ground.data }, { on := 18, ground := Go.Ground.guard }], guard := some (18, true) }
def q3r30_23 : Oper := { dst := some 308, op := Go.Op.slice 22 (Go.Operand.tmp 304) none (some (Go.Operand.tmp 307)) none, type := 22, pos := "law.go:60", after := #[{ on := 19, ground := Go.Ground.data }, { on := 22, ground := Go.Ground.data }, { on := 18, ground := Go.Ground.guard }], guard := some (18, true) }
def q3r30_24 : Oper := { dst := some 309, op := Go.Op.move (Go.Operand.tmp 10), type := 22, pos := "law.go:60", after := #[{ on := 18, ground := Go.Ground.guard }], guard := some (18, true) }
def q3r30_25 : Oper := { dst := some 310, op := Go.Op.call { callee := Go.Callee.builtin Go.Builtin.len, args := #[Go.Operand.tmp 309], argTypes := #[22] }, type := 3, pos := "law.go:60", after := #[{ on := 24, ground := Go.Ground.data }, { on := 18, ground := Go.Ground.guard }], guard := some (18, true) }
def q3r30_26 : Oper := { dst := some 311, op := Go.Op.indexAddr 22 (Go.Operand.tmp 308) (Go.Operand.tmp 310), type := 0, pos := "law.go:60", after := #[{ on := 23, ground := Go.Ground.data }, { on := 25, ground := Go.Ground.data }, { on := 18, ground := Go.Ground.guard }], guard := some (18, true) }
def q3r30_27 : Oper := { dst := some 312, op := Go.Op.load 5 (Go.Operand.tmp 311), type := 5, pos := "law.go:60", after := #[{ on := 26, ground := Go.Ground.data }, { on := 18, ground := Go.Ground.guard }], guard := some (18, true) }
def q3r30_28 : Oper := { dst := some 313, op := Go.Op.binOp Go.BinOp.eql 5 (Go.Operand.tmp 312) (Go.Operand.const (Go.Value.int Go.IntKind.u8 77)) 5, type := 4, pos := "law.go:60", after := #[{ on := 27, ground := Go.Ground.data }, { on := 18, ground := Go.Ground.guard }], guard := some (18, true) }
def q3r30_29 : Oper := { dst := some 314, op := Go.Op.pick (Go.Operand.tmp 303) (Go.Operand.tmp 313) (Go.Operand.const (Go.Value.bool false)), type := 4, pos := "law.go:60", after := #[{ on := 18, ground := Go.Ground.data }, { on := 28, ground := Go.Ground.data }], guard := none }
def q3r30_30 : Oper := { dst := some 315, op := Go.Op.move (Go.Operand.tmp 314), type := 4, pos := "law.go:60", after := #[{ on := 29, ground := Go.Ground.data }, { on := 18, ground := Go.Ground.chain }], guard := none }
def q3r30_31 : Oper := { dst := some 316, op := Go.Op.call { callee := Go.Callee.value (Go.Operand.func 6), args := #[], argTypes := #[] }, type := 4, pos := "law.go:60", after := #[{ on := 30, ground := Go.Ground.chain }, { on := 30, ground := Go.Ground.guard }], guard := some (30, true) }
def q3r30_32 : Oper := { dst := some 317, op := Go.Op.pick (Go.Operand.tmp 315) (Go.Operand.tmp 316) (Go.Operand.const (Go.Value.bool false)), type := 4, pos := "law.go:60", after := #[{ on := 30, ground := Go.Ground.data }, { on := 31, ground := Go.Ground.data }], guard := none }
def q3r30_33 : Oper := { dst := some 6, op := Go.Op.assign (Go.Operand.tmp 317), type := 4, pos := "law.go:60", after := #[{ on := 32, ground := Go.Ground.data }, { on := 31, ground := Go.Ground.chain }, { on := 0, ground := Go.Ground.phase }, { on := 1, ground := Go.Ground.phase }, { on := 2, ground := Go.Ground.phase }, { on := 3, ground := Go.Ground.phase }, { on := 4, ground := Go.Ground.phase }, { on := 5, ground := Go.Ground.phase }, { on := 6, ground := Go.Ground.phase }, { on := 7, ground := Go.Ground.phase }, { on := 8, ground := Go.Ground.phase }, { on := 9, ground := Go.Ground.phase }, { on := 10, ground := Go.Ground.phase }, { on := 11, ground := Go.Ground.phase }, { on := 12, ground := Go.Ground.phase }, { on := 13, ground := Go.Ground.phase }, { on := 14, ground := Go.Ground.phase }, { on := 15, ground := Go.Ground.phase }, { on := 16, ground := Go.Ground.phase }, { on := 17, ground := Go.Ground.phase }, { on := 18, ground := Go.Ground.phase }, { on := 19, ground := Go.Ground.phase }, { on := 20, ground := Go.Ground.phase }, { on := 21, ground := Go.Ground.phase }, { on := 22, ground := Go.Ground.phase }, { on := 23, ground := Go.Ground.phase }, { on := 24, ground := Go.Ground.phase }, { on := 25, ground := Go.Ground.phase }, { on := 26, ground := Go.Ground.phase }, { on := 27, ground := Go.Ground.phase }, { on := 28, ground := Go.Ground.phase }, { on := 29, ground := Go.Ground.phase }, { on := 30, ground := Go.Ground.phase }, { on := 31, ground := Go.Ground.phase }, { on := 32, ground := Go.Ground.phase }], guard := none }
def o3r30 : Array Oper := #[q3r30_0, q3r30_1, q3r30_2, q3r30_3, q3r30_4, q3r30_5, q3r30_6, q3r30_7, q3r30_8, q3r30_9, q3r30_10, q3r30_11, q3r30_12, q3r30_13, q3r30_14, q3r30_15, q3r30_16, q3r30_17, q3r30_18, q3r30_19, q3r30_20, q3r30_21, q3r30_22, q3r30_23, q3r30_24, q3r30_25, q3r30_26, q3r30_27, q3r30_28, q3r30_29, q3r30_30, q3r30_31, q3r30_32, q3r30_33]
def p3r30_34 : List (Nat × Oper) := []
def p3r30_33 : List (Nat × Oper) := (0, q3r30_33) :: p3r30_34
def p3r30_32 : List (Nat × Oper) := (0, q3r30_32) :: p3r30_33
def p3r30_31 : List (Nat × Oper) := (1, q3r30_31) :: p3r30_32
def p3r30_30 : List (Nat × Oper) := (0, q3r30_30) :: p3r30_31
def p3r30_29 : List (Nat × Oper) := (0, q3r30_29) :: p3r30_30
def p3r30_28 : List (Nat × Oper) := (0, q3r30_28) :: p3r30_29
def p3r30_27 : List (Nat × Oper) := (0, q3r30_27) :: p3r30_28
def p3r30_26 : List (Nat × Oper) := (0, q3r30_26) :: p3r30_27
def p3r30_25 : List (Nat × Oper) := (0, q3r30_25) :: p3r30_26
def p3r30_24 : List (Nat × Oper) := (0, q3r30_24) :: p3r30_25
def p3r30_23 : List (Nat × Oper) := (0, q3r30_23) :: p3r30_24
def p3r30_22 : List (Nat × Oper) := (0, q3r30_22) :: p3r30_23
def p3r30_21 : List (Nat × Oper) := (0, q3r30_21) :: p3r30_22
def p3r30_20 : List (Nat × Oper) := (0, q3r30_20) :: p3r30_21
def p3r30_19 : List (Nat × Oper) := (0, q3r30_19) :: p3r30_20
def p3r30_18 : List (Nat × Oper) := (0, q3r30_18) :: p3r30_19
def p3r30_17 : List (Nat × Oper) := (0, q3r30_17) :: p3r30_18
def p3r30_16 : List (Nat × Oper) := (0, q3r30_16) :: p3r30_17
def p3r30_15 : List (Nat × Oper) := (1, q3r30_15) :: p3r30_16
def p3r30_14 : List (Nat × Oper) := (1, q3r30_14) :: p3r30_15
def p3r30_13 : List (Nat × Oper) := (0, q3r30_13) :: p3r30_14
def p3r30_12 : List (Nat × Oper) := (0, q3r30_12) :: p3r30_13
def p3r30_11 : List (Nat × Oper) := (0, q3r30_11) :: p3r30_12
def p3r30_10 : List (Nat × Oper) := (0, q3r30_10) :: p3r30_11
def p3r30_9 : List (Nat × Oper) := (0, q3r30_9) :: p3r30_10
def p3r30_8 : List (Nat × Oper) := (0, q3r30_8) :: p3r30_9
def p3r30_7 : List (Nat × Oper) := (0, q3r30_7) :: p3r30_8
def p3r30_6 : List (Nat × Oper) := (0, q3r30_6) :: p3r30_7
def p3r30_5 : List (Nat × Oper) := (0, q3r30_5) :: p3r30_6
def p3r30_4 : List (Nat × Oper) := (0, q3r30_4) :: p3r30_5
def p3r30_3 : List (Nat × Oper) := (0, q3r30_3) :: p3r30_4
def p3r30_2 : List (Nat × Oper) := (0, q3r30_2) :: p3r30_3
def p3r30_1 : List (Nat × Oper) := (0, q3r30_1) :: p3r30_2
def p3r30_0 : List (Nat × Oper) := (0, q3r30_0) :: p3r30_1
def c3r30 : List (Nat × Nat) := [(0, 0), (0, 1), (0, 2), (0, 3), (0, 4), (0, 5), (0, 6), (0, 7), (0, 8), (0, 9), (0, 10), (0, 11), (0, 12), (0, 13), (1, 14), (1, 15), (0, 16), (0, 17), (0, 18), (0, 19), (0, 20), (0, 21), (0, 22), (0, 23), (0, 24), (0, 25), (0, 26), (0, 27), (0, 28), (0, 29), (0, 30), (1, 31), (0, 32), (0, 33)]
theorem b3r30 : (Region.noSelect o3r30 && (c3r30.length == o3r30.size) && planB o3r30 [] c3r30 (Array.replicate o3r30.size false)) = true := by kernel_rfl
theorem d3r30 : (c3r30.map fun p => (p.1, o3r30[p.2]?)) = (p3r30_0.map fun p => (p.1, some p.2)) := by kernel_rfl
end Go.Proofs.YtjhgkcbpllgdiaaDoor
