/- The operations of fields, and the plan of their walk. -/
import Derived.Test.YtejdmnhdjeogaaaRp
import Derived.Test.YtejdmnhdjeogaaaProg
import Derived.KernelRfl
namespace Go.Proofs.Ytejdmnhdjeogaaa
open Go.RowKit
def q36r1_0 : Oper := { dst := some 3, op := Go.Op.move (Go.Operand.tmp 0), type := 56, pos := "sector.go:37", after := #[], guard := none }
def q36r1_1 : Oper := { dst := some 4, op := Go.Op.nilCheck (Go.Operand.tmp 3), type := 0, pos := "sector.go:37", after := #[{ on := 0, ground := Go.Ground.data }], guard := none }
def q36r1_2 : Oper := { dst := some 5, op := Go.Op.fieldAddr 24 (Go.Operand.tmp 4) 0, type := 0, pos := "sector.go:37", after := #[{ on := 1, ground := Go.Ground.data }], guard := none }
def q36r1_3 : Oper := { dst := some 6, op := Go.Op.call { callee := Go.Callee.value (Go.Operand.func 48), args := #[Go.Operand.const (Go.Value.int Go.IntKind.i64 4), Go.Operand.const (Go.Value.int Go.IntKind.i64 4), Go.Operand.tmp 5], argTypes := #[3, 3, 74] }, type := 60, pos := "sector.go:38", after := #[{ on := 2, ground := Go.Ground.data }], guard := none }
def q36r1_4 : Oper := { dst := some 7, op := Go.Op.move (Go.Operand.tmp 0), type := 56, pos := "sector.go:37", after := #[], guard := none }
def q36r1_5 : Oper := { dst := some 8, op := Go.Op.nilCheck (Go.Operand.tmp 7), type := 0, pos := "sector.go:37", after := #[{ on := 4, ground := Go.Ground.data }], guard := none }
def q36r1_6 : Oper := { dst := some 9, op := Go.Op.fieldAddr 24 (Go.Operand.tmp 8) 1, type := 0, pos := "sector.go:37", after := #[{ on := 5, ground := Go.Ground.data }], guard := none }
def q36r1_7 : Oper := { dst := some 10, op := Go.Op.call { callee := Go.Callee.value (Go.Operand.func 49), args := #[Go.Operand.const (Go.Value.int Go.IntKind.i64 8), Go.Operand.const (Go.Value.int Go.IntKind.i64 8), Go.Operand.tmp 9], argTypes := #[3, 3, 76] }, type := 60, pos := "sector.go:39", after := #[{ on := 6, ground := Go.Ground.data }, { on := 3, ground := Go.Ground.chain }], guard := none }
def q36r1_8 : Oper := { dst := some 11, op := Go.Op.move (Go.Operand.tmp 0), type := 56, pos := "sector.go:37", after := #[], guard := none }
def q36r1_9 : Oper := { dst := some 12, op := Go.Op.nilCheck (Go.Operand.tmp 11), type := 0, pos := "sector.go:37", after := #[{ on := 8, ground := Go.Ground.data }], guard := none }
def q36r1_10 : Oper := { dst := some 13, op := Go.Op.fieldAddr 24 (Go.Operand.tmp 12) 2, type := 0, pos := "sector.go:37", after := #[{ on := 9, ground := Go.Ground.data }], guard := none }
def q36r1_11 : Oper := { dst := some 14, op := Go.Op.call { callee := Go.Callee.value (Go.Operand.func 50), args := #[Go.Operand.const (Go.Value.int Go.IntKind.i64 16), Go.Operand.const (Go.Value.int Go.IntKind.i64 8), Go.Operand.tmp 13], argTypes := #[3, 3, 78] }, type := 60, pos := "sector.go:40", after := #[{ on := 10, ground := Go.Ground.data }, { on := 7, ground := Go.Ground.chain }], guard := none }
def q36r1_12 : Oper := { dst := some 15, op := Go.Op.move (Go.Operand.tmp 0), type := 56, pos := "sector.go:37", after := #[], guard := none }
def q36r1_13 : Oper := { dst := some 16, op := Go.Op.nilCheck (Go.Operand.tmp 15), type := 0, pos := "sector.go:37", after := #[{ on := 12, ground := Go.Ground.data }], guard := none }
def q36r1_14 : Oper := { dst := some 17, op := Go.Op.fieldAddr 24 (Go.Operand.tmp 16) 3, type := 0, pos := "sector.go:37", after := #[{ on := 13, ground := Go.Ground.data }], guard := none }
def q36r1_15 : Oper := { dst := some 18, op := Go.Op.call { callee := Go.Callee.value (Go.Operand.func 50), args := #[Go.Operand.const (Go.Value.int Go.IntKind.i64 24), Go.Operand.const (Go.Value.int Go.IntKind.i64 8), Go.Operand.tmp 17], argTypes := #[3, 3, 78] }, type := 60, pos := "sector.go:41", after := #[{ on := 14, ground := Go.Ground.data }, { on := 11, ground := Go.Ground.chain }], guard := none }
def q36r1_16 : Oper := { dst := some 19, op := Go.Op.move (Go.Operand.tmp 0), type := 56, pos := "sector.go:37", after := #[], guard := none }
def q36r1_17 : Oper := { dst := some 20, op := Go.Op.nilCheck (Go.Operand.tmp 19), type := 0, pos := "sector.go:37", after := #[{ on := 16, ground := Go.Ground.data }], guard := none }
def q36r1_18 : Oper := { dst := some 21, op := Go.Op.fieldAddr 24 (Go.Operand.tmp 20) 4, type := 0, pos := "sector.go:37", after := #[{ on := 17, ground := Go.Ground.data }], guard := none }
def q36r1_19 : Oper := { dst := some 22, op := Go.Op.call { callee := Go.Callee.value (Go.Operand.func 48), args := #[Go.Operand.const (Go.Value.int Go.IntKind.i64 32), Go.Operand.const (Go.Value.int Go.IntKind.i64 4), Go.Operand.tmp 21], argTypes := #[3, 3, 74] }, type := 60, pos := "sector.go:42", after := #[{ on := 18, ground := Go.Ground.data }, { on := 15, ground := Go.Ground.chain }], guard := none }
def q36r1_20 : Oper := { dst := some 23, op := Go.Op.move (Go.Operand.tmp 0), type := 56, pos := "sector.go:37", after := #[], guard := none }
def q36r1_21 : Oper := { dst := some 24, op := Go.Op.nilCheck (Go.Operand.tmp 23), type := 0, pos := "sector.go:37", after := #[{ on := 20, ground := Go.Ground.data }], guard := none }
def q36r1_22 : Oper := { dst := some 25, op := Go.Op.fieldAddr 24 (Go.Operand.tmp 24) 5, type := 0, pos := "sector.go:37", after := #[{ on := 21, ground := Go.Ground.data }], guard := none }
def q36r1_23 : Oper := { dst := some 26, op := Go.Op.call { callee := Go.Callee.value (Go.Operand.func 48), args := #[Go.Operand.const (Go.Value.int Go.IntKind.i64 36), Go.Operand.const (Go.Value.int Go.IntKind.i64 4), Go.Operand.tmp 25], argTypes := #[3, 3, 74] }, type := 60, pos := "sector.go:43", after := #[{ on := 22, ground := Go.Ground.data }, { on := 19, ground := Go.Ground.chain }], guard := none }
def q36r1_24 : Oper := { dst := some 27, op := Go.Op.move (Go.Operand.tmp 0), type := 56, pos := "sector.go:37", after := #[], guard := none }
def q36r1_25 : Oper := { dst := some 28, op := Go.Op.nilCheck (Go.Operand.tmp 27), type := 0, pos := "sector.go:37", after := #[{ on := 24, ground := Go.Ground.data }], guard := none }
def q36r1_26 : Oper := { dst := some 29, op := Go.Op.fieldAddr 24 (Go.Operand.tmp 28) 6, type := 0, pos := "sector.go:37", after := #[{ on := 25, ground := Go.Ground.data }], guard := none }
def q36r1_27 : Oper := { dst := some 30, op := Go.Op.call { callee := Go.Callee.value (Go.Operand.func 50), args := #[Go.Operand.const (Go.Value.int Go.IntKind.i64 40), Go.Operand.const (Go.Value.int Go.IntKind.i64 8), Go.Operand.tmp 29], argTypes := #[3, 3, 78] }, type := 60, pos := "sector.go:44", after := #[{ on := 26, ground := Go.Ground.data }, { on := 23, ground := Go.Ground.chain }], guard := none }
def q36r1_28 : Oper := { dst := some 31, op := Go.Op.move (Go.Operand.tmp 0), type := 56, pos := "sector.go:37", after := #[], guard := none }
def q36r1_29 : Oper := { dst := some 32, op := Go.Op.nilCheck (Go.Operand.tmp 31), type := 0, pos := "sector.go:37", after := #[{ on := 28, ground := Go.Ground.data }], guard := none }
def q36r1_30 : Oper := { dst := some 33, op := Go.Op.fieldAddr 24 (Go.Operand.tmp 32) 7, type := 0, pos := "sector.go:37", after := #[{ on := 29, ground := Go.Ground.data }], guard := none }
def q36r1_31 : Oper := { dst := some 34, op := Go.Op.call { callee := Go.Callee.value (Go.Operand.func 48), args := #[Go.Operand.const (Go.Value.int Go.IntKind.i64 48), Go.Operand.const (Go.Value.int Go.IntKind.i64 4), Go.Operand.tmp 33], argTypes := #[3, 3, 74] }, type := 60, pos := "sector.go:45", after := #[{ on := 30, ground := Go.Ground.data }, { on := 27, ground := Go.Ground.chain }], guard := none }
def q36r1_32 : Oper := { dst := some 35, op := Go.Op.move (Go.Operand.tmp 0), type := 56, pos := "sector.go:37", after := #[], guard := none }
def q36r1_33 : Oper := { dst := some 36, op := Go.Op.nilCheck (Go.Operand.tmp 35), type := 0, pos := "sector.go:37", after := #[{ on := 32, ground := Go.Ground.data }], guard := none }
def q36r1_34 : Oper := { dst := some 37, op := Go.Op.fieldAddr 24 (Go.Operand.tmp 36) 8, type := 0, pos := "sector.go:37", after := #[{ on := 33, ground := Go.Ground.data }], guard := none }
def q36r1_35 : Oper := { dst := some 38, op := Go.Op.call { callee := Go.Callee.value (Go.Operand.func 48), args := #[Go.Operand.const (Go.Value.int Go.IntKind.i64 52), Go.Operand.const (Go.Value.int Go.IntKind.i64 4), Go.Operand.tmp 37], argTypes := #[3, 3, 74] }, type := 60, pos := "sector.go:46", after := #[{ on := 34, ground := Go.Ground.data }, { on := 31, ground := Go.Ground.chain }], guard := none }
def q36r1_36 : Oper := { dst := some 39, op := Go.Op.move (Go.Operand.tmp 0), type := 56, pos := "sector.go:37", after := #[], guard := none }
def q36r1_37 : Oper := { dst := some 40, op := Go.Op.nilCheck (Go.Operand.tmp 39), type := 0, pos := "sector.go:37", after := #[{ on := 36, ground := Go.Ground.data }], guard := none }
def q36r1_38 : Oper := { dst := some 41, op := Go.Op.fieldAddr 24 (Go.Operand.tmp 40) 9, type := 0, pos := "sector.go:37", after := #[{ on := 37, ground := Go.Ground.data }], guard := none }
def q36r1_39 : Oper := { dst := some 42, op := Go.Op.call { callee := Go.Callee.value (Go.Operand.func 50), args := #[Go.Operand.const (Go.Value.int Go.IntKind.i64 56), Go.Operand.const (Go.Value.int Go.IntKind.i64 8), Go.Operand.tmp 41], argTypes := #[3, 3, 78] }, type := 60, pos := "sector.go:47", after := #[{ on := 38, ground := Go.Ground.data }, { on := 35, ground := Go.Ground.chain }], guard := none }
def q36r1_40 : Oper := { dst := some 43, op := Go.Op.move (Go.Operand.tmp 0), type := 56, pos := "sector.go:37", after := #[], guard := none }
def q36r1_41 : Oper := { dst := some 44, op := Go.Op.nilCheck (Go.Operand.tmp 43), type := 0, pos := "sector.go:37", after := #[{ on := 40, ground := Go.Ground.data }], guard := none }
def q36r1_42 : Oper := { dst := some 45, op := Go.Op.fieldAddr 24 (Go.Operand.tmp 44) 10, type := 0, pos := "sector.go:37", after := #[{ on := 41, ground := Go.Ground.data }], guard := none }
def q36r1_43 : Oper := { dst := some 46, op := Go.Op.call { callee := Go.Callee.value (Go.Operand.func 48), args := #[Go.Operand.const (Go.Value.int Go.IntKind.i64 64), Go.Operand.const (Go.Value.int Go.IntKind.i64 4), Go.Operand.tmp 45], argTypes := #[3, 3, 74] }, type := 60, pos := "sector.go:48", after := #[{ on := 42, ground := Go.Ground.data }, { on := 39, ground := Go.Ground.chain }], guard := none }
def q36r1_44 : Oper := { dst := some 47, op := Go.Op.move (Go.Operand.tmp 0), type := 56, pos := "sector.go:37", after := #[], guard := none }
def q36r1_45 : Oper := { dst := some 48, op := Go.Op.nilCheck (Go.Operand.tmp 47), type := 0, pos := "sector.go:37", after := #[{ on := 44, ground := Go.Ground.data }], guard := none }
def q36r1_46 : Oper := { dst := some 49, op := Go.Op.fieldAddr 24 (Go.Operand.tmp 48) 11, type := 0, pos := "sector.go:37", after := #[{ on := 45, ground := Go.Ground.data }], guard := none }
def q36r1_47 : Oper := { dst := some 50, op := Go.Op.call { callee := Go.Callee.value (Go.Operand.func 48), args := #[Go.Operand.const (Go.Value.int Go.IntKind.i64 68), Go.Operand.const (Go.Value.int Go.IntKind.i64 4), Go.Operand.tmp 49], argTypes := #[3, 3, 74] }, type := 60, pos := "sector.go:49", after := #[{ on := 46, ground := Go.Ground.data }, { on := 43, ground := Go.Ground.chain }], guard := none }
def q36r1_48 : Oper := { dst := some 51, op := Go.Op.move (Go.Operand.tmp 0), type := 56, pos := "sector.go:37", after := #[], guard := none }
def q36r1_49 : Oper := { dst := some 52, op := Go.Op.nilCheck (Go.Operand.tmp 51), type := 0, pos := "sector.go:37", after := #[{ on := 48, ground := Go.Ground.data }], guard := none }
def q36r1_50 : Oper := { dst := some 53, op := Go.Op.fieldAddr 24 (Go.Operand.tmp 52) 12, type := 0, pos := "sector.go:37", after := #[{ on := 49, ground := Go.Ground.data }], guard := none }
def q36r1_51 : Oper := { dst := some 54, op := Go.Op.call { callee := Go.Callee.value (Go.Operand.func 50), args := #[Go.Operand.const (Go.Value.int Go.IntKind.i64 72), Go.Operand.const (Go.Value.int Go.IntKind.i64 8), Go.Operand.tmp 53], argTypes := #[3, 3, 78] }, type := 60, pos := "sector.go:50", after := #[{ on := 50, ground := Go.Ground.data }, { on := 47, ground := Go.Ground.chain }], guard := none }
def q36r1_52 : Oper := { dst := some 55, op := Go.Op.move (Go.Operand.tmp 0), type := 56, pos := "sector.go:37", after := #[], guard := none }
def q36r1_53 : Oper := { dst := some 56, op := Go.Op.nilCheck (Go.Operand.tmp 55), type := 0, pos := "sector.go:37", after := #[{ on := 52, ground := Go.Ground.data }], guard := none }
def q36r1_54 : Oper := { dst := some 57, op := Go.Op.fieldAddr 24 (Go.Operand.tmp 56) 13, type := 0, pos := "sector.go:37", after := #[{ on := 53, ground := Go.Ground.data }], guard := none }
def q36r1_55 : Oper := { dst := some 58, op := Go.Op.call { callee := Go.Callee.value (Go.Operand.func 48), args := #[Go.Operand.const (Go.Value.int Go.IntKind.i64 80), Go.Operand.const (Go.Value.int Go.IntKind.i64 4), Go.Operand.tmp 57], argTypes := #[3, 3, 74] }, type := 60, pos := "sector.go:51", after := #[{ on := 54, ground := Go.Ground.data }, { on := 51, ground := Go.Ground.chain }], guard := none }
def q36r1_56 : Oper := { dst := some 59, op := Go.Op.buildSlice 54 14 #[(0, Go.Operand.tmp 6), (1, Go.Operand.tmp 10), (2, Go.Operand.tmp 14), (3, Go.Operand.tmp 18), (4, Go.Operand.tmp 22), (5, Go.Operand.tmp 26), (6, Go.Operand.tmp 30), (7, Go.Operand.tmp 34), (8, Go.Operand.tmp 38), (9, Go.Operand.tmp 42), (10, Go.Operand.tmp 46), (11, Go.Operand.tmp 50), (12, Go.Operand.tmp 54), (13, Go.Operand.tmp 58)], type := 54, pos := "sector.go:37", after := #[{ on := 3, ground := Go.Ground.data }, { on := 7, ground := Go.Ground.data }, { on := 11, ground := Go.Ground.data }, { on := 15, ground := Go.Ground.data }, { on := 19, ground := Go.Ground.data }, { on := 23, ground := Go.Ground.data }, { on := 27, ground := Go.Ground.data }, { on := 31, ground := Go.Ground.data }, { on := 35, ground := Go.Ground.data }, { on := 39, ground := Go.Ground.data }, { on := 43, ground := Go.Ground.data }, { on := 47, ground := Go.Ground.data }, { on := 51, ground := Go.Ground.data }, { on := 55, ground := Go.Ground.data }], guard := none }
def q36r1_57 : Oper := { dst := some 2, op := Go.Op.assign (Go.Operand.tmp 59), type := 54, pos := "sector.go:37", after := #[{ on := 56, ground := Go.Ground.data }, { on := 55, ground := Go.Ground.chain }, { on := 0, ground := Go.Ground.phase }, { on := 1, ground := Go.Ground.phase }, { on := 2, ground := Go.Ground.phase }, { on := 3, ground := Go.Ground.phase }, { on := 4, ground := Go.Ground.phase }, { on := 5, ground := Go.Ground.phase }, { on := 6, ground := Go.Ground.phase }, { on := 7, ground := Go.Ground.phase }, { on := 8, ground := Go.Ground.phase }, { on := 9, ground := Go.Ground.phase }, { on := 10, ground := Go.Ground.phase }, { on := 11, ground := Go.Ground.phase }, { on := 12, ground := Go.Ground.phase }, { on := 13, ground := Go.Ground.phase }, { on := 14, ground := Go.Ground.phase }, { on := 15, ground := Go.Ground.phase }, { on := 16, ground := Go.Ground.phase }, { on := 17, ground := Go.Ground.phase }, { on := 18, ground := Go.Ground.phase }, { on := 19, ground := Go.Ground.phase }, { on := 20, ground := Go.Ground.phase }, { on := 21, ground := Go.Ground.phase }, { on := 22, ground := Go.Ground.phase }, { on := 23, ground := Go.Ground.phase }, { on := 24, ground := Go.Ground.phase }, { on := 25, ground := Go.Ground.phase }, { on := 26, ground := Go.Ground.phase }, { on := 27, ground := Go.Ground.phase }, { on := 28, ground := Go.Ground.phase }, { on := 29, ground := Go.Ground.phase }, { on := 30, ground := Go.Ground.phase }, { on := 31, ground := Go.Ground.phase }, { on := 32, ground := Go.Ground.phase }, { on := 33, ground := Go.Ground.phase }, { on := 34, ground := Go.Ground.phase }, { on := 35, ground := Go.Ground.phase }, { on := 36, ground := Go.Ground.phase }, { on := 37, ground := Go.Ground.phase }, { on := 38, ground := Go.Ground.phase }, { on := 39, ground := Go.Ground.phase }, { on := 40, ground := Go.Ground.phase }, { on := 41, ground := Go.Ground.phase }, { on := 42, ground := Go.Ground.phase }, { on := 43, ground := Go.Ground.phase }, { on := 44, ground := Go.Ground.phase }, { on := 45, ground := Go.Ground.phase }, { on := 46, ground := Go.Ground.phase }, { on := 47, ground := Go.Ground.phase }, { on := 48, ground := Go.Ground.phase }, { on := 49, ground := Go.Ground.phase }, { on := 50, ground := Go.Ground.phase }, { on := 51, ground := Go.Ground.phase }, { on := 52, ground := Go.Ground.phase }, { on := 53, ground := Go.Ground.phase }, { on := 54, ground := Go.Ground.phase }, { on := 55, ground := Go.Ground.phase }, { on := 56, ground := Go.Ground.phase }], guard := none }
def o36r1 : Array Oper := #[q36r1_0, q36r1_1, q36r1_2, q36r1_3, q36r1_4, q36r1_5, q36r1_6, q36r1_7, q36r1_8, q36r1_9, q36r1_10, q36r1_11, q36r1_12, q36r1_13, q36r1_14, q36r1_15, q36r1_16, q36r1_17, q36r1_18, q36r1_19, q36r1_20, q36r1_21, q36r1_22, q36r1_23, q36r1_24, q36r1_25, q36r1_26, q36r1_27, q36r1_28, q36r1_29, q36r1_30, q36r1_31, q36r1_32, q36r1_33, q36r1_34, q36r1_35, q36r1_36, q36r1_37, q36r1_38, q36r1_39, q36r1_40, q36r1_41, q36r1_42, q36r1_43, q36r1_44, q36r1_45, q36r1_46, q36r1_47, q36r1_48, q36r1_49, q36r1_50, q36r1_51, q36r1_52, q36r1_53, q36r1_54, q36r1_55, q36r1_56, q36r1_57]
def p36r1_58 : List (Nat × Oper) := []
def p36r1_57 : List (Nat × Oper) := (0, q36r1_57) :: p36r1_58
def p36r1_56 : List (Nat × Oper) := (1, q36r1_56) :: p36r1_57
def p36r1_55 : List (Nat × Oper) := (1, q36r1_55) :: p36r1_56
def p36r1_54 : List (Nat × Oper) := (1, q36r1_51) :: p36r1_55
def p36r1_53 : List (Nat × Oper) := (1, q36r1_47) :: p36r1_54
def p36r1_52 : List (Nat × Oper) := (1, q36r1_43) :: p36r1_53
def p36r1_51 : List (Nat × Oper) := (1, q36r1_39) :: p36r1_52
def p36r1_50 : List (Nat × Oper) := (1, q36r1_35) :: p36r1_51
def p36r1_49 : List (Nat × Oper) := (1, q36r1_31) :: p36r1_50
def p36r1_48 : List (Nat × Oper) := (1, q36r1_27) :: p36r1_49
def p36r1_47 : List (Nat × Oper) := (1, q36r1_23) :: p36r1_48
def p36r1_46 : List (Nat × Oper) := (1, q36r1_19) :: p36r1_47
def p36r1_45 : List (Nat × Oper) := (1, q36r1_15) :: p36r1_46
def p36r1_44 : List (Nat × Oper) := (1, q36r1_11) :: p36r1_45
def p36r1_43 : List (Nat × Oper) := (1, q36r1_7) :: p36r1_44
def p36r1_42 : List (Nat × Oper) := (1, q36r1_3) :: p36r1_43
def p36r1_41 : List (Nat × Oper) := (0, q36r1_54) :: p36r1_42
def p36r1_40 : List (Nat × Oper) := (0, q36r1_53) :: p36r1_41
def p36r1_39 : List (Nat × Oper) := (0, q36r1_52) :: p36r1_40
def p36r1_38 : List (Nat × Oper) := (0, q36r1_50) :: p36r1_39
def p36r1_37 : List (Nat × Oper) := (0, q36r1_49) :: p36r1_38
def p36r1_36 : List (Nat × Oper) := (0, q36r1_48) :: p36r1_37
def p36r1_35 : List (Nat × Oper) := (0, q36r1_46) :: p36r1_36
def p36r1_34 : List (Nat × Oper) := (0, q36r1_45) :: p36r1_35
def p36r1_33 : List (Nat × Oper) := (0, q36r1_44) :: p36r1_34
def p36r1_32 : List (Nat × Oper) := (0, q36r1_42) :: p36r1_33
def p36r1_31 : List (Nat × Oper) := (0, q36r1_41) :: p36r1_32
def p36r1_30 : List (Nat × Oper) := (0, q36r1_40) :: p36r1_31
def p36r1_29 : List (Nat × Oper) := (0, q36r1_38) :: p36r1_30
def p36r1_28 : List (Nat × Oper) := (0, q36r1_37) :: p36r1_29
def p36r1_27 : List (Nat × Oper) := (0, q36r1_36) :: p36r1_28
def p36r1_26 : List (Nat × Oper) := (0, q36r1_34) :: p36r1_27
def p36r1_25 : List (Nat × Oper) := (0, q36r1_33) :: p36r1_26
def p36r1_24 : List (Nat × Oper) := (0, q36r1_32) :: p36r1_25
def p36r1_23 : List (Nat × Oper) := (0, q36r1_30) :: p36r1_24
def p36r1_22 : List (Nat × Oper) := (0, q36r1_29) :: p36r1_23
def p36r1_21 : List (Nat × Oper) := (0, q36r1_28) :: p36r1_22
def p36r1_20 : List (Nat × Oper) := (0, q36r1_26) :: p36r1_21
def p36r1_19 : List (Nat × Oper) := (0, q36r1_25) :: p36r1_20
def p36r1_18 : List (Nat × Oper) := (0, q36r1_24) :: p36r1_19
def p36r1_17 : List (Nat × Oper) := (0, q36r1_22) :: p36r1_18
def p36r1_16 : List (Nat × Oper) := (0, q36r1_21) :: p36r1_17
def p36r1_15 : List (Nat × Oper) := (0, q36r1_20) :: p36r1_16
def p36r1_14 : List (Nat × Oper) := (0, q36r1_18) :: p36r1_15
def p36r1_13 : List (Nat × Oper) := (0, q36r1_17) :: p36r1_14
def p36r1_12 : List (Nat × Oper) := (0, q36r1_16) :: p36r1_13
def p36r1_11 : List (Nat × Oper) := (0, q36r1_14) :: p36r1_12
def p36r1_10 : List (Nat × Oper) := (0, q36r1_13) :: p36r1_11
def p36r1_9 : List (Nat × Oper) := (0, q36r1_12) :: p36r1_10
def p36r1_8 : List (Nat × Oper) := (0, q36r1_10) :: p36r1_9
def p36r1_7 : List (Nat × Oper) := (0, q36r1_9) :: p36r1_8
def p36r1_6 : List (Nat × Oper) := (0, q36r1_8) :: p36r1_7
def p36r1_5 : List (Nat × Oper) := (0, q36r1_6) :: p36r1_6
def p36r1_4 : List (Nat × Oper) := (0, q36r1_5) :: p36r1_5
def p36r1_3 : List (Nat × Oper) := (0, q36r1_4) :: p36r1_4
def p36r1_2 : List (Nat × Oper) := (0, q36r1_2) :: p36r1_3
def p36r1_1 : List (Nat × Oper) := (0, q36r1_1) :: p36r1_2
def p36r1_0 : List (Nat × Oper) := (0, q36r1_0) :: p36r1_1
def c36r1 : List (Nat × Nat) := [(0, 0), (0, 1), (0, 2), (0, 4), (0, 5), (0, 6), (0, 8), (0, 9), (0, 10), (0, 12), (0, 13), (0, 14), (0, 16), (0, 17), (0, 18), (0, 20), (0, 21), (0, 22), (0, 24), (0, 25), (0, 26), (0, 28), (0, 29), (0, 30), (0, 32), (0, 33), (0, 34), (0, 36), (0, 37), (0, 38), (0, 40), (0, 41), (0, 42), (0, 44), (0, 45), (0, 46), (0, 48), (0, 49), (0, 50), (0, 52), (0, 53), (0, 54), (1, 3), (1, 7), (1, 11), (1, 15), (1, 19), (1, 23), (1, 27), (1, 31), (1, 35), (1, 39), (1, 43), (1, 47), (1, 51), (1, 55), (1, 56), (0, 57)]
theorem b36r1 : (Region.noSelect o36r1 && (c36r1.length == o36r1.size) && planB o36r1 [] c36r1 (Array.replicate o36r1.size false)) = true := by kernel_rfl
theorem d36r1 : (c36r1.map fun p => (p.1, o36r1[p.2]?)) = (p36r1_0.map fun p => (p.1, some p.2)) := by kernel_rfl
end Go.Proofs.Ytejdmnhdjeogaaa
