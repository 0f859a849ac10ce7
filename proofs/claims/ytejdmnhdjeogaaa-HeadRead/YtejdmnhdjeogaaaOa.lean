/- The operations of the rules, and the plan of their walk. -/
import Derived.Test.YtejdmnhdjeogaaaRp
import Derived.Test.YtejdmnhdjeogaaaProg
import Derived.KernelRfl
namespace Go.Proofs.Ytejdmnhdjeogaaa
open Go.RowKit
def q35r4_0 : Oper := { dst := some 7, op := Go.Op.fieldAddr 24 (Go.Operand.tmp 1) 1, type := 0, pos := "may.go:57", after := #[], guard := none }
def q35r4_1 : Oper := { dst := some 8, op := Go.Op.load 22 (Go.Operand.tmp 7), type := 22, pos := "may.go:57", after := #[{ on := 0, ground := Go.Ground.data }], guard := none }
def q35r4_2 : Oper := { dst := some 9, op := Go.Op.convert 22 2 (Go.Operand.tmp 8), type := 2, pos := "may.go:57", after := #[{ on := 1, ground := Go.Ground.data }], guard := none }
def q35r4_3 : Oper := { dst := some 10, op := Go.Op.build 53 #[(0, Go.Operand.tmp 9), (1, Go.Operand.const (Go.Value.int Go.IntKind.i64 0)), (2, Go.Operand.const (Go.Value.int Go.IntKind.i64 1)), (3, Go.Operand.const (Go.Value.int Go.IntKind.i64 1))], type := 53, pos := "may.go:57", after := #[{ on := 2, ground := Go.Ground.data }], guard := none }
def q35r4_4 : Oper := { dst := some 11, op := Go.Op.fieldAddr 24 (Go.Operand.tmp 1) 2, type := 0, pos := "may.go:57", after := #[], guard := none }
def q35r4_5 : Oper := { dst := some 12, op := Go.Op.load 2 (Go.Operand.tmp 11), type := 2, pos := "may.go:57", after := #[{ on := 4, ground := Go.Ground.data }], guard := none }
def q35r4_6 : Oper := { dst := some 13, op := Go.Op.build 53 #[(0, Go.Operand.tmp 12), (1, Go.Operand.const (Go.Value.int Go.IntKind.i64 0)), (2, Go.Operand.const (Go.Value.int Go.IntKind.i64 67108864)), (3, Go.Operand.const (Go.Value.int Go.IntKind.i64 512))], type := 53, pos := "may.go:57", after := #[{ on := 5, ground := Go.Ground.data }], guard := none }
def q35r4_7 : Oper := { dst := some 14, op := Go.Op.fieldAddr 24 (Go.Operand.tmp 1) 4, type := 0, pos := "may.go:57", after := #[], guard := none }
def q35r4_8 : Oper := { dst := some 15, op := Go.Op.load 3 (Go.Operand.tmp 14), type := 3, pos := "may.go:57", after := #[{ on := 7, ground := Go.Ground.data }], guard := none }
def q35r4_9 : Oper := { dst := some 16, op := Go.Op.load 24 (Go.Operand.tmp 1), type := 24, pos := "may.go:57", after := #[], guard := none }
def q35r4_10 : Oper := { dst := some 17, op := Go.Op.call { callee := Go.Callee.value (Go.Operand.func 28), args := #[Go.Operand.tmp 16], argTypes := #[24] }, type := 2, pos := "may.go:61", after := #[{ on := 9, ground := Go.Ground.data }], guard := none }
def q35r4_11 : Oper := { dst := some 18, op := Go.Op.build 53 #[(0, Go.Operand.tmp 15), (1, Go.Operand.tmp 17), (2, Go.Operand.const (Go.Value.int Go.IntKind.i64 1048576)), (3, Go.Operand.const (Go.Value.int Go.IntKind.i64 1))], type := 53, pos := "may.go:57", after := #[{ on := 8, ground := Go.Ground.data }, { on := 10, ground := Go.Ground.data }], guard := none }
def q35r4_12 : Oper := { dst := some 19, op := Go.Op.move (Go.Operand.tmp 4), type := 71, pos := "may.go:57", after := #[], guard := none }
def q35r4_13 : Oper := { dst := some 20, op := Go.Op.fieldAddr 24 (Go.Operand.tmp 1) 4, type := 0, pos := "may.go:57", after := #[], guard := none }
def q35r4_14 : Oper := { dst := some 21, op := Go.Op.load 3 (Go.Operand.tmp 20), type := 3, pos := "may.go:57", after := #[{ on := 13, ground := Go.Ground.data }], guard := none }
def q35r4_15 : Oper := { dst := some 22, op := Go.Op.move (Go.Operand.tmp 3), type := 70, pos := "may.go:57", after := #[], guard := none }
def q35r4_16 : Oper := { dst := some 23, op := Go.Op.fieldAddr 24 (Go.Operand.tmp 1) 3, type := 0, pos := "may.go:57", after := #[], guard := none }
def q35r4_17 : Oper := { dst := some 24, op := Go.Op.load 2 (Go.Operand.tmp 23), type := 2, pos := "may.go:57", after := #[{ on := 16, ground := Go.Ground.data }], guard := none }
def q35r4_18 : Oper := { dst := some 25, op := Go.Op.call { callee := Go.Callee.value (Go.Operand.tmp 22), args := #[Go.Operand.tmp 24], argTypes := #[2] }, type := 53, pos := "may.go:62", after := #[{ on := 15, ground := Go.Ground.data }, { on := 17, ground := Go.Ground.data }, { on := 10, ground := Go.Ground.chain }], guard := none }
def q35r4_19 : Oper := { dst := some 26, op := Go.Op.call { callee := Go.Callee.value (Go.Operand.tmp 19), args := #[Go.Operand.tmp 21, Go.Operand.tmp 25], argTypes := #[3, 53] }, type := 53, pos := "may.go:62", after := #[{ on := 12, ground := Go.Ground.data }, { on := 14, ground := Go.Ground.data }, { on := 18, ground := Go.Ground.data }, { on := 18, ground := Go.Ground.chain }], guard := none }
def q35r4_20 : Oper := { dst := some 27, op := Go.Op.fieldAddr 24 (Go.Operand.tmp 1) 5, type := 0, pos := "may.go:57", after := #[], guard := none }
def q35r4_21 : Oper := { dst := some 28, op := Go.Op.load 3 (Go.Operand.tmp 27), type := 3, pos := "may.go:57", after := #[{ on := 20, ground := Go.Ground.data }], guard := none }
def q35r4_22 : Oper := { dst := some 29, op := Go.Op.build 53 #[(0, Go.Operand.tmp 28), (1, Go.Operand.const (Go.Value.int Go.IntKind.i64 0)), (2, Go.Operand.const (Go.Value.int Go.IntKind.i64 6)), (3, Go.Operand.const (Go.Value.int Go.IntKind.i64 1))], type := 53, pos := "may.go:57", after := #[{ on := 21, ground := Go.Ground.data }], guard := none }
def q35r4_23 : Oper := { dst := some 30, op := Go.Op.move (Go.Operand.tmp 3), type := 70, pos := "may.go:57", after := #[], guard := none }
def q35r4_24 : Oper := { dst := some 31, op := Go.Op.fieldAddr 24 (Go.Operand.tmp 1) 6, type := 0, pos := "may.go:57", after := #[], guard := none }
def q35r4_25 : Oper := { dst := some 32, op := Go.Op.load 2 (Go.Operand.tmp 31), type := 2, pos := "may.go:57", after := #[{ on := 24, ground := Go.Ground.data }], guard := none }
def q35r4_26 : Oper := { dst := some 33, op := Go.Op.call { callee := Go.Callee.value (Go.Operand.tmp 30), args := #[Go.Operand.tmp 32], argTypes := #[2] }, type := 53, pos := "may.go:64", after := #[{ on := 23, ground := Go.Ground.data }, { on := 25, ground := Go.Ground.data }, { on := 19, ground := Go.Ground.chain }], guard := none }
def q35r4_27 : Oper := { dst := some 34, op := Go.Op.fieldAddr 24 (Go.Operand.tmp 1) 7, type := 0, pos := "may.go:57", after := #[], guard := none }
def q35r4_28 : Oper := { dst := some 35, op := Go.Op.load 3 (Go.Operand.tmp 34), type := 3, pos := "may.go:57", after := #[{ on := 27, ground := Go.Ground.data }], guard := none }
def q35r4_29 : Oper := { dst := some 36, op := Go.Op.build 53 #[(0, Go.Operand.tmp 35), (1, Go.Operand.const (Go.Value.int Go.IntKind.i64 1)), (2, Go.Operand.const (Go.Value.int Go.IntKind.i64 65536)), (3, Go.Operand.const (Go.Value.int Go.IntKind.i64 1))], type := 53, pos := "may.go:57", after := #[{ on := 28, ground := Go.Ground.data }], guard := none }
def q35r4_30 : Oper := { dst := some 37, op := Go.Op.fieldAddr 24 (Go.Operand.tmp 1) 8, type := 0, pos := "may.go:57", after := #[], guard := none }
def q35r4_31 : Oper := { dst := some 38, op := Go.Op.load 3 (Go.Operand.tmp 37), type := 3, pos := "may.go:57", after := #[{ on := 30, ground := Go.Ground.data }], guard := none }
def q35r4_32 : Oper := { dst := some 39, op := Go.Op.build 53 #[(0, Go.Operand.tmp 38), (1, Go.Operand.const (Go.Value.int Go.IntKind.i64 0)), (2, Go.Operand.const (Go.Value.int Go.IntKind.i64 64)), (3, Go.Operand.const (Go.Value.int Go.IntKind.i64 1))], type := 53, pos := "may.go:57", after := #[{ on := 31, ground := Go.Ground.data }], guard := none }
def q35r4_33 : Oper := { dst := some 40, op := Go.Op.move (Go.Operand.tmp 4), type := 71, pos := "may.go:57", after := #[], guard := none }
def q35r4_34 : Oper := { dst := some 41, op := Go.Op.fieldAddr 24 (Go.Operand.tmp 1) 8, type := 0, pos := "may.go:57", after := #[], guard := none }
def q35r4_35 : Oper := { dst := some 42, op := Go.Op.load 3 (Go.Operand.tmp 41), type := 3, pos := "may.go:57", after := #[{ on := 34, ground := Go.Ground.data }], guard := none }
def q35r4_36 : Oper := { dst := some 43, op := Go.Op.move (Go.Operand.tmp 3), type := 70, pos := "may.go:57", after := #[], guard := none }
def q35r4_37 : Oper := { dst := some 44, op := Go.Op.fieldAddr 24 (Go.Operand.tmp 1) 9, type := 0, pos := "may.go:57", after := #[], guard := none }
def q35r4_38 : Oper := { dst := some 45, op := Go.Op.load 2 (Go.Operand.tmp 44), type := 2, pos := "may.go:57", after := #[{ on := 37, ground := Go.Ground.data }], guard := none }
def q35r4_39 : Oper := { dst := some 46, op := Go.Op.call { callee := Go.Callee.value (Go.Operand.tmp 43), args := #[Go.Operand.tmp 45], argTypes := #[2] }, type := 53, pos := "may.go:67", after := #[{ on := 36, ground := Go.Ground.data }, { on := 38, ground := Go.Ground.data }, { on := 26, ground := Go.Ground.chain }], guard := none }
def q35r4_40 : Oper := { dst := some 47, op := Go.Op.call { callee := Go.Callee.value (Go.Operand.tmp 40), args := #[Go.Operand.tmp 42, Go.Operand.tmp 46], argTypes := #[3, 53] }, type := 53, pos := "may.go:67", after := #[{ on := 33, ground := Go.Ground.data }, { on := 35, ground := Go.Ground.data }, { on := 39, ground := Go.Ground.data }, { on := 39, ground := Go.Ground.chain }], guard := none }
def q35r4_41 : Oper := { dst := some 48, op := Go.Op.move (Go.Operand.tmp 4), type := 71, pos := "may.go:57", after := #[], guard := none }
def q35r4_42 : Oper := { dst := some 49, op := Go.Op.fieldAddr 24 (Go.Operand.tmp 1) 8, type := 0, pos := "may.go:57", after := #[], guard := none }
def q35r4_43 : Oper := { dst := some 50, op := Go.Op.load 3 (Go.Operand.tmp 49), type := 3, pos := "may.go:57", after := #[{ on := 42, ground := Go.Ground.data }], guard := none }
def q35r4_44 : Oper := { dst := some 51, op := Go.Op.move (Go.Operand.tmp 5), type := 72, pos := "may.go:57", after := #[], guard := none }
def q35r4_45 : Oper := { dst := some 52, op := Go.Op.fieldAddr 24 (Go.Operand.tmp 1) 10, type := 0, pos := "may.go:57", after := #[], guard := none }
def q35r4_46 : Oper := { dst := some 53, op := Go.Op.load 3 (Go.Operand.tmp 52), type := 3, pos := "may.go:57", after := #[{ on := 45, ground := Go.Ground.data }], guard := none }
def q35r4_47 : Oper := { dst := some 54, op := Go.Op.call { callee := Go.Callee.value (Go.Operand.tmp 51), args := #[Go.Operand.tmp 53], argTypes := #[3] }, type := 53, pos := "may.go:68", after := #[{ on := 44, ground := Go.Ground.data }, { on := 46, ground := Go.Ground.data }, { on := 40, ground := Go.Ground.chain }], guard := none }
def q35r4_48 : Oper := { dst := some 55, op := Go.Op.call { callee := Go.Callee.value (Go.Operand.tmp 48), args := #[Go.Operand.tmp 50, Go.Operand.tmp 54], argTypes := #[3, 53] }, type := 53, pos := "may.go:68", after := #[{ on := 41, ground := Go.Ground.data }, { on := 43, ground := Go.Ground.data }, { on := 47, ground := Go.Ground.data }, { on := 47, ground := Go.Ground.chain }], guard := none }
def q35r4_49 : Oper := { dst := some 56, op := Go.Op.fieldAddr 24 (Go.Operand.tmp 1) 11, type := 0, pos := "may.go:57", after := #[], guard := none }
def q35r4_50 : Oper := { dst := some 57, op := Go.Op.load 3 (Go.Operand.tmp 56), type := 3, pos := "may.go:57", after := #[{ on := 49, ground := Go.Ground.data }], guard := none }
def q35r4_51 : Oper := { dst := some 58, op := Go.Op.build 53 #[(0, Go.Operand.tmp 57), (1, Go.Operand.const (Go.Value.int Go.IntKind.i64 0)), (2, Go.Operand.const (Go.Value.int Go.IntKind.i64 64)), (3, Go.Operand.const (Go.Value.int Go.IntKind.i64 1))], type := 53, pos := "may.go:57", after := #[{ on := 50, ground := Go.Ground.data }], guard := none }
def q35r4_52 : Oper := { dst := some 59, op := Go.Op.move (Go.Operand.tmp 4), type := 71, pos := "may.go:57", after := #[], guard := none }
def q35r4_53 : Oper := { dst := some 60, op := Go.Op.fieldAddr 24 (Go.Operand.tmp 1) 11, type := 0, pos := "may.go:57", after := #[], guard := none }
def q35r4_54 : Oper := { dst := some 61, op := Go.Op.load 3 (Go.Operand.tmp 60), type := 3, pos := "may.go:57", after := #[{ on := 53, ground := Go.Ground.data }], guard := none }
def q35r4_55 : Oper := { dst := some 62, op := Go.Op.move (Go.Operand.tmp 3), type := 70, pos := "may.go:57", after := #[], guard := none }
def q35r4_56 : Oper := { dst := some 63, op := Go.Op.fieldAddr 24 (Go.Operand.tmp 1) 12, type := 0, pos := "may.go:57", after := #[], guard := none }
def q35r4_57 : Oper := { dst := some 64, op := Go.Op.load 2 (Go.Operand.tmp 63), type := 2, pos := "may.go:57", after := #[{ on := 56, ground := Go.Ground.data }], guard := none }
def q35r4_58 : Oper := { dst := some 65, op := Go.Op.call { callee := Go.Callee.value (Go.Operand.tmp 62), args := #[Go.Operand.tmp 64], argTypes := #[2] }, type := 53, pos := "may.go:70", after := #[{ on := 55, ground := Go.Ground.data }, { on := 57, ground := Go.Ground.data }, { on := 48, ground := Go.Ground.chain }], guard := none }
def q35r4_59 : Oper := { dst := some 66, op := Go.Op.call { callee := Go.Callee.value (Go.Operand.tmp 59), args := #[Go.Operand.tmp 61, Go.Operand.tmp 65], argTypes := #[3, 53] }, type := 53, pos := "may.go:70", after := #[{ on := 52, ground := Go.Ground.data }, { on := 54, ground := Go.Ground.data }, { on := 58, ground := Go.Ground.data }, { on := 58, ground := Go.Ground.chain }], guard := none }
def q35r4_60 : Oper := { dst := some 67, op := Go.Op.move (Go.Operand.tmp 4), type := 71, pos := "may.go:57", after := #[], guard := none }
def q35r4_61 : Oper := { dst := some 68, op := Go.Op.fieldAddr 24 (Go.Operand.tmp 1) 11, type := 0, pos := "may.go:57", after := #[], guard := none }
def q35r4_62 : Oper := { dst := some 69, op := Go.Op.load 3 (Go.Operand.tmp 68), type := 3, pos := "may.go:57", after := #[{ on := 61, ground := Go.Ground.data }], guard := none }
def q35r4_63 : Oper := { dst := some 70, op := Go.Op.move (Go.Operand.tmp 5), type := 72, pos := "may.go:57", after := #[], guard := none }
def q35r4_64 : Oper := { dst := some 71, op := Go.Op.fieldAddr 24 (Go.Operand.tmp 1) 13, type := 0, pos := "may.go:57", after := #[], guard := none }
def q35r4_65 : Oper := { dst := some 72, op := Go.Op.load 3 (Go.Operand.tmp 71), type := 3, pos := "may.go:57", after := #[{ on := 64, ground := Go.Ground.data }], guard := none }
def q35r4_66 : Oper := { dst := some 73, op := Go.Op.call { callee := Go.Callee.value (Go.Operand.tmp 70), args := #[Go.Operand.tmp 72], argTypes := #[3] }, type := 53, pos := "may.go:71", after := #[{ on := 63, ground := Go.Ground.data }, { on := 65, ground := Go.Ground.data }, { on := 59, ground := Go.Ground.chain }], guard := none }
def q35r4_67 : Oper := { dst := some 74, op := Go.Op.call { callee := Go.Callee.value (Go.Operand.tmp 67), args := #[Go.Operand.tmp 69, Go.Operand.tmp 73], argTypes := #[3, 53] }, type := 53, pos := "may.go:71", after := #[{ on := 60, ground := Go.Ground.data }, { on := 62, ground := Go.Ground.data }, { on := 66, ground := Go.Ground.data }, { on := 66, ground := Go.Ground.chain }], guard := none }
def q35r4_68 : Oper := { dst := some 75, op := Go.Op.fieldAddr 24 (Go.Operand.tmp 1) 14, type := 0, pos := "may.go:57", after := #[], guard := none }
def q35r4_69 : Oper := { dst := some 76, op := Go.Op.load 9 (Go.Operand.tmp 75), type := 9, pos := "may.go:57", after := #[{ on := 68, ground := Go.Ground.data }], guard := none }
def q35r4_70 : Oper := { dst := some 77, op := Go.Op.call { callee := Go.Callee.builtin Go.Builtin.len, args := #[Go.Operand.tmp 76], argTypes := #[9] }, type := 3, pos := "may.go:57", after := #[{ on := 69, ground := Go.Ground.data }], guard := none }
def q35r4_71 : Oper := { dst := some 78, op := Go.Op.build 53 #[(0, Go.Operand.tmp 77), (1, Go.Operand.const (Go.Value.int Go.IntKind.i64 0)), (2, Go.Operand.const (Go.Value.int Go.IntKind.i64 64)), (3, Go.Operand.const (Go.Value.int Go.IntKind.i64 1))], type := 53, pos := "may.go:57", after := #[{ on := 70, ground := Go.Ground.data }], guard := none }
def q35r4_72 : Oper := { dst := some 79, op := Go.Op.buildSlice 50 14 #[(0, Go.Operand.tmp 10), (1, Go.Operand.tmp 13), (2, Go.Operand.tmp 18), (3, Go.Operand.tmp 26), (4, Go.Operand.tmp 29), (5, Go.Operand.tmp 33), (6, Go.Operand.tmp 36), (7, Go.Operand.tmp 39), (8, Go.Operand.tmp 47), (9, Go.Operand.tmp 55), (10, Go.Operand.tmp 58), (11, Go.Operand.tmp 66), (12, Go.Operand.tmp 74), (13, Go.Operand.tmp 78)], type := 50, pos := "may.go:57", after := #[{ on := 3, ground := Go.Ground.data }, { on := 6, ground := Go.Ground.data }, { on := 11, ground := Go.Ground.data }, { on := 19, ground := Go.Ground.data }, { on := 22, ground := Go.Ground.data }, { on := 26, ground := Go.Ground.data }, { on := 29, ground := Go.Ground.data }, { on := 32, ground := Go.Ground.data }, { on := 40, ground := Go.Ground.data }, { on := 48, ground := Go.Ground.data }, { on := 51, ground := Go.Ground.data }, { on := 59, ground := Go.Ground.data }, { on := 67, ground := Go.Ground.data }, { on := 71, ground := Go.Ground.data }], guard := none }
def q35r4_73 : Oper := { dst := some 2, op := Go.Op.assign (Go.Operand.tmp 79), type := 50, pos := "may.go:57", after := ([{ on := 72, ground := Go.Ground.data }, { on := 67, ground := Go.Ground.chain }, { on := 0, ground := Go.Ground.phase }, { on := 1, ground := Go.Ground.phase }, { on := 2, ground := Go.Ground.phase }, { on := 3, ground := Go.Ground.phase }, { on := 4, ground := Go.Ground.phase }, { on := 5, ground := Go.Ground.phase }, { on := 6, ground := Go.Ground.phase }, { on := 7, ground := Go.Ground.phase }, { on := 8, ground := Go.Ground.phase }, { on := 9, ground := Go.Ground.phase }, { on := 10, ground := Go.Ground.phase }, { on := 11, ground := Go.Ground.phase }, { on := 12, ground := Go.Ground.phase }, { on := 13, ground := Go.Ground.phase }, { on := 14, ground := Go.Ground.phase }, { on := 15, ground := Go.Ground.phase }, { on := 16, ground := Go.Ground.phase }, { on := 17, ground := Go.Ground.phase }, { on := 18, ground := Go.Ground.phase }, { on := 19, ground := Go.Ground.phase }, { on := 20, ground := Go.Ground.phase }, { on := 21, ground := Go.Ground.phase }, { on := 22, ground := Go.Ground.phase }, { on := 23, ground := Go.Ground.phase }, { on := 24, ground := Go.Ground.phase }, { on := 25, ground := Go.Ground.phase }, { on := 26, ground := Go.Ground.phase }, { on := 27, ground := Go.Ground.phase }, { on := 28, ground := Go.Ground.phase }, { on := 29, ground := Go.Ground.phase }, { on := 30, ground := Go.Ground.phase }, { on := 31, ground := Go.Ground.phase }, { on := 32, ground := Go.Ground.phase }, { on := 33, ground := Go.Ground.phase }, { on := 34, ground := Go.Ground.phase }].append [{ on := 35, ground := Go.Ground.phase }, { on := 36, ground := Go.Ground.phase }, { on := 37, ground := Go.Ground.phase }, { on := 38, ground := Go.Ground.phase }, { on := 39, ground := Go.Ground.phase }, { on := 40, ground := Go.Ground.phase }, { on := 41, ground := Go.Ground.phase }, { on := 42, ground := Go.Ground.phase }, { on := 43, ground := Go.Ground.phase }, { on := 44, ground := Go.Ground.phase }, { on := 45, ground := Go.Ground.phase }, { on := 46, ground := Go.Ground.phase }, { on := 47, ground := Go.Ground.phase }, { on := 48, ground := Go.Ground.phase }, { on := 49, ground := Go.Ground.phase }, { on := 50, ground := Go.Ground.phase }, { on := 51, ground := Go.Ground.phase }, { on := 52, ground := Go.Ground.phase }, { on := 53, ground := Go.Ground.phase }, { on := 54, ground := Go.Ground.phase }, { on := 55, ground := Go.Ground.phase }, { on := 56, ground := Go.Ground.phase }, { on := 57, ground := Go.Ground.phase }, { on := 58, ground := Go.Ground.phase }, { on := 59, ground := Go.Ground.phase }, { on := 60, ground := Go.Ground.phase }, { on := 61, ground := Go.Ground.phase }, { on := 62, ground := Go.Ground.phase }, { on := 63, ground := Go.Ground.phase }, { on := 64, ground := Go.Ground.phase }, { on := 65, ground := Go.Ground.phase }, { on := 66, ground := Go.Ground.phase }, { on := 67, ground := Go.Ground.phase }, { on := 68, ground := Go.Ground.phase }, { on := 69, ground := Go.Ground.phase }, { on := 70, ground := Go.Ground.phase }, { on := 71, ground := Go.Ground.phase }, { on := 72, ground := Go.Ground.phase }]).toArray, guard := none }
def o35r4 : Array Oper := #[q35r4_0, q35r4_1, q35r4_2, q35r4_3, q35r4_4, q35r4_5, q35r4_6, q35r4_7, q35r4_8, q35r4_9, q35r4_10, q35r4_11, q35r4_12, q35r4_13, q35r4_14, q35r4_15, q35r4_16, q35r4_17, q35r4_18, q35r4_19, q35r4_20, q35r4_21, q35r4_22, q35r4_23, q35r4_24, q35r4_25, q35r4_26, q35r4_27, q35r4_28, q35r4_29, q35r4_30, q35r4_31, q35r4_32, q35r4_33, q35r4_34, q35r4_35, q35r4_36, q35r4_37, q35r4_38, q35r4_39, q35r4_40, q35r4_41, q35r4_42, q35r4_43, q35r4_44, q35r4_45, q35r4_46, q35r4_47, q35r4_48, q35r4_49, q35r4_50, q35r4_51, q35r4_52, q35r4_53, q35r4_54, q35r4_55, q35r4_56, q35r4_57, q35r4_58, q35r4_59, q35r4_60, q35r4_61, q35r4_62, q35r4_63, q35r4_64, q35r4_65, q35r4_66, q35r4_67, q35r4_68, q35r4_69, q35r4_70, q35r4_71, q35r4_72, q35r4_73]
def p35r4_74 : List (Nat × Oper) := []
def p35r4_73 : List (Nat × Oper) := (0, q35r4_73) :: p35r4_74
def p35r4_72 : List (Nat × Oper) := (1, q35r4_72) :: p35r4_73
def p35r4_71 : List (Nat × Oper) := (1, q35r4_67) :: p35r4_72
def p35r4_70 : List (Nat × Oper) := (1, q35r4_66) :: p35r4_71
def p35r4_69 : List (Nat × Oper) := (1, q35r4_59) :: p35r4_70
def p35r4_68 : List (Nat × Oper) := (1, q35r4_58) :: p35r4_69
def p35r4_67 : List (Nat × Oper) := (1, q35r4_48) :: p35r4_68
def p35r4_66 : List (Nat × Oper) := (1, q35r4_47) :: p35r4_67
def p35r4_65 : List (Nat × Oper) := (1, q35r4_40) :: p35r4_66
def p35r4_64 : List (Nat × Oper) := (1, q35r4_39) :: p35r4_65
def p35r4_63 : List (Nat × Oper) := (1, q35r4_26) :: p35r4_64
def p35r4_62 : List (Nat × Oper) := (1, q35r4_19) :: p35r4_63
def p35r4_61 : List (Nat × Oper) := (1, q35r4_18) :: p35r4_62
def p35r4_60 : List (Nat × Oper) := (0, q35r4_11) :: p35r4_61
def p35r4_59 : List (Nat × Oper) := (1, q35r4_10) :: p35r4_60
def p35r4_58 : List (Nat × Oper) := (0, q35r4_71) :: p35r4_59
def p35r4_57 : List (Nat × Oper) := (0, q35r4_70) :: p35r4_58
def p35r4_56 : List (Nat × Oper) := (0, q35r4_69) :: p35r4_57
def p35r4_55 : List (Nat × Oper) := (0, q35r4_68) :: p35r4_56
def p35r4_54 : List (Nat × Oper) := (0, q35r4_65) :: p35r4_55
def p35r4_53 : List (Nat × Oper) := (0, q35r4_64) :: p35r4_54
def p35r4_52 : List (Nat × Oper) := (0, q35r4_63) :: p35r4_53
def p35r4_51 : List (Nat × Oper) := (0, q35r4_62) :: p35r4_52
def p35r4_50 : List (Nat × Oper) := (0, q35r4_61) :: p35r4_51
def p35r4_49 : List (Nat × Oper) := (0, q35r4_60) :: p35r4_50
def p35r4_48 : List (Nat × Oper) := (0, q35r4_57) :: p35r4_49
def p35r4_47 : List (Nat × Oper) := (0, q35r4_56) :: p35r4_48
def p35r4_46 : List (Nat × Oper) := (0, q35r4_55) :: p35r4_47
def p35r4_45 : List (Nat × Oper) := (0, q35r4_54) :: p35r4_46
def p35r4_44 : List (Nat × Oper) := (0, q35r4_53) :: p35r4_45
def p35r4_43 : List (Nat × Oper) := (0, q35r4_52) :: p35r4_44
def p35r4_42 : List (Nat × Oper) := (0, q35r4_51) :: p35r4_43
def p35r4_41 : List (Nat × Oper) := (0, q35r4_50) :: p35r4_42
def p35r4_40 : List (Nat × Oper) := (0, q35r4_49) :: p35r4_41
def p35r4_39 : List (Nat × Oper) := (0, q35r4_46) :: p35r4_40
def p35r4_38 : List (Nat × Oper) := (0, q35r4_45) :: p35r4_39
def p35r4_37 : List (Nat × Oper) := (0, q35r4_44) :: p35r4_38
def p35r4_36 : List (Nat × Oper) := (0, q35r4_43) :: p35r4_37
def p35r4_35 : List (Nat × Oper) := (0, q35r4_42) :: p35r4_36
def p35r4_34 : List (Nat × Oper) := (0, q35r4_41) :: p35r4_35
def p35r4_33 : List (Nat × Oper) := (0, q35r4_38) :: p35r4_34
def p35r4_32 : List (Nat × Oper) := (0, q35r4_37) :: p35r4_33
def p35r4_31 : List (Nat × Oper) := (0, q35r4_36) :: p35r4_32
def p35r4_30 : List (Nat × Oper) := (0, q35r4_35) :: p35r4_31
def p35r4_29 : List (Nat × Oper) := (0, q35r4_34) :: p35r4_30
def p35r4_28 : List (Nat × Oper) := (0, q35r4_33) :: p35r4_29
def p35r4_27 : List (Nat × Oper) := (0, q35r4_32) :: p35r4_28
def p35r4_26 : List (Nat × Oper) := (0, q35r4_31) :: p35r4_27
def p35r4_25 : List (Nat × Oper) := (0, q35r4_30) :: p35r4_26
def p35r4_24 : List (Nat × Oper) := (0, q35r4_29) :: p35r4_25
def p35r4_23 : List (Nat × Oper) := (0, q35r4_28) :: p35r4_24
def p35r4_22 : List (Nat × Oper) := (0, q35r4_27) :: p35r4_23
def p35r4_21 : List (Nat × Oper) := (0, q35r4_25) :: p35r4_22
def p35r4_20 : List (Nat × Oper) := (0, q35r4_24) :: p35r4_21
def p35r4_19 : List (Nat × Oper) := (0, q35r4_23) :: p35r4_20
def p35r4_18 : List (Nat × Oper) := (0, q35r4_22) :: p35r4_19
def p35r4_17 : List (Nat × Oper) := (0, q35r4_21) :: p35r4_18
def p35r4_16 : List (Nat × Oper) := (0, q35r4_20) :: p35r4_17
def p35r4_15 : List (Nat × Oper) := (0, q35r4_17) :: p35r4_16
def p35r4_14 : List (Nat × Oper) := (0, q35r4_16) :: p35r4_15
def p35r4_13 : List (Nat × Oper) := (0, q35r4_15) :: p35r4_14
def p35r4_12 : List (Nat × Oper) := (0, q35r4_14) :: p35r4_13
def p35r4_11 : List (Nat × Oper) := (0, q35r4_13) :: p35r4_12
def p35r4_10 : List (Nat × Oper) := (0, q35r4_12) :: p35r4_11
def p35r4_9 : List (Nat × Oper) := (0, q35r4_9) :: p35r4_10
def p35r4_8 : List (Nat × Oper) := (0, q35r4_8) :: p35r4_9
def p35r4_7 : List (Nat × Oper) := (0, q35r4_7) :: p35r4_8
def p35r4_6 : List (Nat × Oper) := (0, q35r4_6) :: p35r4_7
def p35r4_5 : List (Nat × Oper) := (0, q35r4_5) :: p35r4_6
def p35r4_4 : List (Nat × Oper) := (0, q35r4_4) :: p35r4_5
def p35r4_3 : List (Nat × Oper) := (0, q35r4_3) :: p35r4_4
def p35r4_2 : List (Nat × Oper) := (0, q35r4_2) :: p35r4_3
def p35r4_1 : List (Nat × Oper) := (0, q35r4_1) :: p35r4_2
def p35r4_0 : List (Nat × Oper) := (0, q35r4_0) :: p35r4_1
def c35r4 : List (Nat × Nat) := [(0, 0), (0, 1), (0, 2), (0, 3), (0, 4), (0, 5), (0, 6), (0, 7), (0, 8), (0, 9), (0, 12), (0, 13), (0, 14), (0, 15), (0, 16), (0, 17), (0, 20), (0, 21), (0, 22), (0, 23), (0, 24), (0, 25), (0, 27), (0, 28), (0, 29), (0, 30), (0, 31), (0, 32), (0, 33), (0, 34), (0, 35), (0, 36), (0, 37), (0, 38), (0, 41), (0, 42), (0, 43), (0, 44), (0, 45), (0, 46), (0, 49), (0, 50), (0, 51), (0, 52), (0, 53), (0, 54), (0, 55), (0, 56), (0, 57), (0, 60), (0, 61), (0, 62), (0, 63), (0, 64), (0, 65), (0, 68), (0, 69), (0, 70), (0, 71), (1, 10), (0, 11), (1, 18), (1, 19), (1, 26), (1, 39), (1, 40), (1, 47), (1, 48), (1, 58), (1, 59), (1, 66), (1, 67), (1, 72), (0, 73)]
theorem b35r4 : (Region.noSelect o35r4 && (c35r4.length == o35r4.size) && planB o35r4 [] c35r4 (Array.replicate o35r4.size false)) = true := by kernel_rfl
theorem d35r4 : (c35r4.map fun p => (p.1, o35r4[p.2]?)) = (p35r4_0.map fun p => (p.1, some p.2)) := by kernel_rfl
end Go.Proofs.Ytejdmnhdjeogaaa
