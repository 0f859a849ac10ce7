/- RegionsApart: what follows the ranges. -/
import Derived.Test.YtopnfjgkgoeleaaZf
namespace Go.Proofs.Ytopnfjgkgoeleaa
open Go.RowKit Go.Shelf
attribute [local go_sem] Oper.semAt_some
set_option linter.unusedVariables false
set_option linter.unusedSimpArgs false
def e38 (bo : Option Addr) (n cb : Nat) (nn st : Int) (T6 T7 T8 : Nat) (q q1 q2 T17 : Nat) (ob : Bool) (f : Nat → Value) : Array Value := #[.slice bo n cb, .int .i64 nn, .int .i64 st, f 3, f 4, f 5, .pointer (some ⟨T6, 0, none⟩), .pointer (some ⟨T7, 0, none⟩), .pointer (some ⟨T8, 0, none⟩), f 9, f 10, f 11, f 12, f 13, f 14, .func (.func 57) #[] #[.pointer (some ⟨q, 0, none⟩)], .func (.func 62) #[] #[.pointer (some ⟨q1, 0, none⟩), .pointer (some ⟨q2, 0, none⟩)], .pointer (some ⟨T17, 0, none⟩), f 18, f 19, f 20, f 21, f 22, f 23, f 24, f 25, f 26, f 27, f 28, f 29, f 30, f 31, f 32, f 33, f 34, f 35, f 36, f 37, f 38, f 39, f 40, f 41, f 42, f 43, f 44, f 45, f 46, f 47, f 48, f 49, f 50, f 51, f 52, f 53, f 54, f 55, f 56, f 57, f 58, f 59, f 60, f 61, f 62, f 63, f 64, f 65, f 66, f 67, f 68, f 69, f 70, f 71, f 72, f 73, f 74, f 75, f 76, f 77, f 78, f 79, f 80, f 81, f 82, f 83, f 84, f 85, f 86, f 87, f 88, f 89, f 90, f 91, f 92, f 93, f 94, f 95, f 96, f 97, f 98, f 99, f 100, f 101, f 102, f 103, f 104, f 105, f 106, f 107, f 108, f 109, f 110, f 111, f 112, f 113, f 114, f 115, f 116, f 117, f 118, f 119, f 120, f 121, f 122, f 123, f 124, f 125, f 126, f 127, f 128, f 129, f 130, f 131, f 132, f 133, f 134, f 135, f 136, f 137, f 138, f 139, f 140, f 141, f 142, f 143, f 144, f 145, f 146, f 147, f 148, f 149, f 150, f 151, f 152, f 153, f 154, f 155, f 156, f 157, f 158, f 159, f 160, f 161, f 162, f 163, f 164, f 165, f 166, f 167, f 168, f 169, f 170, f 171, f 172, f 173, f 174, f 175, f 176, f 177, f 178, f 179, f 180, f 181, f 182, f 183, f 184, f 185, f 186, f 187, f 188, f 189, f 190, f 191, f 192, f 193, f 194, f 195, f 196, f 197, f 198, f 199, f 200, f 201, f 202, f 203, f 204, f 205, f 206, f 207, f 208, f 209, f 210, f 211, f 212, f 213, f 214, f 215, f 216, f 217, f 218, .bool ob, f 220, f 221, f 222, f 223, f 224, f 225, f 226, f 227, f 228, f 229, f 230, f 231, f 232, f 233, f 234, f 235, f 236, f 237, f 238, f 239, f 240, f 241, f 242, f 243, f 244, f 245, f 246, f 247, f 248, f 249, f 250, f 251, f 252, f 253, f 254, f 255, f 256, f 257, f 258, f 259, f 260, f 261, f 262, f 263, f 264, f 265, f 266, f 267, f 268, f 269, f 270, f 271, f 272, f 273, f 274, f 275, f 276, f 277, f 278, f 279, f 280, f 281, f 282, f 283, f 284, f 285, f 286, f 287, f 288, f 289, f 290, f 291, f 292, f 293, f 294, f 295, f 296, f 297, f 298, f 299, f 300, f 301, f 302, f 303]
def eM (bo : Option Addr) (n cb : Nat) (nn st : Int) (T6 T7 T8 : Nat) (q q1 q2 T17 : Nat) (at0 p : Int) (i : Nat) (f : Nat → Value) : Array Value := #[.slice bo n cb, .int .i64 nn, .int .i64 st, f 3, f 4, f 5, .pointer (some ⟨T6, 0, none⟩), .pointer (some ⟨T7, 0, none⟩), .pointer (some ⟨T8, 0, none⟩), f 9, f 10, f 11, f 12, f 13, f 14, .func (.func 57) #[] #[.pointer (some ⟨q, 0, none⟩)], .func (.func 62) #[] #[.pointer (some ⟨q1, 0, none⟩), .pointer (some ⟨q2, 0, none⟩)], .pointer (some ⟨T17, 0, none⟩), f 18, f 19, f 20, f 21, f 22, f 23, f 24, f 25, f 26, f 27, f 28, f 29, .int .i64 at0, f 31, .int .i64 p, .int .i64 (i : Int), f 34, f 35, f 36, f 37, f 38, f 39, f 40, f 41, f 42, f 43, f 44, f 45, f 46, f 47, f 48, f 49, f 50, f 51, f 52, f 53, f 54, f 55, f 56, f 57, f 58, f 59, f 60, f 61, f 62, f 63, f 64, f 65, f 66, f 67, f 68, f 69, f 70, f 71, f 72, f 73, f 74, f 75, f 76, f 77, f 78, f 79, f 80, f 81, f 82, f 83, f 84, f 85, f 86, f 87, f 88, f 89, f 90, f 91, f 92, f 93, f 94, f 95, f 96, f 97, f 98, f 99, f 100, f 101, f 102, f 103, f 104, f 105, f 106, f 107, f 108, f 109, f 110, f 111, f 112, f 113, f 114, f 115, f 116, f 117, f 118, f 119, f 120, f 121, f 122, f 123, f 124, f 125, f 126, f 127, f 128, f 129, f 130, f 131, f 132, f 133, f 134, f 135, f 136, f 137, f 138, f 139, f 140, f 141, f 142, f 143, f 144, f 145, f 146, f 147, f 148, f 149, f 150, f 151, f 152, f 153, f 154, f 155, f 156, f 157, f 158, f 159, f 160, f 161, f 162, f 163, f 164, f 165, f 166, f 167, f 168, f 169, f 170, f 171, f 172, f 173, f 174, f 175, f 176, f 177, f 178, f 179, f 180, f 181, f 182, f 183, f 184, f 185, f 186, f 187, f 188, f 189, f 190, f 191, f 192, f 193, f 194, f 195, f 196, f 197, f 198, f 199, f 200, f 201, f 202, f 203, f 204, f 205, f 206, f 207, f 208, f 209, f 210, f 211, f 212, f 213, f 214, f 215, f 216, f 217, f 218, f 219, f 220, f 221, f 222, f 223, f 224, f 225, f 226, f 227, f 228, f 229, f 230, f 231, f 232, f 233, f 234, f 235, f 236, f 237, f 238, f 239, f 240, f 241, f 242, f 243, f 244, f 245, f 246, f 247, f 248, f 249, f 250, f 251, f 252, f 253, f 254, f 255, f 256, f 257, f 258, f 259, f 260, f 261, f 262, f 263, f 264, f 265, f 266, f 267, f 268, f 269, f 270, f 271, f 272, f 273, f 274, f 275, f 276, f 277, f 278, f 279, f 280, f 281, f 282, f 283, f 284, f 285, f 286, f 287, f 288, f 289, f 290, f 291, f 292, f 293, f 294, f 295, f 296, f 297, f 298, f 299, f 300, f 301, f 302, f 303]
def e30 (bo : Option Addr) (n cb : Nat) (nn st : Int) (T6 T7 T8 : Nat) (q q1 q2 T17 : Nat) (at0 : Int) (f : Nat → Value) : Array Value := #[.slice bo n cb, .int .i64 nn, .int .i64 st, f 3, f 4, f 5, .pointer (some ⟨T6, 0, none⟩), .pointer (some ⟨T7, 0, none⟩), .pointer (some ⟨T8, 0, none⟩), f 9, f 10, f 11, f 12, f 13, f 14, .func (.func 57) #[] #[.pointer (some ⟨q, 0, none⟩)], .func (.func 62) #[] #[.pointer (some ⟨q1, 0, none⟩), .pointer (some ⟨q2, 0, none⟩)], .pointer (some ⟨T17, 0, none⟩), f 18, f 19, f 20, f 21, f 22, f 23, f 24, f 25, f 26, f 27, f 28, f 29, .int .i64 at0, f 31, f 32, f 33, f 34, f 35, f 36, f 37, f 38, f 39, f 40, f 41, f 42, f 43, f 44, f 45, f 46, f 47, f 48, f 49, f 50, f 51, f 52, f 53, f 54, f 55, f 56, f 57, f 58, f 59, f 60, f 61, f 62, f 63, f 64, f 65, f 66, f 67, f 68, f 69, f 70, f 71, f 72, f 73, f 74, f 75, f 76, f 77, f 78, f 79, f 80, f 81, f 82, f 83, f 84, f 85, f 86, f 87, f 88, f 89, f 90, f 91, f 92, f 93, f 94, f 95, f 96, f 97, f 98, f 99, f 100, f 101, f 102, f 103, f 104, f 105, f 106, f 107, f 108, f 109, f 110, f 111, f 112, f 113, f 114, f 115, f 116, f 117, f 118, f 119, f 120, f 121, f 122, f 123, f 124, f 125, f 126, f 127, f 128, f 129, f 130, f 131, f 132, f 133, f 134, f 135, f 136, f 137, f 138, f 139, f 140, f 141, f 142, f 143, f 144, f 145, f 146, f 147, f 148, f 149, f 150, f 151, f 152, f 153, f 154, f 155, f 156, f 157, f 158, f 159, f 160, f 161, f 162, f 163, f 164, f 165, f 166, f 167, f 168, f 169, f 170, f 171, f 172, f 173, f 174, f 175, f 176, f 177, f 178, f 179, f 180, f 181, f 182, f 183, f 184, f 185, f 186, f 187, f 188, f 189, f 190, f 191, f 192, f 193, f 194, f 195, f 196, f 197, f 198, f 199, f 200, f 201, f 202, f 203, f 204, f 205, f 206, f 207, f 208, f 209, f 210, f 211, f 212, f 213, f 214, f 215, f 216, f 217, f 218, f 219, f 220, f 221, f 222, f 223, f 224, f 225, f 226, f 227, f 228, f 229, f 230, f 231, f 232, f 233, f 234, f 235, f 236, f 237, f 238, f 239, f 240, f 241, f 242, f 243, f 244, f 245, f 246, f 247, f 248, f 249, f 250, f 251, f 252, f 253, f 254, f 255, f 256, f 257, f 258, f 259, f 260, f 261, f 262, f 263, f 264, f 265, f 266, f 267, f 268, f 269, f 270, f 271, f 272, f 273, f 274, f 275, f 276, f 277, f 278, f 279, f 280, f 281, f 282, f 283, f 284, f 285, f 286, f 287, f 288, f 289, f 290, f 291, f 292, f 293, f 294, f 295, f 296, f 297, f 298, f 299, f 300, f 301, f 302, f 303]
def q4r38_0 : Oper := { dst := some 202, op := Go.Op.load 2 (Go.Operand.tmp 8), type := 2, pos := "law.go:247", after := #[], guard := none }
def q4r38_1 : Oper := { dst := some 203, op := Go.Op.load 24 (Go.Operand.tmp 7), type := 24, pos := "law.go:247", after := #[], guard := none }
def q4r38_2 : Oper := { dst := some 204, op := Go.Op.call { callee := Go.Callee.value (Go.Operand.func 13), args := #[Go.Operand.tmp 203], argTypes := #[24] }, type := 2, pos := "law.go:247", after := #[{ on := 1, ground := Go.Ground.data }], guard := none }
def q4r38_3 : Oper := { dst := some 205, op := Go.Op.binOp Go.BinOp.neq 2 (Go.Operand.tmp 202) (Go.Operand.tmp 204) 2, type := 4, pos := "law.go:247", after := #[{ on := 0, ground := Go.Ground.data }, { on := 2, ground := Go.Ground.data }], guard := none }
def q4r38_4 : Oper := { dst := some 206, op := Go.Op.move (Go.Operand.tmp 205), type := 4, pos := "law.go:247", after := #[{ on := 3, ground := Go.Ground.data }, { on := 2, ground := Go.Ground.chain }], guard := none }
def q4r38_5 : Oper := { dst := some 207, op := Go.Op.load 2 (Go.Operand.tmp 17), type := 2, pos := "law.go:247", after := #[{ on := 4, ground := Go.Ground.guard }], guard := some (4, false) }
def q4r38_6 : Oper := { dst := some 208, op := Go.Op.load 24 (Go.Operand.tmp 7), type := 24, pos := "law.go:247", after := #[{ on := 4, ground := Go.Ground.guard }], guard := some (4, false) }
def q4r38_7 : Oper := { dst := some 209, op := Go.Op.call { callee := Go.Callee.value (Go.Operand.func 13), args := #[Go.Operand.tmp 208], argTypes := #[24] }, type := 2, pos := "law.go:247", after := #[{ on := 6, ground := Go.Ground.data }, { on := 4, ground := Go.Ground.chain }, { on := 4, ground := Go.Ground.guard }], guard := some (4, false) }
def q4r38_8 : Oper := { dst := some 210, op := Go.Op.binOp Go.BinOp.neq 2 (Go.Operand.tmp 207) (Go.Operand.tmp 209) 2, type := 4, pos := "law.go:247", after := #[{ on := 5, ground := Go.Ground.data }, { on := 7, ground := Go.Ground.data }, { on := 4, ground := Go.Ground.guard }], guard := some (4, false) }
def q4r38_9 : Oper := { dst := some 211, op := Go.Op.pick (Go.Operand.tmp 206) (Go.Operand.const (Go.Value.bool true)) (Go.Operand.tmp 210), type := 4, pos := "law.go:247", after := #[{ on := 4, ground := Go.Ground.data }, { on := 8, ground := Go.Ground.data }], guard := none }
def q4r38_10 : Oper := { dst := some 212, op := Go.Op.move (Go.Operand.tmp 211), type := 4, pos := "law.go:247", after := #[{ on := 9, ground := Go.Ground.data }, { on := 7, ground := Go.Ground.chain }], guard := none }
def q4r38_11 : Oper := { dst := some 213, op := Go.Op.move (Go.Operand.tmp 1), type := 2, pos := "law.go:247", after := #[{ on := 10, ground := Go.Ground.guard }], guard := some (10, false) }
def q4r38_12 : Oper := { dst := some 214, op := Go.Op.binOp Go.BinOp.lss 2 (Go.Operand.tmp 213) (Go.Operand.const (Go.Value.int Go.IntKind.i64 1)) 2, type := 4, pos := "law.go:247", after := #[{ on := 11, ground := Go.Ground.data }, { on := 10, ground := Go.Ground.guard }], guard := some (10, false) }
def q4r38_13 : Oper := { dst := some 215, op := Go.Op.pick (Go.Operand.tmp 212) (Go.Operand.const (Go.Value.bool true)) (Go.Operand.tmp 214), type := 4, pos := "law.go:247", after := #[{ on := 10, ground := Go.Ground.data }, { on := 12, ground := Go.Ground.data }], guard := none }
def q4r38_14 : Oper := { dst := some 216, op := Go.Op.move (Go.Operand.tmp 215), type := 4, pos := "law.go:247", after := #[{ on := 13, ground := Go.Ground.data }, { on := 10, ground := Go.Ground.chain }], guard := none }
def q4r38_15 : Oper := { dst := some 217, op := Go.Op.move (Go.Operand.tmp 2), type := 2, pos := "law.go:247", after := #[{ on := 14, ground := Go.Ground.guard }], guard := some (14, false) }
def q4r38_16 : Oper := { dst := some 218, op := Go.Op.binOp Go.BinOp.lss 2 (Go.Operand.tmp 217) (Go.Operand.const (Go.Value.int Go.IntKind.i64 1)) 2, type := 4, pos := "law.go:247", after := #[{ on := 15, ground := Go.Ground.data }, { on := 14, ground := Go.Ground.guard }], guard := some (14, false) }
def q4r38_17 : Oper := { dst := some 219, op := Go.Op.pick (Go.Operand.tmp 216) (Go.Operand.const (Go.Value.bool true)) (Go.Operand.tmp 218), type := 4, pos := "law.go:247", after := #[{ on := 14, ground := Go.Ground.data }, { on := 16, ground := Go.Ground.data }], guard := none }
def o4r38 : Array Oper := #[q4r38_0, q4r38_1, q4r38_2, q4r38_3, q4r38_4, q4r38_5, q4r38_6, q4r38_7, q4r38_8, q4r38_9, q4r38_10, q4r38_11, q4r38_12, q4r38_13, q4r38_14, q4r38_15, q4r38_16, q4r38_17]
def p4r38_18 : List (Nat × Oper) := []
def p4r38_17 : List (Nat × Oper) := (0, q4r38_17) :: p4r38_18
def p4r38_16 : List (Nat × Oper) := (0, q4r38_16) :: p4r38_17
def p4r38_15 : List (Nat × Oper) := (0, q4r38_15) :: p4r38_16
def p4r38_14 : List (Nat × Oper) := (0, q4r38_14) :: p4r38_15
def p4r38_13 : List (Nat × Oper) := (0, q4r38_13) :: p4r38_14
def p4r38_12 : List (Nat × Oper) := (0, q4r38_12) :: p4r38_13
def p4r38_11 : List (Nat × Oper) := (0, q4r38_11) :: p4r38_12
def p4r38_10 : List (Nat × Oper) := (0, q4r38_10) :: p4r38_11
def p4r38_9 : List (Nat × Oper) := (0, q4r38_9) :: p4r38_10
def p4r38_8 : List (Nat × Oper) := (0, q4r38_8) :: p4r38_9
def p4r38_7 : List (Nat × Oper) := (1, q4r38_7) :: p4r38_8
def p4r38_6 : List (Nat × Oper) := (0, q4r38_6) :: p4r38_7
def p4r38_5 : List (Nat × Oper) := (0, q4r38_5) :: p4r38_6
def p4r38_4 : List (Nat × Oper) := (0, q4r38_4) :: p4r38_5
def p4r38_3 : List (Nat × Oper) := (0, q4r38_3) :: p4r38_4
def p4r38_2 : List (Nat × Oper) := (1, q4r38_2) :: p4r38_3
def p4r38_1 : List (Nat × Oper) := (0, q4r38_1) :: p4r38_2
def p4r38_0 : List (Nat × Oper) := (0, q4r38_0) :: p4r38_1
def c4r38 : List (Nat × Nat) := [(0, 0), (0, 1), (1, 2), (0, 3), (0, 4), (0, 5), (0, 6), (1, 7), (0, 8), (0, 9), (0, 10), (0, 11), (0, 12), (0, 13), (0, 14), (0, 15), (0, 16), (0, 17)]
theorem b4r38 : (Region.noSelect o4r38 && (c4r38.length == o4r38.size) && planB o4r38 [] c4r38 (Array.replicate o4r38.size false)) = true := by kernel_rfl
theorem d4r38 : (c4r38.map fun p => (p.1, o4r38[p.2]?)) = (p4r38_0.map fun p => (p.1, some p.2)) := by kernel_rfl
theorem ite_pos2 {c : Prop} [Decidable c] {a b : Prop} (h : c) (k : a) : (if c then a else b) := by rw [if_pos h]; exact k
set_option maxRecDepth 100000 in
set_option maxHeartbeats 4000000 in
theorem c38_wp (w X : World) (bo : Option Addr) (n cb : Nat) (nn st : Int) (T6 T7 T8 B q q1 q2 T17 : Nat) (ao : Option Addr) (c : Nat) (L : List Rn) (ds : List Deferred) (f : Nat → Value) (h : LI w T6 B T7 T8 ao c L (endL L) X) (s17 : St 2 X T17 #[.int .i64 (endL L)]) (ob : Bool) (hob : ob = (decide (nn < 1) || decide (st < 1))) :
    c38.wpIn Fence.wide 20 Try.prog (postN (fun a' Z => (∃ f', a' = { tmps := e38 bo n cb nn st T6 T7 T8 q q1 q2 T17 ob f', defers := ds }) ∧ Below X.heap.size X Z)) { tmps := e20 bo n cb nn st T6 T7 T8 q q1 q2 T17 f, defers := ds } X := by
  have c7 : X.cell? ⟨T7, 0, none⟩ = some (.pointer (some ⟨B, 0, none⟩)) := h.s7.cell 0
  have c8 : X.cell? ⟨T8, 0, none⟩ = some (.int .i64 (endL L)) := h.s8.cell 0
  have c17 : X.cell? ⟨T17, 0, none⟩ = some (.int .i64 (endL L)) := s17.cell 0
  have l7 := h.s7.lt
  have l8 := h.s8.lt
  have l17 := s17.lt
  have HEN : Hid (∀ U, Below X.heap.size X U → Calls Try.prog 13 #[.pointer (some ⟨B, 0, none⟩)] U fun e w' => e = .returned (.int .i64 (endL L)) ∧ Below U.heap.size U w') := fun U hU => end_call U B ao c L (h.rg.below hU)
  generalize endL L = u at *
  have HKE : Hid (∀ U, Below X.heap.size X U → (fun U : World => U.cell? ⟨T7, 0, none⟩ = some (.pointer (some ⟨B, 0, none⟩)) ∧ U.cell? ⟨T8, 0, none⟩ = some (.int .i64 u) ∧ U.cell? ⟨T17, 0, none⟩ = some (.int .i64 u)) U) := fun U hU => ⟨(hU.cell (p := ⟨T7, 0, none⟩) l7).trans c7, (hU.cell (p := ⟨T8, 0, none⟩) l8).trans c8, (hU.cell (p := ⟨T17, 0, none⟩) l17).trans c17⟩
  have HTR : Hid (∀ U V : World, Below X.heap.size X U → Below U.heap.size U V → Below X.heap.size X V) := fun U V h k => h.trans (k.mono h.size)
  have H0 : Hid (Below X.heap.size X X.drew) := ⟨rfl, rfl, rfl, Nat.le_refl _, fun _ _ => rfl⟩
  clear h s17
  refine wpIn_wide.2 ?_
  unfold c38 e20
  generalize hQ : postN _ = QQ
  by_cases h1 : nn < 1
  · have d1 : decide (nn < 1) = true := by simpa using h1
    rw [d1, Bool.true_or] at hob
    subst hob
    change (Code.region 38 o4r38 true).wp _ _ _ _
    refine wp_region_plan (fun w' => Below X.heap.size X w') [] c4r38 p4r38_0 hmix b4r38 d4r38 (fun _ _ d _ _ h => by subst hQ; exact h.elim) ?_
    refine plan_take (o := q4r38_0) (r := p4r38_1) ?vza0 H0.out (by rfl) ?hyza0 ?restza0
    case hyza0 => (intro w hSw; (try dsimp only at hSw); have y := (HKE.out _ hSw).2.1; simp only [q4r38_0]; go_simp; try with_reducible rfl)
    try simp only [q4r38_0, Act.put, List.setIfInBounds_toArray, List.set_cons_zero, List.set_cons_succ]
    refine plan_take (o := q4r38_1) (r := p4r38_2) ?vza1 H0.out (by rfl) ?hyza1 ?restza1
    case hyza1 => (intro w hSw; (try dsimp only at hSw); have y := (HKE.out _ hSw).1; simp only [q4r38_1]; go_simp; try with_reducible rfl)
    try simp only [q4r38_1, Act.put, List.setIfInBounds_toArray, List.set_cons_zero, List.set_cons_succ]
    refine plan_act (o := q4r38_2) (r := p4r38_3) (fun K hK => ?_)
    simp only [q4r38_2]
    refine ite_pos2 (by rfl) ?_
    go_simp
    refine (HEN.out _ H0.out).mono ?_
    rintro e w1 ⟨rfl, b1⟩
    have B1 := hid (HTR.out _ _ H0.out b1)
    clear b1
    go_wp2_with fail
    refine hK.out _ _ (fun _ => B1.out) ?_
    clear hK K
    try simp only [q4r38_2, Act.put, List.setIfInBounds_toArray, List.set_cons_zero, List.set_cons_succ]
    refine plan_take (o := q4r38_3) (r := p4r38_4) (.bool false) B1.out (by rfl) ?hyza3 ?restza3
    case hyza3 => (intro w hSw; (try dsimp only at hSw); simp only [q4r38_3]; go_simp; try with_reducible rfl)
    try simp only [q4r38_3, Act.put, List.setIfInBounds_toArray, List.set_cons_zero, List.set_cons_succ]
    refine plan_take (o := q4r38_4) (r := p4r38_5) ?vza4 B1.out (by rfl) ?hyza4 ?restza4
    case hyza4 => (intro w hSw; (try dsimp only at hSw); simp only [q4r38_4]; go_simp; try with_reducible rfl)
    try simp only [q4r38_4, Act.put, List.setIfInBounds_toArray, List.set_cons_zero, List.set_cons_succ]
    refine plan_take (o := q4r38_5) (r := p4r38_6) ?vza5 B1.out (by rfl) ?hyza5 ?restza5
    case hyza5 => (intro w hSw; (try dsimp only at hSw); have y := (HKE.out _ hSw).2.2; simp only [q4r38_5]; go_simp; try with_reducible rfl)
    try simp only [q4r38_5, Act.put, List.setIfInBounds_toArray, List.set_cons_zero, List.set_cons_succ]
    refine plan_take (o := q4r38_6) (r := p4r38_7) ?vza6 B1.out (by rfl) ?hyza6 ?restza6
    case hyza6 => (intro w hSw; (try dsimp only at hSw); have y := (HKE.out _ hSw).1; simp only [q4r38_6]; go_simp; try with_reducible rfl)
    try simp only [q4r38_6, Act.put, List.setIfInBounds_toArray, List.set_cons_zero, List.set_cons_succ]
    refine plan_act (o := q4r38_7) (r := p4r38_8) (fun K hK => ?_)
    simp only [q4r38_7]
    refine ite_pos2 (by rfl) ?_
    go_simp
    refine (HEN.out _ B1.out).mono ?_
    rintro e w2 ⟨rfl, b2⟩
    have B2 := hid (HTR.out _ _ B1.out b2)
    clear b2
    go_wp2_with fail
    refine hK.out _ _ (fun _ => B2.out) ?_
    clear hK K
    try simp only [q4r38_7, Act.put, List.setIfInBounds_toArray, List.set_cons_zero, List.set_cons_succ]
    refine plan_take (o := q4r38_8) (r := p4r38_9) (.bool false) B2.out (by rfl) ?hyza8 ?restza8
    case hyza8 => (intro w hSw; (try dsimp only at hSw); simp only [q4r38_8]; go_simp; try with_reducible rfl)
    try simp only [q4r38_8, Act.put, List.setIfInBounds_toArray, List.set_cons_zero, List.set_cons_succ]
    refine plan_take (o := q4r38_9) (r := p4r38_10) ?vza9 B2.out (by rfl) ?hyza9 ?restza9
    case hyza9 => (intro w hSw; (try dsimp only at hSw); simp only [q4r38_9]; go_simp; try with_reducible rfl)
    try simp only [q4r38_9, Act.put, List.setIfInBounds_toArray, List.set_cons_zero, List.set_cons_succ]
    refine plan_take (o := q4r38_10) (r := p4r38_11) ?vza10 B2.out (by rfl) ?hyza10 ?restza10
    case hyza10 => (intro w hSw; (try dsimp only at hSw); simp only [q4r38_10]; go_simp; try with_reducible rfl)
    try simp only [q4r38_10, Act.put, List.setIfInBounds_toArray, List.set_cons_zero, List.set_cons_succ]
    refine plan_take (o := q4r38_11) (r := p4r38_12) ?vza11 B2.out (by rfl) ?hyza11 ?restza11
    case hyza11 => (intro w hSw; (try dsimp only at hSw); simp only [q4r38_11]; go_simp; try with_reducible rfl)
    try simp only [q4r38_11, Act.put, List.setIfInBounds_toArray, List.set_cons_zero, List.set_cons_succ]
    refine plan_take (o := q4r38_12) (r := p4r38_13) (.bool true) B2.out (by rfl) ?hyza12 ?restza12
    case hyza12 => (intro w hSw; (try dsimp only at hSw); simp only [q4r38_12]; go_simp; try with_reducible rfl)
    try simp only [q4r38_12, Act.put, List.setIfInBounds_toArray, List.set_cons_zero, List.set_cons_succ]
    refine plan_take (o := q4r38_13) (r := p4r38_14) (.bool true) B2.out (by rfl) ?hyza13 ?restza13
    case hyza13 => (intro w hSw; (try dsimp only at hSw); simp only [q4r38_13]; go_simp; try with_reducible rfl)
    try simp only [q4r38_13, Act.put, List.setIfInBounds_toArray, List.set_cons_zero, List.set_cons_succ]
    refine plan_take (o := q4r38_14) (r := p4r38_15) ?vza14 B2.out (by rfl) ?hyza14 ?restza14
    case hyza14 => (intro w hSw; (try dsimp only at hSw); simp only [q4r38_14]; go_simp; try with_reducible rfl)
    try simp only [q4r38_14, Act.put, List.setIfInBounds_toArray, List.set_cons_zero, List.set_cons_succ]
    refine plan_skip (o := q4r38_15) (r := p4r38_16) B2.out (by rfl) ?_
    try simp only [q4r38_15, Act.put, List.setIfInBounds_toArray, List.set_cons_zero, List.set_cons_succ]
    refine plan_skip (o := q4r38_16) (r := p4r38_17) B2.out (by rfl) ?_
    try simp only [q4r38_16, Act.put, List.setIfInBounds_toArray, List.set_cons_zero, List.set_cons_succ]
    refine plan_take (o := q4r38_17) (r := p4r38_18) (.bool true) B2.out (by rfl) ?hyza17 ?restza17
    case hyza17 => (intro w hSw; (try dsimp only at hSw); simp only [q4r38_17]; go_simp; try with_reducible rfl)
    try simp only [q4r38_17, Act.put, List.setIfInBounds_toArray, List.set_cons_zero, List.set_cons_succ]
    refine plan_done ?_
    subst hQ
    exact ⟨act_of (by kernel_rfl) rfl, B2.out⟩
  · have d1 : decide (nn < 1) = false := by simpa using h1
    rw [d1, Bool.false_or] at hob
    have hob' := hob.symm
    clear hob
    change (Code.region 38 o4r38 true).wp _ _ _ _
    refine wp_region_plan (fun w' => Below X.heap.size X w') [] c4r38 p4r38_0 hmix b4r38 d4r38 (fun _ _ d _ _ h => by subst hQ; exact h.elim) ?_
    refine plan_take (o := q4r38_0) (r := p4r38_1) ?vzb0 H0.out (by rfl) ?hyzb0 ?restzb0
    case hyzb0 => (intro w hSw; (try dsimp only at hSw); have y := (HKE.out _ hSw).2.1; simp only [q4r38_0]; go_simp; try with_reducible rfl)
    try simp only [q4r38_0, Act.put, List.setIfInBounds_toArray, List.set_cons_zero, List.set_cons_succ]
    refine plan_take (o := q4r38_1) (r := p4r38_2) ?vzb1 H0.out (by rfl) ?hyzb1 ?restzb1
    case hyzb1 => (intro w hSw; (try dsimp only at hSw); have y := (HKE.out _ hSw).1; simp only [q4r38_1]; go_simp; try with_reducible rfl)
    try simp only [q4r38_1, Act.put, List.setIfInBounds_toArray, List.set_cons_zero, List.set_cons_succ]
    refine plan_act (o := q4r38_2) (r := p4r38_3) (fun K hK => ?_)
    simp only [q4r38_2]
    refine ite_pos2 (by rfl) ?_
    go_simp
    refine (HEN.out _ H0.out).mono ?_
    rintro e w1 ⟨rfl, b1⟩
    have B1 := hid (HTR.out _ _ H0.out b1)
    clear b1
    go_wp2_with fail
    refine hK.out _ _ (fun _ => B1.out) ?_
    clear hK K
    try simp only [q4r38_2, Act.put, List.setIfInBounds_toArray, List.set_cons_zero, List.set_cons_succ]
    refine plan_take (o := q4r38_3) (r := p4r38_4) (.bool false) B1.out (by rfl) ?hyzb3 ?restzb3
    case hyzb3 => (intro w hSw; (try dsimp only at hSw); simp only [q4r38_3]; go_simp; try with_reducible rfl)
    try simp only [q4r38_3, Act.put, List.setIfInBounds_toArray, List.set_cons_zero, List.set_cons_succ]
    refine plan_take (o := q4r38_4) (r := p4r38_5) ?vzb4 B1.out (by rfl) ?hyzb4 ?restzb4
    case hyzb4 => (intro w hSw; (try dsimp only at hSw); simp only [q4r38_4]; go_simp; try with_reducible rfl)
    try simp only [q4r38_4, Act.put, List.setIfInBounds_toArray, List.set_cons_zero, List.set_cons_succ]
    refine plan_take (o := q4r38_5) (r := p4r38_6) ?vzb5 B1.out (by rfl) ?hyzb5 ?restzb5
    case hyzb5 => (intro w hSw; (try dsimp only at hSw); have y := (HKE.out _ hSw).2.2; simp only [q4r38_5]; go_simp; try with_reducible rfl)
    try simp only [q4r38_5, Act.put, List.setIfInBounds_toArray, List.set_cons_zero, List.set_cons_succ]
    refine plan_take (o := q4r38_6) (r := p4r38_7) ?vzb6 B1.out (by rfl) ?hyzb6 ?restzb6
    case hyzb6 => (intro w hSw; (try dsimp only at hSw); have y := (HKE.out _ hSw).1; simp only [q4r38_6]; go_simp; try with_reducible rfl)
    try simp only [q4r38_6, Act.put, List.setIfInBounds_toArray, List.set_cons_zero, List.set_cons_succ]
    refine plan_act (o := q4r38_7) (r := p4r38_8) (fun K hK => ?_)
    simp only [q4r38_7]
    refine ite_pos2 (by rfl) ?_
    go_simp
    refine (HEN.out _ B1.out).mono ?_
    rintro e w2 ⟨rfl, b2⟩
    have B2 := hid (HTR.out _ _ B1.out b2)
    clear b2
    go_wp2_with fail
    refine hK.out _ _ (fun _ => B2.out) ?_
    clear hK K
    try simp only [q4r38_7, Act.put, List.setIfInBounds_toArray, List.set_cons_zero, List.set_cons_succ]
    refine plan_take (o := q4r38_8) (r := p4r38_9) (.bool false) B2.out (by rfl) ?hyzb8 ?restzb8
    case hyzb8 => (intro w hSw; (try dsimp only at hSw); simp only [q4r38_8]; go_simp; try with_reducible rfl)
    try simp only [q4r38_8, Act.put, List.setIfInBounds_toArray, List.set_cons_zero, List.set_cons_succ]
    refine plan_take (o := q4r38_9) (r := p4r38_10) ?vzb9 B2.out (by rfl) ?hyzb9 ?restzb9
    case hyzb9 => (intro w hSw; (try dsimp only at hSw); simp only [q4r38_9]; go_simp; try with_reducible rfl)
    try simp only [q4r38_9, Act.put, List.setIfInBounds_toArray, List.set_cons_zero, List.set_cons_succ]
    refine plan_take (o := q4r38_10) (r := p4r38_11) ?vzb10 B2.out (by rfl) ?hyzb10 ?restzb10
    case hyzb10 => (intro w hSw; (try dsimp only at hSw); simp only [q4r38_10]; go_simp; try with_reducible rfl)
    try simp only [q4r38_10, Act.put, List.setIfInBounds_toArray, List.set_cons_zero, List.set_cons_succ]
    refine plan_take (o := q4r38_11) (r := p4r38_12) ?vzb11 B2.out (by rfl) ?hyzb11 ?restzb11
    case hyzb11 => (intro w hSw; (try dsimp only at hSw); simp only [q4r38_11]; go_simp; try with_reducible rfl)
    try simp only [q4r38_11, Act.put, List.setIfInBounds_toArray, List.set_cons_zero, List.set_cons_succ]
    refine plan_take (o := q4r38_12) (r := p4r38_13) (.bool false) B2.out (by rfl) ?hyzb12 ?restzb12
    case hyzb12 => (intro w hSw; (try dsimp only at hSw); simp only [q4r38_12]; go_simp; try with_reducible rfl)
    try simp only [q4r38_12, Act.put, List.setIfInBounds_toArray, List.set_cons_zero, List.set_cons_succ]
    refine plan_take (o := q4r38_13) (r := p4r38_14) (.bool false) B2.out (by rfl) ?hyzb13 ?restzb13
    case hyzb13 => (intro w hSw; (try dsimp only at hSw); simp only [q4r38_13]; go_simp; try with_reducible rfl)
    try simp only [q4r38_13, Act.put, List.setIfInBounds_toArray, List.set_cons_zero, List.set_cons_succ]
    refine plan_take (o := q4r38_14) (r := p4r38_15) ?vzb14 B2.out (by rfl) ?hyzb14 ?restzb14
    case hyzb14 => (intro w hSw; (try dsimp only at hSw); simp only [q4r38_14]; go_simp; try with_reducible rfl)
    try simp only [q4r38_14, Act.put, List.setIfInBounds_toArray, List.set_cons_zero, List.set_cons_succ]
    refine plan_take (o := q4r38_15) (r := p4r38_16) ?vzb15 B2.out (by rfl) ?hyzb15 ?restzb15
    case hyzb15 => (intro w hSw; (try dsimp only at hSw); simp only [q4r38_15]; go_simp; try with_reducible rfl)
    try simp only [q4r38_15, Act.put, List.setIfInBounds_toArray, List.set_cons_zero, List.set_cons_succ]
    refine plan_take (o := q4r38_16) (r := p4r38_17) (.bool ob) B2.out (by rfl) ?hyzb16 ?restzb16
    case hyzb16 => (intro w hSw; (try dsimp only at hSw); simp only [q4r38_16]; go_simp; try with_reducible rfl)
    try simp only [q4r38_16, Act.put, List.setIfInBounds_toArray, List.set_cons_zero, List.set_cons_succ]
    refine plan_take (o := q4r38_17) (r := p4r38_18) (.bool ob) B2.out (by rfl) ?hyzb17 ?restzb17
    case hyzb17 => (intro w hSw; (try dsimp only at hSw); simp only [q4r38_17]; go_simp; try with_reducible rfl)
    try simp only [q4r38_17, Act.put, List.setIfInBounds_toArray, List.set_cons_zero, List.set_cons_succ]
    refine plan_done ?_
    subst hQ
    exact ⟨act_of (by kernel_rfl) rfl, B2.out⟩
end Go.Proofs.Ytopnfjgkgoeleaa
