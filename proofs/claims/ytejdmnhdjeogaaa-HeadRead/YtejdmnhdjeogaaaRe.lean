/- The document's Read. -/
import Derived.Test.YtejdmnhdjeogaaaRn
import Derived.Test.YtejdmnhdjeogaaaRq
import Derived.Test.YtejdmnhdjeogaaaBw
namespace Go.Proofs.Ytejdmnhdjeogaaa
open Go.RowKit
set_option linter.unusedVariables false
theorem rfn_tx (zs : List Int) (hb : Byt zs) (hl : 512 ≤ zs.length) : rfn (val (seg zs 84 4)) = (txN zs : Int) := by
  have h1 := val_bound (seg zs 84 4) (hb.seg _ _)
  rw [seg_len _ _ _ (by omega)] at h1
  have h2 := txN_val zs hb
  unfold rfn
  rw [if_neg (by have : (256 : Int) ^ 4 = 4294967296 := by decide
                 omega), h2]
theorem conv_seg {w : World} {g off n cap : Nat} {zs : List Int} (hz : Bz w g off n cap zs) (a k : Nat) (hk : a + k ≤ n) (c : Nat) : (convert 26 9 (.slice (some ⟨g, off + a, none⟩) k c)).run Try.prog w = .ok (.string (strOfNums (seg zs a k))) w :=
  run_convert_rw w 26 9 5 Try.underlying26 Try.underlying5 Try.underlying9 (some ⟨g, off + a, none⟩) k c (seg zs a k) (seg_len _ _ _ (by have := hz.len; omega)) (fun _ => ⟨g, off + a, rfl, fun i hi => by
    have hl := hz.len
    rw [Nat.add_assoc, hz.src (a + i) (by omega)]
    simp [seg, List.getD, List.getElem?_drop, hi]⟩)
theorem conv_take {w : World} {g off n cap : Nat} {zs : List Int} (hz : Bz w g off n cap zs) (k : Nat) (hk : k ≤ n) (c : Nat) : (convert 26 9 (.slice (some ⟨g, off, none⟩) k c)).run Try.prog w = .ok (.string (strOfNums (zs.take k))) w :=
  run_convert_rw w 26 9 5 Try.underlying26 Try.underlying5 Try.underlying9 (some ⟨g, off, none⟩) k c (zs.take k) (by have := hz.len; simp; omega) (fun _ => ⟨g, off, rfl, fun i hi => by
    have hl := hz.len
    rw [hz.src i (by omega)]
    simp [List.getD, hi]⟩)
theorem str_ne {a b : List Int} (ha : Byt a) (hb : Byt b) (h : a ≠ b) : ((strOfNums a).toList == (strOfNums b).toList) = false := by
  cases hq : ((strOfNums a).toList == (strOfNums b).toList) with
  | false => rfl
  | true =>
    have e2 := congrArg byts (str_eq hq)
    rw [byts_str _ ha, byts_str _ hb] at e2
    exact absurd e2 h
def q19r6_0 : Oper := { dst := some 16, op := Go.Op.move (Go.Operand.tmp 0), type := 26, pos := "ref.go:116", after := #[], guard := none }
def q19r6_1 : Oper := { dst := some 17, op := Go.Op.call { callee := Go.Callee.value (Go.Operand.func 32), args := #[Go.Operand.tmp 16, Go.Operand.const (Go.Value.int Go.IntKind.i64 4), Go.Operand.const (Go.Value.int Go.IntKind.i64 4)], argTypes := #[26, 3, 3] }, type := 2, pos := "ref.go:117", after := #[{ on := 0, ground := Go.Ground.data }], guard := none }
def q19r6_2 : Oper := { dst := some 18, op := Go.Op.move (Go.Operand.tmp 0), type := 26, pos := "ref.go:116", after := #[], guard := none }
def q19r6_3 : Oper := { dst := some 19, op := Go.Op.slice 26 (Go.Operand.tmp 18) (some (Go.Operand.const (Go.Value.int Go.IntKind.i64 8))) (some (Go.Operand.const (Go.Value.int Go.IntKind.i64 16))) none, type := 26, pos := "ref.go:116", after := #[{ on := 2, ground := Go.Ground.data }], guard := none }
def q19r6_4 : Oper := { dst := some 20, op := Go.Op.call { callee := Go.Callee.value (Go.Operand.func 33), args := #[Go.Operand.tmp 19], argTypes := #[26] }, type := 22, pos := "ref.go:117", after := #[{ on := 3, ground := Go.Ground.data }, { on := 1, ground := Go.Ground.chain }], guard := none }
def q19r6_5 : Oper := { dst := some 21, op := Go.Op.move (Go.Operand.tmp 0), type := 26, pos := "ref.go:116", after := #[], guard := none }
def q19r6_6 : Oper := { dst := some 22, op := Go.Op.call { callee := Go.Callee.value (Go.Operand.func 32), args := #[Go.Operand.tmp 21, Go.Operand.const (Go.Value.int Go.IntKind.i64 16), Go.Operand.const (Go.Value.int Go.IntKind.i64 8)], argTypes := #[26, 3, 3] }, type := 2, pos := "ref.go:117", after := #[{ on := 5, ground := Go.Ground.data }, { on := 4, ground := Go.Ground.chain }], guard := none }
def q19r6_7 : Oper := { dst := some 23, op := Go.Op.move (Go.Operand.tmp 0), type := 26, pos := "ref.go:116", after := #[], guard := none }
def q19r6_8 : Oper := { dst := some 24, op := Go.Op.call { callee := Go.Callee.value (Go.Operand.func 32), args := #[Go.Operand.tmp 23, Go.Operand.const (Go.Value.int Go.IntKind.i64 24), Go.Operand.const (Go.Value.int Go.IntKind.i64 8)], argTypes := #[26, 3, 3] }, type := 2, pos := "ref.go:117", after := #[{ on := 7, ground := Go.Ground.data }, { on := 6, ground := Go.Ground.chain }], guard := none }
def q19r6_9 : Oper := { dst := some 25, op := Go.Op.move (Go.Operand.tmp 0), type := 26, pos := "ref.go:116", after := #[], guard := none }
def q19r6_10 : Oper := { dst := some 26, op := Go.Op.call { callee := Go.Callee.value (Go.Operand.func 32), args := #[Go.Operand.tmp 25, Go.Operand.const (Go.Value.int Go.IntKind.i64 32), Go.Operand.const (Go.Value.int Go.IntKind.i64 4)], argTypes := #[26, 3, 3] }, type := 2, pos := "ref.go:117", after := #[{ on := 9, ground := Go.Ground.data }, { on := 8, ground := Go.Ground.chain }], guard := none }
def q19r6_11 : Oper := { dst := some 27, op := Go.Op.move (Go.Operand.tmp 0), type := 26, pos := "ref.go:116", after := #[], guard := none }
def q19r6_12 : Oper := { dst := some 28, op := Go.Op.call { callee := Go.Callee.value (Go.Operand.func 32), args := #[Go.Operand.tmp 27, Go.Operand.const (Go.Value.int Go.IntKind.i64 36), Go.Operand.const (Go.Value.int Go.IntKind.i64 4)], argTypes := #[26, 3, 3] }, type := 2, pos := "ref.go:117", after := #[{ on := 11, ground := Go.Ground.data }, { on := 10, ground := Go.Ground.chain }], guard := none }
def q19r6_13 : Oper := { dst := some 29, op := Go.Op.move (Go.Operand.tmp 0), type := 26, pos := "ref.go:116", after := #[], guard := none }
def q19r6_14 : Oper := { dst := some 30, op := Go.Op.call { callee := Go.Callee.value (Go.Operand.func 32), args := #[Go.Operand.tmp 29, Go.Operand.const (Go.Value.int Go.IntKind.i64 40), Go.Operand.const (Go.Value.int Go.IntKind.i64 8)], argTypes := #[26, 3, 3] }, type := 2, pos := "ref.go:118", after := #[{ on := 13, ground := Go.Ground.data }, { on := 12, ground := Go.Ground.chain }], guard := none }
def q19r6_15 : Oper := { dst := some 31, op := Go.Op.move (Go.Operand.tmp 0), type := 26, pos := "ref.go:116", after := #[], guard := none }
def q19r6_16 : Oper := { dst := some 32, op := Go.Op.call { callee := Go.Callee.value (Go.Operand.func 32), args := #[Go.Operand.tmp 31, Go.Operand.const (Go.Value.int Go.IntKind.i64 48), Go.Operand.const (Go.Value.int Go.IntKind.i64 4)], argTypes := #[26, 3, 3] }, type := 2, pos := "ref.go:118", after := #[{ on := 15, ground := Go.Ground.data }, { on := 14, ground := Go.Ground.chain }], guard := none }
def q19r6_17 : Oper := { dst := some 33, op := Go.Op.move (Go.Operand.tmp 0), type := 26, pos := "ref.go:116", after := #[], guard := none }
def q19r6_18 : Oper := { dst := some 34, op := Go.Op.call { callee := Go.Callee.value (Go.Operand.func 32), args := #[Go.Operand.tmp 33, Go.Operand.const (Go.Value.int Go.IntKind.i64 52), Go.Operand.const (Go.Value.int Go.IntKind.i64 4)], argTypes := #[26, 3, 3] }, type := 2, pos := "ref.go:118", after := #[{ on := 17, ground := Go.Ground.data }, { on := 16, ground := Go.Ground.chain }], guard := none }
def q19r6_19 : Oper := { dst := some 35, op := Go.Op.move (Go.Operand.tmp 0), type := 26, pos := "ref.go:116", after := #[], guard := none }
def q19r6_20 : Oper := { dst := some 36, op := Go.Op.call { callee := Go.Callee.value (Go.Operand.func 32), args := #[Go.Operand.tmp 35, Go.Operand.const (Go.Value.int Go.IntKind.i64 56), Go.Operand.const (Go.Value.int Go.IntKind.i64 8)], argTypes := #[26, 3, 3] }, type := 2, pos := "ref.go:118", after := #[{ on := 19, ground := Go.Ground.data }, { on := 18, ground := Go.Ground.chain }], guard := none }
def q19r6_21 : Oper := { dst := some 37, op := Go.Op.move (Go.Operand.tmp 0), type := 26, pos := "ref.go:116", after := #[], guard := none }
def q19r6_22 : Oper := { dst := some 38, op := Go.Op.call { callee := Go.Callee.value (Go.Operand.func 32), args := #[Go.Operand.tmp 37, Go.Operand.const (Go.Value.int Go.IntKind.i64 64), Go.Operand.const (Go.Value.int Go.IntKind.i64 4)], argTypes := #[26, 3, 3] }, type := 2, pos := "ref.go:118", after := #[{ on := 21, ground := Go.Ground.data }, { on := 20, ground := Go.Ground.chain }], guard := none }
def q19r6_23 : Oper := { dst := some 39, op := Go.Op.move (Go.Operand.tmp 0), type := 26, pos := "ref.go:116", after := #[], guard := none }
def q19r6_24 : Oper := { dst := some 40, op := Go.Op.call { callee := Go.Callee.value (Go.Operand.func 32), args := #[Go.Operand.tmp 39, Go.Operand.const (Go.Value.int Go.IntKind.i64 68), Go.Operand.const (Go.Value.int Go.IntKind.i64 4)], argTypes := #[26, 3, 3] }, type := 2, pos := "ref.go:119", after := #[{ on := 23, ground := Go.Ground.data }, { on := 22, ground := Go.Ground.chain }], guard := none }
def q19r6_25 : Oper := { dst := some 41, op := Go.Op.move (Go.Operand.tmp 0), type := 26, pos := "ref.go:116", after := #[], guard := none }
def q19r6_26 : Oper := { dst := some 42, op := Go.Op.call { callee := Go.Callee.value (Go.Operand.func 32), args := #[Go.Operand.tmp 41, Go.Operand.const (Go.Value.int Go.IntKind.i64 72), Go.Operand.const (Go.Value.int Go.IntKind.i64 8)], argTypes := #[26, 3, 3] }, type := 2, pos := "ref.go:119", after := #[{ on := 25, ground := Go.Ground.data }, { on := 24, ground := Go.Ground.chain }], guard := none }
def q19r6_27 : Oper := { dst := some 43, op := Go.Op.move (Go.Operand.tmp 0), type := 26, pos := "ref.go:116", after := #[], guard := none }
def q19r6_28 : Oper := { dst := some 44, op := Go.Op.call { callee := Go.Callee.value (Go.Operand.func 32), args := #[Go.Operand.tmp 43, Go.Operand.const (Go.Value.int Go.IntKind.i64 80), Go.Operand.const (Go.Value.int Go.IntKind.i64 4)], argTypes := #[26, 3, 3] }, type := 2, pos := "ref.go:119", after := #[{ on := 27, ground := Go.Ground.data }, { on := 26, ground := Go.Ground.chain }], guard := none }
def q19r6_29 : Oper := { dst := some 45, op := Go.Op.move (Go.Operand.tmp 0), type := 26, pos := "ref.go:116", after := #[], guard := none }
def q19r6_30 : Oper := { dst := some 46, op := Go.Op.move (Go.Operand.tmp 4), type := 2, pos := "ref.go:116", after := #[], guard := none }
def q19r6_31 : Oper := { dst := some 47, op := Go.Op.binOp Go.BinOp.add 2 (Go.Operand.const (Go.Value.int Go.IntKind.i64 88)) (Go.Operand.tmp 46) 2, type := 2, pos := "ref.go:116", after := #[{ on := 30, ground := Go.Ground.data }], guard := none }
def q19r6_32 : Oper := { dst := some 48, op := Go.Op.slice 26 (Go.Operand.tmp 45) (some (Go.Operand.const (Go.Value.int Go.IntKind.i64 88))) (some (Go.Operand.tmp 47)) none, type := 26, pos := "ref.go:116", after := #[{ on := 29, ground := Go.Ground.data }, { on := 31, ground := Go.Ground.data }], guard := none }
def q19r6_33 : Oper := { dst := some 49, op := Go.Op.convert 26 9 (Go.Operand.tmp 48), type := 9, pos := "ref.go:116", after := #[{ on := 32, ground := Go.Ground.data }], guard := none }
def q19r6_34 : Oper := { dst := some 50, op := Go.Op.build 24 #[(0, Go.Operand.tmp 17), (1, Go.Operand.tmp 20), (2, Go.Operand.tmp 22), (3, Go.Operand.tmp 24), (4, Go.Operand.tmp 26), (5, Go.Operand.tmp 28), (6, Go.Operand.tmp 30), (7, Go.Operand.tmp 32), (8, Go.Operand.tmp 34), (9, Go.Operand.tmp 36), (10, Go.Operand.tmp 38), (11, Go.Operand.tmp 40), (12, Go.Operand.tmp 42), (13, Go.Operand.tmp 44), (14, Go.Operand.tmp 49)], type := 24, pos := "ref.go:116", after := #[{ on := 1, ground := Go.Ground.data }, { on := 4, ground := Go.Ground.data }, { on := 6, ground := Go.Ground.data }, { on := 8, ground := Go.Ground.data }, { on := 10, ground := Go.Ground.data }, { on := 12, ground := Go.Ground.data }, { on := 14, ground := Go.Ground.data }, { on := 16, ground := Go.Ground.data }, { on := 18, ground := Go.Ground.data }, { on := 20, ground := Go.Ground.data }, { on := 22, ground := Go.Ground.data }, { on := 24, ground := Go.Ground.data }, { on := 26, ground := Go.Ground.data }, { on := 28, ground := Go.Ground.data }, { on := 33, ground := Go.Ground.data }], guard := none }
def q19r6_35 : Oper := { dst := some 5, op := Go.Op.alloc 24, type := 0, pos := "ref.go:116", after := #[], guard := none }
def q19r6_36 : Oper := { dst := none, op := Go.Op.store 24 (Go.Operand.tmp 5) (Go.Operand.tmp 50), type := 0, pos := "ref.go:116", after := #[{ on := 35, ground := Go.Ground.data }, { on := 34, ground := Go.Ground.data }, { on := 28, ground := Go.Ground.chain }, { on := 0, ground := Go.Ground.phase }, { on := 1, ground := Go.Ground.phase }, { on := 2, ground := Go.Ground.phase }, { on := 3, ground := Go.Ground.phase }, { on := 4, ground := Go.Ground.phase }, { on := 5, ground := Go.Ground.phase }, { on := 6, ground := Go.Ground.phase }, { on := 7, ground := Go.Ground.phase }, { on := 8, ground := Go.Ground.phase }, { on := 9, ground := Go.Ground.phase }, { on := 10, ground := Go.Ground.phase }, { on := 11, ground := Go.Ground.phase }, { on := 12, ground := Go.Ground.phase }, { on := 13, ground := Go.Ground.phase }, { on := 14, ground := Go.Ground.phase }, { on := 15, ground := Go.Ground.phase }, { on := 16, ground := Go.Ground.phase }, { on := 17, ground := Go.Ground.phase }, { on := 18, ground := Go.Ground.phase }, { on := 19, ground := Go.Ground.phase }, { on := 20, ground := Go.Ground.phase }, { on := 21, ground := Go.Ground.phase }, { on := 22, ground := Go.Ground.phase }, { on := 23, ground := Go.Ground.phase }, { on := 24, ground := Go.Ground.phase }, { on := 25, ground := Go.Ground.phase }, { on := 26, ground := Go.Ground.phase }, { on := 27, ground := Go.Ground.phase }, { on := 28, ground := Go.Ground.phase }, { on := 29, ground := Go.Ground.phase }, { on := 30, ground := Go.Ground.phase }, { on := 31, ground := Go.Ground.phase }, { on := 32, ground := Go.Ground.phase }, { on := 33, ground := Go.Ground.phase }, { on := 34, ground := Go.Ground.phase }, { on := 35, ground := Go.Ground.phase }], guard := none }
def o19r6 : Array Oper := #[q19r6_0, q19r6_1, q19r6_2, q19r6_3, q19r6_4, q19r6_5, q19r6_6, q19r6_7, q19r6_8, q19r6_9, q19r6_10, q19r6_11, q19r6_12, q19r6_13, q19r6_14, q19r6_15, q19r6_16, q19r6_17, q19r6_18, q19r6_19, q19r6_20, q19r6_21, q19r6_22, q19r6_23, q19r6_24, q19r6_25, q19r6_26, q19r6_27, q19r6_28, q19r6_29, q19r6_30, q19r6_31, q19r6_32, q19r6_33, q19r6_34, q19r6_35, q19r6_36]
def p19r6_37 : List (Nat × Oper) := []
def p19r6_36 : List (Nat × Oper) := (1, q19r6_36) :: p19r6_37
def p19r6_35 : List (Nat × Oper) := (1, q19r6_35) :: p19r6_36
def p19r6_34 : List (Nat × Oper) := (0, q19r6_34) :: p19r6_35
def p19r6_33 : List (Nat × Oper) := (0, q19r6_33) :: p19r6_34
def p19r6_32 : List (Nat × Oper) := (0, q19r6_32) :: p19r6_33
def p19r6_31 : List (Nat × Oper) := (0, q19r6_31) :: p19r6_32
def p19r6_30 : List (Nat × Oper) := (0, q19r6_30) :: p19r6_31
def p19r6_29 : List (Nat × Oper) := (0, q19r6_29) :: p19r6_30
def p19r6_28 : List (Nat × Oper) := (0, q19r6_28) :: p19r6_29
def p19r6_27 : List (Nat × Oper) := (0, q19r6_27) :: p19r6_28
def p19r6_26 : List (Nat × Oper) := (0, q19r6_26) :: p19r6_27
def p19r6_25 : List (Nat × Oper) := (0, q19r6_25) :: p19r6_26
def p19r6_24 : List (Nat × Oper) := (0, q19r6_24) :: p19r6_25
def p19r6_23 : List (Nat × Oper) := (0, q19r6_23) :: p19r6_24
def p19r6_22 : List (Nat × Oper) := (0, q19r6_22) :: p19r6_23
def p19r6_21 : List (Nat × Oper) := (0, q19r6_21) :: p19r6_22
def p19r6_20 : List (Nat × Oper) := (0, q19r6_20) :: p19r6_21
def p19r6_19 : List (Nat × Oper) := (0, q19r6_19) :: p19r6_20
def p19r6_18 : List (Nat × Oper) := (0, q19r6_18) :: p19r6_19
def p19r6_17 : List (Nat × Oper) := (0, q19r6_17) :: p19r6_18
def p19r6_16 : List (Nat × Oper) := (0, q19r6_16) :: p19r6_17
def p19r6_15 : List (Nat × Oper) := (0, q19r6_15) :: p19r6_16
def p19r6_14 : List (Nat × Oper) := (0, q19r6_14) :: p19r6_15
def p19r6_13 : List (Nat × Oper) := (0, q19r6_13) :: p19r6_14
def p19r6_12 : List (Nat × Oper) := (0, q19r6_12) :: p19r6_13
def p19r6_11 : List (Nat × Oper) := (0, q19r6_11) :: p19r6_12
def p19r6_10 : List (Nat × Oper) := (0, q19r6_10) :: p19r6_11
def p19r6_9 : List (Nat × Oper) := (0, q19r6_9) :: p19r6_10
def p19r6_8 : List (Nat × Oper) := (0, q19r6_8) :: p19r6_9
def p19r6_7 : List (Nat × Oper) := (0, q19r6_7) :: p19r6_8
def p19r6_6 : List (Nat × Oper) := (0, q19r6_6) :: p19r6_7
def p19r6_5 : List (Nat × Oper) := (0, q19r6_5) :: p19r6_6
def p19r6_4 : List (Nat × Oper) := (0, q19r6_4) :: p19r6_5
def p19r6_3 : List (Nat × Oper) := (0, q19r6_3) :: p19r6_4
def p19r6_2 : List (Nat × Oper) := (0, q19r6_2) :: p19r6_3
def p19r6_1 : List (Nat × Oper) := (0, q19r6_1) :: p19r6_2
def p19r6_0 : List (Nat × Oper) := (0, q19r6_0) :: p19r6_1
def c19r6 : List (Nat × Nat) := [(0, 0), (0, 1), (0, 2), (0, 3), (0, 4), (0, 5), (0, 6), (0, 7), (0, 8), (0, 9), (0, 10), (0, 11), (0, 12), (0, 13), (0, 14), (0, 15), (0, 16), (0, 17), (0, 18), (0, 19), (0, 20), (0, 21), (0, 22), (0, 23), (0, 24), (0, 25), (0, 26), (0, 27), (0, 28), (0, 29), (0, 30), (0, 31), (0, 32), (0, 33), (0, 34), (1, 35), (1, 36)]
theorem b19r6 : (Region.noSelect o19r6 && (c19r6.length == o19r6.size) && planB o19r6 [] c19r6 (Array.replicate o19r6.size false)) = true := by kernel_rfl
theorem d19r6 : (c19r6.map fun p => (p.1, o19r6[p.2]?)) = (p19r6_0.map fun p => (p.1, some p.2)) := by kernel_rfl
def q19r8_0 : Oper := { dst := some 53, op := Go.Op.move (Go.Operand.tmp 6), type := 4, pos := "ref.go:122", after := #[], guard := none }
def q19r8_1 : Oper := { dst := some 54, op := Go.Op.unOp Go.UnOp.not 4 (Go.Operand.tmp 53), type := 4, pos := "ref.go:122", after := #[{ on := 0, ground := Go.Ground.data }], guard := none }
def q19r8_2 : Oper := { dst := some 55, op := Go.Op.move (Go.Operand.tmp 54), type := 4, pos := "ref.go:122", after := #[{ on := 1, ground := Go.Ground.data }], guard := none }
def q19r8_3 : Oper := { dst := some 56, op := Go.Op.load 24 (Go.Operand.tmp 5), type := 24, pos := "ref.go:122", after := #[{ on := 2, ground := Go.Ground.guard }], guard := some (2, false) }
def q19r8_4 : Oper := { dst := some 57, op := Go.Op.call { callee := Go.Callee.value (Go.Operand.func 14), args := #[Go.Operand.tmp 56], argTypes := #[24] }, type := 26, pos := "ref.go:122", after := #[{ on := 3, ground := Go.Ground.data }, { on := 2, ground := Go.Ground.chain }, { on := 2, ground := Go.Ground.guard }], guard := some (2, false) }
def q19r8_5 : Oper := { dst := some 58, op := Go.Op.convert 26 9 (Go.Operand.tmp 57), type := 9, pos := "ref.go:122", after := #[{ on := 4, ground := Go.Ground.data }, { on := 2, ground := Go.Ground.guard }], guard := some (2, false) }
def q19r8_6 : Oper := { dst := some 59, op := Go.Op.move (Go.Operand.tmp 0), type := 26, pos := "ref.go:122", after := #[{ on := 2, ground := Go.Ground.guard }], guard := some (2, false) }
def q19r8_7 : Oper := { dst := some 60, op := Go.Op.slice 26 (Go.Operand.tmp 59) none (some (Go.Operand.const (Go.Value.int Go.IntKind.i64 512))) none, type := 26, pos := "ref.go:122", after := #[{ on := 6, ground := Go.Ground.data }, { on := 2, ground := Go.Ground.guard }], guard := some (2, false) }
def q19r8_8 : Oper := { dst := some 61, op := Go.Op.convert 26 9 (Go.Operand.tmp 60), type := 9, pos := "ref.go:122", after := #[{ on := 7, ground := Go.Ground.data }, { on := 2, ground := Go.Ground.guard }], guard := some (2, false) }
def q19r8_9 : Oper := { dst := some 62, op := Go.Op.binOp Go.BinOp.neq 9 (Go.Operand.tmp 58) (Go.Operand.tmp 61) 9, type := 4, pos := "ref.go:122", after := #[{ on := 5, ground := Go.Ground.data }, { on := 8, ground := Go.Ground.data }, { on := 2, ground := Go.Ground.guard }], guard := some (2, false) }
def q19r8_10 : Oper := { dst := some 63, op := Go.Op.pick (Go.Operand.tmp 55) (Go.Operand.const (Go.Value.bool true)) (Go.Operand.tmp 62), type := 4, pos := "ref.go:122", after := #[{ on := 2, ground := Go.Ground.data }, { on := 9, ground := Go.Ground.data }], guard := none }
def o19r8 : Array Oper := #[q19r8_0, q19r8_1, q19r8_2, q19r8_3, q19r8_4, q19r8_5, q19r8_6, q19r8_7, q19r8_8, q19r8_9, q19r8_10]
def p19r8_11 : List (Nat × Oper) := []
def p19r8_10 : List (Nat × Oper) := (0, q19r8_10) :: p19r8_11
def p19r8_9 : List (Nat × Oper) := (0, q19r8_9) :: p19r8_10
def p19r8_8 : List (Nat × Oper) := (1, q19r8_5) :: p19r8_9
def p19r8_7 : List (Nat × Oper) := (1, q19r8_4) :: p19r8_8
def p19r8_6 : List (Nat × Oper) := (0, q19r8_8) :: p19r8_7
def p19r8_5 : List (Nat × Oper) := (0, q19r8_7) :: p19r8_6
def p19r8_4 : List (Nat × Oper) := (0, q19r8_6) :: p19r8_5
def p19r8_3 : List (Nat × Oper) := (0, q19r8_3) :: p19r8_4
def p19r8_2 : List (Nat × Oper) := (0, q19r8_2) :: p19r8_3
def p19r8_1 : List (Nat × Oper) := (0, q19r8_1) :: p19r8_2
def p19r8_0 : List (Nat × Oper) := (0, q19r8_0) :: p19r8_1
def c19r8 : List (Nat × Nat) := [(0, 0), (0, 1), (0, 2), (0, 3), (0, 6), (0, 7), (0, 8), (1, 4), (1, 5), (0, 9), (0, 10)]
theorem b19r8 : (Region.noSelect o19r8 && (c19r8.length == o19r8.size) && planB o19r8 [] c19r8 (Array.replicate o19r8.size false)) = true := by kernel_rfl
theorem d19r8 : (c19r8.map fun p => (p.1, o19r8[p.2]?)) = (p19r8_0.map fun p => (p.1, some p.2)) := by kernel_rfl
set_option maxRecDepth 100000 in
set_option maxHeartbeats 400000 in
theorem rread_short (ao : Option Addr) (n cap : Nat) (w : World) (h5 : n < 512) : Calls Try.prog 19 #[.slice ao n cap] w fun e w' => e = .returned (.tuple #[.agg zH.cs, .bool false]) ∧ Kp (fun _ => False) w w' := by
  have HB := hid (Hb.new w zH)
  have HK : Hid (Kp (fun _ => False) w (w.alloc (.cells zH.cs 24))) := (Kp.refl _ _).alloc _
  go_enter Try.func19, Try.ntmps19
  go_wp2_with (refine wpList_store_hd rfl (.tmp 2) (.tmp 10) rfl w.heap.size rfl (h := zH) (h' := zH) rfl HB.out ?_; intro w2 b2 k2)
  refine bodyPost_ret (results_cell_tmp2 Try.results19 _ _ _ rfl rfl b2.load) rfl ⟨rfl, HK.out.trans k2 (fun i h1 h2 => by omega)⟩
set_option maxRecDepth 100000 in
set_option maxHeartbeats 8000000 in
theorem rread_any (g off n cap : Nat) (zs : List Int) (w : World) (hz : Bz w g off n cap zs) (h5 : 512 ≤ n) : Calls Try.prog 19 #[.slice (some ⟨g, off, none⟩) n cap] w fun e w' => ((Cnd zs ∧ e = .returned (.tuple #[.agg (rdH zs).cs, .bool true])) ∨ (¬ Cnd zs ∧ e = .returned (.tuple #[.agg zH.cs, .bool false]))) ∧ Kp (fun _ => False) w w' := by
  have HB := hid (Hb.new w zH)
  have HK : Hid (Kp (fun _ => False) w (w.alloc (.cells zH.cs 24))) := (Kp.refl _ _).alloc _
  have HZ := hid (hz.kp HK.out)
  have hlen := hz.len
  have hcap := hz.cap
  have htx := rfn_tx zs hz.byt (by omega)
  have HBY := hid hz.byt
  have RN : Hid (∀ w, Bz w g off n cap zs → Calls Try.prog 32 #[.slice (some ⟨g, off, none⟩) n cap, .int .i64 84, .int .i64 4] w fun e w' => e = .returned (.int .i64 (txN zs : Int)) ∧ w = w') := fun w h => by rw [← htx]; exact rn_84 g off n cap zs w h h5
  have HCT : Hid (Cnd zs → txN zs ≤ 64) := fun c => (cnd_ref hz.byt c).1
  have H5 := hid h5
  have HLN := hid hlen
  have h5i : ¬ (n : Int) < 512 := by omega
  have hc5 : (512 : Int) ≤ (cap : Int) := by omega
  clear hz htx hlen
  go_enter Try.func19, Try.ntmps19
  by_cases hN : txN zs ≤ 64
  · have hNi : ¬ (64 : Int) < (txN zs : Int) := by omega
    have HN := hid hN
    have hsum : IntKind.i64.wrap (88 + (txN zs : Int)) = 88 + (txN zs : Int) := by rw [IntKind.wrap_i64]; omega
    have c16 : (16 : Int) ≤ (cap : Int) := by omega
    have c8 : ¬ cap = 8 := by omega
    have c88 : ¬ cap = 88 := by omega
    have cs : 88 + (txN zs : Int) ≤ (cap : Int) := by omega
    have cs3 : (88 : Int) ≤ 88 + (txN zs : Int) := by omega
    have cs2 : (88 + (txN zs : Int)).toNat - 88 = txN zs := by omega
    go_wp2_with (go_at_call 32; refine (RN.out _ HZ.out).mono ?_; rintro e w' ⟨rfl, rfl⟩)
    generalize hW : w.alloc (.cells zH.cs 24) = W at *
    generalize hBB : w.heap.size = B at *
    have h0 : Kp (fun _ => False) W W.drew := (Kp.refl _ _).drew
    change (Code.region 6 o19r6 true).wp _ _ _ _
    refine wp_region_planP (fun w' => Kp (fun _ => False) W w') [] c19r6 p19r6_0 hmix b19r6 d19r6 (fun _ _ d _ _ h => by cases d <;> exact h) ?_
    refine planP_take (o := q19r6_0) (r := p19r6_1) ?va0 h0 (by rfl) ?hya0 ?resta0
    case hya0 => (intro w _; simp only [q19r6_0]; go_simp; try with_reducible rfl)
    try simp only [q19r6_0, Act.put, List.setIfInBounds_toArray, List.set_cons_zero, List.set_cons_succ]
    refine planP_call (o := q19r6_1) (r := p19r6_2) (.int .i64 (rfn (val (seg zs 4 4)))) h0 (by rfl) 32 (#[.slice (some ⟨g, off, none⟩) n cap, .int .i64 4, .int .i64 4]) (fun w => by simp only [q19r6_1]; go_simp; try with_reducible rfl) (fun w hSw => rn_4 g off n cap zs w (HZ.out.kp hSw) H5.out) ?_
    try simp only [q19r6_1, Act.put, List.setIfInBounds_toArray, List.set_cons_zero, List.set_cons_succ]
    refine planP_take (o := q19r6_2) (r := p19r6_3) ?va2 h0 (by rfl) ?hya2 ?resta2
    case hya2 => (intro w _; simp only [q19r6_2]; go_simp; try with_reducible rfl)
    try simp only [q19r6_2, Act.put, List.setIfInBounds_toArray, List.set_cons_zero, List.set_cons_succ]
    refine planP_take (o := q19r6_3) (r := p19r6_4) (.slice (some ⟨g, off + 8, none⟩) 8 (cap - 8)) h0 (by rfl) ?hya3 ?resta3
    case hya3 => (intro w _; simp only [q19r6_3]; go_simp)
    try simp only [q19r6_3, Act.put, List.setIfInBounds_toArray, List.set_cons_zero, List.set_cons_succ]
    refine planP_call (o := q19r6_4) (r := p19r6_5) (.int .u64 (val (seg zs 8 8))) h0 (by rfl) 33 (#[.slice (some ⟨g, off + 8, none⟩) 8 (cap - 8)]) (fun w => by simp only [q19r6_4]; go_simp; try with_reducible rfl) (fun w hSw => rn_v8 g off n cap (cap - 8) zs w (HZ.out.kp hSw) H5.out) ?_
    try simp only [q19r6_4, Act.put, List.setIfInBounds_toArray, List.set_cons_zero, List.set_cons_succ]
    refine planP_take (o := q19r6_5) (r := p19r6_6) ?va5 h0 (by rfl) ?hya5 ?resta5
    case hya5 => (intro w _; simp only [q19r6_5]; go_simp; try with_reducible rfl)
    try simp only [q19r6_5, Act.put, List.setIfInBounds_toArray, List.set_cons_zero, List.set_cons_succ]
    refine planP_call (o := q19r6_6) (r := p19r6_7) (.int .i64 (rfn (val (seg zs 16 8)))) h0 (by rfl) 32 (#[.slice (some ⟨g, off, none⟩) n cap, .int .i64 16, .int .i64 8]) (fun w => by simp only [q19r6_6]; go_simp; try with_reducible rfl) (fun w hSw => rn_16 g off n cap zs w (HZ.out.kp hSw) H5.out) ?_
    try simp only [q19r6_6, Act.put, List.setIfInBounds_toArray, List.set_cons_zero, List.set_cons_succ]
    refine planP_take (o := q19r6_7) (r := p19r6_8) ?va7 h0 (by rfl) ?hya7 ?resta7
    case hya7 => (intro w _; simp only [q19r6_7]; go_simp; try with_reducible rfl)
    try simp only [q19r6_7, Act.put, List.setIfInBounds_toArray, List.set_cons_zero, List.set_cons_succ]
    refine planP_call (o := q19r6_8) (r := p19r6_9) (.int .i64 (rfn (val (seg zs 24 8)))) h0 (by rfl) 32 (#[.slice (some ⟨g, off, none⟩) n cap, .int .i64 24, .int .i64 8]) (fun w => by simp only [q19r6_8]; go_simp; try with_reducible rfl) (fun w hSw => rn_24 g off n cap zs w (HZ.out.kp hSw) H5.out) ?_
    try simp only [q19r6_8, Act.put, List.setIfInBounds_toArray, List.set_cons_zero, List.set_cons_succ]
    refine planP_take (o := q19r6_9) (r := p19r6_10) ?va9 h0 (by rfl) ?hya9 ?resta9
    case hya9 => (intro w _; simp only [q19r6_9]; go_simp; try with_reducible rfl)
    try simp only [q19r6_9, Act.put, List.setIfInBounds_toArray, List.set_cons_zero, List.set_cons_succ]
    refine planP_call (o := q19r6_10) (r := p19r6_11) (.int .i64 (rfn (val (seg zs 32 4)))) h0 (by rfl) 32 (#[.slice (some ⟨g, off, none⟩) n cap, .int .i64 32, .int .i64 4]) (fun w => by simp only [q19r6_10]; go_simp; try with_reducible rfl) (fun w hSw => rn_32 g off n cap zs w (HZ.out.kp hSw) H5.out) ?_
    try simp only [q19r6_10, Act.put, List.setIfInBounds_toArray, List.set_cons_zero, List.set_cons_succ]
    refine planP_take (o := q19r6_11) (r := p19r6_12) ?va11 h0 (by rfl) ?hya11 ?resta11
    case hya11 => (intro w _; simp only [q19r6_11]; go_simp; try with_reducible rfl)
    try simp only [q19r6_11, Act.put, List.setIfInBounds_toArray, List.set_cons_zero, List.set_cons_succ]
    refine planP_call (o := q19r6_12) (r := p19r6_13) (.int .i64 (rfn (val (seg zs 36 4)))) h0 (by rfl) 32 (#[.slice (some ⟨g, off, none⟩) n cap, .int .i64 36, .int .i64 4]) (fun w => by simp only [q19r6_12]; go_simp; try with_reducible rfl) (fun w hSw => rn_36 g off n cap zs w (HZ.out.kp hSw) H5.out) ?_
    try simp only [q19r6_12, Act.put, List.setIfInBounds_toArray, List.set_cons_zero, List.set_cons_succ]
    refine planP_take (o := q19r6_13) (r := p19r6_14) ?va13 h0 (by rfl) ?hya13 ?resta13
    case hya13 => (intro w _; simp only [q19r6_13]; go_simp; try with_reducible rfl)
    try simp only [q19r6_13, Act.put, List.setIfInBounds_toArray, List.set_cons_zero, List.set_cons_succ]
    refine planP_call (o := q19r6_14) (r := p19r6_15) (.int .i64 (rfn (val (seg zs 40 8)))) h0 (by rfl) 32 (#[.slice (some ⟨g, off, none⟩) n cap, .int .i64 40, .int .i64 8]) (fun w => by simp only [q19r6_14]; go_simp; try with_reducible rfl) (fun w hSw => rn_40 g off n cap zs w (HZ.out.kp hSw) H5.out) ?_
    try simp only [q19r6_14, Act.put, List.setIfInBounds_toArray, List.set_cons_zero, List.set_cons_succ]
    refine planP_take (o := q19r6_15) (r := p19r6_16) ?va15 h0 (by rfl) ?hya15 ?resta15
    case hya15 => (intro w _; simp only [q19r6_15]; go_simp; try with_reducible rfl)
    try simp only [q19r6_15, Act.put, List.setIfInBounds_toArray, List.set_cons_zero, List.set_cons_succ]
    refine planP_call (o := q19r6_16) (r := p19r6_17) (.int .i64 (rfn (val (seg zs 48 4)))) h0 (by rfl) 32 (#[.slice (some ⟨g, off, none⟩) n cap, .int .i64 48, .int .i64 4]) (fun w => by simp only [q19r6_16]; go_simp; try with_reducible rfl) (fun w hSw => rn_48 g off n cap zs w (HZ.out.kp hSw) H5.out) ?_
    try simp only [q19r6_16, Act.put, List.setIfInBounds_toArray, List.set_cons_zero, List.set_cons_succ]
    refine planP_take (o := q19r6_17) (r := p19r6_18) ?va17 h0 (by rfl) ?hya17 ?resta17
    case hya17 => (intro w _; simp only [q19r6_17]; go_simp; try with_reducible rfl)
    try simp only [q19r6_17, Act.put, List.setIfInBounds_toArray, List.set_cons_zero, List.set_cons_succ]
    refine planP_call (o := q19r6_18) (r := p19r6_19) (.int .i64 (rfn (val (seg zs 52 4)))) h0 (by rfl) 32 (#[.slice (some ⟨g, off, none⟩) n cap, .int .i64 52, .int .i64 4]) (fun w => by simp only [q19r6_18]; go_simp; try with_reducible rfl) (fun w hSw => rn_52 g off n cap zs w (HZ.out.kp hSw) H5.out) ?_
    try simp only [q19r6_18, Act.put, List.setIfInBounds_toArray, List.set_cons_zero, List.set_cons_succ]
    refine planP_take (o := q19r6_19) (r := p19r6_20) ?va19 h0 (by rfl) ?hya19 ?resta19
    case hya19 => (intro w _; simp only [q19r6_19]; go_simp; try with_reducible rfl)
    try simp only [q19r6_19, Act.put, List.setIfInBounds_toArray, List.set_cons_zero, List.set_cons_succ]
    refine planP_call (o := q19r6_20) (r := p19r6_21) (.int .i64 (rfn (val (seg zs 56 8)))) h0 (by rfl) 32 (#[.slice (some ⟨g, off, none⟩) n cap, .int .i64 56, .int .i64 8]) (fun w => by simp only [q19r6_20]; go_simp; try with_reducible rfl) (fun w hSw => rn_56 g off n cap zs w (HZ.out.kp hSw) H5.out) ?_
    try simp only [q19r6_20, Act.put, List.setIfInBounds_toArray, List.set_cons_zero, List.set_cons_succ]
    refine planP_take (o := q19r6_21) (r := p19r6_22) ?va21 h0 (by rfl) ?hya21 ?resta21
    case hya21 => (intro w _; simp only [q19r6_21]; go_simp; try with_reducible rfl)
    try simp only [q19r6_21, Act.put, List.setIfInBounds_toArray, List.set_cons_zero, List.set_cons_succ]
    refine planP_call (o := q19r6_22) (r := p19r6_23) (.int .i64 (rfn (val (seg zs 64 4)))) h0 (by rfl) 32 (#[.slice (some ⟨g, off, none⟩) n cap, .int .i64 64, .int .i64 4]) (fun w => by simp only [q19r6_22]; go_simp; try with_reducible rfl) (fun w hSw => rn_64 g off n cap zs w (HZ.out.kp hSw) H5.out) ?_
    try simp only [q19r6_22, Act.put, List.setIfInBounds_toArray, List.set_cons_zero, List.set_cons_succ]
    refine planP_take (o := q19r6_23) (r := p19r6_24) ?va23 h0 (by rfl) ?hya23 ?resta23
    case hya23 => (intro w _; simp only [q19r6_23]; go_simp; try with_reducible rfl)
    try simp only [q19r6_23, Act.put, List.setIfInBounds_toArray, List.set_cons_zero, List.set_cons_succ]
    refine planP_call (o := q19r6_24) (r := p19r6_25) (.int .i64 (rfn (val (seg zs 68 4)))) h0 (by rfl) 32 (#[.slice (some ⟨g, off, none⟩) n cap, .int .i64 68, .int .i64 4]) (fun w => by simp only [q19r6_24]; go_simp; try with_reducible rfl) (fun w hSw => rn_68 g off n cap zs w (HZ.out.kp hSw) H5.out) ?_
    try simp only [q19r6_24, Act.put, List.setIfInBounds_toArray, List.set_cons_zero, List.set_cons_succ]
    refine planP_take (o := q19r6_25) (r := p19r6_26) ?va25 h0 (by rfl) ?hya25 ?resta25
    case hya25 => (intro w _; simp only [q19r6_25]; go_simp; try with_reducible rfl)
    try simp only [q19r6_25, Act.put, List.setIfInBounds_toArray, List.set_cons_zero, List.set_cons_succ]
    refine planP_call (o := q19r6_26) (r := p19r6_27) (.int .i64 (rfn (val (seg zs 72 8)))) h0 (by rfl) 32 (#[.slice (some ⟨g, off, none⟩) n cap, .int .i64 72, .int .i64 8]) (fun w => by simp only [q19r6_26]; go_simp; try with_reducible rfl) (fun w hSw => rn_72 g off n cap zs w (HZ.out.kp hSw) H5.out) ?_
    try simp only [q19r6_26, Act.put, List.setIfInBounds_toArray, List.set_cons_zero, List.set_cons_succ]
    refine planP_take (o := q19r6_27) (r := p19r6_28) ?va27 h0 (by rfl) ?hya27 ?resta27
    case hya27 => (intro w _; simp only [q19r6_27]; go_simp; try with_reducible rfl)
    try simp only [q19r6_27, Act.put, List.setIfInBounds_toArray, List.set_cons_zero, List.set_cons_succ]
    refine planP_call (o := q19r6_28) (r := p19r6_29) (.int .i64 (rfn (val (seg zs 80 4)))) h0 (by rfl) 32 (#[.slice (some ⟨g, off, none⟩) n cap, .int .i64 80, .int .i64 4]) (fun w => by simp only [q19r6_28]; go_simp; try with_reducible rfl) (fun w hSw => rn_80 g off n cap zs w (HZ.out.kp hSw) H5.out) ?_
    try simp only [q19r6_28, Act.put, List.setIfInBounds_toArray, List.set_cons_zero, List.set_cons_succ]
    refine planP_take (o := q19r6_29) (r := p19r6_30) ?va29 h0 (by rfl) ?hya29 ?resta29
    case hya29 => (intro w _; simp only [q19r6_29]; go_simp; try with_reducible rfl)
    try simp only [q19r6_29, Act.put, List.setIfInBounds_toArray, List.set_cons_zero, List.set_cons_succ]
    refine planP_take (o := q19r6_30) (r := p19r6_31) ?va30 h0 (by rfl) ?hya30 ?resta30
    case hya30 => (intro w _; simp only [q19r6_30]; go_simp; try with_reducible rfl)
    try simp only [q19r6_30, Act.put, List.setIfInBounds_toArray, List.set_cons_zero, List.set_cons_succ]
    refine planP_take (o := q19r6_31) (r := p19r6_32) ?va31 h0 (by rfl) ?hya31 ?resta31
    case hya31 => (intro w _; simp only [q19r6_31]; go_simp; try with_reducible rfl)
    try simp only [q19r6_31, Act.put, List.setIfInBounds_toArray, List.set_cons_zero, List.set_cons_succ]
    refine planP_take (o := q19r6_32) (r := p19r6_33) (.slice (some ⟨g, off + 88, none⟩) (txN zs) (cap - 88)) h0 (by rfl) ?hya32 ?resta32
    case hya32 => (intro w _; simp only [q19r6_32]; go_simp)
    try simp only [q19r6_32, Act.put, List.setIfInBounds_toArray, List.set_cons_zero, List.set_cons_succ]
    refine planP_take (o := q19r6_33) (r := p19r6_34) (.string (strOfNums (seg zs 88 (txN zs)))) h0 (by rfl) ?hya33 ?resta33
    case hya33 => (intro w hSw; (try dsimp only at hSw); have hcv := conv_seg (HZ.out.kp hSw) 88 (txN zs) (by have := H5.out; have := HN.out; omega); simp only [q19r6_33]; go_simp; try with_reducible rfl)
    try simp only [q19r6_33, Act.put, List.setIfInBounds_toArray, List.set_cons_zero, List.set_cons_succ]
    refine planP_take (o := q19r6_34) (r := p19r6_35) (.agg (rfH zs).cs) h0 (by rfl) ?hya34 ?resta34
    case hya34 => (intro w _; simp only [q19r6_34]; go_simp; rfl)
    try simp only [q19r6_34, Act.put, List.setIfInBounds_toArray, List.set_cons_zero, List.set_cons_succ]
    refine planP_act (o := q19r6_35) (r := p19r6_36) (fun K hK => ?_)
    simp only [q19r6_35]
    go_simp
    refine hK.out _ _ (fun h => h.alloc _) ?_
    clear hK K
    refine planP_act (o := q19r6_36) (r := p19r6_37) (fun K hK => ?_)
    rw [if_pos (by rfl)]
    refine wp_store_row 24 (.tmp 5) (.tmp 50) rfl W.heap.size (rfH zs).cs rfl rfl 24 zH.cs (Hb.new W zH) (by rw [info24]; rfl) rfl (cs_one _) ?_
    have kx := kp_setRow (W.alloc (.cells zH.cs 24)).drew W.heap.size (rfH zs).cs
    have KX : Hid (Kp (fun _ => False) W ((W.alloc (.cells zH.cs 24)).drew.setRow W.heap.size (rfH zs).cs)) := (((Kp.refl (fun _ => False) W).alloc _).drew).trans kx (fun i h1 h2 => by omega)
    have HX : Hid (Hb ((W.alloc (.cells zH.cs 24)).drew.setRow W.heap.size (rfH zs).cs) W.heap.size (rfH zs)) := setRow_heap _ _ _ _ 24 _ (Hb.new W zH)
    change K _ ((W.alloc (.cells zH.cs 24)).drew.setRow W.heap.size (rfH zs).cs)
    refine hK.out _ _ (fun h => KX.out) ?_
    clear hK K
    simp only [q19r6_36, Act.put]
    refine planP_done ?_
    have CB : Hid (B < W.heap.size) := HB.out.lt
    generalize (W.alloc (.cells zH.cs 24)).drew.setRow W.heap.size (rfH zs).cs = X at *
    generalize W.heap.size = C at *
    have HBX := hid (HB.out.kp KX.out (fun x => x))
    have HZX := hid (HZ.out.kp KX.out)
    have HKX := hid (HK.out.trans KX.out (fun _ _ x => x))
    have WF := hid (rfH_wf zs HBY.out (by have := HLN.out; have := H5.out; omega))
    clear HB HZ HK kx h0 RN KX
    by_cases m : May (rfH zs)
    · have MM := hid m
      clear m
      have HNM : Hid ((rfH zs).name.size ≤ maxLen) := Nat.le_trans MM.out.long (by decide)
      go_wp2_with (first | (refine wpList_load_hd rfl (.tmp 5) rfl C rfl HX.out ?_) | (go_at_call 8; refine (rmay_yes WF.out HNM.out MM.out).mono ?_; rintro e w2 ⟨rfl, k2⟩))
      have HX2 := hid (HX.out.kp k2 (fun x => x))
      have HB2 := hid (HBX.out.kp k2 (fun x => x))
      have HZ2 := hid (HZX.out.kp k2)
      have HK2 := hid (HKX.out.trans k2 (fun _ _ x => x))
      clear HX HBX HZX HKX k2
      have hlen := secL_length (rfH zs) MM.out.long
      have HLEN := hid hlen
      clear hlen
      have h0 : Kp (fun _ => False) w2 w2.drew := (Kp.refl _ _).drew
      by_cases heq : secL (rfH zs) = zs.take 512
      · have HEQ := hid heq
        clear heq
        have HQ : Hid (((strOfNums (secL (rfH zs))).toList == (strOfNums (zs.take 512)).toList) = true) := (by show _ = _; rw [HEQ.out]; simp)
        change (Code.region 8 o19r8 true).wp _ _ _ _
        refine wp_region_plan (fun w' => Kp (fun _ => False) w2 w') [] c19r8 p19r8_0 hmix b19r8 d19r8 (fun _ _ d _ _ h => by cases d <;> exact h) ?_
        refine plan_take (o := q19r8_0) (r := p19r8_1) ?vb0 h0 (by rfl) ?hyb0 ?restb0
        case hyb0 => (intro w _; simp only [q19r8_0]; go_simp; try with_reducible rfl)
        try simp only [q19r8_0, Act.put, List.setIfInBounds_toArray, List.set_cons_zero, List.set_cons_succ]
        refine plan_take (o := q19r8_1) (r := p19r8_2) ?vb1 h0 (by rfl) ?hyb1 ?restb1
        case hyb1 => (intro w _; simp only [q19r8_1]; go_simp; try with_reducible rfl)
        try simp only [q19r8_1, Act.put, List.setIfInBounds_toArray, List.set_cons_zero, List.set_cons_succ]
        refine plan_take (o := q19r8_2) (r := p19r8_3) ?vb2 h0 (by rfl) ?hyb2 ?restb2
        case hyb2 => (intro w _; simp only [q19r8_2]; go_simp; try with_reducible rfl)
        try simp only [q19r8_2, Act.put, List.setIfInBounds_toArray, List.set_cons_zero, List.set_cons_succ]
        refine plan_take (o := q19r8_3) (r := p19r8_4) (.agg (rfH zs).cs) h0 (by rfl) ?hyb3 ?restb3
        case hyb3 => exact fun w hSw => exec_load_hd rfl rfl (HX2.out.kp hSw (fun x => x))
        try simp only [q19r8_3, Act.put, List.setIfInBounds_toArray, List.set_cons_zero, List.set_cons_succ]
        refine plan_take (o := q19r8_6) (r := p19r8_5) ?vb6 h0 (by rfl) ?hyb6 ?restb6
        case hyb6 => (intro w _; simp only [q19r8_6]; go_simp; try with_reducible rfl)
        try simp only [q19r8_6, Act.put, List.setIfInBounds_toArray, List.set_cons_zero, List.set_cons_succ]
        refine plan_take (o := q19r8_7) (r := p19r8_6) (.slice (some ⟨g, off, none⟩) 512 cap) h0 (by rfl) ?hyb7 ?restb7
        case hyb7 => (intro w hSw; (try dsimp only at hSw); simp only [q19r8_7]; go_simp; try with_reducible rfl)
        try simp only [q19r8_7, Act.put, List.setIfInBounds_toArray, List.set_cons_zero, List.set_cons_succ]
        refine plan_take (o := q19r8_8) (r := p19r8_7) (.string (strOfNums (zs.take 512))) h0 (by rfl) ?hyb8 ?restb8
        case hyb8 => (intro w hSw; (try dsimp only at hSw); have hcv := conv_take (HZ2.out.kp hSw) 512 H5.out; simp only [q19r8_8]; go_simp; try with_reducible rfl)
        try simp only [q19r8_8, Act.put, List.setIfInBounds_toArray, List.set_cons_zero, List.set_cons_succ]
        refine plan_act (o := q19r8_4) (r := p19r8_8) (fun K hK => ?_)
        simp only [q19r8_4]
        go_simp
        refine (rbytes (rfH zs) _ MM.out WF.out.flags.1).mono ?_
        rintro _ w4 ⟨v4, rfl, o4, k4⟩
        obtain ⟨g4, cap4, tl4, rfl, hg4, hr4, h34, h44⟩ := o4.some (by rw [HLEN.out]; omega)
        rw [HLEN.out]
        have RO := hid hr4
        clear o4 hr4 h34
        go_wp2_with fail
        refine hK.out _ _ (fun h => h.trans k4 (fun _ _ x => x)) ?_
        have s4 : Kp (fun _ => False) w2 w4 := h0.trans k4 (fun _ _ x => x)
        clear hK K
        refine plan_act (o := q19r8_5) (r := p19r8_9) (fun K hK => ?_)
        simp only [q19r8_5]
        have hcv := conv_own MM.out RO.out
        go_simp
        refine hK.out _ _ (fun h => h) ?_
        clear hK K hcv
        refine plan_take (o := q19r8_9) (r := p19r8_10) (.bool false) s4 (by rfl) ?hyb9 ?restb9
        case hyb9 => (intro w _; have hq := HQ.out; simp only [q19r8_9]; go_simp)
        try simp only [q19r8_9, Act.put, List.setIfInBounds_toArray, List.set_cons_zero, List.set_cons_succ]
        refine plan_take (o := q19r8_10) (r := p19r8_11) ?vb10 s4 (by rfl) ?hyb10 ?restb10
        case hyb10 => (intro w _; simp only [q19r8_10]; go_simp; try with_reducible rfl)
        try simp only [q19r8_10, Act.put, List.setIfInBounds_toArray, List.set_cons_zero, List.set_cons_succ]
        refine plan_done ?_
        have HX4 := hid (HX2.out.kp s4 (fun x => x))
        have HB4 := hid (HB2.out.kp s4 (fun x => x))
        have HK4 := hid (HK2.out.trans s4 (fun _ _ x => x))
        have hsz : w.heap.size = B := hBB
        go_wp2_with (first | (refine wpList_load_hd rfl (.tmp 5) rfl C rfl HX4.out ?_) | (refine wpList_store_hd rfl (.tmp 2) (.tmp 65) rfl B rfl (h := zH) (h' := rfH zs) rfl HB4.out ?_; intro w5 b5 k5))
        have hcn := ref_cnd HBY.out (by have := HLN.out; have := H5.out; omega) MM.out HEQ.out
        have hrd := (cnd_ref HBY.out hcn).2
        rw [hrd] at b5
        refine bodyPost_ret (results_cell_tmp2 Try.results19 _ _ _ rfl rfl b5.load) rfl ⟨Or.inl ⟨hcn, rfl⟩, HK4.out.trans k5 (fun i h1 h2 => by omega)⟩
      · have HEQ := hid heq
        clear heq
        have HQ : Hid (((strOfNums (secL (rfH zs))).toList == (strOfNums (zs.take 512)).toList) = false) := str_ne (secL_byt _) (HBY.out.take _) HEQ.out
        change (Code.region 8 o19r8 true).wp _ _ _ _
        refine wp_region_plan (fun w' => Kp (fun _ => False) w2 w') [] c19r8 p19r8_0 hmix b19r8 d19r8 (fun _ _ d _ _ h => by cases d <;> exact h) ?_
        refine plan_take (o := q19r8_0) (r := p19r8_1) ?vc0 h0 (by rfl) ?hyc0 ?restc0
        case hyc0 => (intro w _; simp only [q19r8_0]; go_simp; try with_reducible rfl)
        try simp only [q19r8_0, Act.put, List.setIfInBounds_toArray, List.set_cons_zero, List.set_cons_succ]
        refine plan_take (o := q19r8_1) (r := p19r8_2) ?vc1 h0 (by rfl) ?hyc1 ?restc1
        case hyc1 => (intro w _; simp only [q19r8_1]; go_simp; try with_reducible rfl)
        try simp only [q19r8_1, Act.put, List.setIfInBounds_toArray, List.set_cons_zero, List.set_cons_succ]
        refine plan_take (o := q19r8_2) (r := p19r8_3) ?vc2 h0 (by rfl) ?hyc2 ?restc2
        case hyc2 => (intro w _; simp only [q19r8_2]; go_simp; try with_reducible rfl)
        try simp only [q19r8_2, Act.put, List.setIfInBounds_toArray, List.set_cons_zero, List.set_cons_succ]
        refine plan_take (o := q19r8_3) (r := p19r8_4) (.agg (rfH zs).cs) h0 (by rfl) ?hyc3 ?restc3
        case hyc3 => exact fun w hSw => exec_load_hd rfl rfl (HX2.out.kp hSw (fun x => x))
        try simp only [q19r8_3, Act.put, List.setIfInBounds_toArray, List.set_cons_zero, List.set_cons_succ]
        refine plan_take (o := q19r8_6) (r := p19r8_5) ?vc6 h0 (by rfl) ?hyc6 ?restc6
        case hyc6 => (intro w _; simp only [q19r8_6]; go_simp; try with_reducible rfl)
        try simp only [q19r8_6, Act.put, List.setIfInBounds_toArray, List.set_cons_zero, List.set_cons_succ]
        refine plan_take (o := q19r8_7) (r := p19r8_6) (.slice (some ⟨g, off, none⟩) 512 cap) h0 (by rfl) ?hyc7 ?restc7
        case hyc7 => (intro w hSw; (try dsimp only at hSw); simp only [q19r8_7]; go_simp; try with_reducible rfl)
        try simp only [q19r8_7, Act.put, List.setIfInBounds_toArray, List.set_cons_zero, List.set_cons_succ]
        refine plan_take (o := q19r8_8) (r := p19r8_7) (.string (strOfNums (zs.take 512))) h0 (by rfl) ?hyc8 ?restc8
        case hyc8 => (intro w hSw; (try dsimp only at hSw); have hcv := conv_take (HZ2.out.kp hSw) 512 H5.out; simp only [q19r8_8]; go_simp; try with_reducible rfl)
        try simp only [q19r8_8, Act.put, List.setIfInBounds_toArray, List.set_cons_zero, List.set_cons_succ]
        refine plan_act (o := q19r8_4) (r := p19r8_8) (fun K hK => ?_)
        simp only [q19r8_4]
        go_simp
        refine (rbytes (rfH zs) _ MM.out WF.out.flags.1).mono ?_
        rintro _ w4 ⟨v4, rfl, o4, k4⟩
        obtain ⟨g4, cap4, tl4, rfl, hg4, hr4, h34, h44⟩ := o4.some (by rw [HLEN.out]; omega)
        rw [HLEN.out]
        have RO := hid hr4
        clear o4 hr4 h34
        go_wp2_with fail
        refine hK.out _ _ (fun h => h.trans k4 (fun _ _ x => x)) ?_
        have s4 : Kp (fun _ => False) w2 w4 := h0.trans k4 (fun _ _ x => x)
        clear hK K
        refine plan_act (o := q19r8_5) (r := p19r8_9) (fun K hK => ?_)
        simp only [q19r8_5]
        have hcv := conv_own MM.out RO.out
        go_simp
        refine hK.out _ _ (fun h => h) ?_
        clear hK K hcv
        refine plan_take (o := q19r8_9) (r := p19r8_10) (.bool true) s4 (by rfl) ?hyc9 ?restc9
        case hyc9 => (intro w _; have hq := HQ.out; simp only [q19r8_9]; go_simp)
        try simp only [q19r8_9, Act.put, List.setIfInBounds_toArray, List.set_cons_zero, List.set_cons_succ]
        refine plan_take (o := q19r8_10) (r := p19r8_11) ?vc10 s4 (by rfl) ?hyc10 ?restc10
        case hyc10 => (intro w _; simp only [q19r8_10]; go_simp; try with_reducible rfl)
        try simp only [q19r8_10, Act.put, List.setIfInBounds_toArray, List.set_cons_zero, List.set_cons_succ]
        refine plan_done ?_
        have HX4 := hid (HX2.out.kp s4 (fun x => x))
        have HB4 := hid (HB2.out.kp s4 (fun x => x))
        have HK4 := hid (HK2.out.trans s4 (fun _ _ x => x))
        have hsz : w.heap.size = B := hBB
        go_wp2_with (refine wpList_store_hd rfl (.tmp 2) (.tmp 64) rfl B rfl (h := zH) (h' := zH) rfl HB4.out ?_; intro w5 b5 k5)
        refine bodyPost_ret (results_cell_tmp2 Try.results19 _ _ _ rfl rfl b5.load) rfl ⟨Or.inr ⟨fun c => HEQ.out (by rw [(cnd_ref HBY.out c).2]; exact cnd_sec HBY.out c), rfl⟩, HK4.out.trans k5 (fun i h1 h2 => by omega)⟩
    · have MM := hid m
      clear m
      have HNM : Hid ((rfH zs).name.size ≤ maxLen) := (by show _ ≤ _; have e : (rfH zs).name.size = (seg zs 88 (txN zs)).length := str_size _; rw [e, seg_len _ _ _ (by have := HLN.out; have := H5.out; omega)]; exact Nat.le_trans HN.out (by decide))
      have hsz : w.heap.size = B := hBB
      go_wp2_with (first | (refine wpList_load_hd rfl (.tmp 5) rfl C rfl HX.out ?_) | (go_at_call 8; refine (rmay_no WF.out HNM.out MM.out).mono ?_; rintro e w2 ⟨rfl, k2⟩))
      have h0 : Kp (fun _ => False) w2 w2.drew := (Kp.refl _ _).drew
      change (Code.region 8 o19r8 true).wp _ _ _ _
      refine wp_region_plan (fun w' => Kp (fun _ => False) w2 w') [] c19r8 p19r8_0 hmix b19r8 d19r8 (fun _ _ d _ _ h => by cases d <;> exact h) ?_
      refine plan_take (o := q19r8_0) (r := p19r8_1) ?vd0 h0 (by rfl) ?hyd0 ?restd0
      case hyd0 => (intro w _; simp only [q19r8_0]; go_simp; try with_reducible rfl)
      try simp only [q19r8_0, Act.put, List.setIfInBounds_toArray, List.set_cons_zero, List.set_cons_succ]
      refine plan_take (o := q19r8_1) (r := p19r8_2) ?vd1 h0 (by rfl) ?hyd1 ?restd1
      case hyd1 => (intro w _; simp only [q19r8_1]; go_simp; try with_reducible rfl)
      try simp only [q19r8_1, Act.put, List.setIfInBounds_toArray, List.set_cons_zero, List.set_cons_succ]
      refine plan_take (o := q19r8_2) (r := p19r8_3) ?vd2 h0 (by rfl) ?hyd2 ?restd2
      case hyd2 => (intro w _; simp only [q19r8_2]; go_simp; try with_reducible rfl)
      try simp only [q19r8_2, Act.put, List.setIfInBounds_toArray, List.set_cons_zero, List.set_cons_succ]
      refine plan_skip (o := q19r8_3) (r := p19r8_4) h0 (by rfl) ?_
      try simp only [q19r8_3, Act.put, List.setIfInBounds_toArray, List.set_cons_zero, List.set_cons_succ]
      refine plan_skip (o := q19r8_6) (r := p19r8_5) h0 (by rfl) ?_
      try simp only [q19r8_6, Act.put, List.setIfInBounds_toArray, List.set_cons_zero, List.set_cons_succ]
      refine plan_skip (o := q19r8_7) (r := p19r8_6) h0 (by rfl) ?_
      try simp only [q19r8_7, Act.put, List.setIfInBounds_toArray, List.set_cons_zero, List.set_cons_succ]
      refine plan_skip (o := q19r8_8) (r := p19r8_7) h0 (by rfl) ?_
      try simp only [q19r8_8, Act.put, List.setIfInBounds_toArray, List.set_cons_zero, List.set_cons_succ]
      refine plan_act (o := q19r8_4) (r := p19r8_8) (fun K hK => ?_)
      simp only [q19r8_4]
      go_simp
      refine hK.out _ _ (fun h => h) ?_
      clear hK K
      refine plan_act (o := q19r8_5) (r := p19r8_9) (fun K hK => ?_)
      simp only [q19r8_5]
      go_simp
      refine hK.out _ _ (fun h => h) ?_
      clear hK K
      refine plan_skip (o := q19r8_9) (r := p19r8_10) h0 (by rfl) ?_
      try simp only [q19r8_9, Act.put, List.setIfInBounds_toArray, List.set_cons_zero, List.set_cons_succ]
      refine plan_take (o := q19r8_10) (r := p19r8_11) ?vd10 h0 (by rfl) ?hyd10 ?restd10
      case hyd10 => (intro w _; simp only [q19r8_10]; go_simp; try with_reducible rfl)
      try simp only [q19r8_10, Act.put, List.setIfInBounds_toArray, List.set_cons_zero, List.set_cons_succ]
      refine plan_done ?_
      go_wp2_with (refine wpList_store_hd rfl (.tmp 2) (.tmp 64) rfl B rfl (h := zH) (h' := zH) rfl (HBX.out.kp (k2.trans h0 (fun _ _ x => x)) (fun x => x)) ?_; intro w5 b5 k5)
      refine bodyPost_ret (results_cell_tmp2 Try.results19 _ _ _ rfl rfl b5.load) rfl ⟨Or.inr ⟨fun c => MM.out (by rw [(cnd_ref HBY.out c).2]; exact c.may), rfl⟩, (HKX.out.trans (k2.trans h0 (fun _ _ x => x)) (fun _ _ x => x)).trans k5 (fun i h1 h2 => by omega)⟩
  · have hNi : (64 : Int) < (txN zs : Int) := by omega
    go_wp2_with (first | (go_at_call 32; refine (RN.out _ HZ.out).mono ?_; rintro e w' ⟨rfl, rfl⟩) | (refine wpList_store_hd rfl (.tmp 2) (.tmp 15) rfl w.heap.size rfl (h := zH) (h' := zH) rfl HB.out ?_; intro w2 b2 k2))
    refine bodyPost_ret (results_cell_tmp2 Try.results19 _ _ _ rfl rfl b2.load) rfl ⟨Or.inr ⟨fun c => hN (HCT.out c), rfl⟩, HK.out.trans k2 (fun i h1 h2 => by omega)⟩
end Go.Proofs.Ytejdmnhdjeogaaa
