/- HuffCoding: nothing, of a nil code and of a zero one. -/
import Derived.Test.YthpocbpleffdpaaDe
import Derived.Test.YthpocbpleffdpaaWk
namespace Go.Proofs.Ythpocbpleffdpaa
open Go.RowKit Go.Shelf
attribute [local go_sem] Oper.semAt_some
set_option linter.unusedVariables false
set_option linter.unusedSimpArgs false
def postN (S : Act → World → Prop) : Exit → Act → World → Prop
  | .normal, a, w => S a w
  | _, _, _ => False
/-- The post of a block that is left by its own exit. -/
def postE (j : Nat) (S : Act → World → Prop) : Exit → Act → World → Prop
  | .exit id, a, w => id = j ∧ S a w
  | _, _, _ => False
/-- An iterator that tells nothing. -/
def Mute (bk : Nat) (RO : Nat → Prop) (w : World) : Prop :=
  SeqW Fence.wide 19 Try.prog 56 #[] #[.pointer (some ⟨bk, 0, none⟩)] (fun x : Nat × Int => #[.int .i64 (x.1 : Int), .int .u64 x.2]) (fun ys Y => KR RO w Y) (fun pre Y => KR RO w Y) (fun pre => False) RO w
theorem mute_none {bk : Nat} {w : World} (s : Sc 53 w bk #[.pointer none]) : Mute bk (fun i => i = bk) w := by
  intro l J Jx W hW hA hAx hY h0
  refine (all_none 19 (by omega) bk w s l J Jx W hW hA hAx hY h0).mono ?_
  rintro e w' ⟨h1, ⟨xs, O, h2, h3⟩ | h2⟩
  · exact ⟨h1, .inl ⟨xs, O, h2.2, h3⟩⟩
  · exact ⟨h1, .inr h2⟩
theorem mute_zero {bk g : Nat} {w : World} (s : Sc 53 w bk #[.pointer (some ⟨g, 0, none⟩)]) (h : Sc 89 w g (cdc none none none 0 0 0 [] [])) (hne : bk ≠ g) : Mute bk (ROa bk g none none []) w := by
  intro l J Jx W hW hA hAx hY h0
  refine (all_seq 19 (by omega) bk g none none none 0 0 0 [] [] w (cd_zero w g h) s ?_ ?_ ?_ l J Jx W hW hA hAx ?_ h0).mono ?_
  · rintro i (rfl | ⟨off, e | e | e⟩)
    · exact h.lt
    all_goals cases e
  · rintro (e | ⟨off, e | e | e⟩)
    · exact hne e
    all_goals cases e
  · intro b off e; cases e
  · rintro pre O x W1 hj ⟨k, hk, _⟩
    simp at hk
  · rintro e w' ⟨h1, ⟨xs, O, h2, h3⟩ | h2⟩
    · exact ⟨h1, .inl ⟨xs, O, h2.2, h3⟩⟩
    · exact ⟨h1, .inr h2⟩
theorem mute_roa {bk g : Nat} {w : World} (s : Sc 53 w bk #[.pointer (some ⟨g, 0, none⟩)]) (h : Sc 89 w g (cdc none none none 0 0 0 [] [])) : ∀ i, ROa bk g none none [] i → i < w.heap.size := by
  rintro i (rfl | rfl | ⟨off, e⟩ | ⟨hp, _⟩)
  · exact s.lt
  · exact h.lt
  · cases e
  · simp at hp
set_option maxRecDepth 100000
def cG : Code := (Go.Code.rangeFunc (Go.Operand.tmp 35) #[36, 37] Go.Code.skip (Go.Code.block 3 ((Go.Code.region 8 #[{ dst := none, op := Go.Op.store 4 (Go.Operand.tmp 0) (Go.Operand.const (Go.Value.bool false)), type := 0, pos := "law.go:269", after := #[], guard := none }] false).seq Go.Code.ret)))
def cB : Code := ((Go.Code.region 3 #[{ dst := some 23, op := Go.Op.indexAddr 101 (Go.Operand.tmp 19) (Go.Operand.tmp 21), type := 0, pos := "law.go:263", after := #[], guard := none }, { dst := some 24, op := Go.Op.load 53 (Go.Operand.tmp 23), type := 53, pos := "law.go:263", after := #[{ on := 0, ground := Go.Ground.data }], guard := none }, { dst := some 2, op := Go.Op.assign (Go.Operand.tmp 24), type := 53, pos := "law.go:263", after := #[{ on := 1, ground := Go.Ground.data }, { on := 0, ground := Go.Ground.phase }, { on := 1, ground := Go.Ground.phase }], guard := none }] false).seq ((Go.Code.region 4 #[{ dst := some 25, op := Go.Op.move (Go.Operand.tmp 2), type := 53, pos := "law.go:264", after := #[], guard := none }, { dst := some 26, op := Go.Op.call { callee := Go.Callee.value (Go.Operand.func 30), args := #[Go.Operand.tmp 25], argTypes := #[53] }, type := 59, pos := "law.go:264", after := #[{ on := 0, ground := Go.Ground.data }], guard := none }, { dst := some 3, op := Go.Op.assign (Go.Operand.tmp 26), type := 59, pos := "law.go:264", after := #[{ on := 1, ground := Go.Ground.data }, { on := 1, ground := Go.Ground.chain }, { on := 0, ground := Go.Ground.phase }, { on := 1, ground := Go.Ground.phase }], guard := none }] false).seq (((Go.Code.region 5 #[{ dst := some 27, op := Go.Op.move (Go.Operand.tmp 3), type := 59, pos := "law.go:265", after := #[], guard := none }, { dst := some 28, op := Go.Op.binOp Go.BinOp.eql 59 (Go.Operand.tmp 27) (Go.Operand.const Go.Value.nilFunc) 59, type := 4, pos := "law.go:265", after := #[{ on := 0, ground := Go.Ground.data }], guard := none }, { dst := some 29, op := Go.Op.move (Go.Operand.tmp 28), type := 4, pos := "law.go:265", after := #[{ on := 1, ground := Go.Ground.data }], guard := none }, { dst := some 30, op := Go.Op.move (Go.Operand.tmp 2), type := 53, pos := "law.go:265", after := #[{ on := 2, ground := Go.Ground.guard }], guard := some (2, false) }, { dst := some 31, op := Go.Op.call { callee := Go.Callee.value (Go.Operand.func 28), args := #[Go.Operand.tmp 30], argTypes := #[53] }, type := 22, pos := "law.go:265", after := #[{ on := 3, ground := Go.Ground.data }, { on := 2, ground := Go.Ground.chain }, { on := 2, ground := Go.Ground.guard }], guard := some (2, false) }, { dst := some 32, op := Go.Op.call { callee := Go.Callee.builtin Go.Builtin.len, args := #[Go.Operand.tmp 31], argTypes := #[22] }, type := 3, pos := "law.go:265", after := #[{ on := 4, ground := Go.Ground.data }, { on := 2, ground := Go.Ground.guard }], guard := some (2, false) }, { dst := some 33, op := Go.Op.binOp Go.BinOp.neq 3 (Go.Operand.tmp 32) (Go.Operand.const (Go.Value.int Go.IntKind.i64 0)) 3, type := 4, pos := "law.go:265", after := #[{ on := 5, ground := Go.Ground.data }, { on := 2, ground := Go.Ground.guard }], guard := some (2, false) }, { dst := some 34, op := Go.Op.pick (Go.Operand.tmp 29) (Go.Operand.const (Go.Value.bool true)) (Go.Operand.tmp 33), type := 4, pos := "law.go:265", after := #[{ on := 2, ground := Go.Ground.data }, { on := 6, ground := Go.Ground.data }], guard := none }] false).seq (Go.Code.cond (Go.Operand.tmp 34) ((Go.Code.region 6 #[{ dst := none, op := Go.Op.store 4 (Go.Operand.tmp 0) (Go.Operand.const (Go.Value.bool false)), type := 0, pos := "law.go:266", after := #[], guard := none }] false).seq Go.Code.ret) Go.Code.skip)).seq ((Go.Code.region 7 #[{ dst := some 35, op := Go.Op.move (Go.Operand.tmp 3), type := 59, pos := "law.go:268", after := #[], guard := none }] false).seq (Go.Code.block 2 cG)))))
def cL : Code := ((Go.Code.region 2 #[{ dst := some 22, op := Go.Op.binOp Go.BinOp.lss 3 (Go.Operand.tmp 21) (Go.Operand.tmp 20) 3, type := 0, pos := "law.go:263", after := #[], guard := none }] false).seq ((Go.Code.cond (Go.Operand.tmp 22) Go.Code.skip (Go.Code.exit 0)).seq ((Go.Code.block 1 cB).seq (Go.Code.region 9 #[{ dst := some 38, op := Go.Op.binOp Go.BinOp.add 3 (Go.Operand.tmp 21) (Go.Operand.const (Go.Value.int Go.IntKind.i64 1)) 3, type := 3, pos := "law.go:263", after := #[], guard := none }, { dst := some 21, op := Go.Op.move (Go.Operand.tmp 38), type := 3, pos := "law.go:263", after := #[{ on := 0, ground := Go.Ground.data }], guard := none }] false)))).loop
def cF39 : Code := ((Go.Code.region 10 #[{ dst := some 4, op := Go.Op.assign (Go.Operand.const (Go.Value.pointer none)), type := 53, pos := "law.go:272", after := #[], guard := none }] false).seq ((Go.Code.region 11 #[{ dst := some 40, op := Go.Op.move (Go.Operand.tmp 4), type := 53, pos := "law.go:273", after := #[], guard := none }, { dst := some 41, op := Go.Op.call { callee := Go.Callee.value (Go.Operand.func 31), args := #[], argTypes := #[] }, type := 61, pos := "law.go:273", after := #[], guard := none }, { dst := some 42, op := Go.Op.buildSlice 22 1 #[(0, Go.Operand.const (Go.Value.int Go.IntKind.i64 1))], type := 22, pos := "law.go:273", after := #[], guard := none }, { dst := some 43, op := Go.Op.call { callee := Go.Callee.value (Go.Operand.func 33), args := #[Go.Operand.tmp 40, Go.Operand.tmp 41, Go.Operand.tmp 42], argTypes := #[53, 61, 22] }, type := 25, pos := "law.go:273", after := #[{ on := 0, ground := Go.Ground.data }, { on := 1, ground := Go.Ground.data }, { on := 2, ground := Go.Ground.data }, { on := 1, ground := Go.Ground.chain }], guard := none }, { dst := some 39, op := Go.Op.move (Go.Operand.tmp 43), type := 25, pos := "law.go:273", after := #[{ on := 3, ground := Go.Ground.data }], guard := none }, { dst := some 44, op := Go.Op.extract (Go.Operand.tmp 39) 0, type := 3, pos := "law.go:273", after := #[{ on := 4, ground := Go.Ground.data }], guard := none }, { dst := some 45, op := Go.Op.extract (Go.Operand.tmp 39) 1, type := 24, pos := "law.go:273", after := #[{ on := 4, ground := Go.Ground.data }, { on := 7, ground := Go.Ground.gcOnly Go.Departure.lateStores }], guard := none }, { dst := some 5, op := Go.Op.assign (Go.Operand.tmp 44), type := 3, pos := "law.go:273", after := #[{ on := 5, ground := Go.Ground.data }, { on := 3, ground := Go.Ground.chain }, { on := 0, ground := Go.Ground.phase }, { on := 1, ground := Go.Ground.phase }, { on := 2, ground := Go.Ground.phase }, { on := 3, ground := Go.Ground.phase }, { on := 4, ground := Go.Ground.phase }, { on := 5, ground := Go.Ground.phase }, { on := 6, ground := Go.Ground.textOnly Go.Departure.lateStores }], guard := none }, { dst := some 6, op := Go.Op.assign (Go.Operand.tmp 45), type := 24, pos := "law.go:273", after := #[{ on := 6, ground := Go.Ground.data }, { on := 7, ground := Go.Ground.chain }, { on := 0, ground := Go.Ground.phase }, { on := 1, ground := Go.Ground.phase }, { on := 2, ground := Go.Ground.phase }, { on := 3, ground := Go.Ground.phase }, { on := 4, ground := Go.Ground.phase }, { on := 5, ground := Go.Ground.phase }, { on := 6, ground := Go.Ground.phase }, { on := 7, ground := Go.Ground.phase }], guard := none }] false).seq ((Go.Code.region 12 #[{ dst := some 47, op := Go.Op.move (Go.Operand.tmp 4), type := 53, pos := "law.go:274", after := #[], guard := none }, { dst := some 48, op := Go.Op.buildSlice 50 1 #[(0, Go.Operand.const (Go.Value.int Go.IntKind.u8 1))], type := 50, pos := "law.go:274", after := #[], guard := none }, { dst := some 49, op := Go.Op.call { callee := Go.Callee.value (Go.Operand.func 40), args := #[Go.Operand.tmp 48], argTypes := #[50] }, type := 71, pos := "law.go:274", after := #[{ on := 1, ground := Go.Ground.data }], guard := none }, { dst := some 50, op := Go.Op.call { callee := Go.Callee.value (Go.Operand.func 41), args := #[Go.Operand.tmp 47, Go.Operand.tmp 49], argTypes := #[53, 71] }, type := 25, pos := "law.go:274", after := #[{ on := 0, ground := Go.Ground.data }, { on := 2, ground := Go.Ground.data }, { on := 2, ground := Go.Ground.chain }], guard := none }, { dst := some 46, op := Go.Op.move (Go.Operand.tmp 50), type := 25, pos := "law.go:274", after := #[{ on := 3, ground := Go.Ground.data }], guard := none }, { dst := some 51, op := Go.Op.extract (Go.Operand.tmp 46) 0, type := 3, pos := "law.go:274", after := #[{ on := 4, ground := Go.Ground.data }], guard := none }, { dst := some 52, op := Go.Op.extract (Go.Operand.tmp 46) 1, type := 24, pos := "law.go:274", after := #[{ on := 4, ground := Go.Ground.data }, { on := 7, ground := Go.Ground.gcOnly Go.Departure.lateStores }], guard := none }, { dst := some 7, op := Go.Op.assign (Go.Operand.tmp 51), type := 3, pos := "law.go:274", after := #[{ on := 5, ground := Go.Ground.data }, { on := 3, ground := Go.Ground.chain }, { on := 0, ground := Go.Ground.phase }, { on := 1, ground := Go.Ground.phase }, { on := 2, ground := Go.Ground.phase }, { on := 3, ground := Go.Ground.phase }, { on := 4, ground := Go.Ground.phase }, { on := 5, ground := Go.Ground.phase }, { on := 6, ground := Go.Ground.textOnly Go.Departure.lateStores }], guard := none }, { dst := some 8, op := Go.Op.assign (Go.Operand.tmp 52), type := 24, pos := "law.go:274", after := #[{ on := 6, ground := Go.Ground.data }, { on := 7, ground := Go.Ground.chain }, { on := 0, ground := Go.Ground.phase }, { on := 1, ground := Go.Ground.phase }, { on := 2, ground := Go.Ground.phase }, { on := 3, ground := Go.Ground.phase }, { on := 4, ground := Go.Ground.phase }, { on := 5, ground := Go.Ground.phase }, { on := 6, ground := Go.Ground.phase }, { on := 7, ground := Go.Ground.phase }], guard := none }] false).seq ((Go.Code.region 13 #[{ dst := some 54, op := Go.Op.buildSlice 22 2 #[(0, Go.Operand.const (Go.Value.int Go.IntKind.i64 1)), (1, Go.Operand.const (Go.Value.int Go.IntKind.i64 1))], type := 22, pos := "law.go:275", after := #[], guard := none }, { dst := some 55, op := Go.Op.call { callee := Go.Callee.value (Go.Operand.func 26), args := #[Go.Operand.tmp 54], argTypes := #[22] }, type := 54, pos := "law.go:275", after := #[{ on := 0, ground := Go.Ground.data }], guard := none }, { dst := some 53, op := Go.Op.move (Go.Operand.tmp 55), type := 54, pos := "law.go:275", after := #[{ on := 1, ground := Go.Ground.data }], guard := none }, { dst := some 56, op := Go.Op.extract (Go.Operand.tmp 53) 0, type := 53, pos := "law.go:275", after := #[{ on := 2, ground := Go.Ground.data }], guard := none }, { dst := some 57, op := Go.Op.extract (Go.Operand.tmp 53) 1, type := 24, pos := "law.go:275", after := #[{ on := 2, ground := Go.Ground.data }, { on := 5, ground := Go.Ground.gcOnly Go.Departure.lateStores }], guard := none }, { dst := some 9, op := Go.Op.assign (Go.Operand.tmp 56), type := 53, pos := "law.go:275", after := #[{ on := 3, ground := Go.Ground.data }, { on := 1, ground := Go.Ground.chain }, { on := 0, ground := Go.Ground.phase }, { on := 1, ground := Go.Ground.phase }, { on := 2, ground := Go.Ground.phase }, { on := 3, ground := Go.Ground.phase }, { on := 4, ground := Go.Ground.textOnly Go.Departure.lateStores }], guard := none }, { dst := some 10, op := Go.Op.assign (Go.Operand.tmp 57), type := 24, pos := "law.go:275", after := #[{ on := 4, ground := Go.Ground.data }, { on := 5, ground := Go.Ground.chain }, { on := 0, ground := Go.Ground.phase }, { on := 1, ground := Go.Ground.phase }, { on := 2, ground := Go.Ground.phase }, { on := 3, ground := Go.Ground.phase }, { on := 4, ground := Go.Ground.phase }, { on := 5, ground := Go.Ground.phase }], guard := none }] false).seq (((Go.Code.region 14 #[{ dst := some 58, op := Go.Op.move (Go.Operand.tmp 9), type := 53, pos := "law.go:276", after := #[], guard := none }, { dst := some 59, op := Go.Op.binOp Go.BinOp.eql 53 (Go.Operand.tmp 58) (Go.Operand.const (Go.Value.pointer none)) 53, type := 4, pos := "law.go:276", after := #[{ on := 0, ground := Go.Ground.data }], guard := none }, { dst := some 60, op := Go.Op.move (Go.Operand.tmp 59), type := 4, pos := "law.go:276", after := #[{ on := 1, ground := Go.Ground.data }], guard := none }, { dst := some 61, op := Go.Op.move (Go.Operand.tmp 10), type := 24, pos := "law.go:276", after := #[{ on := 2, ground := Go.Ground.guard }], guard := some (2, false) }, { dst := some 62, op := Go.Op.call { callee := Go.Callee.value (Go.Operand.func 13), args := #[Go.Operand.tmp 61], argTypes := #[24] }, type := 3, pos := "law.go:276", after := #[{ on := 3, ground := Go.Ground.data }, { on := 2, ground := Go.Ground.chain }, { on := 2, ground := Go.Ground.guard }], guard := some (2, false) }, { dst := some 63, op := Go.Op.binOp Go.BinOp.neq 3 (Go.Operand.tmp 62) (Go.Operand.const (Go.Value.int Go.IntKind.i64 0)) 3, type := 4, pos := "law.go:276", after := #[{ on := 4, ground := Go.Ground.data }, { on := 2, ground := Go.Ground.guard }], guard := some (2, false) }, { dst := some 64, op := Go.Op.pick (Go.Operand.tmp 60) (Go.Operand.const (Go.Value.bool true)) (Go.Operand.tmp 63), type := 4, pos := "law.go:276", after := #[{ on := 2, ground := Go.Ground.data }, { on := 5, ground := Go.Ground.data }], guard := none }] false).seq (Go.Code.cond (Go.Operand.tmp 64) ((Go.Code.region 15 #[{ dst := none, op := Go.Op.store 4 (Go.Operand.tmp 0) (Go.Operand.const (Go.Value.bool false)), type := 0, pos := "law.go:277", after := #[], guard := none }] false).seq Go.Code.ret) Go.Code.skip)).seq ((Go.Code.region 16 #[{ dst := some 66, op := Go.Op.move (Go.Operand.tmp 9), type := 53, pos := "law.go:279", after := #[], guard := none }, { dst := some 67, op := Go.Op.buildSlice 22 1 #[(0, Go.Operand.const (Go.Value.int Go.IntKind.i64 9))], type := 22, pos := "law.go:279", after := #[], guard := none }, { dst := some 68, op := Go.Op.call { callee := Go.Callee.value (Go.Operand.func 33), args := #[Go.Operand.tmp 66, Go.Operand.const (Go.Value.pointer none), Go.Operand.tmp 67], argTypes := #[53, 61, 22] }, type := 25, pos := "law.go:279", after := #[{ on := 0, ground := Go.Ground.data }, { on := 1, ground := Go.Ground.data }], guard := none }, { dst := some 65, op := Go.Op.move (Go.Operand.tmp 68), type := 25, pos := "law.go:279", after := #[{ on := 2, ground := Go.Ground.data }], guard := none }, { dst := some 69, op := Go.Op.extract (Go.Operand.tmp 65) 0, type := 3, pos := "law.go:279", after := #[{ on := 3, ground := Go.Ground.data }], guard := none }, { dst := some 70, op := Go.Op.extract (Go.Operand.tmp 65) 1, type := 24, pos := "law.go:279", after := #[{ on := 3, ground := Go.Ground.data }, { on := 6, ground := Go.Ground.gcOnly Go.Departure.lateStores }], guard := none }, { dst := some 11, op := Go.Op.assign (Go.Operand.tmp 69), type := 3, pos := "law.go:279", after := #[{ on := 4, ground := Go.Ground.data }, { on := 2, ground := Go.Ground.chain }, { on := 0, ground := Go.Ground.phase }, { on := 1, ground := Go.Ground.phase }, { on := 2, ground := Go.Ground.phase }, { on := 3, ground := Go.Ground.phase }, { on := 4, ground := Go.Ground.phase }, { on := 5, ground := Go.Ground.textOnly Go.Departure.lateStores }], guard := none }, { dst := some 12, op := Go.Op.assign (Go.Operand.tmp 70), type := 24, pos := "law.go:279", after := #[{ on := 5, ground := Go.Ground.data }, { on := 6, ground := Go.Ground.chain }, { on := 0, ground := Go.Ground.phase }, { on := 1, ground := Go.Ground.phase }, { on := 2, ground := Go.Ground.phase }, { on := 3, ground := Go.Ground.phase }, { on := 4, ground := Go.Ground.phase }, { on := 5, ground := Go.Ground.phase }, { on := 6, ground := Go.Ground.phase }], guard := none }] false).seq ((Go.Code.region 17 #[{ dst := some 72, op := Go.Op.move (Go.Operand.tmp 9), type := 53, pos := "law.go:280", after := #[], guard := none }, { dst := some 73, op := Go.Op.call { callee := Go.Callee.value (Go.Operand.func 41), args := #[Go.Operand.tmp 72, Go.Operand.const (Go.Value.pointer none)], argTypes := #[53, 71] }, type := 25, pos := "law.go:280", after := #[{ on := 0, ground := Go.Ground.data }], guard := none }, { dst := some 71, op := Go.Op.move (Go.Operand.tmp 73), type := 25, pos := "law.go:280", after := #[{ on := 1, ground := Go.Ground.data }], guard := none }, { dst := some 74, op := Go.Op.extract (Go.Operand.tmp 71) 0, type := 3, pos := "law.go:280", after := #[{ on := 2, ground := Go.Ground.data }], guard := none }, { dst := some 75, op := Go.Op.extract (Go.Operand.tmp 71) 1, type := 24, pos := "law.go:280", after := #[{ on := 2, ground := Go.Ground.data }, { on := 5, ground := Go.Ground.gcOnly Go.Departure.lateStores }], guard := none }, { dst := some 13, op := Go.Op.assign (Go.Operand.tmp 74), type := 3, pos := "law.go:280", after := #[{ on := 3, ground := Go.Ground.data }, { on := 1, ground := Go.Ground.chain }, { on := 0, ground := Go.Ground.phase }, { on := 1, ground := Go.Ground.phase }, { on := 2, ground := Go.Ground.phase }, { on := 3, ground := Go.Ground.phase }, { on := 4, ground := Go.Ground.textOnly Go.Departure.lateStores }], guard := none }, { dst := some 14, op := Go.Op.assign (Go.Operand.tmp 75), type := 24, pos := "law.go:280", after := #[{ on := 4, ground := Go.Ground.data }, { on := 5, ground := Go.Ground.chain }, { on := 0, ground := Go.Ground.phase }, { on := 1, ground := Go.Ground.phase }, { on := 2, ground := Go.Ground.phase }, { on := 3, ground := Go.Ground.phase }, { on := 4, ground := Go.Ground.phase }, { on := 5, ground := Go.Ground.phase }], guard := none }] false).seq ((Go.Code.region 18 #[{ dst := some 77, op := Go.Op.build 89 #[], type := 89, pos := "law.go:281", after := #[], guard := none }, { dst := some 78, op := Go.Op.box 89 (Go.Operand.tmp 77), type := 53, pos := "law.go:281", after := #[{ on := 0, ground := Go.Ground.data }], guard := none }, { dst := some 79, op := Go.Op.buildSlice 50 1 #[(0, Go.Operand.const (Go.Value.int Go.IntKind.u8 1))], type := 50, pos := "law.go:281", after := #[], guard := none }, { dst := some 80, op := Go.Op.call { callee := Go.Callee.value (Go.Operand.func 40), args := #[Go.Operand.tmp 79], argTypes := #[50] }, type := 71, pos := "law.go:281", after := #[{ on := 2, ground := Go.Ground.data }], guard := none }, { dst := some 81, op := Go.Op.call { callee := Go.Callee.value (Go.Operand.func 41), args := #[Go.Operand.tmp 78, Go.Operand.tmp 80], argTypes := #[53, 71] }, type := 25, pos := "law.go:281", after := #[{ on := 1, ground := Go.Ground.data }, { on := 3, ground := Go.Ground.data }, { on := 3, ground := Go.Ground.chain }], guard := none }, { dst := some 76, op := Go.Op.move (Go.Operand.tmp 81), type := 25, pos := "law.go:281", after := #[{ on := 4, ground := Go.Ground.data }], guard := none }, { dst := some 82, op := Go.Op.extract (Go.Operand.tmp 76) 0, type := 3, pos := "law.go:281", after := #[{ on := 5, ground := Go.Ground.data }], guard := none }, { dst := some 83, op := Go.Op.extract (Go.Operand.tmp 76) 1, type := 24, pos := "law.go:281", after := #[{ on := 5, ground := Go.Ground.data }, { on := 8, ground := Go.Ground.gcOnly Go.Departure.lateStores }], guard := none }, { dst := some 15, op := Go.Op.assign (Go.Operand.tmp 82), type := 3, pos := "law.go:281", after := #[{ on := 6, ground := Go.Ground.data }, { on := 4, ground := Go.Ground.chain }, { on := 0, ground := Go.Ground.phase }, { on := 1, ground := Go.Ground.phase }, { on := 2, ground := Go.Ground.phase }, { on := 3, ground := Go.Ground.phase }, { on := 4, ground := Go.Ground.phase }, { on := 5, ground := Go.Ground.phase }, { on := 6, ground := Go.Ground.phase }, { on := 7, ground := Go.Ground.textOnly Go.Departure.lateStores }], guard := none }, { dst := some 16, op := Go.Op.assign (Go.Operand.tmp 83), type := 24, pos := "law.go:281", after := #[{ on := 7, ground := Go.Ground.data }, { on := 8, ground := Go.Ground.chain }, { on := 0, ground := Go.Ground.phase }, { on := 1, ground := Go.Ground.phase }, { on := 2, ground := Go.Ground.phase }, { on := 3, ground := Go.Ground.phase }, { on := 4, ground := Go.Ground.phase }, { on := 5, ground := Go.Ground.phase }, { on := 6, ground := Go.Ground.phase }, { on := 7, ground := Go.Ground.phase }, { on := 8, ground := Go.Ground.phase }], guard := none }] false).seq ((Go.Code.region 19 #[{ dst := some 84, op := Go.Op.move (Go.Operand.tmp 5), type := 3, pos := "law.go:282", after := #[], guard := none }, { dst := some 85, op := Go.Op.binOp Go.BinOp.eql 3 (Go.Operand.tmp 84) (Go.Operand.const (Go.Value.int Go.IntKind.i64 0)) 3, type := 4, pos := "law.go:282", after := #[{ on := 0, ground := Go.Ground.data }], guard := none }, { dst := some 86, op := Go.Op.move (Go.Operand.tmp 85), type := 4, pos := "law.go:282", after := #[{ on := 1, ground := Go.Ground.data }], guard := none }, { dst := some 87, op := Go.Op.move (Go.Operand.tmp 6), type := 24, pos := "law.go:282", after := #[{ on := 2, ground := Go.Ground.guard }], guard := some (2, true) }, { dst := some 88, op := Go.Op.call { callee := Go.Callee.value (Go.Operand.func 13), args := #[Go.Operand.tmp 87], argTypes := #[24] }, type := 3, pos := "law.go:282", after := #[{ on := 3, ground := Go.Ground.data }, { on := 2, ground := Go.Ground.chain }, { on := 2, ground := Go.Ground.guard }], guard := some (2, true) }, { dst := some 89, op := Go.Op.binOp Go.BinOp.eql 3 (Go.Operand.tmp 88) (Go.Operand.const (Go.Value.int Go.IntKind.i64 1)) 3, type := 4, pos := "law.go:282", after := #[{ on := 4, ground := Go.Ground.data }, { on := 2, ground := Go.Ground.guard }], guard := some (2, true) }, { dst := some 90, op := Go.Op.pick (Go.Operand.tmp 86) (Go.Operand.tmp 89) (Go.Operand.const (Go.Value.bool false)), type := 4, pos := "law.go:282", after := #[{ on := 2, ground := Go.Ground.data }, { on := 5, ground := Go.Ground.data }], guard := none }, { dst := some 91, op := Go.Op.move (Go.Operand.tmp 90), type := 4, pos := "law.go:282", after := #[{ on := 6, ground := Go.Ground.data }, { on := 4, ground := Go.Ground.chain }], guard := none }, { dst := some 92, op := Go.Op.move (Go.Operand.tmp 7), type := 3, pos := "law.go:282", after := #[{ on := 7, ground := Go.Ground.guard }], guard := some (7, true) }, { dst := some 93, op := Go.Op.binOp Go.BinOp.eql 3 (Go.Operand.tmp 92) (Go.Operand.const (Go.Value.int Go.IntKind.i64 0)) 3, type := 4, pos := "law.go:282", after := #[{ on := 8, ground := Go.Ground.data }, { on := 7, ground := Go.Ground.guard }], guard := some (7, true) }, { dst := some 94, op := Go.Op.pick (Go.Operand.tmp 91) (Go.Operand.tmp 93) (Go.Operand.const (Go.Value.bool false)), type := 4, pos := "law.go:282", after := #[{ on := 7, ground := Go.Ground.data }, { on := 9, ground := Go.Ground.data }], guard := none }, { dst := some 95, op := Go.Op.move (Go.Operand.tmp 94), type := 4, pos := "law.go:282", after := #[{ on := 10, ground := Go.Ground.data }, { on := 7, ground := Go.Ground.chain }], guard := none }, { dst := some 96, op := Go.Op.move (Go.Operand.tmp 8), type := 24, pos := "law.go:282", after := #[{ on := 11, ground := Go.Ground.guard }], guard := some (11, true) }, { dst := some 97, op := Go.Op.call { callee := Go.Callee.value (Go.Operand.func 13), args := #[Go.Operand.tmp 96], argTypes := #[24] }, type := 3, pos := "law.go:282", after := #[{ on := 12, ground := Go.Ground.data }, { on := 11, ground := Go.Ground.chain }, { on := 11, ground := Go.Ground.guard }], guard := some (11, true) }, { dst := some 98, op := Go.Op.binOp Go.BinOp.eql 3 (Go.Operand.tmp 97) (Go.Operand.const (Go.Value.int Go.IntKind.i64 1)) 3, type := 4, pos := "law.go:282", after := #[{ on := 13, ground := Go.Ground.data }, { on := 11, ground := Go.Ground.guard }], guard := some (11, true) }, { dst := some 99, op := Go.Op.pick (Go.Operand.tmp 95) (Go.Operand.tmp 98) (Go.Operand.const (Go.Value.bool false)), type := 4, pos := "law.go:282", after := #[{ on := 11, ground := Go.Ground.data }, { on := 14, ground := Go.Ground.data }], guard := none }, { dst := some 100, op := Go.Op.move (Go.Operand.tmp 99), type := 4, pos := "law.go:282", after := #[{ on := 15, ground := Go.Ground.data }, { on := 13, ground := Go.Ground.chain }], guard := none }, { dst := some 101, op := Go.Op.move (Go.Operand.tmp 11), type := 3, pos := "law.go:282", after := #[{ on := 16, ground := Go.Ground.guard }], guard := some (16, true) }, { dst := some 102, op := Go.Op.binOp Go.BinOp.eql 3 (Go.Operand.tmp 101) (Go.Operand.const (Go.Value.int Go.IntKind.i64 0)) 3, type := 4, pos := "law.go:282", after := #[{ on := 17, ground := Go.Ground.data }, { on := 16, ground := Go.Ground.guard }], guard := some (16, true) }, { dst := some 103, op := Go.Op.pick (Go.Operand.tmp 100) (Go.Operand.tmp 102) (Go.Operand.const (Go.Value.bool false)), type := 4, pos := "law.go:282", after := #[{ on := 16, ground := Go.Ground.data }, { on := 18, ground := Go.Ground.data }], guard := none }, { dst := some 104, op := Go.Op.move (Go.Operand.tmp 103), type := 4, pos := "law.go:282", after := #[{ on := 19, ground := Go.Ground.data }, { on := 16, ground := Go.Ground.chain }], guard := none }, { dst := some 105, op := Go.Op.move (Go.Operand.tmp 12), type := 24, pos := "law.go:282", after := #[{ on := 20, ground := Go.Ground.guard }], guard := some (20, true) }, { dst := some 106, op := Go.Op.call { callee := Go.Callee.value (Go.Operand.func 13), args := #[Go.Operand.tmp 105], argTypes := #[24] }, type := 3, pos := "law.go:282", after := #[{ on := 21, ground := Go.Ground.data }, { on := 20, ground := Go.Ground.chain }, { on := 20, ground := Go.Ground.guard }], guard := some (20, true) }, { dst := some 107, op := Go.Op.binOp Go.BinOp.eql 3 (Go.Operand.tmp 106) (Go.Operand.const (Go.Value.int Go.IntKind.i64 1)) 3, type := 4, pos := "law.go:282", after := #[{ on := 22, ground := Go.Ground.data }, { on := 20, ground := Go.Ground.guard }], guard := some (20, true) }, { dst := some 108, op := Go.Op.pick (Go.Operand.tmp 104) (Go.Operand.tmp 107) (Go.Operand.const (Go.Value.bool false)), type := 4, pos := "law.go:282", after := #[{ on := 20, ground := Go.Ground.data }, { on := 23, ground := Go.Ground.data }], guard := none }, { dst := some 109, op := Go.Op.move (Go.Operand.tmp 108), type := 4, pos := "law.go:282", after := #[{ on := 24, ground := Go.Ground.data }, { on := 22, ground := Go.Ground.chain }], guard := none }, { dst := some 110, op := Go.Op.move (Go.Operand.tmp 13), type := 3, pos := "law.go:282", after := #[{ on := 25, ground := Go.Ground.guard }], guard := some (25, true) }, { dst := some 111, op := Go.Op.binOp Go.BinOp.eql 3 (Go.Operand.tmp 110) (Go.Operand.const (Go.Value.int Go.IntKind.i64 0)) 3, type := 4, pos := "law.go:282", after := #[{ on := 26, ground := Go.Ground.data }, { on := 25, ground := Go.Ground.guard }], guard := some (25, true) }, { dst := some 112, op := Go.Op.pick (Go.Operand.tmp 109) (Go.Operand.tmp 111) (Go.Operand.const (Go.Value.bool false)), type := 4, pos := "law.go:282", after := #[{ on := 25, ground := Go.Ground.data }, { on := 27, ground := Go.Ground.data }], guard := none }, { dst := some 113, op := Go.Op.move (Go.Operand.tmp 112), type := 4, pos := "law.go:282", after := #[{ on := 28, ground := Go.Ground.data }, { on := 25, ground := Go.Ground.chain }], guard := none }, { dst := some 114, op := Go.Op.move (Go.Operand.tmp 14), type := 24, pos := "law.go:282", after := #[{ on := 29, ground := Go.Ground.guard }], guard := some (29, true) }, { dst := some 115, op := Go.Op.call { callee := Go.Callee.value (Go.Operand.func 13), args := #[Go.Operand.tmp 114], argTypes := #[24] }, type := 3, pos := "law.go:282", after := #[{ on := 30, ground := Go.Ground.data }, { on := 29, ground := Go.Ground.chain }, { on := 29, ground := Go.Ground.guard }], guard := some (29, true) }, { dst := some 116, op := Go.Op.binOp Go.BinOp.eql 3 (Go.Operand.tmp 115) (Go.Operand.const (Go.Value.int Go.IntKind.i64 1)) 3, type := 4, pos := "law.go:282", after := #[{ on := 31, ground := Go.Ground.data }, { on := 29, ground := Go.Ground.guard }], guard := some (29, true) }, { dst := some 117, op := Go.Op.pick (Go.Operand.tmp 113) (Go.Operand.tmp 116) (Go.Operand.const (Go.Value.bool false)), type := 4, pos := "law.go:282", after := #[{ on := 29, ground := Go.Ground.data }, { on := 32, ground := Go.Ground.data }], guard := none }, { dst := some 118, op := Go.Op.move (Go.Operand.tmp 117), type := 4, pos := "law.go:282", after := #[{ on := 33, ground := Go.Ground.data }, { on := 31, ground := Go.Ground.chain }], guard := none }, { dst := some 119, op := Go.Op.move (Go.Operand.tmp 15), type := 3, pos := "law.go:282", after := #[{ on := 34, ground := Go.Ground.guard }], guard := some (34, true) }, { dst := some 120, op := Go.Op.binOp Go.BinOp.eql 3 (Go.Operand.tmp 119) (Go.Operand.const (Go.Value.int Go.IntKind.i64 0)) 3, type := 4, pos := "law.go:282", after := #[{ on := 35, ground := Go.Ground.data }, { on := 34, ground := Go.Ground.guard }], guard := some (34, true) }, { dst := some 121, op := Go.Op.pick (Go.Operand.tmp 118) (Go.Operand.tmp 120) (Go.Operand.const (Go.Value.bool false)), type := 4, pos := "law.go:282", after := #[{ on := 34, ground := Go.Ground.data }, { on := 36, ground := Go.Ground.data }], guard := none }, { dst := some 122, op := Go.Op.move (Go.Operand.tmp 121), type := 4, pos := "law.go:282", after := #[{ on := 37, ground := Go.Ground.data }, { on := 34, ground := Go.Ground.chain }], guard := none }, { dst := some 123, op := Go.Op.move (Go.Operand.tmp 16), type := 24, pos := "law.go:282", after := #[{ on := 38, ground := Go.Ground.guard }], guard := some (38, true) }, { dst := some 124, op := Go.Op.call { callee := Go.Callee.value (Go.Operand.func 13), args := #[Go.Operand.tmp 123], argTypes := #[24] }, type := 3, pos := "law.go:282", after := #[{ on := 39, ground := Go.Ground.data }, { on := 38, ground := Go.Ground.chain }, { on := 38, ground := Go.Ground.guard }], guard := some (38, true) }, { dst := some 125, op := Go.Op.binOp Go.BinOp.eql 3 (Go.Operand.tmp 124) (Go.Operand.const (Go.Value.int Go.IntKind.i64 131)) 3, type := 4, pos := "law.go:282", after := #[{ on := 40, ground := Go.Ground.data }, { on := 38, ground := Go.Ground.guard }], guard := some (38, true) }, { dst := some 126, op := Go.Op.pick (Go.Operand.tmp 122) (Go.Operand.tmp 125) (Go.Operand.const (Go.Value.bool false)), type := 4, pos := "law.go:282", after := #[{ on := 38, ground := Go.Ground.data }, { on := 41, ground := Go.Ground.data }], guard := none }, { dst := none, op := Go.Op.store 4 (Go.Operand.tmp 0) (Go.Operand.tmp 126), type := 0, pos := "law.go:282", after := #[{ on := 42, ground := Go.Ground.data }, { on := 40, ground := Go.Ground.chain }, { on := 0, ground := Go.Ground.phase }, { on := 1, ground := Go.Ground.phase }, { on := 2, ground := Go.Ground.phase }, { on := 3, ground := Go.Ground.phase }, { on := 4, ground := Go.Ground.phase }, { on := 5, ground := Go.Ground.phase }, { on := 6, ground := Go.Ground.phase }, { on := 7, ground := Go.Ground.phase }, { on := 8, ground := Go.Ground.phase }, { on := 9, ground := Go.Ground.phase }, { on := 10, ground := Go.Ground.phase }, { on := 11, ground := Go.Ground.phase }, { on := 12, ground := Go.Ground.phase }, { on := 13, ground := Go.Ground.phase }, { on := 14, ground := Go.Ground.phase }, { on := 15, ground := Go.Ground.phase }, { on := 16, ground := Go.Ground.phase }, { on := 17, ground := Go.Ground.phase }, { on := 18, ground := Go.Ground.phase }, { on := 19, ground := Go.Ground.phase }, { on := 20, ground := Go.Ground.phase }, { on := 21, ground := Go.Ground.phase }, { on := 22, ground := Go.Ground.phase }, { on := 23, ground := Go.Ground.phase }, { on := 24, ground := Go.Ground.phase }, { on := 25, ground := Go.Ground.phase }, { on := 26, ground := Go.Ground.phase }, { on := 27, ground := Go.Ground.phase }, { on := 28, ground := Go.Ground.phase }, { on := 29, ground := Go.Ground.phase }, { on := 30, ground := Go.Ground.phase }, { on := 31, ground := Go.Ground.phase }, { on := 32, ground := Go.Ground.phase }, { on := 33, ground := Go.Ground.phase }, { on := 34, ground := Go.Ground.phase }, { on := 35, ground := Go.Ground.phase }, { on := 36, ground := Go.Ground.phase }, { on := 37, ground := Go.Ground.phase }, { on := 38, ground := Go.Ground.phase }, { on := 39, ground := Go.Ground.phase }, { on := 40, ground := Go.Ground.phase }, { on := 41, ground := Go.Ground.phase }, { on := 42, ground := Go.Ground.phase }], guard := none }] false).seq Go.Code.ret)))))))))
def cA39 : Code := ((Go.Code.region 0 #[{ dst := some 0, op := Go.Op.alloc 4, type := 0, pos := "law.go:262", after := #[], guard := none }] false).seq (((Go.Code.region 1 #[{ dst := some 17, op := Go.Op.build 89 #[], type := 89, pos := "law.go:263", after := #[], guard := none }, { dst := some 18, op := Go.Op.box 89 (Go.Operand.tmp 17), type := 53, pos := "law.go:263", after := #[{ on := 0, ground := Go.Ground.data }], guard := none }, { dst := some 19, op := Go.Op.buildSlice 101 2 #[(0, Go.Operand.const (Go.Value.pointer none)), (1, Go.Operand.tmp 18)], type := 101, pos := "law.go:263", after := #[{ on := 1, ground := Go.Ground.data }], guard := none }, { dst := some 20, op := Go.Op.call { callee := Go.Callee.builtin Go.Builtin.len, args := #[Go.Operand.tmp 19], argTypes := #[101] }, type := 3, pos := "law.go:263", after := #[{ on := 2, ground := Go.Ground.data }], guard := none }, { dst := some 21, op := Go.Op.move (Go.Operand.const (Go.Value.int Go.IntKind.i64 0)), type := 3, pos := "law.go:263", after := #[], guard := none }] false).seq (Go.Code.block 0 cL)).seq cF39))
def e39 (B R : Nat) (k : Int) (f : Nat → Value) : Array Value := #[.pointer (some ⟨B, 0, none⟩), f 1, f 2, f 3, f 4, f 5, f 6, f 7, f 8, f 9, f 10, f 11, f 12, f 13, f 14, f 15, f 16, f 17, f 18, .slice (some ⟨R, 0, none⟩) 2 2, .int .i64 2, .int .i64 k, f 22, f 23, f 24, f 25, f 26, f 27, f 28, f 29, f 30, f 31, f 32, f 33, f 34, f 35, f 36, f 37, f 38, f 39, f 40, f 41, f 42, f 43, f 44, f 45, f 46, f 47, f 48, f 49, f 50, f 51, f 52, f 53, f 54, f 55, f 56, f 57, f 58, f 59, f 60, f 61, f 62, f 63, f 64, f 65, f 66, f 67, f 68, f 69, f 70, f 71, f 72, f 73, f 74, f 75, f 76, f 77, f 78, f 79, f 80, f 81, f 82, f 83, f 84, f 85, f 86, f 87, f 88, f 89, f 90, f 91, f 92, f 93, f 94, f 95, f 96, f 97, f 98, f 99, f 100, f 101, f 102, f 103, f 104, f 105, f 106, f 107, f 108, f 109, f 110, f 111, f 112, f 113, f 114, f 115, f 116, f 117, f 118, f 119, f 120, f 121, f 122, f 123, f 124, f 125, f 126]
def e39f (B : Nat) (f : Nat → Value) : Array Value := #[.pointer (some ⟨B, 0, none⟩), f 1, f 2, f 3, f 4, f 5, f 6, f 7, f 8, f 9, f 10, f 11, f 12, f 13, f 14, f 15, f 16, f 17, f 18, f 19, f 20, f 21, f 22, f 23, f 24, f 25, f 26, f 27, f 28, f 29, f 30, f 31, f 32, f 33, f 34, f 35, f 36, f 37, f 38, f 39, f 40, f 41, f 42, f 43, f 44, f 45, f 46, f 47, f 48, f 49, f 50, f 51, f 52, f 53, f 54, f 55, f 56, f 57, f 58, f 59, f 60, f 61, f 62, f 63, f 64, f 65, f 66, f 67, f 68, f 69, f 70, f 71, f 72, f 73, f 74, f 75, f 76, f 77, f 78, f 79, f 80, f 81, f 82, f 83, f 84, f 85, f 86, f 87, f 88, f 89, f 90, f 91, f 92, f 93, f 94, f 95, f 96, f 97, f 98, f 99, f 100, f 101, f 102, f 103, f 104, f 105, f 106, f 107, f 108, f 109, f 110, f 111, f 112, f 113, f 114, f 115, f 116, f 117, f 118, f 119, f 120, f 121, f 122, f 123, f 124, f 125, f 126]
set_option maxHeartbeats 8000000 in
/-- A range over what tells nothing. -/
theorem rng_mute (A : Act) (X : World) (bk : Nat) (RO : Nat → Prop) (hg : A.eval (.tmp 35) = .func (.func 56) #[] #[.pointer (some ⟨bk, 0, none⟩)]) (hlt : ∀ i, RO i → i < X.heap.size) (hm : Mute bk RO X) :
    cG.wpIn Fence.wide 20 Try.prog (postN (fun a' Z => ∃ D, a' = { A with defers := { target := .collected D, args := #[] } :: A.defers } ∧ X.heap.size ≤ D ∧ Z.heap[D]? = some (.deferred (some [])) ∧ Kp (fun _ => False) X Z)) A X := by
  unfold cG
  refine wpIn_rangeFunc_W rfl (by omega) (gf := 56) (pb := #[]) (lb := #[.pointer (some ⟨bk, 0, none⟩)]) hg trivial (enters_of Try.func56 (by kernel_rfl) rfl) hm ?hS ?hSx hlt (Below.refl _ _) (fun _ => rfl)
    (fun pre O Z => Kp RO X Z ∧ (∀ i, O i → RO i ∨ X.heap.size + 2 ≤ i) ∧ X.heap.size + 2 ≤ Z.heap.size) (fun c _ O Z => Kp RO X Z ∧ False) ?hI ?hIx ?hI2 ?hIx2 ?h0
    (fun x a' Z => True) (fun x a' X o' h => h) ?assign ?body ?done ?stop
  case hS =>
    intro xs Z r o' hs hl
    exact fun i hi => ((kp_putO Z (X.heap.size + 1) o').block i (kr_lt hs hi (hlt i hi)) (by have := hlt i hi; omega)).trans (hs i hi)
  case hSx =>
    intro xs Z r o' hs hl
    exact fun i hi => ((kp_putO Z (X.heap.size + 1) o').block i (kr_lt hs hi (hlt i hi)) (by have := hlt i hi; omega)).trans (hs i hi)
  case hI => exact fun s O U V h k => ⟨h.1.trans k (fun i hi ho => (h.2.1 i ho).resolve_right (by omega)), fun i hi => by
    rcases hi with hi | hi
    · exact h.2.1 i hi
    · have := h.2.2; right; omega, Nat.le_trans h.2.2 k.size⟩
  case hIx => exact fun c s O U V h k => h.2.elim
  case hI2 => exact fun s O Z o' h hlt => ⟨h.1.trans (kp_putO Z _ o') (fun i hi e => by omega), h.2.1, by simpa using h.2.2⟩
  case hIx2 => exact fun c s O Z o' h hlt => h.2.elim
  case h0 =>
    intro r
    exact ⟨((Kp.refl _ _).alloc _).alloc _, fun i hi => Or.inl hi, by simp⟩
  case assign =>
    intro l' pre O x Z1 Kk hll hsz hi hK
    obtain ⟨xk, xa⟩ := x
    gi_wp2
    exact hK _ _ (Kp.refl _ _) hi trivial
  case body =>
    intro l' pre O x a' Z hll hsz n1 n2 hi ha hp
    exact hp.elim
  case done =>
    intro D xs O Z hD hS hi hdd
    exact ⟨D, rfl, by omega, hdd, kr_kp hi.1 (fun i _ hi => hS i hi)⟩
  case stop =>
    intro D c pre O Z hD hS hi hdd
    exact hi.2.elim
theorem row_i (U : World) (xs : List Int) : Src .i64 (U.alloc (.cells (xs.map (Value.int .i64)).toArray 3)) (some ⟨U.heap.size, 0, none⟩) xs := row_src (tl := []) (by rw [List.append_nil]; exact heap_alloc_new U _)
theorem row_b (U : World) (xs : List Int) : Src .u8 (U.alloc (.cells (xs.map (Value.int .u8)).toArray 5)) (some ⟨U.heap.size, 0, none⟩) xs := row_src (ε := 5) (tl := []) (by rw [List.append_nil]; exact heap_alloc_new U _)
theorem newk (U : World) : Calls Try.prog 31 #[] U fun e w' => ∃ g, e = .returned (.pointer (some ⟨g, 0, none⟩)) ∧ Kp (fun _ => False) U w' := by
  refine (Bz.newO U).mono ?_
  rintro e w' ⟨g, rfl, sl, hw, k, _⟩
  exact ⟨g, rfl, kpB k⟩
theorem rdk (U : World) : Calls Try.prog 40 #[.slice (some ⟨U.heap.size, 0, none⟩) 1 1] (U.alloc (.cells #[.int .u8 1] 5)) fun e w' => ∃ g G, e = .returned (.pointer (some ⟨g, 0, none⟩)) ∧ U.heap.size < g ∧ Bz.Rd w' g (some ⟨G, 0, none⟩) 1 [1] 0 ∧ Kp (fun _ => False) U w' := by
  refine (Bz.newr_any (some ⟨U.heap.size, 0, none⟩) 1 [1] (U.alloc (.cells #[.int .u8 1] 5)) (by simp) (by intro z hz; simp at hz; subst hz; decide) (row_b U [1])).mono ?_
  rintro e w' ⟨g, G, rfl, hg, _, h, k⟩
  rw [World.size_alloc] at hg
  exact ⟨g, G, rfl, by omega, h, ((Kp.refl _ _).alloc _).trans (kpB k) (fun _ _ x => x)⟩
theorem new11k (U : World) : Calls Try.prog 26 #[.slice (some ⟨U.heap.size, 0, none⟩) 2 2] (U.alloc (.cells #[.int .i64 1, .int .i64 1] 3)) fun e w' => ∃ g, e = .returned (.tuple #[.pointer (some ⟨g, 0, none⟩), .int .i64 0]) ∧ Kp (fun _ => False) U w' := by
  refine (new_ok ⟨U.heap.size, 0, none⟩ 2 [1, 1] _ (row_i U [1, 1]) may_11 (by intro z hz; simp at hz; rw [hz]; decide) (by simp)).mono ?_
  rintro e w' ⟨g, la, ca, sa, lc, cc, sc, S, rfl, _, _, _, k⟩
  exact ⟨g, rfl, ((Kp.refl _ _).alloc _).trans (Kp.of_below k) (fun _ _ x => x)⟩
theorem takez (U : World) (g gr G : Nat) (s : Sc 89 U g (cdc none none none 0 0 0 [] [])) (hr : Bz.Rd U gr (some ⟨G, 0, none⟩) 1 [1] 0) (hne : g < gr) (X : World) (hx : gr ≥ X.heap.size) (k0 : Kp (fun _ => False) X U) :
    Calls Try.prog 41 #[.pointer (some ⟨g, 0, none⟩), .pointer (some ⟨gr, 0, none⟩)] U fun e w' => e = .returned (.tuple #[.int .i64 0, .int .i64 131]) ∧ Kp (fun _ => False) X w' := by
  refine (take_any U g gr none none none (some ⟨G, 0, none⟩) 0 0 0 1 [] [] [1] 0 (cd_zero U g s) hr ?_).mono ?_
  · rintro i (rfl | ⟨off, e | e | e⟩)
    · omega
    all_goals cases e
  · rintro e w' ⟨sy, er, n, rfl, hd, _, _, k⟩
    have hz : Dec [] (bt (Bz.und 256 [1]) 0) (min 15 (8 * [1].length - 0)) 0 0 131 := .inr (.inl ⟨rfl, rfl, rfl, 0, by decide, Nm.zero _ _, by decide⟩)
    obtain ⟨rfl, _, rfl⟩ := Dec.uniq (by intro z hz; simp at hz) (by decide) hd hz
    exact ⟨rfl, k0.trans k (fun i hi e => by omega)⟩
set_option maxHeartbeats 8000000 in
theorem round39 (X : World) (B R k : Nat) (hk : k < 2) (p : Option Addr) (ds : List Deferred) (f : Nat → Value) (hc : X.cell? ⟨R, k, none⟩ = some (.pointer p))
    (hL : ∀ U, Kp (fun _ => False) X U → Calls Try.prog 28 #[.pointer p] U fun e w' => ∃ ao c, e = .returned (.slice ao 0 c) ∧ Kp (fun _ => False) U w')
    (hM : ∀ U bk, Kp (fun _ => False) X U → X.heap.size ≤ bk → Sc 53 U bk #[.pointer p] → ∃ RO, (∀ i, RO i → i < U.heap.size) ∧ Mute bk RO U) :
    cB.wpIn Fence.wide 20 Try.prog (postN (fun a' Z => ∃ D, (∃ f', a' = { tmps := e39 B R (k : Int) f', defers := { target := .collected D, args := #[] } :: ds }) ∧ X.heap.size ≤ D ∧ Z.heap[D]? = some (.deferred (some [])) ∧ Kp (fun _ => False) X Z)) { tmps := e39 B R (k : Int) f, defers := ds } X := by
  have HL := hid hL
  have HM := hid hM
  have k1 : Kp (fun _ => False) X (X.alloc (.cells #[.pointer p] 53)) := (Kp.refl _ _).alloc _
  have S1 : Hid (Sc 53 (X.alloc (.cells #[.pointer p] 53)) X.heap.size #[.pointer p]) := Sc.new 53 X _
  have K1 := hid k1
  have hnf : ∀ U : World, (binOp .eql 59 (.func (.func 56) #[] #[.pointer (some ⟨X.heap.size, 0, none⟩)]) .nilFunc).run Try.prog U = .ok (.bool false) U := fun _ => rfl
  clear hL hM k1
  unfold cB e39
  generalize hQ : postN _ = QQ
  refine wpIn_wide.2 ?_
  go_wp2_with (first | (go_at_call 30; refine (all_any p X).mono ?_; rintro e w1 ⟨rfl, rfl⟩))
  refine (HL.out _ K1.out).mono ?_
  rintro e w2 ⟨ao, c, rfl, k2⟩
  have S2 := hid (S1.out.kp k2 (fun h => h))
  have K2 := hid (K1.out.trans k2 (fun _ _ x => x))
  clear k2
  go_wp2_with fail
  refine (wpIn_wide (n := 20)).1 ?_
  obtain ⟨RO, hRO, hMu⟩ := HM.out _ _ K2.out (Nat.le_refl _) S2.out
  refine wpIn_mono (rng_mute _ w2 X.heap.size RO rfl hRO hMu) ?_
  intro e a1 Z hh
  cases e with
  | normal =>
    obtain ⟨D, rfl, hD, hd, k3⟩ := hh
    subst hQ
    exact ⟨D, act_of (E := e39 B R (k : Int)) (by kernel_rfl) rfl, Nat.le_trans K2.out.size hD, hd, K2.out.trans k3 (fun _ _ x => x)⟩
  | _ => exact hh.elim
set_option maxHeartbeats 8000000 in
theorem loop39 (X : World) (B R g : Nat) (f : Nat → Value) (hR : Sc 53 X R #[.pointer none, .pointer (some ⟨g, 0, none⟩)]) (hz : Sc 89 X g (cdc none none none 0 0 0 [] [])) :
    cL.wpIn Fence.wide 20 Try.prog (postE 0 (fun a' Z => ∃ D0 D1, (∃ f', a' = { tmps := e39f B f', defers := [{ target := .collected D1, args := #[] }, { target := .collected D0, args := #[] }] }) ∧ X.heap.size ≤ D0 ∧ D0 < D1 ∧ Z.heap[D0]? = some (.deferred (some [])) ∧ Z.heap[D1]? = some (.deferred (some [])) ∧ Kp (fun _ => False) X Z)) { tmps := e39 B R ((0 : Nat) : Int) f, defers := [] } X := by
  have R0 := hid (fun (U : World) (k : Kp (fun _ => False) X U) (A : Act) (ds : List Deferred) (ht : A.tmps = e39 B R ((0 : Nat) : Int) (fun i => A.tmps.getD i undef)) (hd : A.defers = ds) => (by
    obtain ⟨f, rfl⟩ := act_of ht hd
    refine round39 U B R 0 (by omega) none ds f ((hR.kp k (fun h => h)).cell 0) ?_ ?_
    · intro V kv
      refine (lengths_nil V).mono ?_
      rintro e w' ⟨rfl, rfl⟩
      exact ⟨none, 0, rfl, Kp.refl _ _⟩
    · intro V bk kv hb hs
      exact ⟨_, (fun i hi => by rw [hi]; exact hs.lt), mute_none hs⟩ : cB.wpIn Fence.wide 20 Try.prog (postN (fun a' Z => ∃ D, (∃ f', a' = { tmps := e39 B R ((0 : Nat) : Int) f', defers := { target := .collected D, args := #[] } :: ds }) ∧ U.heap.size ≤ D ∧ Z.heap[D]? = some (.deferred (some [])) ∧ Kp (fun _ => False) U Z)) A U))
  have R1 := hid (fun (U : World) (k : Kp (fun _ => False) X U) (A : Act) (ds : List Deferred) (ht : A.tmps = e39 B R ((1 : Nat) : Int) (fun i => A.tmps.getD i undef)) (hd : A.defers = ds) => (by
    obtain ⟨f, rfl⟩ := act_of ht hd
    have hz1 := hz.kp k (fun h => h)
    refine round39 U B R 1 (by omega) (some ⟨g, 0, none⟩) ds f ((hR.kp k (fun h => h)).cell 1) ?_ ?_
    · intro V kv
      refine (lengths_any g none none none 0 0 0 [] [] V (cd_zero V g (hz1.kp kv (fun h => h)))).mono ?_
      rintro e w' ⟨ao, c, rfl, _, b⟩
      exact ⟨ao, c, rfl, Kp.of_below b⟩
    · intro V bk kv hb hs
      have h2 := hz1.kp kv (fun h => h)
      exact ⟨_, mute_roa hs h2, mute_zero hs h2 (by have := hz1.lt; omega)⟩ : cB.wpIn Fence.wide 20 Try.prog (postN (fun a' Z => ∃ D, (∃ f', a' = { tmps := e39 B R ((1 : Nat) : Int) f', defers := { target := .collected D, args := #[] } :: ds }) ∧ U.heap.size ≤ D ∧ Z.heap[D]? = some (.deferred (some [])) ∧ Kp (fun _ => False) U Z)) A U))
  clear hR hz
  unfold cL e39
  generalize hQ : postE 0 _ = QQ
  refine wpIn_loop_rounds 3 ?_
  rw [roundsIn_succ]
  gi_wp2_with fail
  refine wpIn_mono (R0.out X (Kp.refl _ _) _ [] ?h1 rfl) ?_
  case h1 => kernel_rfl
  intro e a1 X1 hh
  cases e with
  | normal =>
    obtain ⟨D0, ⟨f1, rfl⟩, hD0, hd0, k1⟩ := hh
    have K1 := hid k1
    have HD0 := hid hD0
    have HH0 := hid hd0
    clear k1 hD0 hd0
    unfold e39
    gi_wp2_with fail
    rw [roundsIn_succ]
    gi_wp2_with fail
    refine wpIn_mono (R1.out X1 K1.out _ [{ target := .collected D0, args := #[] }] ?h2 rfl) ?_
    case h2 => kernel_rfl
    intro e a2 X2 hh
    cases e with
    | normal =>
      obtain ⟨D1, ⟨f2, rfl⟩, hD1, hd1, k2⟩ := hh
      have K2 := hid (K1.out.trans k2 (fun _ _ x => x))
      have HD1 : Hid (D0 < D1) := by have := (Array.getElem?_eq_some_iff.1 HH0.out).1; show _ < _; omega
      have HH1 := hid hd1
      have H20 : Hid (X2.heap[D0]? = some (.deferred (some []))) := (k2.block D0 (Array.getElem?_eq_some_iff.1 HH0.out).1 (fun x => x)).trans HH0.out
      clear k2 hD1 hd1
      unfold e39
      gi_wp2_with fail
      rw [roundsIn_succ]
      gi_wp2_with fail
      subst hQ
      exact ⟨rfl, D0, D1, act_of (E := e39f B) (by kernel_rfl) rfl, HD0.out, HD1.out, H20.out, HH1.out, K2.out⟩
    | _ => exact hh.elim
  | _ => exact hh.elim
theorem leaves_two {F : Fence} {n : Nat} {fn : Func} {tmps : Array Value} {R : Ending → World → Prop} (D0 D1 : Nat) (w : World) (hne : D0 < D1) (h0 : w.heap[D0]? = some (.deferred (some []))) (h1 : w.heap[D1]? = some (.deferred (some [])))
    (fin : ∀ w', Kp (fun i => i = D0 ∨ i = D1) w w' → LeavesInM F n Try.prog fn tmps R [] .returning w') : LeavesInM F n Try.prog fn tmps R [{ target := .collected D1, args := #[] }, { target := .collected D0, args := #[] }] .returning w := by
  have k1 : Kp (fun i => i = D0 ∨ i = D1) w (w.putObj D1 (.deferred none)) := (kp_putO w D1 _).mono (fun _ _ h => .inr h)
  have h2 : (w.putObj D1 (.deferred none)).heap[D0]? = some (.deferred (some [])) := ((kp_putO w D1 (.deferred none)).block D0 (Array.getElem?_eq_some_iff.1 h0).1 (by omega)).trans h0
  have k2 : Kp (fun i => i = D0 ∨ i = D1) w ((w.putObj D1 (.deferred none)).putObj D0 (.deferred none)) := k1.trans ((kp_putO _ D0 _).mono (G := fun i => i = D0 ∨ i = D1) (fun _ _ h => .inl h)) (fun _ _ h => h)
  refine ⟨by simp, .inl ⟨_, _, rfl, run_takeDeferred h1, ?_⟩⟩
  refine ⟨by simp, .inl ⟨_, _, rfl, run_takeDeferred h2, ?_⟩⟩
  exact fin _ k2
def zC : Array Value := #[.slice none 0 0, .slice none 0 0, .int .i64 0, .int .i64 0, .int .i64 0, .int .i64 0, .int .i64 0, .int .i64 0, .int .i64 0, .int .i64 0, .int .i64 0, .int .i64 0, .int .i64 0, .int .i64 0, .int .i64 0, .int .i64 0, .int .i64 0, .int .i64 0, .int .i64 0, .slice none 0 0]
theorem zc_cdc : cdc none none none 0 0 0 [] [] = zC := by kernel_rfl
set_option maxHeartbeats 8000000 in
theorem tail39 (w X : World) (B D0 D1 : Nat) (f : Nat → Value) (hw : Kp (fun _ => False) w X) (hB : w.heap.size ≤ B) (hBX : B < D0) (hlt : D0 < D1) (sB : Sc 4 X B #[.bool false]) (h0 : X.heap[D0]? = some (.deferred (some []))) (h1 : X.heap[D1]? = some (.deferred (some []))) :
    cF39.wpIn Fence.wide 20 Try.prog (bodyPostM Fence.wide 20 Try.prog Try.f39 (fun e w' => e = .returned (.bool true) ∧ Kp (fun _ => False) w w'))
      { tmps := e39f B f, defers := [{ target := .collected D1, args := #[] }, { target := .collected D0, args := #[] }] } X := by
  have HNU := hid num_any
  have HNW := hid newk
  have HRD := hid rdk
  have HN1 := hid new11k
  have FIN : Hid (∀ Z (tm : Array Value), Kp (fun _ => False) X Z → tm.getD 0 undef = .pointer (some ⟨B, 0, none⟩) → LeavesInM Fence.wide 20 Try.prog Try.f39 tm (fun e w' => e = .returned (.bool true) ∧ Kp (fun _ => False) w w') [{ target := .collected D1, args := #[] }, { target := .collected D0, args := #[] }] .returning (Z.setCell ⟨B, 0, none⟩ (.bool true))) := by
    intro Z tm kz ht
    have kb := kp_setC Z B 0 (.bool true) (fun i => i = B) rfl
    have sb := (sB.kp kz (fun h => h)).set 0 (.bool true)
    have g0 := (kz.block D0 (Array.getElem?_eq_some_iff.1 h0).1 (fun x => x)).trans h0
    have g1 := (kz.block D1 (Array.getElem?_eq_some_iff.1 h1).1 (fun x => x)).trans h1
    refine leaves_two D0 D1 _ hlt ((kb.block D0 (Array.getElem?_eq_some_iff.1 g0).1 (by omega)).trans g0) ((kb.block D1 (Array.getElem?_eq_some_iff.1 g1).1 (by omega)).trans g1) (fun w' k => ?_)
    refine ⟨_, results_cell1 Try.results39 _ _ B ht (load_b4 ((sb.kp k (by omega)).cell 0)), rfl, ?_⟩
    exact (((hw.trans kz (fun _ _ h => h)).trans kb (fun i hi e => by omega)).trans k (fun i hi e => by omega))
  have SB := hid sB
  clear hw hB hBX hlt sB h0 h1
  unfold cF39 e39f
  generalize hQ : bodyPostM _ _ _ _ _ = QQ
  refine wpIn_wide.2 ?_
  go_wp2_with fail
  refine (HNW.out X).mono ?_
  rintro e w1 ⟨g1, rfl, k1⟩
  have K1 := hid k1
  clear k1
  go_wp2_with fail
  have k1b : Kp (fun _ => False) w1 (w1.alloc (.cells #[.int .i64 1] 3)) := (Kp.refl _ _).alloc _
  refine (put_nil _ _ _).mono ?_
  rintro e w2 ⟨rfl, rfl⟩
  have K2 := hid (K1.out.trans k1b (fun _ _ x => x))
  clear k1b
  generalize w1.alloc (.cells #[.int .i64 1] 3) = v2 at *
  go_wp2_with fail
  refine (HRD.out v2).mono ?_
  rintro e w3 ⟨g3, G3, rfl, _, _, k3⟩
  have K3 := hid (K2.out.trans k3 (fun _ _ x => x))
  clear k3
  go_wp2_with fail
  refine (take_nil _ _).mono ?_
  rintro e w4 ⟨rfl, rfl⟩
  go_wp2_with fail
  refine (HN1.out w3).mono ?_
  rintro e w5 ⟨g5, rfl, k5⟩
  have K5 := hid (K3.out.trans k5 (fun _ _ x => x))
  clear k5
  go_wp2_with (first | (go_at_call 13; refine (HNU.out _ _).mono ?_; rintro e1 wx ⟨rfl, rfl⟩))
  have k6 : Kp (fun _ => False) w5 (w5.alloc (.cells #[.int .i64 9] 3)) := (Kp.refl _ _).alloc _
  refine (put_nilw _ _ _).mono ?_
  rintro e w6 ⟨rfl, rfl⟩
  have K6 := hid (K5.out.trans k6 (fun _ _ x => x))
  clear k6
  generalize w5.alloc (.cells #[.int .i64 9] 3) = v6 at *
  go_wp2_with fail
  refine (take_nilr _ _).mono ?_
  rintro e w7 ⟨rfl, rfl⟩
  go_wp2_with fail
  have n1 : Hid (Sc 89 (v6.alloc (.cells #[.slice none 0 0, .slice none 0 0, .int .i64 0, .int .i64 0, .int .i64 0, .int .i64 0, .int .i64 0, .int .i64 0, .int .i64 0, .int .i64 0, .int .i64 0, .int .i64 0, .int .i64 0, .int .i64 0, .int .i64 0, .int .i64 0, .int .i64 0, .int .i64 0, .int .i64 0, .slice none 0 0] 89)) v6.heap.size zC) := Sc.new 89 v6 _
  have k7 : Kp (fun _ => False) v6 (v6.alloc (.cells #[.slice none 0 0, .slice none 0 0, .int .i64 0, .int .i64 0, .int .i64 0, .int .i64 0, .int .i64 0, .int .i64 0, .int .i64 0, .int .i64 0, .int .i64 0, .int .i64 0, .int .i64 0, .int .i64 0, .int .i64 0, .int .i64 0, .int .i64 0, .int .i64 0, .int .i64 0, .slice none 0 0] 89)) := (Kp.refl _ _).alloc _
  have K7 := hid (K6.out.trans k7 (fun _ _ x => x))
  have HSZ : Hid ((v6.alloc (.cells #[.slice none 0 0, .slice none 0 0, .int .i64 0, .int .i64 0, .int .i64 0, .int .i64 0, .int .i64 0, .int .i64 0, .int .i64 0, .int .i64 0, .int .i64 0, .int .i64 0, .int .i64 0, .int .i64 0, .int .i64 0, .int .i64 0, .int .i64 0, .int .i64 0, .int .i64 0, .slice none 0 0] 89)).heap.size = v6.heap.size + 1) := World.size_alloc ..
  have H6 := hid (HRD.out (v6.alloc (.cells #[.slice none 0 0, .slice none 0 0, .int .i64 0, .int .i64 0, .int .i64 0, .int .i64 0, .int .i64 0, .int .i64 0, .int .i64 0, .int .i64 0, .int .i64 0, .int .i64 0, .int .i64 0, .int .i64 0, .int .i64 0, .int .i64 0, .int .i64 0, .int .i64 0, .int .i64 0, .slice none 0 0] 89)))
  clear k7
  generalize v6.alloc (.cells #[.slice none 0 0, .slice none 0 0, .int .i64 0, .int .i64 0, .int .i64 0, .int .i64 0, .int .i64 0, .int .i64 0, .int .i64 0, .int .i64 0, .int .i64 0, .int .i64 0, .int .i64 0, .int .i64 0, .int .i64 0, .int .i64 0, .int .i64 0, .int .i64 0, .int .i64 0, .slice none 0 0] 89) = v7 at *
  have HS7 := HSZ.out
  rw [← HS7]
  clear HS7
  refine H6.out.mono ?_
  rintro e w8 ⟨g8, G8, rfl, hg8, r8, k8⟩
  have n8 := n1.out.kp k8 (fun h => h)
  rw [← zc_cdc] at n8
  have HTZ := hid (takez w8 v6.heap.size g8 G8 n8 r8 (by have := HSZ.out; omega) v7 (by omega) k8)
  clear hg8 r8 k8 n8
  generalize v6.heap.size = g7 at *
  go_wp2_with fail
  refine HTZ.out.mono ?_
  rintro e w9 ⟨rfl, k9⟩
  have K9 := hid (K7.out.trans k9 (fun _ _ x => x))
  have SB9 := SB.out.kp K9.out (fun h => h)
  have fB := SB9.frozen 0
  have cB9 : w9.cell? ⟨B, 0, none⟩ = some (.bool false) := SB9.cell 0
  have lB := SB9.lt
  clear k9 SB9
  go_wp2_with (first | (go_at_call 13; refine (HNU.out _ _).mono ?_; rintro e1 wx ⟨rfl, rfl⟩))
  subst hQ
  exact FIN.out w9 _ K9.out rfl
set_option maxHeartbeats 8000000 in
theorem nothing_any (w : World) : Calls Try.prog 39 #[] w fun e w' => e = .returned (.bool true) ∧ Kp (fun _ => False) w w' := by
  refine (callsIn_wide (n := 20)).1 ?_
  refine callsIn_of_wp_marks (c := cA39) Try.func39 (by kernel_rfl) trivial ?_ rfl
  simp only [Try.ntmps39, List.size_toArray, List.length_cons, List.length_nil, Nat.reduceAdd, Nat.reduceSub, Array.replicate_succ, Array.replicate_zero, List.push_toArray, List.append_toArray, List.nil_append, List.cons_append]
  unfold cA39
  generalize hQ : bodyPostM _ _ _ _ _ = QQ
  gi_wp2_with fail
  have q1 : Sc 4 (w.alloc (.cells #[.bool false] 4)) w.heap.size #[.bool false] := Sc.new 4 w _
  have q2 := Sc.new 89 (w.alloc (.cells #[.bool false] 4)) zC
  have q3 := Sc.new 53 ((w.alloc (.cells #[.bool false] 4)).alloc (.cells zC 89)) #[.pointer none, .pointer (some ⟨w.heap.size + 1, 0, none⟩)]
  simp only [World.size_alloc] at q2 q3
  have k2 : Kp (fun _ => False) (w.alloc (.cells #[.bool false] 4)) (((w.alloc (.cells #[.bool false] 4)).alloc (.cells zC 89)).alloc (.cells #[.pointer none, .pointer (some ⟨w.heap.size + 1, 0, none⟩)] 53)) := ((Kp.refl _ _).alloc _).alloc _
  have k3 : Kp (fun _ => False) ((w.alloc (.cells #[.bool false] 4)).alloc (.cells zC 89)) (((w.alloc (.cells #[.bool false] 4)).alloc (.cells zC 89)).alloc (.cells #[.pointer none, .pointer (some ⟨w.heap.size + 1, 0, none⟩)] 53)) := (Kp.refl _ _).alloc _
  have k0 : Kp (fun _ => False) w (w.alloc (.cells #[.bool false] 4)) := (Kp.refl _ _).alloc _
  have S4 := hid (q1.kp k2 (fun h => h))
  have S89 := hid (q2.kp k3 (fun h => h))
  have S53 := hid q3
  have K0 := hid (k0.trans k2 (fun _ _ h => h))
  rw [← zc_cdc] at S89
  have LP := hid (fun (Y : World) (A : Act) (B R g : Nat) (ht : A.tmps = e39 B R ((0 : Nat) : Int) (fun i => A.tmps.getD i undef)) (hd : A.defers = []) (h1 : Sc 53 Y R #[.pointer none, .pointer (some ⟨g, 0, none⟩)]) (h2 : Sc 89 Y g (cdc none none none 0 0 0 [] [])) => (by
    obtain ⟨f, rfl⟩ := act_of ht hd
    exact loop39 Y B R g f h1 h2 : cL.wpIn Fence.wide 20 Try.prog (postE 0 (fun a' Z => ∃ D0 D1, (∃ f', a' = { tmps := e39f B f', defers := [{ target := .collected D1, args := #[] }, { target := .collected D0, args := #[] }] }) ∧ Y.heap.size ≤ D0 ∧ D0 < D1 ∧ Z.heap[D0]? = some (.deferred (some [])) ∧ Z.heap[D1]? = some (.deferred (some [])) ∧ Kp (fun _ => False) Y Z)) A Y))
  clear q1 q2 q3 k0 k2 k3
  refine wpIn_mono (LP.out _ _ w.heap.size (w.heap.size + 1 + 1) (w.heap.size + 1) ?h1 rfl S53.out S89.out) ?_
  case h1 => kernel_rfl
  intro e a1 Z hh
  cases e with
  | exit id =>
    obtain ⟨rfl, D0, D1, ⟨f1, rfl⟩, hD0, hD1, h0, h1, k1⟩ := hh
    have HB : Hid (w.heap.size < D0) := Nat.lt_of_lt_of_le S4.out.lt hD0
    have KZ := hid (K0.out.trans k1 (fun _ _ h => h))
    have SZ := hid (S4.out.kp k1 (fun h => h))
    have H0 := hid h0
    have H1 := hid h1
    have HD1 := hid hD1
    clear k1 h0 h1 hD0 hD1 S4 S89 S53 K0 LP
    gi_wp2_with fail
    subst hQ
    exact tail39 w Z w.heap.size D0 D1 f1 KZ.out (Nat.le_refl _) HB.out HD1.out SZ.out H0.out H1.out
  | _ => exact hh.elim
end Go.Proofs.Ythpocbpleffdpaa
