/- later: together. -/
import Derived.Test.YtgfondgejimkkaaCn
import Derived.Test.YtgfondgejimkkaaSo
import Derived.Test.YtgfondgejimkkaaLa
namespace Go.Proofs.Ytgfondgejimkkaa
open Go.RowKit
set_option linter.unusedVariables false
set_option linter.unusedSimpArgs false
theorem ite_neg3 {b : Bool} {a c : Prop} (h : b = false) (k : c) : (if b = true then a else c) := by rw [h, if_neg (by simp)]; exact k
theorem tog_nil : tog [] = [] := by simp [tog, mrg]
/-- The row while it is put together: what came of it in front, what is to come from k on. -/
structure Mr (w : World) (g cap : Nat) (M l : List Rn) (k : Nat) : Prop where
  ex : ∃ cur : List Value, w.heap[g]? = some (.cells cur.toArray 38 (0, 0)) ∧ cur.length = cap * 2 ∧ cur.take (M.length * 2) = flr M ∧ ∀ j, k * 2 ≤ j → j < l.length * 2 → cur[j]? = (flr l)[j]?
  ml : M.length ≤ k
  lc : l.length ≤ cap
theorem take_snocr' {D : List Rn} {k : Nat} (h : k < D.length) : D.take (k + 1) = D.take k ++ [D.getD k zRn] := by
  rw [List.take_add_one]
  simp [List.getD, List.getElem?_eq_getElem h]
theorem Mr.lt {w : World} {g cap : Nat} {M l : List Rn} {k : Nat} (h : Mr w g cap M l k) : g < w.heap.size := by
  obtain ⟨cur, hg, _⟩ := h.ex
  exact (Array.getElem?_eq_some_iff.1 hg).1
theorem Mr.below {w w' : World} {g cap b : Nat} {M l : List Rn} {k : Nat} (h : Mr w g cap M l k) (hb : Below b w w') (hl : g < b) : Mr w' g cap M l k := by
  obtain ⟨cur, hg, h2⟩ := h.ex
  exact ⟨⟨cur, (hb.block g hl).trans hg, h2⟩, h.ml, h.lc⟩
theorem Mr.kp {F : Nat → Prop} {w w' : World} {g cap : Nat} {M l : List Rn} {k : Nat} (h : Mr w g cap M l k) (kk : Kp F w w') (hf : ¬ F g) : Mr w' g cap M l k := by
  obtain ⟨cur, hg, h2⟩ := h.ex
  exact ⟨⟨cur, (kk.block g h.lt hf).trans hg, h2⟩, h.ml, h.lc⟩
theorem Mr.read {w : World} {g cap : Nat} {M l : List Rn} {k : Nat} (h : Mr w g cap M l k) (hk : k < l.length) : w.cell? ⟨g, k * 2, none⟩ = some (.int .i64 (l.getD k zRn).a) ∧ w.cell? ⟨g, k * 2 + 1, none⟩ = some (.int .i64 (l.getD k zRn).n) := by
  obtain ⟨cur, hg, _, _, h4⟩ := h.ex
  have g0 := flr_get l k 0 hk (by omega)
  have g1 := flr_get l k 1 hk (by omega)
  refine ⟨?_, ?_⟩
  · rw [cell_of_row w g _ _ 38 _ hg, List.getElem?_toArray, h4 (k * 2) (Nat.le_refl _) (by omega)]
    exact g0
  · rw [cell_of_row w g _ _ 38 _ hg, List.getElem?_toArray, h4 (k * 2 + 1) (by omega) (by omega)]
    exact g1
theorem Mr.last {w : World} {g cap : Nat} {A l : List Rn} {y : Rn} {k : Nat} (h : Mr w g cap (A ++ [y]) l k) : w.cell? ⟨g, A.length * 2, none⟩ = some (.int .i64 y.a) ∧ w.cell? ⟨g, A.length * 2 + 1, none⟩ = some (.int .i64 y.n) ∧ w.frozen? ⟨g, A.length * 2 + 1, none⟩ = false := by
  obtain ⟨cur, hg, _, h3, _⟩ := h.ex
  have hl : A.length < (A ++ [y]).length := by simp
  have hy : (A ++ [y]).getD A.length zRn = y := by simp
  have g0 := flr_get (A ++ [y]) A.length 0 hl (by omega)
  have g1 := flr_get (A ++ [y]) A.length 1 hl (by omega)
  rw [hy, ← h3] at g0 g1
  rw [List.getElem?_take_of_lt (by simp <;> omega)] at g0 g1
  refine ⟨?_, ?_, frozen_of_row w g _ _ 38 hg⟩
  · rw [cell_of_row w g _ _ 38 _ hg, List.getElem?_toArray]
    exact g0
  · rw [cell_of_row w g _ _ 38 _ hg, List.getElem?_toArray]
    exact g1
theorem Mr.set {w : World} {g cap : Nat} {A l : List Rn} {y : Rn} {k : Nat} (h : Mr w g cap (A ++ [y]) l k) (n : Int) : Mr (w.setCell ⟨g, A.length * 2 + 1, none⟩ (.int .i64 n)) g cap (A ++ [⟨y.a, n⟩]) l (k + 1) := by
  obtain ⟨cur, hg, h2, h3, h4⟩ := h.ex
  have hmk := h.ml
  simp at hmk
  refine ⟨⟨cur.set (A.length * 2 + 1) (.int .i64 n), ?_, by simpa using h2, ?_, fun j h1 h5 => ?_⟩, by simp; omega, h.lc⟩
  · rw [heap_setCell_same w g _ _ 38 _ hg]
    simp
  · have e : flr (A ++ [⟨y.a, n⟩]) = (flr (A ++ [y])).set (A.length * 2 + 1) (.int .i64 n) := by
      rw [flr_append, flr_append, List.set_append_right _ _ (by rw [flr_len]; omega), flr_len]
      have : A.length * 2 + 1 - A.length * 2 = 1 := by omega
      rw [this]
      simp [flr, Rn.cl]
    rw [e, ← h3, List.take_set]
    simp
  · rw [List.getElem?_set_ne (by omega)]
    exact h4 j (by omega) h5
theorem Mr.app {w : World} {g cap b : Nat} {M l : List Rn} {x : Rn} {k : Nat} (h : Mr w g cap M l k) (hk : k < l.length) (hb : St 38 w b x.cs) {ty : TypeId} :
    ∃ w', (Builtin.append_ #[22, 22] ty #[.slice (some ⟨g, 0, none⟩) M.length cap, .slice (some ⟨b, 0, none⟩) 1 1]).run Try.prog w = .ok (.slice (some ⟨g, 0, none⟩) (M.length + 1) cap) w' ∧ Mr w' g cap (M ++ [x]) l (k + 1) ∧ Kp (fun i => i = g) w w' := by
  obtain ⟨cur, hg, h2, h3, h4⟩ := h.ex
  obtain ⟨i0, hi, hz0, hz1, hz2⟩ := info_parts Try.inf38
  have hmk := h.ml
  have hlc := h.lc
  have hxl : x.cl.length = 2 := rfl
  have hr := run_append_room (P := Try.prog) w 22 ty 38 i0 Try.underlying22 hi g M.length cap cur.toArray hg ⟨b, 0, none⟩ 1 1 x.cl (by rw [hz1]; rfl) (fun j u hu => by rw [add_z, hb.cell j]; simpa [Rn.cs, Rn.cl] using hu) (fun u hu => by simp [Rn.cl] at hu; rcases hu with rfl | rfl <;> rfl) (by omega) (by rw [hz1, hxl]; simp; omega)
  rw [hz1, hxl] at hr
  refine ⟨_, hr, ⟨⟨cur.take (M.length * 2) ++ x.cl ++ cur.drop (M.length * 2 + 2), setRow_heap w g _ _ 38 _ hg, ?_, ?_, fun j h1 h5 => ?_⟩, by simp; omega, hlc⟩, kp_setRowr w g _⟩
  · simp [hxl, h2]
    omega
  · rw [h3, flr_append, List.length_append, List.length_singleton]
    have e : flr [x] = x.cl := by simp [flr]
    rw [e]
    have hl : (flr M ++ x.cl).length = (M.length + 1) * 2 := by rw [List.length_append, flr_len, hxl]; omega
    rw [← hl]
    exact List.take_left
  · have hlt : (cur.take (M.length * 2) ++ x.cl).length = M.length * 2 + 2 := by simp [hxl, h2]; omega
    rw [List.getElem?_append_right (by rw [hlt]; omega), hlt, List.getElem?_drop, show M.length * 2 + 2 + (j - (M.length * 2 + 2)) = j by omega]
    exact h4 j (by omega) h5
theorem Mr.start {w : World} {base g n cap : Nat} {l : List Rn} (h : w.ownsRow base 38 2 (.slice (some ⟨g, 0, none⟩) n cap) n (flr l)) (hl : l.length = n) : Mr w g cap [] l 0 ∧ base ≤ g ∧ cap ≤ maxLen := by
  rcases h.2 with ⟨e0, _⟩ | ⟨g', cap', cur, e0, hb, hg, hn, hm, hs, ht⟩
  · cases e0
  · cases e0
    refine ⟨⟨⟨cur.toList, by simpa using hg, by simpa using hs, by simp [flr], fun j h1 h2 => ?_⟩, Nat.le_refl _, by omega⟩, hb, hm⟩
    rw [← ht, List.getElem?_take_of_lt (by omega)]
theorem Mr.own {w : World} {base g cap : Nat} {M l : List Rn} {k : Nat} (h : Mr w g cap M l k) (hk : k ≤ l.length) (hb : base ≤ g) (hm : cap ≤ maxLen) : Ownr w base (.slice (some ⟨g, 0, none⟩) M.length cap) M := by
  obtain ⟨cur, hg, h2, h3, h4⟩ := h.ex
  have := h.ml
  have := h.lc
  exact ⟨flr_len M, .inr ⟨g, cap, cur.toArray, rfl, hb, hg, by omega, hm, by simpa using h2, by simpa using h3⟩⟩
def q42r8_0 : Oper := { dst := some 23, op := Go.Op.move (Go.Operand.tmp 7), type := 3, pos := "run.go:24", after := #[], guard := none }
def q42r8_1 : Oper := { dst := some 24, op := Go.Op.binOp Go.BinOp.lss 3 (Go.Operand.tmp 23) (Go.Operand.const (Go.Value.int Go.IntKind.i64 0)) 3, type := 4, pos := "run.go:24", after := #[{ on := 0, ground := Go.Ground.data }], guard := none }
def q42r8_2 : Oper := { dst := some 25, op := Go.Op.move (Go.Operand.tmp 24), type := 4, pos := "run.go:24", after := #[{ on := 1, ground := Go.Ground.data }], guard := none }
def q42r8_3 : Oper := { dst := some 26, op := Go.Op.move (Go.Operand.tmp 4), type := 22, pos := "run.go:24", after := #[{ on := 2, ground := Go.Ground.guard }], guard := some (2, false) }
def q42r8_4 : Oper := { dst := some 27, op := Go.Op.move (Go.Operand.tmp 7), type := 3, pos := "run.go:24", after := #[{ on := 2, ground := Go.Ground.guard }], guard := some (2, false) }
def q42r8_5 : Oper := { dst := some 28, op := Go.Op.indexAddr 22 (Go.Operand.tmp 26) (Go.Operand.tmp 27), type := 0, pos := "run.go:24", after := #[{ on := 3, ground := Go.Ground.data }, { on := 4, ground := Go.Ground.data }, { on := 2, ground := Go.Ground.guard }], guard := some (2, false) }
def q42r8_6 : Oper := { dst := some 29, op := Go.Op.load 38 (Go.Operand.tmp 28), type := 38, pos := "run.go:24", after := #[{ on := 5, ground := Go.Ground.data }, { on := 2, ground := Go.Ground.guard }], guard := some (2, false) }
def q42r8_7 : Oper := { dst := some 30, op := Go.Op.call { callee := Go.Callee.value (Go.Operand.func 48), args := #[Go.Operand.tmp 29], argTypes := #[38] }, type := 2, pos := "run.go:24", after := #[{ on := 6, ground := Go.Ground.data }, { on := 2, ground := Go.Ground.chain }, { on := 2, ground := Go.Ground.guard }], guard := some (2, false) }
def q42r8_8 : Oper := { dst := some 31, op := Go.Op.fieldAddr 38 (Go.Operand.tmp 6) 0, type := 0, pos := "run.go:24", after := #[{ on := 2, ground := Go.Ground.guard }], guard := some (2, false) }
def q42r8_9 : Oper := { dst := some 32, op := Go.Op.load 2 (Go.Operand.tmp 31), type := 2, pos := "run.go:24", after := #[{ on := 8, ground := Go.Ground.data }, { on := 2, ground := Go.Ground.guard }], guard := some (2, false) }
def q42r8_10 : Oper := { dst := some 33, op := Go.Op.binOp Go.BinOp.lss 2 (Go.Operand.tmp 30) (Go.Operand.tmp 32) 2, type := 4, pos := "run.go:24", after := #[{ on := 7, ground := Go.Ground.data }, { on := 9, ground := Go.Ground.data }, { on := 2, ground := Go.Ground.guard }], guard := some (2, false) }
def q42r8_11 : Oper := { dst := some 34, op := Go.Op.pick (Go.Operand.tmp 25) (Go.Operand.const (Go.Value.bool true)) (Go.Operand.tmp 33), type := 4, pos := "run.go:24", after := #[{ on := 2, ground := Go.Ground.data }, { on := 10, ground := Go.Ground.data }], guard := none }
def o42r8 : Array Oper := #[q42r8_0, q42r8_1, q42r8_2, q42r8_3, q42r8_4, q42r8_5, q42r8_6, q42r8_7, q42r8_8, q42r8_9, q42r8_10, q42r8_11]
def p42r8_12 : List (Nat × Oper) := []
def p42r8_11 : List (Nat × Oper) := (0, q42r8_11) :: p42r8_12
def p42r8_10 : List (Nat × Oper) := (0, q42r8_10) :: p42r8_11
def p42r8_9 : List (Nat × Oper) := (1, q42r8_7) :: p42r8_10
def p42r8_8 : List (Nat × Oper) := (0, q42r8_9) :: p42r8_9
def p42r8_7 : List (Nat × Oper) := (0, q42r8_8) :: p42r8_8
def p42r8_6 : List (Nat × Oper) := (0, q42r8_6) :: p42r8_7
def p42r8_5 : List (Nat × Oper) := (0, q42r8_5) :: p42r8_6
def p42r8_4 : List (Nat × Oper) := (0, q42r8_4) :: p42r8_5
def p42r8_3 : List (Nat × Oper) := (0, q42r8_3) :: p42r8_4
def p42r8_2 : List (Nat × Oper) := (0, q42r8_2) :: p42r8_3
def p42r8_1 : List (Nat × Oper) := (0, q42r8_1) :: p42r8_2
def p42r8_0 : List (Nat × Oper) := (0, q42r8_0) :: p42r8_1
def c42r8 : List (Nat × Nat) := [(0, 0), (0, 1), (0, 2), (0, 3), (0, 4), (0, 5), (0, 6), (0, 8), (0, 9), (1, 7), (0, 10), (0, 11)]
theorem b42r8 : (Region.noSelect o42r8 && (c42r8.length == o42r8.size) && planB o42r8 [] c42r8 (Array.replicate o42r8.size false)) = true := by kernel_rfl
theorem d42r8 : (c42r8.map fun p => (p.1, o42r8[p.2]?)) = (p42r8_0.map fun p => (p.1, some p.2)) := by kernel_rfl
def q42r10_0 : Oper := { dst := some 39, op := Go.Op.move (Go.Operand.tmp 4), type := 22, pos := "run.go:28", after := #[], guard := none }
def q42r10_1 : Oper := { dst := some 40, op := Go.Op.move (Go.Operand.tmp 7), type := 3, pos := "run.go:28", after := #[], guard := none }
def q42r10_2 : Oper := { dst := some 41, op := Go.Op.move (Go.Operand.tmp 4), type := 22, pos := "run.go:28", after := #[], guard := none }
def q42r10_3 : Oper := { dst := some 42, op := Go.Op.move (Go.Operand.tmp 7), type := 3, pos := "run.go:28", after := #[], guard := none }
def q42r10_4 : Oper := { dst := some 43, op := Go.Op.indexAddr 22 (Go.Operand.tmp 41) (Go.Operand.tmp 42), type := 0, pos := "run.go:28", after := #[{ on := 2, ground := Go.Ground.data }, { on := 3, ground := Go.Ground.data }], guard := none }
def q42r10_5 : Oper := { dst := some 44, op := Go.Op.load 38 (Go.Operand.tmp 43), type := 38, pos := "run.go:28", after := #[{ on := 4, ground := Go.Ground.data }], guard := none }
def q42r10_6 : Oper := { dst := some 45, op := Go.Op.call { callee := Go.Callee.value (Go.Operand.func 48), args := #[Go.Operand.tmp 44], argTypes := #[38] }, type := 2, pos := "run.go:28", after := #[{ on := 5, ground := Go.Ground.data }], guard := none }
def q42r10_7 : Oper := { dst := some 46, op := Go.Op.load 38 (Go.Operand.tmp 6), type := 38, pos := "run.go:28", after := #[], guard := none }
def q42r10_8 : Oper := { dst := some 47, op := Go.Op.call { callee := Go.Callee.value (Go.Operand.func 48), args := #[Go.Operand.tmp 46], argTypes := #[38] }, type := 2, pos := "run.go:28", after := #[{ on := 7, ground := Go.Ground.data }, { on := 6, ground := Go.Ground.chain }], guard := none }
def q42r10_9 : Oper := { dst := some 48, op := Go.Op.call { callee := Go.Callee.builtin Go.Builtin.max, args := #[Go.Operand.tmp 45, Go.Operand.tmp 47], argTypes := #[2, 2] }, type := 2, pos := "run.go:28", after := #[{ on := 6, ground := Go.Ground.data }, { on := 8, ground := Go.Ground.data }], guard := none }
def q42r10_10 : Oper := { dst := some 49, op := Go.Op.move (Go.Operand.tmp 4), type := 22, pos := "run.go:28", after := #[], guard := none }
def q42r10_11 : Oper := { dst := some 50, op := Go.Op.move (Go.Operand.tmp 7), type := 3, pos := "run.go:28", after := #[], guard := none }
def q42r10_12 : Oper := { dst := some 51, op := Go.Op.indexAddr 22 (Go.Operand.tmp 49) (Go.Operand.tmp 50), type := 0, pos := "run.go:28", after := #[{ on := 10, ground := Go.Ground.data }, { on := 11, ground := Go.Ground.data }], guard := none }
def q42r10_13 : Oper := { dst := some 52, op := Go.Op.fieldAddr 38 (Go.Operand.tmp 51) 0, type := 0, pos := "run.go:28", after := #[{ on := 12, ground := Go.Ground.data }], guard := none }
def q42r10_14 : Oper := { dst := some 53, op := Go.Op.load 2 (Go.Operand.tmp 52), type := 2, pos := "run.go:28", after := #[{ on := 13, ground := Go.Ground.data }], guard := none }
def q42r10_15 : Oper := { dst := some 54, op := Go.Op.binOp Go.BinOp.sub 2 (Go.Operand.tmp 48) (Go.Operand.tmp 53) 2, type := 2, pos := "run.go:28", after := #[{ on := 9, ground := Go.Ground.data }, { on := 14, ground := Go.Ground.data }], guard := none }
def q42r10_16 : Oper := { dst := some 55, op := Go.Op.indexAddr 22 (Go.Operand.tmp 39) (Go.Operand.tmp 40), type := 0, pos := "run.go:28", after := #[{ on := 0, ground := Go.Ground.data }, { on := 1, ground := Go.Ground.data }, { on := 0, ground := Go.Ground.phase }, { on := 1, ground := Go.Ground.phase }, { on := 2, ground := Go.Ground.phase }, { on := 3, ground := Go.Ground.phase }, { on := 4, ground := Go.Ground.phase }, { on := 5, ground := Go.Ground.phase }, { on := 6, ground := Go.Ground.phase }, { on := 7, ground := Go.Ground.phase }, { on := 8, ground := Go.Ground.phase }, { on := 9, ground := Go.Ground.phase }, { on := 10, ground := Go.Ground.phase }, { on := 11, ground := Go.Ground.phase }, { on := 12, ground := Go.Ground.phase }, { on := 13, ground := Go.Ground.phase }, { on := 14, ground := Go.Ground.phase }, { on := 15, ground := Go.Ground.phase }], guard := none }
def q42r10_17 : Oper := { dst := some 56, op := Go.Op.fieldAddr 38 (Go.Operand.tmp 55) 1, type := 0, pos := "run.go:28", after := #[{ on := 16, ground := Go.Ground.data }, { on := 0, ground := Go.Ground.phase }, { on := 1, ground := Go.Ground.phase }, { on := 2, ground := Go.Ground.phase }, { on := 3, ground := Go.Ground.phase }, { on := 4, ground := Go.Ground.phase }, { on := 5, ground := Go.Ground.phase }, { on := 6, ground := Go.Ground.phase }, { on := 7, ground := Go.Ground.phase }, { on := 8, ground := Go.Ground.phase }, { on := 9, ground := Go.Ground.phase }, { on := 10, ground := Go.Ground.phase }, { on := 11, ground := Go.Ground.phase }, { on := 12, ground := Go.Ground.phase }, { on := 13, ground := Go.Ground.phase }, { on := 14, ground := Go.Ground.phase }, { on := 15, ground := Go.Ground.phase }], guard := none }
def q42r10_18 : Oper := { dst := none, op := Go.Op.store 2 (Go.Operand.tmp 56) (Go.Operand.tmp 54), type := 0, pos := "run.go:28", after := #[{ on := 17, ground := Go.Ground.data }, { on := 15, ground := Go.Ground.data }, { on := 8, ground := Go.Ground.chain }, { on := 0, ground := Go.Ground.phase }, { on := 1, ground := Go.Ground.phase }, { on := 2, ground := Go.Ground.phase }, { on := 3, ground := Go.Ground.phase }, { on := 4, ground := Go.Ground.phase }, { on := 5, ground := Go.Ground.phase }, { on := 6, ground := Go.Ground.phase }, { on := 7, ground := Go.Ground.phase }, { on := 8, ground := Go.Ground.phase }, { on := 9, ground := Go.Ground.phase }, { on := 10, ground := Go.Ground.phase }, { on := 11, ground := Go.Ground.phase }, { on := 12, ground := Go.Ground.phase }, { on := 13, ground := Go.Ground.phase }, { on := 14, ground := Go.Ground.phase }, { on := 15, ground := Go.Ground.phase }], guard := none }
def o42r10 : Array Oper := #[q42r10_0, q42r10_1, q42r10_2, q42r10_3, q42r10_4, q42r10_5, q42r10_6, q42r10_7, q42r10_8, q42r10_9, q42r10_10, q42r10_11, q42r10_12, q42r10_13, q42r10_14, q42r10_15, q42r10_16, q42r10_17, q42r10_18]
def p42r10_19 : List (Nat × Oper) := []
def p42r10_18 : List (Nat × Oper) := (2, q42r10_18) :: p42r10_19
def p42r10_17 : List (Nat × Oper) := (0, q42r10_17) :: p42r10_18
def p42r10_16 : List (Nat × Oper) := (0, q42r10_16) :: p42r10_17
def p42r10_15 : List (Nat × Oper) := (0, q42r10_15) :: p42r10_16
def p42r10_14 : List (Nat × Oper) := (0, q42r10_9) :: p42r10_15
def p42r10_13 : List (Nat × Oper) := (1, q42r10_8) :: p42r10_14
def p42r10_12 : List (Nat × Oper) := (1, q42r10_6) :: p42r10_13
def p42r10_11 : List (Nat × Oper) := (0, q42r10_14) :: p42r10_12
def p42r10_10 : List (Nat × Oper) := (0, q42r10_13) :: p42r10_11
def p42r10_9 : List (Nat × Oper) := (0, q42r10_12) :: p42r10_10
def p42r10_8 : List (Nat × Oper) := (0, q42r10_11) :: p42r10_9
def p42r10_7 : List (Nat × Oper) := (0, q42r10_10) :: p42r10_8
def p42r10_6 : List (Nat × Oper) := (0, q42r10_7) :: p42r10_7
def p42r10_5 : List (Nat × Oper) := (0, q42r10_5) :: p42r10_6
def p42r10_4 : List (Nat × Oper) := (0, q42r10_4) :: p42r10_5
def p42r10_3 : List (Nat × Oper) := (0, q42r10_3) :: p42r10_4
def p42r10_2 : List (Nat × Oper) := (0, q42r10_2) :: p42r10_3
def p42r10_1 : List (Nat × Oper) := (0, q42r10_1) :: p42r10_2
def p42r10_0 : List (Nat × Oper) := (0, q42r10_0) :: p42r10_1
def c42r10 : List (Nat × Nat) := [(0, 0), (0, 1), (0, 2), (0, 3), (0, 4), (0, 5), (0, 7), (0, 10), (0, 11), (0, 12), (0, 13), (0, 14), (1, 6), (1, 8), (0, 9), (0, 15), (0, 16), (0, 17), (2, 18)]
theorem b42r10 : (Region.noSelect o42r10 && (c42r10.length == o42r10.size) && planB o42r10 [18] c42r10 (Array.replicate o42r10.size false)) = true := by kernel_rfl
theorem d42r10 : (c42r10.map fun p => (p.1, o42r10[p.2]?)) = (p42r10_0.map fun p => (p.1, some p.2)) := by kernel_rfl

set_option maxRecDepth 100000 in
set_option maxHeartbeats 8000000 in
theorem together_any (w : World) (g0 n0 cap0 : Nat) (Ls : List Sll) (hn : n0 = Ls.length) (hn2 : n0 ≤ 2) (hg : St 22 w g0 (Ls.map Sll.v).toArray) (hok : ∀ s ∈ Ls, s.ok w) (hlen : (cat Ls).length ≤ 1000000) (hmay : ∀ x ∈ cat Ls, Mayr x) :
    Calls Try.prog 42 #[.slice (some ⟨g0, 0, none⟩) n0 cap0] w fun e w' => ∃ v, e = .returned v ∧ Ownr w' w.heap.size v (tog (cat Ls)) ∧ Kp (fun _ => False) w w' := by
  have HCN := hid (concat_any w g0 n0 cap0 Ls hn hn2 hg hok hlen)
  have HM := hid hmay
  clear hg hok hmay hn
  generalize cat Ls = l0 at *
  go_enter Try.func42, Try.ntmps42
  generalize hC2 : Code.region 2 _ _ = C2
  go_wp2_with (first | (go_at_call 57; refine HCN.out.mono ?_; rintro e w1 ⟨v1, rfl, o1, k1⟩; have O1 := hid o1; have K1 := hid k1; clear o1 k1))
  rcases O1.out.2 with ⟨rfl, h0⟩ | ⟨g, cap, cur, rfl, hb, hgc, hnc, hcm, hcs, htk⟩
  · have HE : Hid (l0 = []) := List.eq_nil_of_length_eq_zero h0
    have HSN := hid (AnyF.slices_SortFunc_none { Try.sortRn with } none 0 (.func (.func 59) #[] #[]) w1)
    have HS2 : Hid (Calls Try.prog 58 #[.slice none 0 0, .func (.func 59) #[] #[]] w1 fun e w' => e = .returned (.tuple #[]) ∧ w1 = w') := Calls.mono HSN.out (fun e w' h => ⟨h.1, h.2.symm⟩)
    subst hC2
    clear HSN O1 h0
    go_wp2_with (first | (go_at_call 58; refine HS2.out.mono ?_; rintro e w2 ⟨rfl, rfl⟩))
    go_loopw [4, 16] (fun o i wr => o = .slice none 0 0 ∧ i = .int .i64 0 ∧ wr = w1) (fun _ _ _ => 0)
    case atStart => exact ⟨rfl, rfl, rfl⟩
    case round =>
      obtain ⟨rfl, rfl, rfl⟩ := hrel
      go_wp2_with fail
      go_ret
      exact ⟨_, rfl, by rw [HE.out, tog_nil]; exact Ownr.nil _ _, K1.out⟩
  · have HSO := hid (sort_any w1 w.heap.size g l0.length cap l0 rfl O1.out (by omega))
    have hl6 : l0.length ≤ 1000000 := hlen
    have hcm2 : cap ≤ 9223372036854775807 := by unfold maxLen at hcm; omega
    have HB : Hid (w.heap.size ≤ g) := hb
    have HCM := hid hcm
    obtain ⟨n, hnn⟩ : ∃ n, n = l0.length := ⟨_, rfl⟩
    rw [← hnn] at HSO hl6 hnc ⊢
    have HNN := hid hnn
    clear hgc hcs htk O1 hb hcm hnn
    subst hC2
    go_wp2_with (first | (go_at_call 58; refine HSO.out.mono ?_; rintro e w2 ⟨rfl, l, pm, srt, o2, k2⟩; have PM := hid pm; have SRT := hid srt; have O2 := hid o2; have K2 : Hid (Kp (fun _ => False) w w2) := K1.out.trans k2 (fun i hi e => by have := HB.out; omega); clear pm srt o2 k2))
    have HLL : Hid (l.length = n) := PM.out.length_eq.trans HNN.out.symm
    have MR0 := hid (Mr.start O2.out HLL.out).1
    have HTG : Hid (mrg l = tog l0) := mrg_tog HM.out PM.out SRT.out
    have HML : Hid (∀ x ∈ l, Mayr x) := fun x hx => HM.out x (PM.out.mem_iff.1 hx)
    clear O2 HSO PM
    go_loopw [4, 16] (fun o i wr => ∃ (k : Nat) (M : List Rn), i = .int .i64 (k : Int) ∧ o = .slice (some ⟨g, 0, none⟩) M.length cap ∧ k ≤ n ∧ Hid (M = mrg (l.take k)) ∧ Hid (Mr wr g cap M l k) ∧ Hid (Kp (fun _ => False) w wr)) (fun _ i _ => n - (intOf i).toNat)
    case atStart => exact ⟨0, [], rfl, rfl, Nat.zero_le _, rfl, MR0, K2⟩
    case round =>
      clear MR0 K2
      obtain ⟨k, M, rfl, rfl, hk, HMM, MR, HK⟩ := hrel
      by_cases hlt : k < n
      · have hkl : k < l.length := by have := HLL.out; omega
        obtain ⟨x0, x1⟩ := MR.out.read hkl
        have HTK : Hid (mrg (l.take (k + 1)) = mst M (l.getD k zRn)) := by
          show _ = _
          rw [take_snocr' hkl, mrg_snoc, HMM.out]
        have HMX := hid (HML.out _ (gd_mem hkl))
        have hsub : (l.take k).Pairwise (fun x y => x.a ≤ y.a) := SRT.out.sublist (List.take_sublist _ _)
        have HCM2 : Hid (Can M) := by rw [HMM.out]; exact (mrg_ok (fun x hx => HML.out x (List.mem_of_mem_take hx)) hsub).1
        generalize l.getD k zRn = x at *
        obtain ⟨xa, xn⟩ := x
        dsimp only at x0 x1
        have hmk := MR.out.ml
        have hlc := MR.out.lc
        have hgl := MR.out.lt
        obtain ⟨P6, hP6⟩ : ∃ P6, P6 = wr.heap.size := ⟨_, rfl⟩
        have HKA : Hid (∀ U, Kp (fun _ => False) wr U → Mr U g cap M l k ∧ Kp (fun _ => False) w U) := fun U hU => ⟨MR.out.kp hU (fun h => h), HK.out.trans hU (fun _ _ h => h)⟩
        have HKB : Hid (∀ U V, Kp (fun _ => False) w U → Kp (fun i => i = g) U V → Kp (fun _ => False) w V) := fun U V h1 h2 => h1.trans h2 (fun i hi e => by have := HB.out; omega)
        rcases List.eq_nil_or_concat M with hM | ⟨A, y, hM⟩
        · subst hM
          have HTK2 : Hid (mrg (l.take (k + 1)) = [⟨xa, xn⟩]) := HTK.out
          go_wp2_with (first | (refine wpList_store_r rfl _ _ rfl _ rfl (e' := ⟨xa, xn⟩) rfl (Rn.B.new wr zRn) ?_; intro W1 s1 k1; have KW : Hid (Kp (fun _ => False) wr W1) := ((Kp.refl (fun _ => False) wr).alloc _).trans k1 (fun i h1 h2 => by omega); have S1 := hid s1; clear s1 k1 x0 x1))
          have H0 : Hid (Below W1.heap.size W1 W1.drew) := ⟨rfl, rfl, rfl, Nat.le_refl _, fun _ _ => rfl⟩
          change (Code.region 8 o42r8 true).wp _ _ _ _
          refine wp_region_plan (fun w' => Below W1.heap.size W1 w') [] c42r8 p42r8_0 hmix b42r8 d42r8 (fun _ _ d _ _ h => by cases d <;> exact h) ?_
          refine plan_take (o := q42r8_0) (r := p42r8_1) ?vpa0 H0.out (by rfl) ?hypa0 ?restpa0
          case hypa0 => (intro w hSw; (try dsimp only at hSw); simp only [q42r8_0]; go_simp; try with_reducible rfl)
          try simp only [q42r8_0, Act.put, List.setIfInBounds_toArray, List.set_cons_zero, List.set_cons_succ]
          refine plan_take (o := q42r8_1) (r := p42r8_2) (.bool true) H0.out (by rfl) ?hypa1 ?restpa1
          case hypa1 => (intro w hSw; (try dsimp only at hSw); simp only [q42r8_1]; go_simp; try with_reducible rfl)
          try simp only [q42r8_1, Act.put, List.setIfInBounds_toArray, List.set_cons_zero, List.set_cons_succ]
          refine plan_take (o := q42r8_2) (r := p42r8_3) ?vpa2 H0.out (by rfl) ?hypa2 ?restpa2
          case hypa2 => (intro w hSw; (try dsimp only at hSw); simp only [q42r8_2]; go_simp; try with_reducible rfl)
          try simp only [q42r8_2, Act.put, List.setIfInBounds_toArray, List.set_cons_zero, List.set_cons_succ]
          refine plan_skip (o := q42r8_3) (r := p42r8_4) H0.out (by rfl) ?_
          try simp only [q42r8_3, Act.put, List.setIfInBounds_toArray, List.set_cons_zero, List.set_cons_succ]
          refine plan_skip (o := q42r8_4) (r := p42r8_5) H0.out (by rfl) ?_
          try simp only [q42r8_4, Act.put, List.setIfInBounds_toArray, List.set_cons_zero, List.set_cons_succ]
          refine plan_skip (o := q42r8_5) (r := p42r8_6) H0.out (by rfl) ?_
          try simp only [q42r8_5, Act.put, List.setIfInBounds_toArray, List.set_cons_zero, List.set_cons_succ]
          refine plan_skip (o := q42r8_6) (r := p42r8_7) H0.out (by rfl) ?_
          try simp only [q42r8_6, Act.put, List.setIfInBounds_toArray, List.set_cons_zero, List.set_cons_succ]
          refine plan_skip (o := q42r8_8) (r := p42r8_8) H0.out (by rfl) ?_
          try simp only [q42r8_8, Act.put, List.setIfInBounds_toArray, List.set_cons_zero, List.set_cons_succ]
          refine plan_skip (o := q42r8_9) (r := p42r8_9) H0.out (by rfl) ?_
          try simp only [q42r8_9, Act.put, List.setIfInBounds_toArray, List.set_cons_zero, List.set_cons_succ]
          refine plan_act (o := q42r8_7) (r := p42r8_10) (fun K hK => ?_)
          simp only [q42r8_7]
          refine ite_neg3 (by rfl) ?_
          refine hK.out _ _ (fun h => h) ?_
          clear hK K
          try simp only [q42r8_7, Act.put, List.setIfInBounds_toArray, List.set_cons_zero, List.set_cons_succ]
          refine plan_skip (o := q42r8_10) (r := p42r8_11) H0.out (by rfl) ?_
          try simp only [q42r8_10, Act.put, List.setIfInBounds_toArray, List.set_cons_zero, List.set_cons_succ]
          refine plan_take (o := q42r8_11) (r := p42r8_12) (.bool true) H0.out (by rfl) ?hypa11 ?restpa11
          case hypa11 => (intro w hSw; (try dsimp only at hSw); simp only [q42r8_11]; go_simp; try with_reducible rfl)
          try simp only [q42r8_11, Act.put, List.setIfInBounds_toArray, List.set_cons_zero, List.set_cons_succ]
          refine plan_done ?_
          obtain ⟨m1, kk1⟩ := HKA.out (W1.drew.alloc (.cells #[.int .i64 xa, .int .i64 xn] 38)) ((KW.out.drew).alloc _)
          obtain ⟨w4, hr, m4, k4⟩ := m1.app hkl (b := W1.heap.size) (x := ⟨xa, xn⟩) (St.new 38 W1.drew _) (ty := 22)
          have M4 := hid m4
          have K4 := hid (HKB.out _ _ kk1 k4)
          have y0 : W1.drew.cell? ⟨wr.heap.size, 0, none⟩ = some (.int .i64 xa) := S1.out.cell 0
          have y1 : W1.drew.cell? ⟨wr.heap.size, 1, none⟩ = some (.int .i64 xn) := S1.out.cell 1
          clear m1 kk1 m4 k4 hP6
          go_wp2_with (first | (at_builtin; refine Lib.wpList_append_run _ rfl _ _ _ _ rfl _ _ rfl rfl _ _ hr ?_))
          go_roundw
          case rel => exact ⟨k + 1, [⟨xa, xn⟩], by go_num, rfl, hlt, HTK2.out.symm, M4, K4⟩
          case measure => simp [intOf]; omega
        · rw [List.concat_eq_append] at hM
          subst hM
          have hAl : (A ++ [y]).length = A.length + 1 := by simp
          rw [hAl] at hmk
          have HMY : Hid (Mayr y) := HCM2.out.1 y (by simp)
          rw [mst_snoc] at HTK
          obtain ⟨ya, yn⟩ := y
          obtain ⟨ye, hye⟩ : ∃ ye, ye = (⟨ya, yn⟩ : Rn).e := ⟨_, rfl⟩
          obtain ⟨xe, hxe⟩ : ∃ xe, xe = (⟨xa, xn⟩ : Rn).e := ⟨_, rfl⟩
          have HEY : Hid (∀ U, Calls Try.prog 48 #[.agg #[.int .i64 ya, .int .i64 yn]] U fun e w' => e = .returned (.int .i64 ye) ∧ Below U.heap.size U w') := fun U => by rw [hye]; exact end_any ⟨ya, yn⟩ U HMY.out
          have HEX : Hid (∀ U, Calls Try.prog 48 #[.agg #[.int .i64 xa, .int .i64 xn]] U fun e w' => e = .returned (.int .i64 xe) ∧ Below U.heap.size U w') := fun U => by rw [hxe]; exact end_any ⟨xa, xn⟩ U HMX.out
          have hb1 : -1000000000000000000 ≤ ya ∧ ya ≤ 1000000000000000000 ∧ ye ≤ 1000000000000000000 ∧ xe ≤ 1000000000000000000 ∧ -1000000000000000000 ≤ ye := by
            have h1 := HMY.out
            have h2 := HMX.out
            unfold Mayr at h1 h2
            rw [← hye] at h1
            rw [← hxe] at h2
            have h3 := HMY.out.lt
            rw [← hye] at h3
            dsimp only at h1 h2 h3
            omega
          rw [← hye] at HTK
          rw [← hxe] at HTK
          dsimp only at HTK
          clear hye hxe
          have hw0 : IntKind.i64.wrap (((A ++ [(⟨ya, yn⟩ : Rn)]).length : Int) - 1) = (A.length : Int) := by rw [hAl, IntKind.wrap_i64]; push_cast; omega
          rw [hAl]
          rw [hAl] at hw0
          have hAk : A.length + 1 ≤ k := by omega
          go_wp2_with (first | (refine wpList_store_r rfl _ _ rfl _ rfl (e' := ⟨xa, xn⟩) rfl (Rn.B.new wr zRn) ?_; intro W1 s1 k1; have KW : Hid (Kp (fun _ => False) wr W1) := ((Kp.refl (fun _ => False) wr).alloc _).trans k1 (fun i h1 h2 => by omega); have S1 := hid s1; clear s1 k1 x0 x1))
          have H0 : Hid (Below W1.heap.size W1 W1.drew) := ⟨rfl, rfl, rfl, Nat.le_refl _, fun _ _ => rfl⟩
          have HTR : Hid (∀ U V : World, Below W1.heap.size W1 U → Below U.heap.size U V → Below W1.heap.size W1 V) := fun U V h k => h.trans (k.mono h.size)
          have MW := hid (HKA.out W1 KW.out)
          obtain ⟨c1, c2, -⟩ := MW.out.1.last
          have hglW := MW.out.1.lt
          have hp6 := S1.out.lt
          have HCC : Hid (∀ U, Below W1.heap.size W1 U → U.cell? ⟨g, A.length * 2, none⟩ = some (.int .i64 ya) ∧ U.cell? ⟨g, A.length * 2 + 1, none⟩ = some (.int .i64 yn) ∧ U.cell? ⟨wr.heap.size, 0, none⟩ = some (.int .i64 xa) ∧ U.cell? ⟨wr.heap.size, 1, none⟩ = some (.int .i64 xn)) := fun U hU => by
            have s2 := S1.out.below hU hp6
            refine ⟨(hU.cell (p := ⟨g, A.length * 2, none⟩) hglW).trans ?_, (hU.cell (p := ⟨g, A.length * 2 + 1, none⟩) hglW).trans ?_, s2.cell 0, s2.cell 1⟩
            · exact c1
            · exact c2
          obtain ⟨bl, hbl⟩ : ∃ bl, decide (ye < xa) = bl := ⟨_, rfl⟩
          clear c1 c2 hP6
          change (Code.region 8 o42r8 true).wp _ _ _ _
          refine wp_region_plan (fun w' => Below W1.heap.size W1 w') [] c42r8 p42r8_0 hmix b42r8 d42r8 (fun _ _ d _ _ h => by cases d <;> exact h) ?_
          refine plan_take (o := q42r8_0) (r := p42r8_1) ?vpb0 H0.out (by rfl) ?hypb0 ?restpb0
          case hypb0 => (intro w hSw; (try dsimp only at hSw); simp only [q42r8_0]; go_simp; try with_reducible rfl)
          try simp only [q42r8_0, Act.put, List.setIfInBounds_toArray, List.set_cons_zero, List.set_cons_succ]
          refine plan_take (o := q42r8_1) (r := p42r8_2) (.bool false) H0.out (by rfl) ?hypb1 ?restpb1
          case hypb1 => (intro w hSw; (try dsimp only at hSw); simp only [q42r8_1]; go_simp; try with_reducible rfl)
          try simp only [q42r8_1, Act.put, List.setIfInBounds_toArray, List.set_cons_zero, List.set_cons_succ]
          refine plan_take (o := q42r8_2) (r := p42r8_3) ?vpb2 H0.out (by rfl) ?hypb2 ?restpb2
          case hypb2 => (intro w hSw; (try dsimp only at hSw); simp only [q42r8_2]; go_simp; try with_reducible rfl)
          try simp only [q42r8_2, Act.put, List.setIfInBounds_toArray, List.set_cons_zero, List.set_cons_succ]
          refine plan_take (o := q42r8_3) (r := p42r8_4) ?vpb3 H0.out (by rfl) ?hypb3 ?restpb3
          case hypb3 => (intro w hSw; (try dsimp only at hSw); simp only [q42r8_3]; go_simp; try with_reducible rfl)
          try simp only [q42r8_3, Act.put, List.setIfInBounds_toArray, List.set_cons_zero, List.set_cons_succ]
          refine plan_take (o := q42r8_4) (r := p42r8_5) ?vpb4 H0.out (by rfl) ?hypb4 ?restpb4
          case hypb4 => (intro w hSw; (try dsimp only at hSw); simp only [q42r8_4]; go_simp; try with_reducible rfl)
          try simp only [q42r8_4, Act.put, List.setIfInBounds_toArray, List.set_cons_zero, List.set_cons_succ]
          refine plan_take (o := q42r8_5) (r := p42r8_6) ?vpb5 H0.out (by rfl) ?hypb5 ?restpb5
          case hypb5 => (intro w hSw; (try dsimp only at hSw); have hq : ((A.length : Nat) : Int) < ((A.length : Nat) : Int) + 1 := (by omega); simp only [q42r8_5]; go_simp; try with_reducible rfl)
          try simp only [q42r8_5, Act.put, List.setIfInBounds_toArray, List.set_cons_zero, List.set_cons_succ]
          refine plan_take (o := q42r8_6) (r := p42r8_7) ?vpb6 H0.out (by rfl) ?hypb6 ?restpb6
          case hypb6 => (intro w hSw; (try dsimp only at hSw); obtain ⟨y1, y2, _, _⟩ := HCC.out _ hSw; simp only [q42r8_6]; go_simp; try with_reducible rfl)
          try simp only [q42r8_6, Act.put, List.setIfInBounds_toArray, List.set_cons_zero, List.set_cons_succ]
          refine plan_take (o := q42r8_8) (r := p42r8_8) ?vpb8 H0.out (by rfl) ?hypb8 ?restpb8
          case hypb8 => (intro w hSw; (try dsimp only at hSw); simp only [q42r8_8]; go_simp; try with_reducible rfl)
          try simp only [q42r8_8, Act.put, List.setIfInBounds_toArray, List.set_cons_zero, List.set_cons_succ]
          refine plan_take (o := q42r8_9) (r := p42r8_9) ?vpb9 H0.out (by rfl) ?hypb9 ?restpb9
          case hypb9 => (intro w hSw; (try dsimp only at hSw); obtain ⟨_, _, y1, _⟩ := HCC.out _ hSw; simp only [q42r8_9]; go_simp; try with_reducible rfl)
          try simp only [q42r8_9, Act.put, List.setIfInBounds_toArray, List.set_cons_zero, List.set_cons_succ]
          refine plan_act (o := q42r8_7) (r := p42r8_10) (fun K hK => ?_)
          simp only [q42r8_7]
          refine ite_pos2 (by rfl) ?_
          go_simp
          refine (HEY.out _).mono ?_
          rintro e w3 ⟨rfl, b3⟩
          have B3 := hid (HTR.out _ _ H0.out b3)
          clear b3
          go_wp2_with fail
          refine hK.out _ _ (fun _ => B3.out) ?_
          clear hK K
          try simp only [q42r8_7, Act.put, List.setIfInBounds_toArray, List.set_cons_zero, List.set_cons_succ]
          refine plan_take (o := q42r8_10) (r := p42r8_11) (.bool bl) B3.out (by rfl) ?hypb10 ?restpb10
          case hypb10 => (intro w hSw; (try dsimp only at hSw); simp only [q42r8_10]; go_simp; try with_reducible rfl)
          try simp only [q42r8_10, Act.put, List.setIfInBounds_toArray, List.set_cons_zero, List.set_cons_succ]
          refine plan_take (o := q42r8_11) (r := p42r8_12) (.bool bl) B3.out (by rfl) ?hypb11 ?restpb11
          case hypb11 => (intro w hSw; (try dsimp only at hSw); simp only [q42r8_11]; go_simp; try with_reducible rfl)
          try simp only [q42r8_11, Act.put, List.setIfInBounds_toArray, List.set_cons_zero, List.set_cons_succ]
          refine plan_done ?_
          cases bl with
          | true =>
            have hlt3 : ye < xa := by simpa using hbl
            rw [if_pos hlt3] at HTK
            obtain ⟨m1, kk1⟩ := HKA.out (w3.alloc (.cells #[.int .i64 xa, .int .i64 xn] 38)) ((KW.out.trans (Kp.of_below (F := fun _ => False) B3.out) (fun _ _ h => h)).alloc _)
            obtain ⟨w4, hr, m4, k4⟩ := m1.app hkl (b := w3.heap.size) (x := ⟨xa, xn⟩) (St.new 38 w3 _) (ty := 22)
            have M4 := hid m4
            have K4 := hid (HKB.out _ _ kk1 k4)
            rw [hAl] at hr
            obtain ⟨_, _, y0, y1⟩ := HCC.out w3 B3.out
            clear m1 kk1 m4 k4
            go_wp2_with (first | (at_builtin; refine Lib.wpList_append_run _ rfl _ _ _ _ rfl _ _ rfl rfl _ _ hr ?_))
            go_roundw
            case rel => exact ⟨k + 1, A ++ [(⟨ya, yn⟩ : Rn)] ++ [(⟨xa, xn⟩ : Rn)], by go_num, by simp, hlt, (show Hid _ from HTK.out.symm), M4, K4⟩
            case measure => simp [intOf]; omega
          | false =>
            have hlt3 : ¬ ye < xa := by simpa using hbl
            rw [if_neg hlt3] at HTK
            go_wp2_with fail
            obtain ⟨W2, hW2⟩ : ∃ W2, W2 = w3 := ⟨_, rfl⟩
            subst hW2
            have H2 : Hid (Below W2.heap.size W2 W2.drew) := ⟨rfl, rfl, rfl, Nat.le_refl _, fun _ _ => rfl⟩
            have HTR2 : Hid (∀ U V : World, Below W2.heap.size W2 U → Below U.heap.size U V → Below W2.heap.size W2 V) := fun U V h k => h.trans (k.mono h.size)
            have HCC2 : Hid (∀ U, Below W2.heap.size W2 U → U.cell? ⟨g, A.length * 2, none⟩ = some (.int .i64 ya) ∧ U.cell? ⟨g, A.length * 2 + 1, none⟩ = some (.int .i64 yn) ∧ U.cell? ⟨wr.heap.size, 0, none⟩ = some (.int .i64 xa) ∧ U.cell? ⟨wr.heap.size, 1, none⟩ = some (.int .i64 xn)) := fun U hU => HCC.out U (B3.out.trans (hU.mono B3.out.size))
            have MR2 := hid (HKA.out W2 (KW.out.trans (Kp.of_below (F := fun _ => False) B3.out) (fun _ _ h => h))).1
            have K2 := hid (HKA.out W2 (KW.out.trans (Kp.of_below (F := fun _ => False) B3.out) (fun _ _ h => h))).2
            have hw5 : IntKind.i64.wrap (max ye xe - ya) = max ye xe - ya := by rw [IntKind.wrap_i64]; omega
            clear hbl
            change (Code.region 10 o42r10 true).wp _ _ _ _
            refine wp_region_plan (fun w' => Below W2.heap.size W2 w') [18] c42r10 p42r10_0 hmix b42r10 d42r10 (fun _ _ d _ _ h => by cases d <;> exact h) ?_
            refine plan_take (o := q42r10_0) (r := p42r10_1) ?vr0 H2.out (by rfl) ?hyr0 ?restr0
            case hyr0 => (intro w hSw; (try dsimp only at hSw); simp only [q42r10_0]; go_simp; try with_reducible rfl)
            try simp only [q42r10_0, Act.put, List.setIfInBounds_toArray, List.set_cons_zero, List.set_cons_succ]
            refine plan_take (o := q42r10_1) (r := p42r10_2) ?vr1 H2.out (by rfl) ?hyr1 ?restr1
            case hyr1 => (intro w hSw; (try dsimp only at hSw); simp only [q42r10_1]; go_simp; try with_reducible rfl)
            try simp only [q42r10_1, Act.put, List.setIfInBounds_toArray, List.set_cons_zero, List.set_cons_succ]
            refine plan_take (o := q42r10_2) (r := p42r10_3) ?vr2 H2.out (by rfl) ?hyr2 ?restr2
            case hyr2 => (intro w hSw; (try dsimp only at hSw); simp only [q42r10_2]; go_simp; try with_reducible rfl)
            try simp only [q42r10_2, Act.put, List.setIfInBounds_toArray, List.set_cons_zero, List.set_cons_succ]
            refine plan_take (o := q42r10_3) (r := p42r10_4) ?vr3 H2.out (by rfl) ?hyr3 ?restr3
            case hyr3 => (intro w hSw; (try dsimp only at hSw); simp only [q42r10_3]; go_simp; try with_reducible rfl)
            try simp only [q42r10_3, Act.put, List.setIfInBounds_toArray, List.set_cons_zero, List.set_cons_succ]
            refine plan_take (o := q42r10_4) (r := p42r10_5) ?vr4 H2.out (by rfl) ?hyr4 ?restr4
            case hyr4 => (intro w hSw; (try dsimp only at hSw); have hq : ((A.length : Nat) : Int) < ((A.length : Nat) : Int) + 1 := (by omega); simp only [q42r10_4]; go_simp; try with_reducible rfl)
            try simp only [q42r10_4, Act.put, List.setIfInBounds_toArray, List.set_cons_zero, List.set_cons_succ]
            refine plan_take (o := q42r10_5) (r := p42r10_6) ?vr5 H2.out (by rfl) ?hyr5 ?restr5
            case hyr5 => (intro w hSw; (try dsimp only at hSw); obtain ⟨y1, y2, _, _⟩ := HCC2.out _ hSw; simp only [q42r10_5]; go_simp; try with_reducible rfl)
            try simp only [q42r10_5, Act.put, List.setIfInBounds_toArray, List.set_cons_zero, List.set_cons_succ]
            refine plan_take (o := q42r10_7) (r := p42r10_7) ?vr7 H2.out (by rfl) ?hyr7 ?restr7
            case hyr7 => (intro w hSw; (try dsimp only at hSw); obtain ⟨_, _, y1, y2⟩ := HCC2.out _ hSw; simp only [q42r10_7]; go_simp; try with_reducible rfl)
            try simp only [q42r10_7, Act.put, List.setIfInBounds_toArray, List.set_cons_zero, List.set_cons_succ]
            refine plan_take (o := q42r10_10) (r := p42r10_8) ?vr10 H2.out (by rfl) ?hyr10 ?restr10
            case hyr10 => (intro w hSw; (try dsimp only at hSw); simp only [q42r10_10]; go_simp; try with_reducible rfl)
            try simp only [q42r10_10, Act.put, List.setIfInBounds_toArray, List.set_cons_zero, List.set_cons_succ]
            refine plan_take (o := q42r10_11) (r := p42r10_9) ?vr11 H2.out (by rfl) ?hyr11 ?restr11
            case hyr11 => (intro w hSw; (try dsimp only at hSw); simp only [q42r10_11]; go_simp; try with_reducible rfl)
            try simp only [q42r10_11, Act.put, List.setIfInBounds_toArray, List.set_cons_zero, List.set_cons_succ]
            refine plan_take (o := q42r10_12) (r := p42r10_10) ?vr12 H2.out (by rfl) ?hyr12 ?restr12
            case hyr12 => (intro w hSw; (try dsimp only at hSw); have hq : ((A.length : Nat) : Int) < ((A.length : Nat) : Int) + 1 := (by omega); simp only [q42r10_12]; go_simp; try with_reducible rfl)
            try simp only [q42r10_12, Act.put, List.setIfInBounds_toArray, List.set_cons_zero, List.set_cons_succ]
            refine plan_take (o := q42r10_13) (r := p42r10_11) ?vr13 H2.out (by rfl) ?hyr13 ?restr13
            case hyr13 => (intro w hSw; (try dsimp only at hSw); simp only [q42r10_13]; go_simp; try with_reducible rfl)
            try simp only [q42r10_13, Act.put, List.setIfInBounds_toArray, List.set_cons_zero, List.set_cons_succ]
            refine plan_take (o := q42r10_14) (r := p42r10_12) ?vr14 H2.out (by rfl) ?hyr14 ?restr14
            case hyr14 => (intro w hSw; (try dsimp only at hSw); obtain ⟨y1, y2, _, _⟩ := HCC2.out _ hSw; simp only [q42r10_14]; go_simp; try with_reducible rfl)
            try simp only [q42r10_14, Act.put, List.setIfInBounds_toArray, List.set_cons_zero, List.set_cons_succ]
            refine plan_act (o := q42r10_6) (r := p42r10_13) (fun K hK => ?_)
            simp only [q42r10_6]
            refine ite_pos2 (by rfl) ?_
            go_simp
            refine (HEY.out _).mono ?_
            rintro e w4 ⟨rfl, b3⟩
            have B4 := hid (HTR2.out _ _ H2.out b3)
            clear b3
            go_wp2_with fail
            refine hK.out _ _ (fun _ => B4.out) ?_
            clear hK K
            try simp only [q42r10_6, Act.put, List.setIfInBounds_toArray, List.set_cons_zero, List.set_cons_succ]
            refine plan_act (o := q42r10_8) (r := p42r10_14) (fun K hK => ?_)
            simp only [q42r10_8]
            refine ite_pos2 (by rfl) ?_
            go_simp
            refine (HEX.out _).mono ?_
            rintro e w5 ⟨rfl, b3⟩
            have B5 := hid (HTR2.out _ _ B4.out b3)
            clear b3
            go_wp2_with fail
            refine hK.out _ _ (fun _ => B5.out) ?_
            clear hK K
            try simp only [q42r10_8, Act.put, List.setIfInBounds_toArray, List.set_cons_zero, List.set_cons_succ]
            refine plan_take (o := q42r10_9) (r := p42r10_15) (.int .i64 (max ye xe)) B5.out (by rfl) ?hyr9 ?restr9
            case hyr9 => (intro w hSw; (try dsimp only at hSw); simp only [q42r10_9]; go_simp; try with_reducible rfl)
            try simp only [q42r10_9, Act.put, List.setIfInBounds_toArray, List.set_cons_zero, List.set_cons_succ]
            refine plan_take (o := q42r10_15) (r := p42r10_16) (.int .i64 (max ye xe - ya)) B5.out (by rfl) ?hyr15 ?restr15
            case hyr15 => (intro w hSw; (try dsimp only at hSw); simp only [q42r10_15]; go_simp; try with_reducible rfl)
            try simp only [q42r10_15, Act.put, List.setIfInBounds_toArray, List.set_cons_zero, List.set_cons_succ]
            refine plan_take (o := q42r10_16) (r := p42r10_17) ?vr16 B5.out (by rfl) ?hyr16 ?restr16
            case hyr16 => (intro w hSw; (try dsimp only at hSw); have hq : ((A.length : Nat) : Int) < ((A.length : Nat) : Int) + 1 := (by omega); simp only [q42r10_16]; go_simp; try with_reducible rfl)
            try simp only [q42r10_16, Act.put, List.setIfInBounds_toArray, List.set_cons_zero, List.set_cons_succ]
            refine plan_take (o := q42r10_17) (r := p42r10_18) ?vr17 B5.out (by rfl) ?hyr17 ?restr17
            case hyr17 => (intro w hSw; (try dsimp only at hSw); simp only [q42r10_17]; go_simp; try with_reducible rfl)
            try simp only [q42r10_17, Act.put, List.setIfInBounds_toArray, List.set_cons_zero, List.set_cons_succ]
            refine plan_late (o := q42r10_18) (r := p42r10_19) (fun K hK => ?_)
            simp only [q42r10_18]
            refine ite_pos2 (by rfl) ?_
            have M5 := hid (MR2.out.below B5.out MR2.out.lt)
            obtain ⟨_, z5, zf⟩ := M5.out.last
            have lg := M5.out.lt
            go_simp
            refine hK.out _ _ ?_
            clear hK K
            refine plan_done ?_
            have M6 := hid (M5.out.set (max ye xe - ya))
            have K6 : Hid (Kp (fun _ => False) w (w5.setCell ⟨g, A.length * 2 + 1, none⟩ (.int .i64 (max ye xe - ya)))) := HKB.out _ _ (K2.out.trans (Kp.of_below (F := fun _ => False) B5.out) (fun _ _ h => h)) (kp_setCell w5 g (A.length * 2 + 1) _ (fun i => i = g) rfl)
            go_wp2_with fail
            go_roundw
            case rel => exact ⟨k + 1, A ++ [(⟨ya, max ye xe - ya⟩ : Rn)], by go_num, by simp, hlt, (show Hid _ from HTK.out.symm), M6, K6⟩
            case measure => simp [intOf]; omega
      · obtain rfl : k = n := by omega
        rw [List.take_of_length_le (by have := HLL.out; omega)] at HMM
        go_wp2_with fail
        go_ret
        exact ⟨_, rfl, by rw [← HTG.out, ← HMM.out]; exact MR.out.own (by have := HLL.out; omega) HB.out HCM.out, HK.out⟩

end Go.Proofs.Ytgfondgejimkkaa
