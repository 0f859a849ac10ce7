/- tables: told (Rn): what puts one. -/
import Derived.Test.YtjjhkfhppoioiaaKeR
import Derived.Test.YtjjhkfhppoioiaaThR
import Derived.Test.YtjjhkfhppoioiaaAq
namespace Go.Proofs.Ytjjhkfhppoioiaa
open Go.RowKit
set_option linter.unusedVariables false
def bysr (xs : List Int) : List Value := xs.map (Value.int .u8)
theorem bysr_one (xs : List Int) : ∀ u ∈ bysr xs, u.oneCell' = true := by
  intro u hu
  obtain ⟨z, _, rfl⟩ := List.mem_map.1 hu
  rfl
/-- What the putting stands on: its variables, and the bytes so far. -/
structure PJr (P : Nat) (b : Int) (ao : Option Addr) (n cap : Nat) (l : List Rn) (i : Nat) (u : World) : Prop where
  kb : St 74 u P kcr
  bb : St 3 u (P + 1) #[.int .i64 b]
  lb : St 36 u (P + 2) #[.slice ao n cap]
  vb : ∃ v, St 26 u (P + 3) #[v] ∧ u.ownsRow (P + 4) 5 1 v (encs Rn.enc (l.take i)).length (bysr (encs Rn.enc (l.take i))) ∧ v.ownBlock ≠ some (P + 4) ∧ v.ownBlock ≠ some (P + 5)
theorem PJr.kp {P : Nat} {b : Int} {ao : Option Addr} {n cap : Nat} {l : List Rn} {i : Nat} {u u' : World} (h : PJr P b ao n cap l i u) (k : Kp (fun k => k = P + 4 ∨ k = P + 5) u u') : PJr P b ao n cap l i u' := by
  obtain ⟨v, h1, h2, h3, h4⟩ := h.vb
  exact ⟨h.kb.kp k (by omega), h.bb.kp k (by omega), h.lb.kp k (by omega), v, h1.kp k (by omega), ownsRow_kp h2 k (fun g e x => by rcases x with rfl | rfl <;> contradiction), h3, h4⟩
theorem lb_loadr {u : World} {g : Nat} {v : Value} (h : St 36 u g #[v]) : u.cell? ⟨g, 0, none⟩ = some v := h.cell 0
theorem rw_newsr {w : World} {g : Nat} {L : List Int} (h : Rw 5 w g L) : ∀ j u, (bysr L)[j]? = some u → w.cell? ((⟨g, 0, none⟩ : Addr).add j) = some u := by
  intro j u hu
  rw [add_z, cell_of_row w g j _ 5 _ h, ← hu]
  simp [bysr]
theorem told_c1 {X Y : List Int} {Z : List Int} (h : Z = X ++ Y) (hl : Z.length ≤ 100000000) : X.length + Y.length ≤ maxLen := by
  rw [h, List.length_append] at hl
  unfold maxLen
  omega
theorem told_c2 {X Y : List Int} {Z : List Int} (h : Z = X ++ Y) (hl : Z.length ≤ 100000000) : (X.length + Y.length) * 1 ≤ 140737488355328 := by
  rw [h, List.length_append] at hl
  omega
theorem told_mid {P : Nat} {v0 v3 : Value} {u1 u2 u3 : World} {n : Nat} {xs : List Value} (V1 : St 26 u1 (P + 3) #[v0]) (V2 : u1.ownsRow (P + 4) 5 1 v0 n xs) (V3 : v0.ownBlock ≠ some (P + 4) ∧ v0.ownBlock ≠ some (P + 5)) (Y1 : Below u1.heap.size u1 u2) (hs : P + 6 ≤ u1.heap.size) (k3 : Kp (fun i => v0.ownBlock = some i) u2 u3) (l3 : v3.ownBlock = v0.ownBlock ∨ v3.ownBlock = some u2.heap.size) :
    St 26 u3 (P + 3) #[v0] ∧ Kp (fun i => v0.ownBlock = some i) u1 u3 ∧ v3.ownBlock ≠ some (P + 4) ∧ v3.ownBlock ≠ some (P + 5) := by
  have hne : v0.ownBlock ≠ some (P + 3) := fun e => by
    have := (V2.lt _ e).1
    omega
  have hY := Y1.size
  have kk : Kp (fun i => v0.ownBlock = some i) u1 u3 := (Kp.of_below (F := fun i => v0.ownBlock = some i) Y1).trans k3 (fun _ _ e => e)
  refine ⟨V1.kp kk hne, kk, ?_, ?_⟩
  · rcases l3 with e | e
    · rw [e]; exact V3.1
    · rw [e]; simp; omega
  · rcases l3 with e | e
    · rw [e]; exact V3.2
    · rw [e]; simp; omega
theorem told_finr {P R : Nat} {b : Int} {ao : Option Addr} {n cap : Nat} {l : List Rn} {i : Nat} {w0 u u1 u2 u3 u5 : World} {v0 v3 : Value} {e : Rn} (H : PJr P b ao n cap l i u) (hR : R = u.heap.size) (hsz : P + 6 ≤ R) (hbl : Below P w0 u) (A5 : Below R u u1) (V0 : u.cell? ⟨P + 3, 0, none⟩ = some v0) (V2 : u1.ownsRow (P + 4) 5 1 v0 (encs Rn.enc (l.take i)).length (bysr (encs Rn.enc (l.take i)))) (V3 : v0.ownBlock ≠ some (P + 4) ∧ v0.ownBlock ≠ some (P + 5)) (hvl : ∀ g, v0.ownBlock = some g → g < R) (Y1 : Below u1.heap.size u1 u2)
    (HY : St 26 u3 (P + 3) #[v0] ∧ Kp (fun i => v0.ownBlock = some i) u1 u3 ∧ v3.ownBlock ≠ some (P + 4) ∧ v3.ownBlock ≠ some (P + 5)) (l3 : v3.ownBlock = v0.ownBlock ∨ v3.ownBlock = some u2.heap.size) (O3 : u3.ownsRow (P + 4) 5 1 v3 ((encs Rn.enc (l.take i)).length + e.enc.length) (bysr (encs Rn.enc (l.take i)) ++ bysr e.enc)) (hen : encs Rn.enc (l.take (i + 1)) = encs Rn.enc (l.take i) ++ e.enc) (hR1 : R < u1.heap.size)
    (k5 : Kp (fun i => i = R) (u3.setCell ⟨P + 3, 0, none⟩ v3) u5) : u5.heap[P + 4]? = u.heap[P + 4]? ∧ u5.heap[P + 5]? = u.heap[P + 5]? ∧ u.heap.size ≤ u5.heap.size ∧ Below P w0 u5 ∧ PJr P b ao n cap l (i + 1) u5 := by
  have hlo : ∀ g, v0.ownBlock = some g → P + 4 ≤ g := fun g e => (V2.lt g e).1
  have k1 : Kp (fun i => v0.ownBlock = some i ∨ i = P + 3 ∨ i = R) u u1 := ⟨A5.os, A5.tape, A5.output, A5.size, fun k hk _ => A5.block k (by omega)⟩
  have k2 : Kp (fun i => v0.ownBlock = some i ∨ i = P + 3 ∨ i = R) u1 u3 := HY.2.1.mono (fun _ _ e => Or.inl e)
  have k3 : Kp (fun i => v0.ownBlock = some i ∨ i = P + 3 ∨ i = R) u3 (u3.setCell ⟨P + 3, 0, none⟩ v3) := kp_setCell u3 (P + 3) 0 v3 _ (Or.inr (Or.inl rfl))
  have k4 : Kp (fun i => v0.ownBlock = some i ∨ i = P + 3 ∨ i = R) (u3.setCell ⟨P + 3, 0, none⟩ v3) u5 := k5.mono (fun _ _ e => Or.inr (Or.inr e))
  have kk := ((k1.trans k2 (fun _ _ e => e)).trans k3 (fun _ _ e => e)).trans k4 (fun _ _ e => e)
  have n1 : ∀ g, g < P + 3 → ¬ (v0.ownBlock = some g ∨ g = P + 3 ∨ g = R) := by
    rintro g hg (e | e | e)
    · have := hlo g e; omega
    · omega
    · omega
  refine ⟨kk.block _ (by omega) ?_, kk.block _ (by omega) ?_, kk.size, ?_, ⟨H.kb.kp kk (n1 _ (by omega)), H.bb.kp kk (n1 _ (by omega)), H.lb.kp kk (n1 _ (by omega)), v3, ?_, ?_, HY.2.2.1, HY.2.2.2⟩⟩
  · rintro (e | e | e)
    · exact V3.1 e
    · omega
    · omega
  · rintro (e | e | e)
    · exact V3.2 e
    · omega
    · omega
  · refine hbl.trans (kk.below (by omega) ?_)
    rintro g (e | e | e)
    · have := hlo g e; omega
    · omega
    · omega
  · have s1 := HY.1.set 0 v3
    have s2 : St 26 (u3.setCell ⟨P + 3, 0, none⟩ v3) (P + 3) #[v3] := by simpa using s1
    exact s2.kp k5 (by omega)
  · have hY := Y1.size
    have h3 : v3.ownBlock ≠ some (P + 3) ∧ v3.ownBlock ≠ some R := by
      constructor
      · intro e
        have := (O3.lt _ e).1
        omega
      · rcases l3 with e | e
        · rw [e]; intro e2; have := hvl _ e2; omega
        · rw [e]; simp; omega
    rw [hen, List.length_append, show bysr (encs Rn.enc (l.take i) ++ e.enc) = bysr (encs Rn.enc (l.take i)) ++ bysr e.enc by simp [bysr]]
    exact ownsRow_kp (ownsRow_kp O3 (kp_setCell u3 (P + 3) 0 v3 (fun g => g = P + 3) rfl) (fun g e e2 => h3.1 (e2 ▸ e))) k5 (fun g e e2 => h3.2 (e2 ▸ e))
theorem encs_take {E : Type} (enc : E → List Int) (l : List E) (i : Nat) (z : E) (h : i < l.length) : encs enc (l.take (i + 1)) = encs enc (l.take i) ++ enc (l.getD i z) := by
  rw [List.take_succ_eq_append_getElem h, encs_append, encs_one, getD_lt l i z h]
def q50r1_0 : Oper := { dst := some 8, op := Go.Op.fieldAddr 74 (Go.Operand.tmp 1) 2, type := 0, pos := "list.go:46", after := #[], guard := none }
def q50r1_1 : Oper := { dst := some 9, op := Go.Op.load 70 (Go.Operand.tmp 8), type := 70, pos := "list.go:46", after := #[{ on := 0, ground := Go.Ground.data }], guard := none }
def q50r1_2 : Oper := { dst := some 10, op := Go.Op.load 36 (Go.Operand.tmp 2), type := 36, pos := "list.go:46", after := #[], guard := none }
def q50r1_3 : Oper := { dst := some 11, op := Go.Op.move (Go.Operand.tmp 0), type := 3, pos := "list.go:46", after := #[], guard := none }
def q50r1_4 : Oper := { dst := some 12, op := Go.Op.indexAddr 36 (Go.Operand.tmp 10) (Go.Operand.tmp 11), type := 0, pos := "list.go:46", after := #[{ on := 2, ground := Go.Ground.data }, { on := 3, ground := Go.Ground.data }], guard := none }
def q50r1_5 : Oper := { dst := some 13, op := Go.Op.load 38 (Go.Operand.tmp 12), type := 38, pos := "list.go:46", after := #[{ on := 4, ground := Go.Ground.data }], guard := none }
def q50r1_6 : Oper := { dst := some 14, op := Go.Op.load 3 (Go.Operand.tmp 3), type := 3, pos := "list.go:46", after := #[], guard := none }
def q50r1_7 : Oper := { dst := some 15, op := Go.Op.binOp Go.BinOp.shl 2 (Go.Operand.const (Go.Value.int Go.IntKind.i64 1)) (Go.Operand.tmp 14) 3, type := 2, pos := "list.go:46", after := #[{ on := 6, ground := Go.Ground.data }], guard := none }
def q50r1_8 : Oper := { dst := some 16, op := Go.Op.call { callee := Go.Callee.value (Go.Operand.tmp 9), args := #[Go.Operand.tmp 13, Go.Operand.tmp 15], argTypes := #[38, 2] }, type := 4, pos := "list.go:46", after := #[{ on := 1, ground := Go.Ground.data }, { on := 5, ground := Go.Ground.data }, { on := 7, ground := Go.Ground.data }], guard := none }
def q50r1_9 : Oper := { dst := some 17, op := Go.Op.unOp Go.UnOp.not 4 (Go.Operand.tmp 16), type := 4, pos := "list.go:46", after := #[{ on := 8, ground := Go.Ground.data }], guard := none }
def o50r1 : Array Oper := #[q50r1_0, q50r1_1, q50r1_2, q50r1_3, q50r1_4, q50r1_5, q50r1_6, q50r1_7, q50r1_8, q50r1_9]
def p50r1_10 : List (Nat × Oper) := []
def p50r1_9 : List (Nat × Oper) := (0, q50r1_9) :: p50r1_10
def p50r1_8 : List (Nat × Oper) := (1, q50r1_8) :: p50r1_9
def p50r1_7 : List (Nat × Oper) := (0, q50r1_7) :: p50r1_8
def p50r1_6 : List (Nat × Oper) := (0, q50r1_6) :: p50r1_7
def p50r1_5 : List (Nat × Oper) := (0, q50r1_5) :: p50r1_6
def p50r1_4 : List (Nat × Oper) := (0, q50r1_4) :: p50r1_5
def p50r1_3 : List (Nat × Oper) := (0, q50r1_3) :: p50r1_4
def p50r1_2 : List (Nat × Oper) := (0, q50r1_2) :: p50r1_3
def p50r1_1 : List (Nat × Oper) := (0, q50r1_1) :: p50r1_2
def p50r1_0 : List (Nat × Oper) := (0, q50r1_0) :: p50r1_1
def c50r1 : List (Nat × Nat) := [(0, 0), (0, 1), (0, 2), (0, 3), (0, 4), (0, 5), (0, 6), (0, 7), (1, 8), (0, 9)]
theorem b50r1 : (Region.noSelect o50r1 && (c50r1.length == o50r1.size) && planB o50r1 [] c50r1 (Array.replicate o50r1.size false)) = true := by kernel_rfl
theorem d50r1 : (c50r1.map fun p => (p.1, o50r1[p.2]?)) = (p50r1_0.map fun p => (p.1, some p.2)) := by kernel_rfl
def q50r4_0 : Oper := { dst := some 19, op := Go.Op.load 26 (Go.Operand.tmp 4), type := 26, pos := "list.go:50", after := #[], guard := none }
def q50r4_1 : Oper := { dst := some 20, op := Go.Op.fieldAddr 74 (Go.Operand.tmp 1) 3, type := 0, pos := "list.go:50", after := #[], guard := none }
def q50r4_2 : Oper := { dst := some 21, op := Go.Op.load 71 (Go.Operand.tmp 20), type := 71, pos := "list.go:50", after := #[{ on := 1, ground := Go.Ground.data }], guard := none }
def q50r4_3 : Oper := { dst := some 22, op := Go.Op.load 36 (Go.Operand.tmp 2), type := 36, pos := "list.go:50", after := #[], guard := none }
def q50r4_4 : Oper := { dst := some 23, op := Go.Op.move (Go.Operand.tmp 0), type := 3, pos := "list.go:50", after := #[], guard := none }
def q50r4_5 : Oper := { dst := some 24, op := Go.Op.indexAddr 36 (Go.Operand.tmp 22) (Go.Operand.tmp 23), type := 0, pos := "list.go:50", after := #[{ on := 3, ground := Go.Ground.data }, { on := 4, ground := Go.Ground.data }], guard := none }
def q50r4_6 : Oper := { dst := some 25, op := Go.Op.load 38 (Go.Operand.tmp 24), type := 38, pos := "list.go:50", after := #[{ on := 5, ground := Go.Ground.data }], guard := none }
def q50r4_7 : Oper := { dst := some 26, op := Go.Op.call { callee := Go.Callee.value (Go.Operand.tmp 21), args := #[Go.Operand.tmp 25], argTypes := #[38] }, type := 26, pos := "list.go:50", after := #[{ on := 2, ground := Go.Ground.data }, { on := 6, ground := Go.Ground.data }], guard := none }
def q50r4_8 : Oper := { dst := some 27, op := Go.Op.call { callee := Go.Callee.builtin Go.Builtin.append, args := #[Go.Operand.tmp 19, Go.Operand.tmp 26], argTypes := #[26, 26] }, type := 26, pos := "list.go:50", after := #[{ on := 0, ground := Go.Ground.data }, { on := 7, ground := Go.Ground.data }, { on := 7, ground := Go.Ground.chain }], guard := none }
def q50r4_9 : Oper := { dst := none, op := Go.Op.store 26 (Go.Operand.tmp 4) (Go.Operand.tmp 27), type := 0, pos := "list.go:50", after := #[{ on := 8, ground := Go.Ground.data }, { on := 8, ground := Go.Ground.chain }, { on := 0, ground := Go.Ground.phase }, { on := 1, ground := Go.Ground.phase }, { on := 2, ground := Go.Ground.phase }, { on := 3, ground := Go.Ground.phase }, { on := 4, ground := Go.Ground.phase }, { on := 5, ground := Go.Ground.phase }, { on := 6, ground := Go.Ground.phase }, { on := 7, ground := Go.Ground.phase }, { on := 8, ground := Go.Ground.phase }], guard := none }
def o50r4 : Array Oper := #[q50r4_0, q50r4_1, q50r4_2, q50r4_3, q50r4_4, q50r4_5, q50r4_6, q50r4_7, q50r4_8, q50r4_9]
def p50r4_10 : List (Nat × Oper) := []
def p50r4_9 : List (Nat × Oper) := (2, q50r4_9) :: p50r4_10
def p50r4_8 : List (Nat × Oper) := (2, q50r4_8) :: p50r4_9
def p50r4_7 : List (Nat × Oper) := (1, q50r4_7) :: p50r4_8
def p50r4_6 : List (Nat × Oper) := (0, q50r4_6) :: p50r4_7
def p50r4_5 : List (Nat × Oper) := (0, q50r4_5) :: p50r4_6
def p50r4_4 : List (Nat × Oper) := (0, q50r4_4) :: p50r4_5
def p50r4_3 : List (Nat × Oper) := (0, q50r4_3) :: p50r4_4
def p50r4_2 : List (Nat × Oper) := (0, q50r4_2) :: p50r4_3
def p50r4_1 : List (Nat × Oper) := (0, q50r4_1) :: p50r4_2
def p50r4_0 : List (Nat × Oper) := (0, q50r4_0) :: p50r4_1
def c50r4 : List (Nat × Nat) := [(0, 0), (0, 1), (0, 2), (0, 3), (0, 4), (0, 5), (0, 6), (1, 7), (2, 8), (2, 9)]
theorem b50r4 : (Region.noSelect o50r4 && (c50r4.length == o50r4.size) && planB o50r4 [8, 9] c50r4 (Array.replicate o50r4.size false)) = true := by kernel_rfl
theorem d50r4 : (c50r4.map fun p => (p.1, o50r4[p.2]?)) = (p50r4_0.map fun p => (p.1, some p.2)) := by kernel_rfl
set_option maxRecDepth 100000 in
set_option maxHeartbeats 4000000 in
theorem told1_no_r (P : Nat) (b : Int) (ao : Option Addr) (n cap : Nat) (l : List Rn) (i : Nat) (w0 u : World) (hb : Bt b) (hn : n = l.length) (hcap : n ≤ cap) (hi : i < n) (hin : i < 1000000) (hS : Srcr w0 ao l) (h6 : ∀ e ∈ l, e.i6) (hw0 : w0.heap.size = P) (hbl : Below P w0 u) (hsz : P + 6 ≤ u.heap.size) (h : PJr P b ao n cap l i u) (hm : ¬ (l.getD i zRn).May b) :
    Calls Try.prog 50 #[.int .i64 (i : Int), .pointer (some ⟨P, 0, none⟩), .pointer (some ⟨P + 2, 0, none⟩), .pointer (some ⟨P + 1, 0, none⟩), .pointer (some ⟨P + 3, 0, none⟩)] u fun e u' => e = .returned (.agg zRn.cs) ∧ Below u.heap.size u u' := by
  have hil : i < l.length := by omega
  obtain ⟨gb, off, rfl, hgb, x0, x1, x2, x3, x4⟩ := hS.at hil
  rw [hw0] at hgb
  have hi6 := h6 _ (getD_in l i zRn hil)
  obtain ⟨e, he⟩ : ∃ e, e = l.getD i zRn := ⟨_, rfl⟩
  rw [← he] at x0 x1 x2 x3 x4 hi6 hm
  obtain ⟨nm, a, bb, c, d⟩ := e
  dsimp only at x0 x1 x2 x3 x4 hi6 hm
  have HSH : ∀ W, (Op.shift .shl .i64 1 .i64 b).run Try.prog W = .ok (.int .i64 (clu b)) W := fun W => shl_clu hb W
  have HE := hid he
  have H := hid h
  have HBL := hid hbl
  clear he h hS h6 hw0
  go_enter Try.func50, Try.ntmps50
  go_wp2_with fail
  obtain ⟨R, hR⟩ : ∃ R, R = u.heap.size := ⟨_, rfl⟩
  have A1 : Below R u (u.alloc (.cells #[.string ⟨#[]⟩, .int .i64 0, .int .i64 0, .int .i64 0, .int .i64 0] 38)) := by rw [hR]; exact (Below.refl _ _).alloc (Nat.le_refl _) _
  have A2 : Rn.B (u.alloc (.cells #[.string ⟨#[]⟩, .int .i64 0, .int .i64 0, .int .i64 0, .int .i64 0] 38)) R zRn := by rw [hR]; exact Rn.B.new u zRn
  have A3 : (u.alloc (.cells #[.string ⟨#[]⟩, .int .i64 0, .int .i64 0, .int .i64 0, .int .i64 0] 38)).heap.size = R + 1 := by rw [hR]; exact World.size_alloc _ _
  rw [← hR]
  have HR := hid hR
  rw [← hR] at hsz
  clear hR
  generalize u.alloc (.cells #[.string ⟨#[]⟩, .int .i64 0, .int .i64 0, .int .i64 0, .int .i64 0] 38) = u0 at A1 A2 A3 ⊢
  have C0 : Hid (∀ W, Below u0.heap.size u0 W → W.cell? ⟨gb, off + i * 5, none⟩ = some (.string nm)) := fun W h => by rw [← x0]; exact (hbl.trans ((A1.trans (h.mono (by omega))).mono (by omega))).cell hgb
  have C1 : Hid (∀ W, Below u0.heap.size u0 W → W.cell? ⟨gb, off + i * 5 + 1, none⟩ = some (.int .i64 a)) := fun W h => by rw [← x1]; exact (hbl.trans ((A1.trans (h.mono (by omega))).mono (by omega))).cell hgb
  have C2 : Hid (∀ W, Below u0.heap.size u0 W → W.cell? ⟨gb, off + i * 5 + 2, none⟩ = some (.int .i64 bb)) := fun W h => by rw [← x2]; exact (hbl.trans ((A1.trans (h.mono (by omega))).mono (by omega))).cell hgb
  have C3 : Hid (∀ W, Below u0.heap.size u0 W → W.cell? ⟨gb, off + i * 5 + 3, none⟩ = some (.int .i64 c)) := fun W h => by rw [← x3]; exact (hbl.trans ((A1.trans (h.mono (by omega))).mono (by omega))).cell hgb
  have C4 : Hid (∀ W, Below u0.heap.size u0 W → W.cell? ⟨gb, off + i * 5 + 4, none⟩ = some (.int .i64 d)) := fun W h => by rw [← x4]; exact (hbl.trans ((A1.trans (h.mono (by omega))).mono (by omega))).cell hgb
  clear x0 x1 x2 x3 x4 hbl
  have CK : Hid (∀ W, Below u0.heap.size u0 W → St 74 W P kcr) := fun W h => H.out.kb.below (A1.trans (h.mono (by omega))) (by omega)
  have CL : Hid (∀ W, Below u0.heap.size u0 W → W.cell? ⟨P + 2, 0, none⟩ = some (.slice (some ⟨gb, off, none⟩) n cap)) := fun W h => (H.out.lb.below (A1.trans (h.mono (by omega))) (by omega)).cell 0
  have CB : Hid (∀ W, Below u0.heap.size u0 W → W.cell? ⟨P + 1, 0, none⟩ = some (.int .i64 b)) := fun W h => (H.out.bb.below (A1.trans (h.mono (by omega))) (by omega)).cell 0
  have Z0 : Below u0.heap.size u0 u0.drew := ⟨rfl, rfl, rfl, Nat.le_refl _, fun _ _ => rfl⟩
  have HMAY : Hid (∀ W, Calls Try.prog 53 #[.agg #[.string nm, .int .i64 a, .int .i64 bb, .int .i64 c, .int .i64 d], .int .i64 (clu b)] W fun x w' => x = .returned (.bool false) ∧ Below W.heap.size W w') := fun W => (may_r b (Rn.mk nm a bb c d) W hb hi6).mono (fun x w' h => ⟨by rcases h.1 with ⟨q, h⟩ | ⟨q, h⟩; (· exact absurd q hm); (· exact h), h.2⟩)
  change (Code.region 1 o50r1 true).wp _ _ _ _
  refine wp_region_plan (fun W => Below u0.heap.size u0 W) [] c50r1 p50r1_0 hmix b50r1 d50r1 (fun _ _ d _ _ h => by cases d <;> exact h) ?_
  refine plan_take (o := q50r1_0) (r := p50r1_1) ?va0 Z0 (by rfl) ?hya0 ?resta0
  case hya0 => (intro w hSw; (try dsimp only at hSw); simp only [q50r1_0]; go_simp; try with_reducible rfl)
  try simp only [q50r1_0, Act.put, List.setIfInBounds_toArray, List.set_cons_zero, List.set_cons_succ]
  refine plan_take (o := q50r1_1) (r := p50r1_2) ?va1 Z0 (by rfl) ?hya1 ?resta1
  case hya1 => (intro w hSw; (try dsimp only at hSw); have c1 := (CK.out w hSw).cell 2; (change w.cell? _ = some (Value.func (.func 53) #[] #[]) at c1); simp only [q50r1_1]; go_simp; try with_reducible rfl)
  try simp only [q50r1_1, Act.put, List.setIfInBounds_toArray, List.set_cons_zero, List.set_cons_succ]
  refine plan_take (o := q50r1_2) (r := p50r1_3) ?va2 Z0 (by rfl) ?hya2 ?resta2
  case hya2 => (intro w hSw; (try dsimp only at hSw); have c1 := CL.out w hSw; simp only [q50r1_2]; go_simp; try with_reducible rfl)
  try simp only [q50r1_2, Act.put, List.setIfInBounds_toArray, List.set_cons_zero, List.set_cons_succ]
  refine plan_take (o := q50r1_3) (r := p50r1_4) ?va3 Z0 (by rfl) ?hya3 ?resta3
  case hya3 => (intro w hSw; (try dsimp only at hSw); simp only [q50r1_3]; go_simp; try with_reducible rfl)
  try simp only [q50r1_3, Act.put, List.setIfInBounds_toArray, List.set_cons_zero, List.set_cons_succ]
  refine plan_take (o := q50r1_4) (r := p50r1_5) ?va4 Z0 (by rfl) ?hya4 ?resta4
  case hya4 => (intro w hSw; (try dsimp only at hSw); simp only [q50r1_4]; go_simp; try with_reducible rfl)
  try simp only [q50r1_4, Act.put, List.setIfInBounds_toArray, List.set_cons_zero, List.set_cons_succ]
  refine plan_take (o := q50r1_5) (r := p50r1_6) ?va5 Z0 (by rfl) ?hya5 ?resta5
  case hya5 => (intro w hSw; (try dsimp only at hSw); have e0 := C0.out w hSw; have e1 := C1.out w hSw; have e2 := C2.out w hSw; have e3 := C3.out w hSw; have e4 := C4.out w hSw; simp only [q50r1_5]; go_simp; try with_reducible rfl)
  try simp only [q50r1_5, Act.put, List.setIfInBounds_toArray, List.set_cons_zero, List.set_cons_succ]
  refine plan_take (o := q50r1_6) (r := p50r1_7) ?va6 Z0 (by rfl) ?hya6 ?resta6
  case hya6 => (intro w hSw; (try dsimp only at hSw); have c1 := CB.out w hSw; simp only [q50r1_6]; go_simp; try with_reducible rfl)
  try simp only [q50r1_6, Act.put, List.setIfInBounds_toArray, List.set_cons_zero, List.set_cons_succ]
  refine plan_take (o := q50r1_7) (r := p50r1_8) (.int .i64 (clu b)) Z0 (by rfl) ?hya7 ?resta7
  case hya7 => (intro w hSw; simp only [q50r1_7]; go_simp; try with_reducible rfl)
  try simp only [q50r1_7, Act.put, List.setIfInBounds_toArray, List.set_cons_zero, List.set_cons_succ]
  refine plan_act (o := q50r1_8) (r := p50r1_9) (fun K hK => ?_)
  simp only [q50r1_8]
  go_simp
  refine (HMAY.out _).mono ?_
  rintro x u1 ⟨rfl, b1⟩
  have Z1 : Below u0.heap.size u0 u1 := Z0.trans b1
  clear b1
  go_wp2_with fail
  refine hK.out _ _ (fun _ => Z1) ?_
  clear hK K
  refine plan_take (o := q50r1_9) (r := p50r1_10) ?va9 Z1 (by rfl) ?hya9 ?resta9
  case hya9 => (intro w hSw; (try dsimp only at hSw); simp only [q50r1_9]; go_simp; try with_reducible rfl)
  try simp only [q50r1_9, Act.put, List.setIfInBounds_toArray, List.set_cons_zero, List.set_cons_succ]
  refine plan_done ?_
  have A4 : Rn.B u1 R zRn := A2.below Z1 (by omega)
  have A5 : Below R u u1 := A1.trans (Z1.mono (by omega))
  have HA4 := hid A4
  have HA5 := hid A5
  have hl1 := A5.size
  clear A1 A2 A3 A4 A5 Z0 Z1 CK CL CB HMAY HSH C0 C1 C2 C3 C4
  go_wp2_with (first | (refine wpList_load_r rfl (.tmp 7) rfl u1.heap.size rfl (Rn.B.new u1 zRn) ?_) | (refine wpList_store_r rfl (.tmp 6) (.tmp 18) rfl R rfl (e := zRn) (e' := zRn) rfl (HA4.out.kp (F := fun _ => False) ((Kp.refl _ _).alloc _) (fun x => x)) ?_; intro u2 s2 k2))
  refine bodyPost_ret (results_cell1 Try.results50 _ _ _ rfl s2.load) rfl ⟨rfl, ?_⟩
  have hR := HR.out
  have hl := HA4.out.lt
  rw [← hR]
  exact (HA5.out.alloc (Nat.le_of_lt hl) _).trans (k2.below (by rw [World.size_alloc]; omega) (fun i e => Nat.le_of_eq e.symm))
set_option maxRecDepth 100000 in
set_option maxHeartbeats 4000000 in
theorem told1_ok_r (P : Nat) (b : Int) (ao : Option Addr) (n cap : Nat) (l : List Rn) (i : Nat) (w0 u : World) (hb : Bt b) (hn : n = l.length) (hcap : n ≤ cap) (hi : i < n) (hin : i < 1000000) (hS : Srcr w0 ao l) (h6 : ∀ e ∈ l, e.i6) (hw0 : w0.heap.size = P) (hbl : Below P w0 u) (hsz : P + 6 ≤ u.heap.size) (h : PJr P b ao n cap l i u) (hlen : (encs Rn.enc (l.take (i + 1))).length ≤ 100000000) (hm : (l.getD i zRn).May b) :
    Calls Try.prog 50 #[.int .i64 (i : Int), .pointer (some ⟨P, 0, none⟩), .pointer (some ⟨P + 2, 0, none⟩), .pointer (some ⟨P + 1, 0, none⟩), .pointer (some ⟨P + 3, 0, none⟩)] u fun e u' => e = .returned (.agg (l.getD i zRn).cs) ∧ u'.heap[P + 4]? = u.heap[P + 4]? ∧ u'.heap[P + 5]? = u.heap[P + 5]? ∧ u.heap.size ≤ u'.heap.size ∧ Below P w0 u' ∧ PJr P b ao n cap l (i + 1) u' := by
  have hil : i < l.length := by omega
  obtain ⟨gb, off, rfl, hgb, x0, x1, x2, x3, x4⟩ := hS.at hil
  rw [hw0] at hgb
  have hi6 := h6 _ (getD_in l i zRn hil)
  have hen := encs_take Rn.enc l i zRn hil
  obtain ⟨e, he⟩ : ∃ e, e = l.getD i zRn := ⟨_, rfl⟩
  rw [← he] at x0 x1 x2 x3 x4 hi6 hm hen ⊢
  obtain ⟨nm, a, bb, c, d⟩ := e
  dsimp only at x0 x1 x2 x3 x4 hi6 hm
  have HSH : ∀ W, (Op.shift .shl .i64 1 .i64 b).run Try.prog W = .ok (.int .i64 (clu b)) W := fun W => shl_clu hb W
  have HE := hid he
  have H := hid h
  have HBL := hid hbl
  clear he h hS h6 hw0
  go_enter Try.func50, Try.ntmps50
  go_wp2_with fail
  obtain ⟨R, hR⟩ : ∃ R, R = u.heap.size := ⟨_, rfl⟩
  have A1 : Below R u (u.alloc (.cells #[.string ⟨#[]⟩, .int .i64 0, .int .i64 0, .int .i64 0, .int .i64 0] 38)) := by rw [hR]; exact (Below.refl _ _).alloc (Nat.le_refl _) _
  have A2 : Rn.B (u.alloc (.cells #[.string ⟨#[]⟩, .int .i64 0, .int .i64 0, .int .i64 0, .int .i64 0] 38)) R zRn := by rw [hR]; exact Rn.B.new u zRn
  have A3 : (u.alloc (.cells #[.string ⟨#[]⟩, .int .i64 0, .int .i64 0, .int .i64 0, .int .i64 0] 38)).heap.size = R + 1 := by rw [hR]; exact World.size_alloc _ _
  rw [← hR]
  have HR := hid hR
  rw [← hR] at hsz
  clear hR
  generalize u.alloc (.cells #[.string ⟨#[]⟩, .int .i64 0, .int .i64 0, .int .i64 0, .int .i64 0] 38) = u0 at A1 A2 A3 ⊢
  have HEN := hid hen
  have HPUT : Hid (∀ W, Calls Try.prog 54 #[.agg #[.string nm, .int .i64 a, .int .i64 bb, .int .i64 c, .int .i64 d]] W fun x w' => ∃ g, x = .returned (.slice (some ⟨g, 0, none⟩) ((Rn.mk nm a bb c d).enc).length ((Rn.mk nm a bb c d).enc).length) ∧ W.heap.size ≤ g ∧ Rw 5 w' g ((Rn.mk nm a bb c d).enc) ∧ Below W.heap.size W w') := fun W => put_r b (Rn.mk nm a bb c d) W hm
  have hep : 0 < (Rn.mk nm a bb c d).enc.length := by rw [Rn.enc_len]; omega
  have HEP := hid hep
  clear hen hep
  have C0 : Hid (∀ W, Below u0.heap.size u0 W → W.cell? ⟨gb, off + i * 5, none⟩ = some (.string nm)) := fun W h => by rw [← x0]; exact (hbl.trans ((A1.trans (h.mono (by omega))).mono (by omega))).cell hgb
  have C1 : Hid (∀ W, Below u0.heap.size u0 W → W.cell? ⟨gb, off + i * 5 + 1, none⟩ = some (.int .i64 a)) := fun W h => by rw [← x1]; exact (hbl.trans ((A1.trans (h.mono (by omega))).mono (by omega))).cell hgb
  have C2 : Hid (∀ W, Below u0.heap.size u0 W → W.cell? ⟨gb, off + i * 5 + 2, none⟩ = some (.int .i64 bb)) := fun W h => by rw [← x2]; exact (hbl.trans ((A1.trans (h.mono (by omega))).mono (by omega))).cell hgb
  have C3 : Hid (∀ W, Below u0.heap.size u0 W → W.cell? ⟨gb, off + i * 5 + 3, none⟩ = some (.int .i64 c)) := fun W h => by rw [← x3]; exact (hbl.trans ((A1.trans (h.mono (by omega))).mono (by omega))).cell hgb
  have C4 : Hid (∀ W, Below u0.heap.size u0 W → W.cell? ⟨gb, off + i * 5 + 4, none⟩ = some (.int .i64 d)) := fun W h => by rw [← x4]; exact (hbl.trans ((A1.trans (h.mono (by omega))).mono (by omega))).cell hgb
  clear x0 x1 x2 x3 x4 hbl
  have CK : Hid (∀ W, Below u0.heap.size u0 W → St 74 W P kcr) := fun W h => H.out.kb.below (A1.trans (h.mono (by omega))) (by omega)
  have CL : Hid (∀ W, Below u0.heap.size u0 W → W.cell? ⟨P + 2, 0, none⟩ = some (.slice (some ⟨gb, off, none⟩) n cap)) := fun W h => (H.out.lb.below (A1.trans (h.mono (by omega))) (by omega)).cell 0
  have CB : Hid (∀ W, Below u0.heap.size u0 W → W.cell? ⟨P + 1, 0, none⟩ = some (.int .i64 b)) := fun W h => (H.out.bb.below (A1.trans (h.mono (by omega))) (by omega)).cell 0
  have Z0 : Below u0.heap.size u0 u0.drew := ⟨rfl, rfl, rfl, Nat.le_refl _, fun _ _ => rfl⟩
  have HMAY : Hid (∀ W, Calls Try.prog 53 #[.agg #[.string nm, .int .i64 a, .int .i64 bb, .int .i64 c, .int .i64 d], .int .i64 (clu b)] W fun x w' => x = .returned (.bool true) ∧ Below W.heap.size W w') := fun W => (may_r b (Rn.mk nm a bb c d) W hb hi6).mono (fun x w' h => ⟨by rcases h.1 with ⟨q, h⟩ | ⟨q, h⟩; (· exact h); (· exact absurd hm q), h.2⟩)
  change (Code.region 1 o50r1 true).wp _ _ _ _
  refine wp_region_plan (fun W => Below u0.heap.size u0 W) [] c50r1 p50r1_0 hmix b50r1 d50r1 (fun _ _ d _ _ h => by cases d <;> exact h) ?_
  refine plan_take (o := q50r1_0) (r := p50r1_1) ?va0 Z0 (by rfl) ?hya0 ?resta0
  case hya0 => (intro w hSw; (try dsimp only at hSw); simp only [q50r1_0]; go_simp; try with_reducible rfl)
  try simp only [q50r1_0, Act.put, List.setIfInBounds_toArray, List.set_cons_zero, List.set_cons_succ]
  refine plan_take (o := q50r1_1) (r := p50r1_2) ?va1 Z0 (by rfl) ?hya1 ?resta1
  case hya1 => (intro w hSw; (try dsimp only at hSw); have c1 := (CK.out w hSw).cell 2; (change w.cell? _ = some (Value.func (.func 53) #[] #[]) at c1); simp only [q50r1_1]; go_simp; try with_reducible rfl)
  try simp only [q50r1_1, Act.put, List.setIfInBounds_toArray, List.set_cons_zero, List.set_cons_succ]
  refine plan_take (o := q50r1_2) (r := p50r1_3) ?va2 Z0 (by rfl) ?hya2 ?resta2
  case hya2 => (intro w hSw; (try dsimp only at hSw); have c1 := CL.out w hSw; simp only [q50r1_2]; go_simp; try with_reducible rfl)
  try simp only [q50r1_2, Act.put, List.setIfInBounds_toArray, List.set_cons_zero, List.set_cons_succ]
  refine plan_take (o := q50r1_3) (r := p50r1_4) ?va3 Z0 (by rfl) ?hya3 ?resta3
  case hya3 => (intro w hSw; (try dsimp only at hSw); simp only [q50r1_3]; go_simp; try with_reducible rfl)
  try simp only [q50r1_3, Act.put, List.setIfInBounds_toArray, List.set_cons_zero, List.set_cons_succ]
  refine plan_take (o := q50r1_4) (r := p50r1_5) ?va4 Z0 (by rfl) ?hya4 ?resta4
  case hya4 => (intro w hSw; (try dsimp only at hSw); simp only [q50r1_4]; go_simp; try with_reducible rfl)
  try simp only [q50r1_4, Act.put, List.setIfInBounds_toArray, List.set_cons_zero, List.set_cons_succ]
  refine plan_take (o := q50r1_5) (r := p50r1_6) ?va5 Z0 (by rfl) ?hya5 ?resta5
  case hya5 => (intro w hSw; (try dsimp only at hSw); have e0 := C0.out w hSw; have e1 := C1.out w hSw; have e2 := C2.out w hSw; have e3 := C3.out w hSw; have e4 := C4.out w hSw; simp only [q50r1_5]; go_simp; try with_reducible rfl)
  try simp only [q50r1_5, Act.put, List.setIfInBounds_toArray, List.set_cons_zero, List.set_cons_succ]
  refine plan_take (o := q50r1_6) (r := p50r1_7) ?va6 Z0 (by rfl) ?hya6 ?resta6
  case hya6 => (intro w hSw; (try dsimp only at hSw); have c1 := CB.out w hSw; simp only [q50r1_6]; go_simp; try with_reducible rfl)
  try simp only [q50r1_6, Act.put, List.setIfInBounds_toArray, List.set_cons_zero, List.set_cons_succ]
  refine plan_take (o := q50r1_7) (r := p50r1_8) (.int .i64 (clu b)) Z0 (by rfl) ?hya7 ?resta7
  case hya7 => (intro w hSw; simp only [q50r1_7]; go_simp; try with_reducible rfl)
  try simp only [q50r1_7, Act.put, List.setIfInBounds_toArray, List.set_cons_zero, List.set_cons_succ]
  refine plan_act (o := q50r1_8) (r := p50r1_9) (fun K hK => ?_)
  simp only [q50r1_8]
  go_simp
  refine (HMAY.out _).mono ?_
  rintro x u1 ⟨rfl, b1⟩
  have Z1 : Below u0.heap.size u0 u1 := Z0.trans b1
  clear b1
  go_wp2_with fail
  refine hK.out _ _ (fun _ => Z1) ?_
  clear hK K
  refine plan_take (o := q50r1_9) (r := p50r1_10) ?va9 Z1 (by rfl) ?hya9 ?resta9
  case hya9 => (intro w hSw; (try dsimp only at hSw); simp only [q50r1_9]; go_simp; try with_reducible rfl)
  try simp only [q50r1_9, Act.put, List.setIfInBounds_toArray, List.set_cons_zero, List.set_cons_succ]
  refine plan_done ?_
  have A4 : Rn.B u1 R zRn := A2.below Z1 (by omega)
  have A5 : Below R u u1 := A1.trans (Z1.mono (by omega))
  obtain ⟨v0, V1, V2, V3, V4⟩ := H.out.vb
  have V0 : Hid (u.cell? ⟨P + 3, 0, none⟩ = some v0) := V1.cell 0
  have V1 : St 26 u1 (P + 3) #[v0] := V1.below A5 (by omega)
  have hu0 : u.heap.size = R := HR.out.symm
  have HVL : Hid (∀ g, v0.ownBlock = some g → g < R) := fun g e => by have := (V2.lt g e).2; omega
  have V2 : u1.ownsRow (P + 4) 5 1 v0 (encs Rn.enc (l.take i)).length (bysr (encs Rn.enc (l.take i))) := ownsRow_kp (F := fun _ => False) V2 ⟨A5.os, A5.tape, A5.output, A5.size, fun k hk _ => A5.block k (by omega)⟩ (fun _ _ x => x)
  have D0 : Hid (∀ W, Below u1.heap.size u1 W → W.cell? ⟨gb, off + i * 5, none⟩ = some (.string nm)) := fun W h => C0.out W (Z1.trans (h.mono Z1.size))
  have D1 : Hid (∀ W, Below u1.heap.size u1 W → W.cell? ⟨gb, off + i * 5 + 1, none⟩ = some (.int .i64 a)) := fun W h => C1.out W (Z1.trans (h.mono Z1.size))
  have D2 : Hid (∀ W, Below u1.heap.size u1 W → W.cell? ⟨gb, off + i * 5 + 2, none⟩ = some (.int .i64 bb)) := fun W h => C2.out W (Z1.trans (h.mono Z1.size))
  have D3 : Hid (∀ W, Below u1.heap.size u1 W → W.cell? ⟨gb, off + i * 5 + 3, none⟩ = some (.int .i64 c)) := fun W h => C3.out W (Z1.trans (h.mono Z1.size))
  have D4 : Hid (∀ W, Below u1.heap.size u1 W → W.cell? ⟨gb, off + i * 5 + 4, none⟩ = some (.int .i64 d)) := fun W h => C4.out W (Z1.trans (h.mono Z1.size))
  have DK : Hid (∀ W, Below u1.heap.size u1 W → St 74 W P kcr) := fun W h => CK.out W (Z1.trans (h.mono Z1.size))
  have DL : Hid (∀ W, Below u1.heap.size u1 W → W.cell? ⟨P + 2, 0, none⟩ = some (.slice (some ⟨gb, off, none⟩) n cap)) := fun W h => CL.out W (Z1.trans (h.mono Z1.size))
  have DV : Hid (∀ W, Below u1.heap.size u1 W → W.cell? ⟨P + 3, 0, none⟩ = some v0) := fun W h => (V1.below h V1.lt).cell 0
  have Y0 : Below u1.heap.size u1 u1.drew := ⟨rfl, rfl, rfl, Nat.le_refl _, fun _ _ => rfl⟩
  have hl1 := A5.size
  have HX := hid (And.intro A4 (And.intro A5 (And.intro V1 (And.intro V2 (And.intro V3 V4)))))
  clear A1 A2 A3 A4 A5 V1 V2 V3 V4 Z0 Z1 CK CL CB HMAY HSH C0 C1 C2 C3 C4
  go_wp2_with fail
  change (Code.region 4 o50r4 true).wp _ _ _ _
  refine wp_region_plan (fun W => Below u1.heap.size u1 W) [8, 9] c50r4 p50r4_0 hmix b50r4 d50r4 (fun _ _ d _ _ h => by cases d <;> exact h) ?_
  refine plan_take (o := q50r4_0) (r := p50r4_1) ?vb0 Y0 (by rfl) ?hyb0 ?restb0
  case hyb0 => (intro w hSw; (try dsimp only at hSw); have c1 := DV.out w hSw; simp only [q50r4_0]; go_simp; try with_reducible rfl)
  try simp only [q50r4_0, Act.put, List.setIfInBounds_toArray, List.set_cons_zero, List.set_cons_succ]
  refine plan_take (o := q50r4_1) (r := p50r4_2) ?vb1 Y0 (by rfl) ?hyb1 ?restb1
  case hyb1 => (intro w hSw; (try dsimp only at hSw); simp only [q50r4_1]; go_simp; try with_reducible rfl)
  try simp only [q50r4_1, Act.put, List.setIfInBounds_toArray, List.set_cons_zero, List.set_cons_succ]
  refine plan_take (o := q50r4_2) (r := p50r4_3) ?vb2 Y0 (by rfl) ?hyb2 ?restb2
  case hyb2 => (intro w hSw; (try dsimp only at hSw); have c1 := (DK.out w hSw).cell 3; (change w.cell? _ = some (Value.func (.func 54) #[] #[]) at c1); simp only [q50r4_2]; go_simp; try with_reducible rfl)
  try simp only [q50r4_2, Act.put, List.setIfInBounds_toArray, List.set_cons_zero, List.set_cons_succ]
  refine plan_take (o := q50r4_3) (r := p50r4_4) ?vb3 Y0 (by rfl) ?hyb3 ?restb3
  case hyb3 => (intro w hSw; (try dsimp only at hSw); have c1 := DL.out w hSw; simp only [q50r4_3]; go_simp; try with_reducible rfl)
  try simp only [q50r4_3, Act.put, List.setIfInBounds_toArray, List.set_cons_zero, List.set_cons_succ]
  refine plan_take (o := q50r4_4) (r := p50r4_5) ?vb4 Y0 (by rfl) ?hyb4 ?restb4
  case hyb4 => (intro w hSw; (try dsimp only at hSw); simp only [q50r4_4]; go_simp; try with_reducible rfl)
  try simp only [q50r4_4, Act.put, List.setIfInBounds_toArray, List.set_cons_zero, List.set_cons_succ]
  refine plan_take (o := q50r4_5) (r := p50r4_6) ?vb5 Y0 (by rfl) ?hyb5 ?restb5
  case hyb5 => (intro w hSw; (try dsimp only at hSw); simp only [q50r4_5]; go_simp; try with_reducible rfl)
  try simp only [q50r4_5, Act.put, List.setIfInBounds_toArray, List.set_cons_zero, List.set_cons_succ]
  refine plan_take (o := q50r4_6) (r := p50r4_7) ?vb6 Y0 (by rfl) ?hyb6 ?restb6
  case hyb6 => (intro w hSw; (try dsimp only at hSw); have e0 := D0.out w hSw; have e1 := D1.out w hSw; have e2 := D2.out w hSw; have e3 := D3.out w hSw; have e4 := D4.out w hSw; simp only [q50r4_6]; go_simp; try with_reducible rfl)
  try simp only [q50r4_6, Act.put, List.setIfInBounds_toArray, List.set_cons_zero, List.set_cons_succ]
  refine plan_act (o := q50r4_7) (r := p50r4_8) (fun K hK => ?_)
  simp only [q50r4_7]
  go_simp
  refine (HPUT.out _).mono ?_
  rintro x u2 ⟨g2, rfl, h2, r2, b2⟩
  have Y1 : Below u1.heap.size u1 u2 := Y0.trans b2
  have R2 := hid r2
  have H2 : Hid (u1.heap.size ≤ g2) := h2
  clear b2 r2 h2
  go_wp2_with fail
  refine hK.out _ _ (fun _ => Y1) ?_
  clear hK K
  refine plan_late (o := q50r4_8) (r := p50r4_9) (fun K hK => ?_)
  simp only [q50r4_8]
  refine Eq.mpr (if_pos (by rfl)) ?_
  refine wp_append_at (.tmp 19) (.tmp 26) 26 rfl (P + 4) 5 (.int .u8 0) 1 1 Try.underlying26 Try.info5 rfl (by decide) v0 _ _ rfl (ownsRow_kp (F := fun _ => False) HX.out.2.2.2.1 ⟨Y1.os, Y1.tape, Y1.output, Y1.size, fun k hk _ => Y1.block k hk⟩ (fun _ _ x => x)) ⟨g2, 0, none⟩ (Rn.mk nm a bb c d).enc.length (Rn.mk nm a bb c d).enc.length (bysr (Rn.mk nm a bb c d).enc) rfl (by simp [bysr]) (rw_newsr R2.out) (bysr_one _) ?c1 ?c2 ?c3 ?_
  case c1 => exact told_c1 HEN.out hlen
  case c2 => exact told_c2 HEN.out hlen
  case c3 => have := Y1.size; omega
  intro v3 u3 o3 k3 l3
  obtain ⟨g3, cap3, rfl⟩ := own_slice5 o3 (by have := HEP.out; omega)
  have HY := hid (told_mid HX.out.2.2.1 HX.out.2.2.2.1 HX.out.2.2.2.2 Y1 (by omega) k3 l3)
  have c3 : u3.cell? ⟨P + 3, 0, none⟩ = some v0 := HY.out.1.cell 0
  have f3 := HY.out.1.frozen 0
  have O3 := hid o3
  have K3 := hid k3
  have L3 := hid l3
  clear o3 k3 l3
  refine hK.out _ _ ?_
  clear hK K
  simp only [Act.put, List.setIfInBounds_toArray, List.set_cons_zero, List.set_cons_succ]
  refine plan_late (o := q50r4_9) (r := p50r4_10) (fun K hK => ?_)
  simp only [q50r4_9]
  go_simp
  refine hK.out _ _ ?_
  clear hK K
  refine plan_done ?_
  have HZ : Hid ((fun W : World => W.cell? ⟨P + 2, 0, none⟩ = some (.slice (some ⟨gb, off, none⟩) n cap) ∧ W.cell? ⟨gb, off + i * 5, none⟩ = some (.string nm) ∧ W.cell? ⟨gb, off + i * 5 + 1, none⟩ = some (.int .i64 a) ∧ W.cell? ⟨gb, off + i * 5 + 2, none⟩ = some (.int .i64 bb) ∧ W.cell? ⟨gb, off + i * 5 + 3, none⟩ = some (.int .i64 c) ∧ W.cell? ⟨gb, off + i * 5 + 4, none⟩ = some (.int .i64 d) ∧ Rn.B W R zRn) (u3.setCell ⟨P + 3, 0, none⟩ (.slice (some ⟨g3, 0, none⟩) ((encs Rn.enc (l.take i)).length + (Rn.mk nm a bb c d).enc.length) cap3))) := by
    have hown : ∀ g, v0.ownBlock = some g → P + 4 ≤ g ∧ g < R := fun g e => ⟨(HX.out.2.2.2.1.lt g e).1, HVL.out g e⟩
    have k0 := HY.out.2.1
    have k1 := kp_setCell u3 (P + 3) 0 (.slice (some ⟨g3, 0, none⟩) ((encs Rn.enc (l.take i)).length + (Rn.mk nm a bb c d).enc.length) cap3) (fun i => v0.ownBlock = some i ∨ i = P + 3) (Or.inr rfl)
    have k2 := (k0.mono (G := fun i => v0.ownBlock = some i ∨ i = P + 3) (fun _ _ e => Or.inl e)).trans k1 (fun _ _ e => e)
    have nb : ∀ g, g < P + 3 ∨ g = R → ¬ (v0.ownBlock = some g ∨ g = P + 3) := by
      rintro g hg (e | e)
      · have := hown g e; omega
      · omega
    have Y2 : Below u1.heap.size u1 u1 := Below.refl _ _
    refine ⟨kp_cell k2 (DL.out u1 Y2) (nb _ (by omega)), kp_cell k2 (D0.out u1 Y2) (nb _ (by omega)), kp_cell k2 (D1.out u1 Y2) (nb _ (by omega)), kp_cell k2 (D2.out u1 Y2) (nb _ (by omega)), kp_cell k2 (D3.out u1 Y2) (nb _ (by omega)), kp_cell k2 (D4.out u1 Y2) (nb _ (by omega)), HX.out.1.kp k2 (nb _ (Or.inr rfl))⟩
  have O3' := O3
  have KF := hid (fun u5 k5 => told_finr (u5 := u5) H.out HR.out hsz HBL.out HX.out.2.1 V0.out HX.out.2.2.2.1 HX.out.2.2.2.2 HVL.out Y1 HY.out L3.out O3.out HEN.out HX.out.1.lt k5)
  have hY1 := Y1.size
  clear H HBL HX DK DL DV D0 D1 D2 D3 D4 HY O3 O3' K3 L3 HEN R2 H2 Y0 Y1 HPUT HEP
  generalize u3.setCell ⟨P + 3, 0, none⟩ (.slice (some ⟨g3, 0, none⟩) ((encs Rn.enc (l.take i)).length + (Rn.mk nm a bb c d).enc.length) cap3) = u4 at HZ KF ⊢
  obtain ⟨y0, y1, y2, y3, y4, y5, yz⟩ := HZ.out
  have YZ := hid yz
  clear yz HZ
  go_wp2_with (first | (refine wpList_store_r rfl (.tmp 6) (.tmp 31) rfl R rfl (e := zRn) (e' := (Rn.mk nm a bb c d)) rfl YZ.out ?_; intro u5 s5 k5))
  refine bodyPost_ret (results_cell1 Try.results50 _ _ _ rfl s5.load) rfl ⟨rfl, ?_⟩
  exact KF.out u5 k5
end Go.Proofs.Ytjjhkfhppoioiaa
