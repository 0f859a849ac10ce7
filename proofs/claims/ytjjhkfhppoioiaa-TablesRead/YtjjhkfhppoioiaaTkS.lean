/- tables: taken (Sn): what reads one. -/
import Derived.Test.YtjjhkfhppoioiaaRsS
import Derived.Test.YtjjhkfhppoioiaaTiS
import Derived.Test.YtjjhkfhppoioiaaAq
namespace Go.Proofs.Ytjjhkfhppoioiaa
open Go.RowKit
set_option linter.unusedVariables false
/-- What the reading stands on: its variables, where it is, and the list so far. -/
structure TJs (P : Nat) (b : Int) (st : Bool × List Int) (l : List Sn) (u : World) : Prop where
  kb : St 61 u P kcs
  bb : St 3 u (P + 1) #[.int .i64 b]
  rd : Rdr u (P + 3) P st
  lv : ∃ v, St 22 u (P + 2) #[v] ∧ Owns u (P + 4) v l ∧ v.ownBlock ≠ some (P + 4) ∧ v.ownBlock ≠ some (P + 5)
theorem TJs.kp {P : Nat} {b : Int} {st : Bool × List Int} {l : List Sn} {u u' : World} (h : TJs P b st l u) (k : Kp (fun k => k = P + 4 ∨ k = P + 5) u u') : TJs P b st l u' := by
  obtain ⟨v, h1, h2, h3, h4⟩ := h.lv
  exact ⟨h.kb.kp k (by omega), h.bb.kp k (by omega), h.rd.kp k (by omega) (fun g hg e => by omega), v, h1.kp k (by omega), ownsRow_kp h2 k (fun g e x => by rcases x with rfl | rfl <;> contradiction), h3, h4⟩
theorem take_fins {P R : Nat} {b : Int} {st s1 : Bool × List Int} {l : List Sn} {w0 u u2 u3 u5 u9 : World} {v0 v5 : Value} {e : Sn} {o : Obj} (H : TJs P b st l u) (hR : R = u.heap.size) (hsz : P + 6 ≤ R) (hbl : Below P w0 u) (KU : Kp (fun i => i = P + 3) u u2) (Z1 : Below u2.heap.size u2 u3) (R2 : Rdr u2 (P + 3) P s1) (hlo : ∀ g, v0.ownBlock = some g → P + 4 ≤ g ∧ g < R) (V3 : v0.ownBlock ≠ some (P + 4) ∧ v0.ownBlock ≠ some (P + 5))
    (O5 : u5.ownsRow (P + 4) 25 4 v5 (l.length + 1) (fls l ++ e.cl)) (k5 : Kp (fun i => v0.ownBlock = some i) (u3.alloc o) u5) (l5 : v5.ownBlock = v0.ownBlock ∨ v5.ownBlock = some (u3.alloc o).heap.size) (k9 : Kp (fun i => i = R) (u5.setCell ⟨P + 2, 0, none⟩ v5) u9) :
    u9.heap[P + 4]? = u.heap[P + 4]? ∧ u9.heap[P + 5]? = u.heap[P + 5]? ∧ u.heap.size ≤ u9.heap.size ∧ Below P w0 u9 ∧ TJs P b s1 (l ++ [e]) u9 := by
  have hs2 := KU.size
  have hs3 := Z1.size
  have a1 : Kp (fun i => v0.ownBlock = some i ∨ i = P + 2 ∨ i = P + 3 ∨ i = R) u u2 := KU.mono (fun _ _ e => Or.inr (Or.inr (Or.inl e)))
  have a2 : Kp (fun i => v0.ownBlock = some i ∨ i = P + 2 ∨ i = R) u2 u5 := ((Kp.of_below (F := fun i => v0.ownBlock = some i ∨ i = P + 2 ∨ i = R) Z1).alloc o).trans (k5.mono (G := fun i => v0.ownBlock = some i ∨ i = P + 2 ∨ i = R) (fun _ _ e => Or.inl e)) (fun _ _ e => e)
  have a3 : Kp (fun i => v0.ownBlock = some i ∨ i = P + 2 ∨ i = R) u5 (u5.setCell ⟨P + 2, 0, none⟩ v5) := kp_setCell u5 (P + 2) 0 v5 _ (Or.inr (Or.inl rfl))
  have a4 : Kp (fun i => v0.ownBlock = some i ∨ i = P + 2 ∨ i = R) (u5.setCell ⟨P + 2, 0, none⟩ v5) u9 := k9.mono (fun _ _ e => Or.inr (Or.inr e))
  have b2 := (a2.trans a3 (fun _ _ e => e)).trans a4 (fun _ _ e => e)
  have kk := a1.trans b2 (fun i _ e => by rcases e with e | e | e; (· exact Or.inl e); (· exact Or.inr (Or.inl e)); (· exact Or.inr (Or.inr (Or.inr e))))
  obtain ⟨v, V1, V2, _⟩ := H.lv
  have n1 : ∀ g, g < P + 2 → ¬ (v0.ownBlock = some g ∨ g = P + 2 ∨ g = P + 3 ∨ g = R) := by
    rintro g hg (e | e | e | e)
    · have := hlo g e; omega
    all_goals omega
  have n2 : ∀ g, g < P + 2 ∨ g = P + 3 → ¬ (v0.ownBlock = some g ∨ g = P + 2 ∨ g = R) := by
    rintro g hg (e | e | e)
    · have := hlo g e; omega
    all_goals omega
  have hsa : (u3.alloc o).heap.size = u3.heap.size + 1 := World.size_alloc _ _
  have h5 : v5.ownBlock ≠ some (P + 4) ∧ v5.ownBlock ≠ some (P + 5) ∧ v5.ownBlock ≠ some (P + 2) ∧ v5.ownBlock ≠ some R := by
    rcases l5 with e | e
    · rw [e]
      exact ⟨V3.1, V3.2, fun h => by have := hlo _ h; omega, fun h => by have := hlo _ h; omega⟩
    · rw [e, hsa]
      refine ⟨?_, ?_, ?_, ?_⟩ <;> (intro h; injection h with h; omega)
  refine ⟨kk.block _ (by omega) ?_, kk.block _ (by omega) ?_, kk.size, ?_, ⟨H.kb.kp kk (n1 _ (by omega)), H.bb.kp kk (n1 _ (by omega)), R2.kp b2 (n2 _ (Or.inr rfl)) (fun g hg => n2 g (Or.inl (by omega))), v5, ?_, ?_, h5.1, h5.2.1⟩⟩
  · rintro (e | e | e | e)
    · exact V3.1 e
    all_goals omega
  · rintro (e | e | e | e)
    · exact V3.2 e
    all_goals omega
  · refine hbl.trans (kk.below (by omega) ?_)
    rintro g (e | e | e | e)
    · have := hlo g e; omega
    all_goals omega
  · have hP2 : ¬ v0.ownBlock = some (P + 2) := fun e => by have := hlo _ e; omega
    have s1 : St 22 u5 (P + 2) #[v] := ((V1.kp KU (by omega)).below Z1 (by omega)).kp (F := fun _ => False) ((Kp.refl _ _).alloc o) (fun x => x) |>.kp k5 hP2
    have s2 : St 22 (u5.setCell ⟨P + 2, 0, none⟩ v5) (P + 2) #[v5] := by have := s1.set 0 v5; simpa using this
    exact s2.kp k9 (by omega)
  · have : fls (l ++ [e]) = fls l ++ e.cl := by simp [fls]
    show u9.ownsRow (P + 4) 25 4 v5 (l ++ [e]).length (fls (l ++ [e]))
    rw [this, List.length_append, List.length_singleton]
    exact ownsRow_kp (ownsRow_kp O5 (kp_setCell u5 (P + 2) 0 v5 (fun g => g = P + 2) rfl) (fun g e e2 => h5.2.2.1 (e2 ▸ e))) k9 (fun g e e2 => h5.2.2.2 (e2 ▸ e))
theorem exec_load_s {o : Oper} {a : Act} {w : World} {x : Operand} {g : Nat} {e : Sn} (ho : o.op = .load 25 x) (hx : a.eval x = .pointer (some ⟨g, 0, none⟩)) (s : Sn.B w g e) :
    (execOp a.eval o).run Try.prog w = .ok (.value (.agg e.cs)) w := by
  unfold execOp
  simp only [ho, hx, Instr.loadAt, Instr.sureAddr, Sem.run_bind, Sem.run_pure, Result.andThen_ok, s.load]
theorem cl_css (e : Sn) : e.cs.toList = e.cl := rfl
def q49r2_0 : Oper := { dst := some 12, op := Go.Op.fieldAddr 94 (Go.Operand.tmp 2) 1, type := 0, pos := "list.go:71", after := #[], guard := none }
def q49r2_1 : Oper := { dst := some 13, op := Go.Op.load 4 (Go.Operand.tmp 12), type := 4, pos := "list.go:71", after := #[{ on := 0, ground := Go.Ground.data }], guard := none }
def q49r2_2 : Oper := { dst := some 14, op := Go.Op.move (Go.Operand.tmp 13), type := 4, pos := "list.go:71", after := #[{ on := 1, ground := Go.Ground.data }], guard := none }
def q49r2_3 : Oper := { dst := some 15, op := Go.Op.fieldAddr 61 (Go.Operand.tmp 1) 2, type := 0, pos := "list.go:71", after := #[{ on := 2, ground := Go.Ground.guard }], guard := some (2, false) }
def q49r2_4 : Oper := { dst := some 16, op := Go.Op.load 57 (Go.Operand.tmp 15), type := 57, pos := "list.go:71", after := #[{ on := 3, ground := Go.Ground.data }, { on := 2, ground := Go.Ground.guard }], guard := some (2, false) }
def q49r2_5 : Oper := { dst := some 17, op := Go.Op.load 25 (Go.Operand.tmp 7), type := 25, pos := "list.go:71", after := #[{ on := 2, ground := Go.Ground.guard }], guard := some (2, false) }
def q49r2_6 : Oper := { dst := some 18, op := Go.Op.load 3 (Go.Operand.tmp 3), type := 3, pos := "list.go:71", after := #[{ on := 2, ground := Go.Ground.guard }], guard := some (2, false) }
def q49r2_7 : Oper := { dst := some 19, op := Go.Op.binOp Go.BinOp.shl 2 (Go.Operand.const (Go.Value.int Go.IntKind.i64 1)) (Go.Operand.tmp 18) 3, type := 2, pos := "list.go:71", after := #[{ on := 6, ground := Go.Ground.data }, { on := 2, ground := Go.Ground.guard }], guard := some (2, false) }
def q49r2_8 : Oper := { dst := some 20, op := Go.Op.call { callee := Go.Callee.value (Go.Operand.tmp 16), args := #[Go.Operand.tmp 17, Go.Operand.tmp 19], argTypes := #[25, 2] }, type := 4, pos := "list.go:71", after := #[{ on := 4, ground := Go.Ground.data }, { on := 5, ground := Go.Ground.data }, { on := 7, ground := Go.Ground.data }, { on := 2, ground := Go.Ground.chain }, { on := 2, ground := Go.Ground.guard }], guard := some (2, false) }
def q49r2_9 : Oper := { dst := some 21, op := Go.Op.unOp Go.UnOp.not 4 (Go.Operand.tmp 20), type := 4, pos := "list.go:71", after := #[{ on := 8, ground := Go.Ground.data }, { on := 2, ground := Go.Ground.guard }], guard := some (2, false) }
def q49r2_10 : Oper := { dst := some 22, op := Go.Op.pick (Go.Operand.tmp 14) (Go.Operand.const (Go.Value.bool true)) (Go.Operand.tmp 21), type := 4, pos := "list.go:71", after := #[{ on := 2, ground := Go.Ground.data }, { on := 9, ground := Go.Ground.data }], guard := none }
def o49r2 : Array Oper := #[q49r2_0, q49r2_1, q49r2_2, q49r2_3, q49r2_4, q49r2_5, q49r2_6, q49r2_7, q49r2_8, q49r2_9, q49r2_10]
def p49r2_11 : List (Nat × Oper) := []
def p49r2_10 : List (Nat × Oper) := (0, q49r2_10) :: p49r2_11
def p49r2_9 : List (Nat × Oper) := (0, q49r2_9) :: p49r2_10
def p49r2_8 : List (Nat × Oper) := (1, q49r2_8) :: p49r2_9
def p49r2_7 : List (Nat × Oper) := (0, q49r2_7) :: p49r2_8
def p49r2_6 : List (Nat × Oper) := (0, q49r2_6) :: p49r2_7
def p49r2_5 : List (Nat × Oper) := (0, q49r2_5) :: p49r2_6
def p49r2_4 : List (Nat × Oper) := (0, q49r2_4) :: p49r2_5
def p49r2_3 : List (Nat × Oper) := (0, q49r2_3) :: p49r2_4
def p49r2_2 : List (Nat × Oper) := (0, q49r2_2) :: p49r2_3
def p49r2_1 : List (Nat × Oper) := (0, q49r2_1) :: p49r2_2
def p49r2_0 : List (Nat × Oper) := (0, q49r2_0) :: p49r2_1
def c49r2 : List (Nat × Nat) := [(0, 0), (0, 1), (0, 2), (0, 3), (0, 4), (0, 5), (0, 6), (0, 7), (1, 8), (0, 9), (0, 10)]
theorem b49r2 : (Region.noSelect o49r2 && (c49r2.length == o49r2.size) && planB o49r2 [] c49r2 (Array.replicate o49r2.size false)) = true := by kernel_rfl
theorem d49r2 : (c49r2.map fun p => (p.1, o49r2[p.2]?)) = (p49r2_0.map fun p => (p.1, some p.2)) := by kernel_rfl
set_option maxRecDepth 100000 in
set_option maxHeartbeats 4000000 in
theorem take1_short_s (P : Nat) (b : Int) (st : Bool × List Int) (l : List Sn) (i : Int) (w0 u : World) (hb : Bt b) (hby : Byt st.2) (hw0 : w0.heap.size = P) (hbl : Below P w0 u) (hsz : P + 6 ≤ u.heap.size) (h : TJs P b st l u) (hs : (Sn.rd st).2.1 = true) :
    Calls Try.prog 49 #[.int .i64 i, .pointer (some ⟨P, 0, none⟩), .pointer (some ⟨P + 3, 0, none⟩), .pointer (some ⟨P + 1, 0, none⟩), .pointer (some ⟨P + 2, 0, none⟩)] u fun e u' => e = .returned (.agg zSn.cs) ∧ Kp (fun i => i = P + 3) u u' := by
  obtain ⟨R, hR⟩ : ∃ R, R = u.heap.size := ⟨_, rfl⟩
  rw [← hR] at hsz
  have kA : ∀ F, Kp F u (u.alloc (.cells #[.string ⟨#[]⟩, .int .i64 0, .int .i64 0, .int .i64 0] 25)) := fun F => (Kp.refl _ _).alloc _
  have hz0 : (u.alloc (.cells #[.string ⟨#[]⟩, .int .i64 0, .int .i64 0, .int .i64 0] 25)).heap.size = R + 1 := by rw [World.size_alloc, hR]
  have hy : (u.alloc (.cells #[.string ⟨#[]⟩, .int .i64 0, .int .i64 0, .int .i64 0] 25)).cell? ⟨P, 4, none⟩ = some (.func (.func 44) #[] #[]) := (h.kb.kp (kA (fun _ => False)) (fun x => x)).cell 4
  have HR0 : Hid (Sn.B (u.alloc (.cells #[.string ⟨#[]⟩, .int .i64 0, .int .i64 0, .int .i64 0] 25)) R zSn) := by rw [hR]; exact Sn.B.new u zSn
  have HRD := hid (h.rd.kp (kA (fun _ => False)) (fun x => x) (fun _ _ x => x))
  obtain ⟨e1, he1⟩ : ∃ e, e = (Sn.rd st).1 := ⟨_, rfl⟩
  obtain ⟨s1, hs1⟩ : ∃ s, s = (Sn.rd st).2 := ⟨_, rfl⟩
  have HC : Hid (∀ W, Rdr W (P + 3) P st → Calls Try.prog 44 #[.pointer (some ⟨P + 3, 0, none⟩)] W fun e w' => e = .returned (.agg e1.cs) ∧ Rdr w' (P + 3) P s1 ∧ Kp (fun i => i = P + 3) W w') := fun W hW => by rw [he1, hs1]; exact read_s (P + 3) P st W (by omega) hby hW
  rw [← hs1] at hs
  have KA := hid (kA (fun i => i = P + 3))
  have H := hid h
  have HBL := hid hbl
  have HSH : ∀ W, (Op.shift .shl .i64 1 .i64 b).run Try.prog W = .ok (.int .i64 (clu b)) W := fun W => shl_clu hb W
  have HR := hid hR
  clear h hbl kA he1 hs1 hw0
  go_enter Try.func49, Try.ntmps49
  go_wp2_with fail
  rw [← hR]
  clear hR
  generalize hW0 : u.alloc (.cells #[.string ⟨#[]⟩, .int .i64 0, .int .i64 0, .int .i64 0] 25) = W0 at *
  clear hW0
  refine (HC.out W0 HRD.out).mono ?_
  rintro e u1 ⟨rfl, r1, k1⟩
  have R1 := hid r1
  have K1 := hid k1
  clear r1 k1
  go_wp2_with (first | (refine wpList_store_s rfl (.tmp 7) (.tmp 11) rfl u1.heap.size rfl (e := zSn) (e' := e1) rfl (Sn.B.new u1 zSn) ?_; intro u2 s2 k2))
  have kk : Kp (fun i => i = P + 3) W0 u2 := (K1.out.alloc _).trans k2 (fun g hg e => by have := K1.out.size; omega)
  have k3 : ∀ F, Kp F u1 u2 := fun F => ((Kp.refl F u1).alloc _).trans k2 (fun g hg e => by omega)
  have R2 := hid (R1.out.kp (k3 (fun _ => False)) (fun x => x) (fun _ _ x => x))
  have KU := hid (KA.out.trans kk (fun _ _ e => e))
  have S0 := hid (HR0.out.kp kk (by omega))
  obtain ⟨Q, hQ⟩ : ∃ Q, Q = u1.heap.size := ⟨_, rfl⟩
  have hQR : R < Q := by have := K1.out.size; omega
  rw [← hQ] at s2 ⊢
  have S1 := hid s2
  have hQ2 : Q < u2.heap.size := s2.lt
  clear k2 k3 kk s2 R1 K1 HC HRD HR0 KA hy hQ hz0
  have CK : Hid (∀ W, Below u2.heap.size u2 W → St 61 W P kcs) := fun W h => (H.out.kb.kp KU.out (by omega)).below h (by omega)
  have CB : Hid (∀ W, Below u2.heap.size u2 W → W.cell? ⟨P + 1, 0, none⟩ = some (.int .i64 b)) := fun W h => ((H.out.bb.kp KU.out (by omega)).below h (by omega)).cell 0
  have CS : Hid (∀ W, Below u2.heap.size u2 W → W.cell? ⟨P + 3, 1, none⟩ = some (.bool s1.1)) := fun W h => by
    obtain ⟨v, h1, _⟩ := R2.out
    exact (h1.below h h1.lt).cell 1
  have CE : Hid (∀ W, Below u2.heap.size u2 W → Sn.B W Q e1) := fun W h => S1.out.below h hQ2
  have Z0 : Below u2.heap.size u2 u2.drew := ⟨rfl, rfl, rfl, Nat.le_refl _, fun _ _ => rfl⟩
  have HS : Hid (s1.1 = true) := hs
  change (Code.region 2 o49r2 true).wp _ _ _ _
  refine wp_region_plan (fun W => Below u2.heap.size u2 W) [] c49r2 p49r2_0 hmix b49r2 d49r2 (fun _ _ d _ _ h => by cases d <;> exact h) ?_
  refine plan_take (o := q49r2_0) (r := p49r2_1) ?va0 Z0 (by rfl) ?hya0 ?resta0
  case hya0 => (intro w hSw; (try dsimp only at hSw); simp only [q49r2_0]; go_simp; try with_reducible rfl)
  try simp only [q49r2_0, Act.put, List.setIfInBounds_toArray, List.set_cons_zero, List.set_cons_succ]
  refine plan_take (o := q49r2_1) (r := p49r2_2) ?va1 Z0 (by rfl) ?hya1 ?resta1
  case hya1 => (intro w hSw; (try dsimp only at hSw); have c1 := CS.out w hSw; rw [HS.out] at c1; simp only [q49r2_1]; go_simp; try with_reducible rfl)
  try simp only [q49r2_1, Act.put, List.setIfInBounds_toArray, List.set_cons_zero, List.set_cons_succ]
  refine plan_take (o := q49r2_2) (r := p49r2_3) ?va2 Z0 (by rfl) ?hya2 ?resta2
  case hya2 => (intro w hSw; (try dsimp only at hSw); simp only [q49r2_2]; go_simp; try with_reducible rfl)
  try simp only [q49r2_2, Act.put, List.setIfInBounds_toArray, List.set_cons_zero, List.set_cons_succ]
  refine plan_skip (o := q49r2_3) (r := p49r2_4) Z0 (by rfl) ?_
  try simp only [q49r2_3, Act.put, List.setIfInBounds_toArray, List.set_cons_zero, List.set_cons_succ]
  refine plan_skip (o := q49r2_4) (r := p49r2_5) Z0 (by rfl) ?_
  try simp only [q49r2_4, Act.put, List.setIfInBounds_toArray, List.set_cons_zero, List.set_cons_succ]
  refine plan_skip (o := q49r2_5) (r := p49r2_6) Z0 (by rfl) ?_
  try simp only [q49r2_5, Act.put, List.setIfInBounds_toArray, List.set_cons_zero, List.set_cons_succ]
  refine plan_skip (o := q49r2_6) (r := p49r2_7) Z0 (by rfl) ?_
  try simp only [q49r2_6, Act.put, List.setIfInBounds_toArray, List.set_cons_zero, List.set_cons_succ]
  refine plan_skip (o := q49r2_7) (r := p49r2_8) Z0 (by rfl) ?_
  try simp only [q49r2_7, Act.put, List.setIfInBounds_toArray, List.set_cons_zero, List.set_cons_succ]
  refine plan_act (o := q49r2_8) (r := p49r2_9) (fun K hK => ?_)
  simp only [q49r2_8]
  refine Eq.mpr (if_neg (Bool.eq_false_iff.1 rfl)) ?_
  refine hK.out _ _ (fun h => h) ?_
  clear hK K
  try simp only [Act.put, List.setIfInBounds_toArray, List.set_cons_zero, List.set_cons_succ]
  refine plan_skip (o := q49r2_9) (r := p49r2_10) Z0 (by rfl) ?_
  try simp only [q49r2_9, Act.put, List.setIfInBounds_toArray, List.set_cons_zero, List.set_cons_succ]
  refine plan_take (o := q49r2_10) (r := p49r2_11) ?va10 Z0 (by rfl) ?hya10 ?resta10
  case hya10 => (intro w hSw; (try dsimp only at hSw); simp only [q49r2_10]; go_simp; try with_reducible rfl)
  try simp only [q49r2_10, Act.put, List.setIfInBounds_toArray, List.set_cons_zero, List.set_cons_succ]
  refine plan_done ?_
  have kz : Kp (fun i => i = P + 3) u u2.drew := KU.out.trans (Kp.of_below (F := fun i => i = P + 3) Z0) (fun _ _ e => e)
  have sz : Sn.B u2.drew R zSn := S0.out.below Z0 (by omega)
  have KZ := hid kz
  have SZ := hid sz
  have hzz := Z0.size
  clear kz sz Z0 CK CB CS CE
  generalize hX : u2.drew = X at *
  go_wp2_with (first | (refine wpList_load_s rfl (.tmp 8) rfl X.heap.size rfl (Sn.B.new X zSn) ?_) | (refine wpList_store_s rfl (.tmp 6) (.tmp 23) rfl R rfl (e := zSn) (e' := zSn) rfl (SZ.out.kp (F := fun _ => False) ((Kp.refl _ _).alloc _) (fun x => x)) ?_; intro u5 s5 k5))
  refine bodyPost_ret (results_cell1 Try.results49 _ _ _ rfl s5.load) rfl ⟨rfl, ?_⟩
  have hRR := HR.out
  exact (KZ.out.alloc _).trans k5 (fun g hg e => by omega)
set_option maxRecDepth 100000 in
set_option maxHeartbeats 4000000 in
theorem take1_no_s (P : Nat) (b : Int) (st : Bool × List Int) (l : List Sn) (i : Int) (w0 u : World) (hb : Bt b) (hby : Byt st.2) (hw0 : w0.heap.size = P) (hbl : Below P w0 u) (hsz : P + 6 ≤ u.heap.size) (h : TJs P b st l u) (hi6 : (Sn.rd st).1.i6) (hs : (Sn.rd st).2.1 = false) (hm : ¬ (Sn.rd st).1.May b) :
    Calls Try.prog 49 #[.int .i64 i, .pointer (some ⟨P, 0, none⟩), .pointer (some ⟨P + 3, 0, none⟩), .pointer (some ⟨P + 1, 0, none⟩), .pointer (some ⟨P + 2, 0, none⟩)] u fun e u' => e = .returned (.agg zSn.cs) ∧ Kp (fun i => i = P + 3) u u' := by
  obtain ⟨R, hR⟩ : ∃ R, R = u.heap.size := ⟨_, rfl⟩
  rw [← hR] at hsz
  have kA : ∀ F, Kp F u (u.alloc (.cells #[.string ⟨#[]⟩, .int .i64 0, .int .i64 0, .int .i64 0] 25)) := fun F => (Kp.refl _ _).alloc _
  have hz0 : (u.alloc (.cells #[.string ⟨#[]⟩, .int .i64 0, .int .i64 0, .int .i64 0] 25)).heap.size = R + 1 := by rw [World.size_alloc, hR]
  have hy : (u.alloc (.cells #[.string ⟨#[]⟩, .int .i64 0, .int .i64 0, .int .i64 0] 25)).cell? ⟨P, 4, none⟩ = some (.func (.func 44) #[] #[]) := (h.kb.kp (kA (fun _ => False)) (fun x => x)).cell 4
  have HR0 : Hid (Sn.B (u.alloc (.cells #[.string ⟨#[]⟩, .int .i64 0, .int .i64 0, .int .i64 0] 25)) R zSn) := by rw [hR]; exact Sn.B.new u zSn
  have HRD := hid (h.rd.kp (kA (fun _ => False)) (fun x => x) (fun _ _ x => x))
  obtain ⟨e1, he1⟩ : ∃ e, e = (Sn.rd st).1 := ⟨_, rfl⟩
  obtain ⟨s1, hs1⟩ : ∃ s, s = (Sn.rd st).2 := ⟨_, rfl⟩
  have HC : Hid (∀ W, Rdr W (P + 3) P st → Calls Try.prog 44 #[.pointer (some ⟨P + 3, 0, none⟩)] W fun e w' => e = .returned (.agg e1.cs) ∧ Rdr w' (P + 3) P s1 ∧ Kp (fun i => i = P + 3) W w') := fun W hW => by rw [he1, hs1]; exact read_s (P + 3) P st W (by omega) hby hW
  rw [← hs1] at hs
  rw [← he1] at hi6 hm
  have KA := hid (kA (fun i => i = P + 3))
  have H := hid h
  have HBL := hid hbl
  have HSH : ∀ W, (Op.shift .shl .i64 1 .i64 b).run Try.prog W = .ok (.int .i64 (clu b)) W := fun W => shl_clu hb W
  have HR := hid hR
  clear h hbl kA he1 hs1 hw0
  go_enter Try.func49, Try.ntmps49
  go_wp2_with fail
  rw [← hR]
  clear hR
  generalize hW0 : u.alloc (.cells #[.string ⟨#[]⟩, .int .i64 0, .int .i64 0, .int .i64 0] 25) = W0 at *
  clear hW0
  refine (HC.out W0 HRD.out).mono ?_
  rintro e u1 ⟨rfl, r1, k1⟩
  have R1 := hid r1
  have K1 := hid k1
  clear r1 k1
  go_wp2_with (first | (refine wpList_store_s rfl (.tmp 7) (.tmp 11) rfl u1.heap.size rfl (e := zSn) (e' := e1) rfl (Sn.B.new u1 zSn) ?_; intro u2 s2 k2))
  have kk : Kp (fun i => i = P + 3) W0 u2 := (K1.out.alloc _).trans k2 (fun g hg e => by have := K1.out.size; omega)
  have k3 : ∀ F, Kp F u1 u2 := fun F => ((Kp.refl F u1).alloc _).trans k2 (fun g hg e => by omega)
  have R2 := hid (R1.out.kp (k3 (fun _ => False)) (fun x => x) (fun _ _ x => x))
  have KU := hid (KA.out.trans kk (fun _ _ e => e))
  have S0 := hid (HR0.out.kp kk (by omega))
  obtain ⟨Q, hQ⟩ : ∃ Q, Q = u1.heap.size := ⟨_, rfl⟩
  have hQR : R < Q := by have := K1.out.size; omega
  rw [← hQ] at s2 ⊢
  have S1 := hid s2
  have hQ2 : Q < u2.heap.size := s2.lt
  clear k2 k3 kk s2 R1 K1 HC HRD HR0 KA hy hQ hz0
  have CK : Hid (∀ W, Below u2.heap.size u2 W → St 61 W P kcs) := fun W h => (H.out.kb.kp KU.out (by omega)).below h (by omega)
  have CB : Hid (∀ W, Below u2.heap.size u2 W → W.cell? ⟨P + 1, 0, none⟩ = some (.int .i64 b)) := fun W h => ((H.out.bb.kp KU.out (by omega)).below h (by omega)).cell 0
  have CS : Hid (∀ W, Below u2.heap.size u2 W → W.cell? ⟨P + 3, 1, none⟩ = some (.bool s1.1)) := fun W h => by
    obtain ⟨v, h1, _⟩ := R2.out
    exact (h1.below h h1.lt).cell 1
  have CE : Hid (∀ W, Below u2.heap.size u2 W → Sn.B W Q e1) := fun W h => S1.out.below h hQ2
  have Z0 : Below u2.heap.size u2 u2.drew := ⟨rfl, rfl, rfl, Nat.le_refl _, fun _ _ => rfl⟩
  have HS : Hid (s1.1 = false) := hs
  have HMAY : Hid (∀ W, Calls Try.prog 39 #[.agg e1.cs, .int .i64 (clu b)] W fun x w' => x = .returned (.bool false) ∧ Below W.heap.size W w') := fun W => (may_s b e1 W hb hi6).mono (fun x w' h => ⟨by rcases h.1 with ⟨q, h⟩ | ⟨q, h⟩; (· exact absurd q hm); (· exact h), h.2⟩)
  change (Code.region 2 o49r2 true).wp _ _ _ _
  refine wp_region_plan (fun W => Below u2.heap.size u2 W) [] c49r2 p49r2_0 hmix b49r2 d49r2 (fun _ _ d _ _ h => by cases d <;> exact h) ?_
  refine plan_take (o := q49r2_0) (r := p49r2_1) ?vb0 Z0 (by rfl) ?hyb0 ?restb0
  case hyb0 => (intro w hSw; (try dsimp only at hSw); simp only [q49r2_0]; go_simp; try with_reducible rfl)
  try simp only [q49r2_0, Act.put, List.setIfInBounds_toArray, List.set_cons_zero, List.set_cons_succ]
  refine plan_take (o := q49r2_1) (r := p49r2_2) ?vb1 Z0 (by rfl) ?hyb1 ?restb1
  case hyb1 => (intro w hSw; (try dsimp only at hSw); have c1 := CS.out w hSw; rw [HS.out] at c1; simp only [q49r2_1]; go_simp; try with_reducible rfl)
  try simp only [q49r2_1, Act.put, List.setIfInBounds_toArray, List.set_cons_zero, List.set_cons_succ]
  refine plan_take (o := q49r2_2) (r := p49r2_3) ?vb2 Z0 (by rfl) ?hyb2 ?restb2
  case hyb2 => (intro w hSw; (try dsimp only at hSw); simp only [q49r2_2]; go_simp; try with_reducible rfl)
  try simp only [q49r2_2, Act.put, List.setIfInBounds_toArray, List.set_cons_zero, List.set_cons_succ]
  refine plan_take (o := q49r2_3) (r := p49r2_4) ?vb3 Z0 (by rfl) ?hyb3 ?restb3
  case hyb3 => (intro w hSw; (try dsimp only at hSw); simp only [q49r2_3]; go_simp; try with_reducible rfl)
  try simp only [q49r2_3, Act.put, List.setIfInBounds_toArray, List.set_cons_zero, List.set_cons_succ]
  refine plan_take (o := q49r2_4) (r := p49r2_5) ?vb4 Z0 (by rfl) ?hyb4 ?restb4
  case hyb4 => (intro w hSw; (try dsimp only at hSw); have c1 := (CK.out w hSw).cell 2; (change w.cell? _ = some (Value.func (.func 39) #[] #[]) at c1); simp only [q49r2_4]; go_simp; try with_reducible rfl)
  try simp only [q49r2_4, Act.put, List.setIfInBounds_toArray, List.set_cons_zero, List.set_cons_succ]
  refine plan_take (o := q49r2_5) (r := p49r2_6) (.agg e1.cs) Z0 (by rfl) ?hyb5 ?restb5
  case hyb5 => (intro w hSw; exact exec_load_s rfl rfl (CE.out w hSw))
  try simp only [q49r2_5, Act.put, List.setIfInBounds_toArray, List.set_cons_zero, List.set_cons_succ]
  refine plan_take (o := q49r2_6) (r := p49r2_7) ?vb6 Z0 (by rfl) ?hyb6 ?restb6
  case hyb6 => (intro w hSw; (try dsimp only at hSw); have c1 := CB.out w hSw; simp only [q49r2_6]; go_simp; try with_reducible rfl)
  try simp only [q49r2_6, Act.put, List.setIfInBounds_toArray, List.set_cons_zero, List.set_cons_succ]
  refine plan_take (o := q49r2_7) (r := p49r2_8) (.int .i64 (clu b)) Z0 (by rfl) ?hyb7 ?restb7
  case hyb7 => (intro w hSw; simp only [q49r2_7]; go_simp; try with_reducible rfl)
  try simp only [q49r2_7, Act.put, List.setIfInBounds_toArray, List.set_cons_zero, List.set_cons_succ]
  refine plan_act (o := q49r2_8) (r := p49r2_9) (fun K hK => ?_)
  simp only [q49r2_8]
  go_simp
  refine (HMAY.out _).mono ?_
  rintro x u3 ⟨rfl, b1⟩
  have Z1 : Below u2.heap.size u2 u3 := Z0.trans b1
  clear b1
  go_wp2_with fail
  refine hK.out _ _ (fun _ => Z1) ?_
  clear hK K
  refine plan_take (o := q49r2_9) (r := p49r2_10) ?vb9 Z1 (by rfl) ?hyb9 ?restb9
  case hyb9 => (intro w hSw; (try dsimp only at hSw); simp only [q49r2_9]; go_simp; try with_reducible rfl)
  try simp only [q49r2_9, Act.put, List.setIfInBounds_toArray, List.set_cons_zero, List.set_cons_succ]
  refine plan_take (o := q49r2_10) (r := p49r2_11) ?vb10 Z1 (by rfl) ?hyb10 ?restb10
  case hyb10 => (intro w hSw; (try dsimp only at hSw); simp only [q49r2_10]; go_simp; try with_reducible rfl)
  try simp only [q49r2_10, Act.put, List.setIfInBounds_toArray, List.set_cons_zero, List.set_cons_succ]
  refine plan_done ?_
  have kz : Kp (fun i => i = P + 3) u u3 := KU.out.trans (Kp.of_below (F := fun i => i = P + 3) Z1) (fun _ _ e => e)
  have sz : Sn.B u3 R zSn := S0.out.below Z1 (by omega)
  have KZ := hid kz
  have SZ := hid sz
  have hzz := Z1.size
  clear kz sz Z0 CK CB CS CE
  generalize hX : u3 = X at *
  go_wp2_with (first | (refine wpList_load_s rfl (.tmp 8) rfl X.heap.size rfl (Sn.B.new X zSn) ?_) | (refine wpList_store_s rfl (.tmp 6) (.tmp 23) rfl R rfl (e := zSn) (e' := zSn) rfl (SZ.out.kp (F := fun _ => False) ((Kp.refl _ _).alloc _) (fun x => x)) ?_; intro u5 s5 k5))
  refine bodyPost_ret (results_cell1 Try.results49 _ _ _ rfl s5.load) rfl ⟨rfl, ?_⟩
  have hRR := HR.out
  exact (KZ.out.alloc _).trans k5 (fun g hg e => by omega)
set_option maxRecDepth 100000 in
set_option maxHeartbeats 4000000 in
theorem take1_ok_s (P : Nat) (b : Int) (st : Bool × List Int) (l : List Sn) (i : Int) (w0 u : World) (hb : Bt b) (hby : Byt st.2) (hw0 : w0.heap.size = P) (hbl : Below P w0 u) (hsz : P + 6 ≤ u.heap.size) (h : TJs P b st l u) (hl : l.length ≤ 1000) (hi6 : (Sn.rd st).1.i6) (hs : (Sn.rd st).2.1 = false) (hm : (Sn.rd st).1.May b) :
    Calls Try.prog 49 #[.int .i64 i, .pointer (some ⟨P, 0, none⟩), .pointer (some ⟨P + 3, 0, none⟩), .pointer (some ⟨P + 1, 0, none⟩), .pointer (some ⟨P + 2, 0, none⟩)] u fun e u' => e = .returned (.agg (Sn.rd st).1.cs) ∧ u'.heap[P + 4]? = u.heap[P + 4]? ∧ u'.heap[P + 5]? = u.heap[P + 5]? ∧ u.heap.size ≤ u'.heap.size ∧ Below P w0 u' ∧ TJs P b (Sn.rd st).2 (l ++ [(Sn.rd st).1]) u' := by
  obtain ⟨R, hR⟩ : ∃ R, R = u.heap.size := ⟨_, rfl⟩
  rw [← hR] at hsz
  have kA : ∀ F, Kp F u (u.alloc (.cells #[.string ⟨#[]⟩, .int .i64 0, .int .i64 0, .int .i64 0] 25)) := fun F => (Kp.refl _ _).alloc _
  have hz0 : (u.alloc (.cells #[.string ⟨#[]⟩, .int .i64 0, .int .i64 0, .int .i64 0] 25)).heap.size = R + 1 := by rw [World.size_alloc, hR]
  have hy : (u.alloc (.cells #[.string ⟨#[]⟩, .int .i64 0, .int .i64 0, .int .i64 0] 25)).cell? ⟨P, 4, none⟩ = some (.func (.func 44) #[] #[]) := (h.kb.kp (kA (fun _ => False)) (fun x => x)).cell 4
  have HR0 : Hid (Sn.B (u.alloc (.cells #[.string ⟨#[]⟩, .int .i64 0, .int .i64 0, .int .i64 0] 25)) R zSn) := by rw [hR]; exact Sn.B.new u zSn
  have HRD := hid (h.rd.kp (kA (fun _ => False)) (fun x => x) (fun _ _ x => x))
  obtain ⟨e1, he1⟩ : ∃ e, e = (Sn.rd st).1 := ⟨_, rfl⟩
  obtain ⟨s1, hs1⟩ : ∃ s, s = (Sn.rd st).2 := ⟨_, rfl⟩
  have HC : Hid (∀ W, Rdr W (P + 3) P st → Calls Try.prog 44 #[.pointer (some ⟨P + 3, 0, none⟩)] W fun e w' => e = .returned (.agg e1.cs) ∧ Rdr w' (P + 3) P s1 ∧ Kp (fun i => i = P + 3) W w') := fun W hW => by rw [he1, hs1]; exact read_s (P + 3) P st W (by omega) hby hW
  rw [← hs1] at hs ⊢
  rw [← he1] at hi6 hm ⊢
  have KA := hid (kA (fun i => i = P + 3))
  have H := hid h
  have HBL := hid hbl
  have HSH : ∀ W, (Op.shift .shl .i64 1 .i64 b).run Try.prog W = .ok (.int .i64 (clu b)) W := fun W => shl_clu hb W
  have HR := hid hR
  clear h hbl kA he1 hs1 hw0
  go_enter Try.func49, Try.ntmps49
  generalize hC : Code.region 6 _ _ = C9
  go_wp2_with fail
  rw [← hR]
  clear hR
  generalize hW0 : u.alloc (.cells #[.string ⟨#[]⟩, .int .i64 0, .int .i64 0, .int .i64 0] 25) = W0 at *
  clear hW0
  refine (HC.out W0 HRD.out).mono ?_
  rintro e u1 ⟨rfl, r1, k1⟩
  have R1 := hid r1
  have K1 := hid k1
  clear r1 k1
  go_wp2_with (first | (refine wpList_store_s rfl (.tmp 7) (.tmp 11) rfl u1.heap.size rfl (e := zSn) (e' := e1) rfl (Sn.B.new u1 zSn) ?_; intro u2 s2 k2))
  have kk : Kp (fun i => i = P + 3) W0 u2 := (K1.out.alloc _).trans k2 (fun g hg e => by have := K1.out.size; omega)
  have k3 : ∀ F, Kp F u1 u2 := fun F => ((Kp.refl F u1).alloc _).trans k2 (fun g hg e => by omega)
  have R2 := hid (R1.out.kp (k3 (fun _ => False)) (fun x => x) (fun _ _ x => x))
  have KU := hid (KA.out.trans kk (fun _ _ e => e))
  have S0 := hid (HR0.out.kp kk (by omega))
  obtain ⟨Q, hQ⟩ : ∃ Q, Q = u1.heap.size := ⟨_, rfl⟩
  have hQR : R < Q := by have := K1.out.size; omega
  rw [← hQ] at s2 ⊢
  have S1 := hid s2
  have hQ2 : Q < u2.heap.size := s2.lt
  clear k2 k3 kk s2 R1 K1 HC HRD HR0 KA hy hQ hz0
  have CK : Hid (∀ W, Below u2.heap.size u2 W → St 61 W P kcs) := fun W h => (H.out.kb.kp KU.out (by omega)).below h (by omega)
  have CB : Hid (∀ W, Below u2.heap.size u2 W → W.cell? ⟨P + 1, 0, none⟩ = some (.int .i64 b)) := fun W h => ((H.out.bb.kp KU.out (by omega)).below h (by omega)).cell 0
  have CS : Hid (∀ W, Below u2.heap.size u2 W → W.cell? ⟨P + 3, 1, none⟩ = some (.bool s1.1)) := fun W h => by
    obtain ⟨v, h1, _⟩ := R2.out
    exact (h1.below h h1.lt).cell 1
  have CE : Hid (∀ W, Below u2.heap.size u2 W → Sn.B W Q e1) := fun W h => S1.out.below h hQ2
  have Z0 : Below u2.heap.size u2 u2.drew := ⟨rfl, rfl, rfl, Nat.le_refl _, fun _ _ => rfl⟩
  have HS : Hid (s1.1 = false) := hs
  have HMAY : Hid (∀ W, Calls Try.prog 39 #[.agg e1.cs, .int .i64 (clu b)] W fun x w' => x = .returned (.bool true) ∧ Below W.heap.size W w') := fun W => (may_s b e1 W hb hi6).mono (fun x w' h => ⟨by rcases h.1 with ⟨q, h⟩ | ⟨q, h⟩; (· exact h); (· exact absurd hm q), h.2⟩)
  change (Code.region 2 o49r2 true).wp _ _ _ _
  refine wp_region_plan (fun W => Below u2.heap.size u2 W) [] c49r2 p49r2_0 hmix b49r2 d49r2 (fun _ _ d _ _ h => by cases d <;> exact h) ?_
  refine plan_take (o := q49r2_0) (r := p49r2_1) ?vc0 Z0 (by rfl) ?hyc0 ?restc0
  case hyc0 => (intro w hSw; (try dsimp only at hSw); simp only [q49r2_0]; go_simp; try with_reducible rfl)
  try simp only [q49r2_0, Act.put, List.setIfInBounds_toArray, List.set_cons_zero, List.set_cons_succ]
  refine plan_take (o := q49r2_1) (r := p49r2_2) ?vc1 Z0 (by rfl) ?hyc1 ?restc1
  case hyc1 => (intro w hSw; (try dsimp only at hSw); have c1 := CS.out w hSw; rw [HS.out] at c1; simp only [q49r2_1]; go_simp; try with_reducible rfl)
  try simp only [q49r2_1, Act.put, List.setIfInBounds_toArray, List.set_cons_zero, List.set_cons_succ]
  refine plan_take (o := q49r2_2) (r := p49r2_3) ?vc2 Z0 (by rfl) ?hyc2 ?restc2
  case hyc2 => (intro w hSw; (try dsimp only at hSw); simp only [q49r2_2]; go_simp; try with_reducible rfl)
  try simp only [q49r2_2, Act.put, List.setIfInBounds_toArray, List.set_cons_zero, List.set_cons_succ]
  refine plan_take (o := q49r2_3) (r := p49r2_4) ?vc3 Z0 (by rfl) ?hyc3 ?restc3
  case hyc3 => (intro w hSw; (try dsimp only at hSw); simp only [q49r2_3]; go_simp; try with_reducible rfl)
  try simp only [q49r2_3, Act.put, List.setIfInBounds_toArray, List.set_cons_zero, List.set_cons_succ]
  refine plan_take (o := q49r2_4) (r := p49r2_5) ?vc4 Z0 (by rfl) ?hyc4 ?restc4
  case hyc4 => (intro w hSw; (try dsimp only at hSw); have c1 := (CK.out w hSw).cell 2; (change w.cell? _ = some (Value.func (.func 39) #[] #[]) at c1); simp only [q49r2_4]; go_simp; try with_reducible rfl)
  try simp only [q49r2_4, Act.put, List.setIfInBounds_toArray, List.set_cons_zero, List.set_cons_succ]
  refine plan_take (o := q49r2_5) (r := p49r2_6) (.agg e1.cs) Z0 (by rfl) ?hyc5 ?restc5
  case hyc5 => (intro w hSw; exact exec_load_s rfl rfl (CE.out w hSw))
  try simp only [q49r2_5, Act.put, List.setIfInBounds_toArray, List.set_cons_zero, List.set_cons_succ]
  refine plan_take (o := q49r2_6) (r := p49r2_7) ?vc6 Z0 (by rfl) ?hyc6 ?restc6
  case hyc6 => (intro w hSw; (try dsimp only at hSw); have c1 := CB.out w hSw; simp only [q49r2_6]; go_simp; try with_reducible rfl)
  try simp only [q49r2_6, Act.put, List.setIfInBounds_toArray, List.set_cons_zero, List.set_cons_succ]
  refine plan_take (o := q49r2_7) (r := p49r2_8) (.int .i64 (clu b)) Z0 (by rfl) ?hyc7 ?restc7
  case hyc7 => (intro w hSw; simp only [q49r2_7]; go_simp; try with_reducible rfl)
  try simp only [q49r2_7, Act.put, List.setIfInBounds_toArray, List.set_cons_zero, List.set_cons_succ]
  refine plan_act (o := q49r2_8) (r := p49r2_9) (fun K hK => ?_)
  simp only [q49r2_8]
  go_simp
  refine (HMAY.out _).mono ?_
  rintro x u3 ⟨rfl, b1⟩
  have Z1 : Below u2.heap.size u2 u3 := Z0.trans b1
  clear b1
  go_wp2_with fail
  refine hK.out _ _ (fun _ => Z1) ?_
  clear hK K
  refine plan_take (o := q49r2_9) (r := p49r2_10) ?vc9 Z1 (by rfl) ?hyc9 ?restc9
  case hyc9 => (intro w hSw; (try dsimp only at hSw); simp only [q49r2_9]; go_simp; try with_reducible rfl)
  try simp only [q49r2_9, Act.put, List.setIfInBounds_toArray, List.set_cons_zero, List.set_cons_succ]
  refine plan_take (o := q49r2_10) (r := p49r2_11) ?vc10 Z1 (by rfl) ?hyc10 ?restc10
  case hyc10 => (intro w hSw; (try dsimp only at hSw); simp only [q49r2_10]; go_simp; try with_reducible rfl)
  try simp only [q49r2_10, Act.put, List.setIfInBounds_toArray, List.set_cons_zero, List.set_cons_succ]
  refine plan_done ?_
  obtain ⟨v0, V1, V2, V3, V4⟩ := H.out.lv
  have hlo : ∀ g, v0.ownBlock = some g → P + 4 ≤ g ∧ g < R := fun g e => ⟨(V2.lt g e).1, by have := (V2.lt g e).2; have := HR.out; omega⟩
  have hne : ∀ g, v0.ownBlock = some g → ¬ g = P + 3 := fun g e => by have := hlo g e; omega
  have W1 : St 22 u3 (P + 2) #[v0] := (V1.kp KU.out (by omega)).below Z1 (by omega)
  have W2 : Owns u3 (P + 4) v0 l := ownsRow_kp (F := fun _ => False) (ownsRow_kp V2 KU.out hne) (Kp.of_below Z1) (fun _ _ x => x)
  have hz3 := Z1.size
  have E3 := hid (CE.out u3 Z1)
  have N3 : Hid (Sn.B u3 R zSn) := S0.out.below Z1 (by omega)
  have y0 := W1.cell 0
  change u3.cell? _ = some v0 at y0
  have HW1 := hid W1
  have HW2 := hid W2
  have FIN := hid (fun o v5 u5 u9 h1 h2 h3 h4 => take_fins (o := o) (v5 := v5) (u5 := u5) (u9 := u9) (e := e1) H.out HR.out hsz HBL.out KU.out Z1 R2.out hlo ⟨V3, V4⟩ h1 h2 h3 h4)
  have H3 := hid (And.intro V3 V4)
  have HLO := hid hlo
  clear hlo hne V1 V2 V3 V4 W1 W2 Z1 Z0 CK CB CS CE HMAY HSH H HBL R2 KU S0 S1 HS
  obtain ⟨nm, a, bb, c⟩ := e1
  simp only [Sn.cs] at *
  have HCL : Hid (Sn.cl (Sn.mk nm a bb c) = [.string nm, .int .i64 a, .int .i64 bb, .int .i64 c]) := rfl
  go_wp2_with (first
    | (refine wpList_load_s rfl (.tmp 7) rfl Q rfl (e := (Sn.mk nm a bb c)) E3.out ?_; dsimp only [Sn.cs])
    | (at_builtin; refine wpList_append_any rfl (.tmp 24) (.tmp 26) 22 rfl (P + 4) 25 _ 4 40 Try.underlying22 Try.inf25 rfl (by decide) v0 l.length (fls l) rfl (HW2.out.alloc _) (some ⟨u3.heap.size, 0, none⟩) 1 1 (Sn.cl (Sn.mk nm a bb c)) (by first | rfl | simp [Act.eval]) (fun h => by cases h) rfl (fun ad e j y hy => by (cases e; rw [add_z]; exact ((St.new 25 u3 #[.string nm, .int .i64 a, .int .i64 bb, .int .i64 c]).cell j).trans (by simpa [Sn.cl] using hy))) (fun y hy => fls_one [(Sn.mk nm a bb c)] y (by simpa [fls] using hy)) (by unfold maxLen; omega) (by omega) (by rw [World.size_alloc]; omega) ?_; intro v5 u5 o5 k5 l5; obtain ⟨g5, cap5, hv5⟩ := own_slice5 o5 (by omega); have y5 : u5.cell? ⟨P + 2, 0, none⟩ = some v0 := kp_cell k5 (kp_cell (F := fun _ => False) ((Kp.refl _ _).alloc _) y0 (fun x => x)) (fun e => by have := HLO.out _ e; omega); have f5 : u5.frozen? ⟨P + 2, 0, none⟩ = false := (HW1.out.kp (F := fun _ => False) ((Kp.refl _ _).alloc _) (fun x => x) |>.kp k5 (fun e => by have := HLO.out _ e; omega)).frozen 0; have O5 := hid o5; have K5 := hid k5; have L5 := hid l5; clear o5 k5 l5; subst hv5))
  have KF := hid (fun u9 k9 => FIN.out _ _ u5 u9 O5.out K5.out L5.out k9)
  have E6 : Hid (Sn.B (u5.setCell ⟨P + 2, 0, none⟩ (.slice (some ⟨g5, 0, none⟩) (l.length + 1) cap5)) Q (Sn.mk nm a bb c) ∧ Sn.B (u5.setCell ⟨P + 2, 0, none⟩ (.slice (some ⟨g5, 0, none⟩) (l.length + 1) cap5)) R zSn) := by
    have q1 := kp_setCell u5 (P + 2) 0 (.slice (some ⟨g5, 0, none⟩) (l.length + 1) cap5) (fun g => g = P + 2) rfl
    have q2 : ∀ g, R ≤ g → ¬ v0.ownBlock = some g := fun g hg e => by have := HLO.out g e; omega
    exact ⟨((E3.out.kp (F := fun _ => False) ((Kp.refl _ _).alloc _) (fun x => x)).kp K5.out (q2 _ (by omega))).kp q1 (by omega), ((N3.out.kp (F := fun _ => False) ((Kp.refl _ _).alloc _) (fun x => x)).kp K5.out (q2 _ (by omega))).kp q1 (by omega)⟩
  clear FIN O5 K5 L5 E3 N3 HW1 HW2 y0 H3 HLO y5 f5
  generalize u5.setCell ⟨P + 2, 0, none⟩ (.slice (some ⟨g5, 0, none⟩) (l.length + 1) cap5) = u6 at KF E6 ⊢
  subst hC
  go_wp2_with (first | (refine wpList_load_s rfl (.tmp 7) rfl Q rfl (e := (Sn.mk nm a bb c)) E6.out.1 ?_) | (refine wpList_store_s rfl (.tmp 6) (.tmp 28) rfl R rfl (e := zSn) (e' := (Sn.mk nm a bb c)) rfl E6.out.2 ?_; intro u9 s9 k9))
  refine bodyPost_ret (results_cell1 Try.results49 _ _ _ rfl s9.load) rfl ⟨rfl, ?_⟩
  exact KF.out u9 k9
end Go.Proofs.Ytjjhkfhppoioiaa
