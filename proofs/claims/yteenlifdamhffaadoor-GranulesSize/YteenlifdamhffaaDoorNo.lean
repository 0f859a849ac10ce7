/- granules: Bytes, All, Runs; works. -/
import Derived.Test.YteenlifdamhffaaDoorNn
import Derived.Test.YteenlifdamhffaaDoorNm
import Derived.Test.YteenlifdamhffaaDoorNi
namespace Go.Proofs.YteenlifdamhffaaDoor
open Go.RowKit
set_option linter.unusedVariables false
set_option linter.unusedSimpArgs false
def q28r3_0 : Oper := { dst := some 5, op := Go.Op.move (Go.Operand.tmp 0), type := 24, pos := "granules.go:167", after := #[], guard := none }
def q28r3_1 : Oper := { dst := some 6, op := Go.Op.nilCheck (Go.Operand.tmp 5), type := 0, pos := "granules.go:167", after := #[{ on := 0, ground := Go.Ground.data }], guard := none }
def q28r3_2 : Oper := { dst := some 7, op := Go.Op.fieldAddr 88 (Go.Operand.tmp 6) 1, type := 0, pos := "granules.go:167", after := #[{ on := 1, ground := Go.Ground.data }], guard := none }
def q28r3_3 : Oper := { dst := some 8, op := Go.Op.load 84 (Go.Operand.tmp 7), type := 84, pos := "granules.go:167", after := #[{ on := 2, ground := Go.Ground.data }], guard := none }
def q28r3_4 : Oper := { dst := some 9, op := Go.Op.move (Go.Operand.tmp 0), type := 24, pos := "granules.go:167", after := #[], guard := none }
def q28r3_5 : Oper := { dst := some 10, op := Go.Op.nilCheck (Go.Operand.tmp 9), type := 0, pos := "granules.go:167", after := #[{ on := 4, ground := Go.Ground.data }], guard := none }
def q28r3_6 : Oper := { dst := some 11, op := Go.Op.fieldAddr 88 (Go.Operand.tmp 10) 0, type := 0, pos := "granules.go:167", after := #[{ on := 5, ground := Go.Ground.data }], guard := none }
def q28r3_7 : Oper := { dst := some 12, op := Go.Op.load 82 (Go.Operand.tmp 11), type := 82, pos := "granules.go:167", after := #[{ on := 6, ground := Go.Ground.data }], guard := none }
def q28r3_8 : Oper := { dst := some 13, op := Go.Op.call { callee := Go.Callee.value (Go.Operand.func 37), args := #[Go.Operand.tmp 12], argTypes := #[82] }, type := 2, pos := "granules.go:167", after := #[{ on := 7, ground := Go.Ground.data }], guard := none }
def q28r3_9 : Oper := { dst := some 14, op := Go.Op.call { callee := Go.Callee.value (Go.Operand.func 69), args := #[Go.Operand.tmp 8, Go.Operand.tmp 13], argTypes := #[84, 2] }, type := 47, pos := "granules.go:167", after := #[{ on := 3, ground := Go.Ground.data }, { on := 8, ground := Go.Ground.data }, { on := 8, ground := Go.Ground.chain }], guard := none }
def q28r3_10 : Oper := { dst := some 2, op := Go.Op.assign (Go.Operand.tmp 14), type := 47, pos := "granules.go:167", after := #[{ on := 9, ground := Go.Ground.data }, { on := 9, ground := Go.Ground.chain }, { on := 0, ground := Go.Ground.phase }, { on := 1, ground := Go.Ground.phase }, { on := 2, ground := Go.Ground.phase }, { on := 3, ground := Go.Ground.phase }, { on := 4, ground := Go.Ground.phase }, { on := 5, ground := Go.Ground.phase }, { on := 6, ground := Go.Ground.phase }, { on := 7, ground := Go.Ground.phase }, { on := 8, ground := Go.Ground.phase }, { on := 9, ground := Go.Ground.phase }], guard := none }
def o28r3 : Array Oper := #[q28r3_0, q28r3_1, q28r3_2, q28r3_3, q28r3_4, q28r3_5, q28r3_6, q28r3_7, q28r3_8, q28r3_9, q28r3_10]
def p28r3_11 : List (Nat × Oper) := []
def p28r3_10 : List (Nat × Oper) := (0, q28r3_10) :: p28r3_11
def p28r3_9 : List (Nat × Oper) := (1, q28r3_9) :: p28r3_10
def p28r3_8 : List (Nat × Oper) := (1, q28r3_8) :: p28r3_9
def p28r3_7 : List (Nat × Oper) := (0, q28r3_7) :: p28r3_8
def p28r3_6 : List (Nat × Oper) := (0, q28r3_6) :: p28r3_7
def p28r3_5 : List (Nat × Oper) := (0, q28r3_5) :: p28r3_6
def p28r3_4 : List (Nat × Oper) := (0, q28r3_4) :: p28r3_5
def p28r3_3 : List (Nat × Oper) := (0, q28r3_3) :: p28r3_4
def p28r3_2 : List (Nat × Oper) := (0, q28r3_2) :: p28r3_3
def p28r3_1 : List (Nat × Oper) := (0, q28r3_1) :: p28r3_2
def p28r3_0 : List (Nat × Oper) := (0, q28r3_0) :: p28r3_1
def c28r3 : List (Nat × Nat) := [(0, 0), (0, 1), (0, 2), (0, 3), (0, 4), (0, 5), (0, 6), (0, 7), (1, 8), (1, 9), (0, 10)]
theorem b28r3 : (Region.noSelect o28r3 && (c28r3.length == o28r3.size) && planB o28r3 [] c28r3 (Array.replicate o28r3.size false)) = true := by kernel_rfl
theorem d28r3 : (c28r3.map fun p => (p.1, o28r3[p.2]?)) = (p28r3_0.map fun p => (p.1, some p.2)) := by kernel_rfl
set_option maxRecDepth 100000 in
set_option maxHeartbeats 4000000 in
theorem mbytes_any (Q r sz gr : Nat) (ws : List Nat) (w : World) (h : Bm w Q r sz gr ws) : Calls Tryd.prog 28 #[ptr Q] w fun e w' => ∃ b, e = .returned (.slice (some ⟨b, 0, none⟩) (nbt (frm gr sz)) (nbt (frm gr sz))) ∧ w.heap.size ≤ b ∧ Kp (fun _ => False) w w' ∧ Rw .u8 5 w' b (byts ws (frm gr sz)) := by
  have HN := hid (none_some Q (sz : Int) (gr : Int) w (h.st.cell 0) (h.st.cell 1))
  rw [h.may] at HN
  have HH := hid h
  unfold ptr
  go_enter Tryd.func28, Tryd.ntmps28
  go_wp2_with (first | (go_at_call 44; refine HN.out.mono ?_; rintro _ w1 ⟨rfl, k⟩))
  have KX := hid k
  have HB := hid (HH.out.kp0 k)
  obtain ⟨X0, hX0⟩ : ∃ X, w1 = X := ⟨_, rfl⟩
  rw [hX0] at KX HB
  rw [hX0]
  have C0 : Hid (X0.cell? ⟨Q, 0, none⟩ = some (.int .i64 sz)) := HB.out.st.cell 0
  have C1 : Hid (X0.cell? ⟨Q, 1, none⟩ = some (.int .i64 gr)) := HB.out.st.cell 1
  have C2 : Hid (X0.cell? ⟨Q, 2, none⟩ = some (.slice (some ⟨r, 0, none⟩) (nwd (frm gr sz)) (nwd (frm gr sz)))) := HB.out.st.cell 2
  have K00 : Hid (Kp (fun _ => False) X0 X0.drew) := (Kp.refl _ _).drew
  have HMA : Hid (∀ U, Kp (fun _ => False) X0 U → Calls Tryd.prog 37 #[.agg #[.int .i64 sz, .int .i64 gr]] U fun e w' => e = .returned (.int .i64 (frm gr sz)) ∧ Kp (fun _ => False) U w') := fun U _ => many_any sz gr (by have := h.grb; omega) (by have := h.szb; omega) U
  have HBY : Hid (∀ U, Kp (fun _ => False) X0 U → Calls Tryd.prog 69 #[.slice (some ⟨r, 0, none⟩) (nwd (frm gr sz)) (nwd (frm gr sz)), .int .i64 (frm gr sz)] U fun e w' => ∃ b, e = .returned (.slice (some ⟨b, 0, none⟩) (nbt (frm gr sz)) (nbt (frm gr sz))) ∧ U.heap.size ≤ b ∧ Kp (fun _ => False) U w' ∧ Rw .u8 5 w' b (byts ws (frm gr sz))) := fun U kU => bytes_any r _ _ (frm gr sz) ws U h.ln.symm h.W (by have h1 := nwd_fact (frm gr sz); have h2 := h.ln; omega) (by have := h.lb.2; omega) (HB.out.rw.kp kU (fun e => e))
  clear HN k hX0 h
  change (Code.region 3 o28r3 true).wp _ _ _ _
  refine wp_region_plan (fun w' => Kp (fun _ => False) X0 w') [] c28r3 p28r3_0 hmix b28r3 d28r3 (fun _ _ d _ _ h => by cases d <;> exact h) ?_
  refine plan_take (o := q28r3_0) (r := p28r3_1) ?vg0 K00.out (by rfl) ?hyg0 ?restg0
  case hyg0 => (intro w hSw; (try dsimp only at hSw); have c0 := hSw.cell C0.out; have c1 := hSw.cell C1.out; have c2 := hSw.cell C2.out; simp only [q28r3_0]; go_simp; try with_reducible rfl)
  try simp only [q28r3_0, Act.put, List.setIfInBounds_toArray, List.set_cons_zero, List.set_cons_succ]
  refine plan_take (o := q28r3_1) (r := p28r3_2) ?vg1 K00.out (by rfl) ?hyg1 ?restg1
  case hyg1 => (intro w hSw; (try dsimp only at hSw); have c0 := hSw.cell C0.out; have c1 := hSw.cell C1.out; have c2 := hSw.cell C2.out; simp only [q28r3_1]; go_simp; try with_reducible rfl)
  try simp only [q28r3_1, Act.put, List.setIfInBounds_toArray, List.set_cons_zero, List.set_cons_succ]
  refine plan_take (o := q28r3_2) (r := p28r3_3) ?vg2 K00.out (by rfl) ?hyg2 ?restg2
  case hyg2 => (intro w hSw; (try dsimp only at hSw); have c0 := hSw.cell C0.out; have c1 := hSw.cell C1.out; have c2 := hSw.cell C2.out; simp only [q28r3_2]; go_simp; try with_reducible rfl)
  try simp only [q28r3_2, Act.put, List.setIfInBounds_toArray, List.set_cons_zero, List.set_cons_succ]
  refine plan_take (o := q28r3_3) (r := p28r3_4) ?vg3 K00.out (by rfl) ?hyg3 ?restg3
  case hyg3 => (intro w hSw; (try dsimp only at hSw); have c0 := hSw.cell C0.out; have c1 := hSw.cell C1.out; have c2 := hSw.cell C2.out; simp only [q28r3_3]; go_simp; try with_reducible rfl)
  try simp only [q28r3_3, Act.put, List.setIfInBounds_toArray, List.set_cons_zero, List.set_cons_succ]
  refine plan_take (o := q28r3_4) (r := p28r3_5) ?vg4 K00.out (by rfl) ?hyg4 ?restg4
  case hyg4 => (intro w hSw; (try dsimp only at hSw); have c0 := hSw.cell C0.out; have c1 := hSw.cell C1.out; have c2 := hSw.cell C2.out; simp only [q28r3_4]; go_simp; try with_reducible rfl)
  try simp only [q28r3_4, Act.put, List.setIfInBounds_toArray, List.set_cons_zero, List.set_cons_succ]
  refine plan_take (o := q28r3_5) (r := p28r3_6) ?vg5 K00.out (by rfl) ?hyg5 ?restg5
  case hyg5 => (intro w hSw; (try dsimp only at hSw); have c0 := hSw.cell C0.out; have c1 := hSw.cell C1.out; have c2 := hSw.cell C2.out; simp only [q28r3_5]; go_simp; try with_reducible rfl)
  try simp only [q28r3_5, Act.put, List.setIfInBounds_toArray, List.set_cons_zero, List.set_cons_succ]
  refine plan_take (o := q28r3_6) (r := p28r3_7) ?vg6 K00.out (by rfl) ?hyg6 ?restg6
  case hyg6 => (intro w hSw; (try dsimp only at hSw); have c0 := hSw.cell C0.out; have c1 := hSw.cell C1.out; have c2 := hSw.cell C2.out; simp only [q28r3_6]; go_simp; try with_reducible rfl)
  try simp only [q28r3_6, Act.put, List.setIfInBounds_toArray, List.set_cons_zero, List.set_cons_succ]
  refine plan_take (o := q28r3_7) (r := p28r3_8) ?vg7 K00.out (by rfl) ?hyg7 ?restg7
  case hyg7 => (intro w hSw; (try dsimp only at hSw); have c0 := hSw.cell C0.out; have c1 := hSw.cell C1.out; have c2 := hSw.cell C2.out; simp only [q28r3_7]; go_simp; try with_reducible rfl)
  try simp only [q28r3_7, Act.put, List.setIfInBounds_toArray, List.set_cons_zero, List.set_cons_succ]
  refine plan_act (o := q28r3_8) (r := p28r3_9) (fun K hK => ?_)
  simp only [q28r3_8]
  refine ite_pos2 (by rfl) ?_
  go_simp
  refine (HMA.out _ K00.out).mono ?_
  rintro e w5 ⟨rfl, k5⟩
  have K5 : Hid (Kp (fun _ => False) X0 w5) := (K00.out).trans k5 (fun _ _ h => h)
  clear k5
  go_wp2_with fail
  refine hK.out _ _ (fun _ => K5.out) ?_
  clear hK K
  try simp only [q28r3_8, Act.put, List.setIfInBounds_toArray, List.set_cons_zero, List.set_cons_succ]
  refine plan_act (o := q28r3_9) (r := p28r3_10) (fun K hK => ?_)
  simp only [q28r3_9]
  refine ite_pos2 (by rfl) ?_
  go_simp
  refine (HBY.out _ K5.out).mono ?_
  rintro e w6 ⟨b, rfl, hb6, k6, r6⟩
  have K6 : Hid (Kp (fun _ => False) X0 w6) := (K5.out).trans k6 (fun _ _ h => h)
  have HB6 : Hid (X0.heap.size ≤ b) := Nat.le_trans (K5.out).size hb6
  have HR6 := hid r6
  clear k6 hb6 r6
  go_wp2_with fail
  refine hK.out _ _ (fun _ => K6.out) ?_
  clear hK K
  try simp only [q28r3_9, Act.put, List.setIfInBounds_toArray, List.set_cons_zero, List.set_cons_succ]
  refine plan_take (o := q28r3_10) (r := p28r3_11) ?vg10 K6.out (by rfl) ?hyg10 ?restg10
  case hyg10 => (intro w hSw; (try dsimp only at hSw); have c0 := hSw.cell C0.out; have c1 := hSw.cell C1.out; have c2 := hSw.cell C2.out; simp only [q28r3_10]; go_simp; try with_reducible rfl)
  try simp only [q28r3_10, Act.put, List.setIfInBounds_toArray, List.set_cons_zero, List.set_cons_succ]
  refine plan_done ?_
  go_wp2_with fail
  go_ret
  have hk := KX.out.size
  have hb := HB6.out
  exact ⟨b, rfl, by omega, KX.out.trans K6.out (fun _ _ h => h), HR6.out⟩
set_option maxRecDepth 100000 in
theorem all_val (Q r sz gr : Nat) (ws : List Nat) (w : World) (h : Bm w Q r sz gr ws) : Calls Tryd.prog 34 #[ptr Q] w fun e w' => ∃ Q' r', e = .returned (.func (.func 72) #[ptr Q'] #[]) ∧ w.heap.size ≤ Q' ∧ w.heap.size ≤ r' ∧ Kp (fun _ => False) w w' ∧ Bm w' Q' r' sz gr ws := by
  have HC := hid (copy_any Q r sz gr ws w h)
  clear h
  unfold ptr at *
  go_enter Tryd.func34, Tryd.ntmps34
  go_wp2_with fail
  refine HC.out.mono ?_
  rintro _ w1 ⟨Q', r', rfl, h1, h2, h3, h4⟩
  clear HC
  go_wp2_with fail
  go_ret
  exact ⟨Q', r', rfl, h1, h2, h3, h4⟩
set_option maxRecDepth 100000 in
theorem runs_val (Q r sz gr : Nat) (ws : List Nat) (w : World) (h : Bm w Q r sz gr ws) : Calls Tryd.prog 27 #[ptr Q] w fun e w' => ∃ Q' r', e = .returned (.func (.func 65) #[ptr Q'] #[]) ∧ w.heap.size ≤ Q' ∧ w.heap.size ≤ r' ∧ Kp (fun _ => False) w w' ∧ Bm w' Q' r' sz gr ws := by
  have HC := hid (copy_any Q r sz gr ws w h)
  clear h
  unfold ptr at *
  go_enter Tryd.func27, Tryd.ntmps27
  go_wp2_with fail
  refine HC.out.mono ?_
  rintro _ w1 ⟨Q', r', rfl, h1, h2, h3, h4⟩
  clear HC
  go_wp2_with fail
  go_ret
  exact ⟨Q', r', rfl, h1, h2, h3, h4⟩
theorem eqf79 (Q : Nat) (w : World) : (binOp .eql 79 (.func (.func 72) #[.pointer (some ⟨Q, 0, none⟩)] #[]) .nilFunc).run Tryd.prog w = .ok (.bool false) w := by kernel_rfl
theorem eqf65 (Q : Nat) (w : World) : (binOp .eql 65 (.func (.func 65) #[.pointer (some ⟨Q, 0, none⟩)] #[]) .nilFunc).run Tryd.prog w = .ok (.bool false) w := by kernel_rfl
theorem run_convert_rw {P : Program} (w : World) (src dst e : TypeId) (hs : P.underlying src = some (.slice e)) (he : P.underlying e = some (.int .u8)) (hd : P.underlying dst = some .string)
    (ao : Option Addr) (len cap : Nat) (xs : List Int) (hlen : xs.length = len) (hpos : 0 < len → ∃ b off, ao = some ⟨b, off, none⟩ ∧ ∀ i, i < len → w.cell? ⟨b, off + i, none⟩ = some (.int .u8 (xs.getD i 0))) :
    (convert src dst (.slice ao len cap)).run P w = .ok (.string (strOfNums xs)) w := by
  by_cases h0 : len = 0
  · subst h0
    obtain rfl : xs = [] := List.eq_nil_of_length_eq_zero hlen
    cases ao with
    | none => rw [run_convert_bytes_nil w src e hs he 0 cap dst hd]; rfl
    | some a =>
      rw [run_convert_bytes_string w src dst e _ 0 cap hs he hd, run_bytesToString w a 0 cap [] (by simp [loadCells, loadCellsFrom])]
      rfl
  · obtain ⟨b, off, rfl, hc⟩ := hpos (by omega)
    exact run_convert_bytes_arg w src e hs he b off len cap xs hlen hc dst hd
theorem run_convert_b {w : World} {b n c : Nat} {xs : List Int} (hl : xs.length = n) (h : Rw .u8 5 w b xs) : (convert 47 9 (.slice (some ⟨b, 0, none⟩) n c)).run Tryd.prog w = .ok (.string (strOfNums xs)) w := by
  subst hl
  exact run_convert_rw w 47 9 5 Tryd.underlying47 Tryd.underlying5 Tryd.underlying9 _ _ c xs rfl h.src
/-- The row that works makes. -/
theorem nineteen {ws1 ws2 : List Nat} (h1 : ∀ g, dty ws1 g = app true (dty (List.replicate 1 0) g) (decide (0 ≤ g ∧ g < 2))) (h2 : ∀ g, dty ws2 g = app true (dty ws1 g) (decide (4 ≤ g ∧ g < 5))) (hl : ws2.length = 1) (hW : W64 ws2) : ws2 = [19] := by
  refine dty_ext (by rw [hl]; rfl) hW (by intro x hx; simp at hx; subst hx; decide) (fun g hg => ?_)
  rw [hl] at hg
  rw [h2 g, h1 g, dty_rep]
  have key : ∀ g : Fin 64, app true (app true false (decide (0 ≤ g.val ∧ g.val < 2))) (decide (4 ≤ g.val ∧ g.val < 5)) = dty [19] g.val := by decide
  exact key ⟨g, by omega⟩
theorem byts_19 : byts [19] 5 = [19] := by decide
theorem str_19 : strOfNums [19] = { data := #[19] } := by decide
set_option maxRecDepth 100000 in
set_option maxHeartbeats 4000000 in
theorem works_any (w : World) : Calls Tryd.prog 8 #[] w fun e w' => e = .returned (.bool true) ∧ Kp (fun _ => False) w w' := by
  have HNEW := hid (new_good 5000 10 w (by decide) (by decide))
  have e0 : frm 10 5000 = 5 := by decide
  have e1 : nwd 5 = 1 := by decide
  have e2 : nbt 5 = 1 := by decide
  rw [e0, e1] at HNEW
  have HNU := hid num_any
  unfold ptr at HNEW
  go_enter Tryd.func8, Tryd.ntmps8
  go_wp2_with fail
  refine HNEW.out.mono ?_
  rintro _ w1 ⟨Q, r, rfl, hQ, hr, k1, hb1⟩
  have HAL := hid (all_val Q r 5000 10 _ w1 hb1)
  have HQR : Hid (w.heap.size ≤ Q ∧ w.heap.size ≤ r) := ⟨hQ, hr⟩
  have HK1 := hid k1
  have HB1 := hid hb1
  clear HNEW hQ hr k1 hb1
  unfold ptr at *
  go_wp2_with (first | (go_at_call 11; refine (HNU.out _ _).mono ?_; rintro e w' ⟨rfl, h⟩; replace h := h.symm; subst h))
  refine HAL.out.mono ?_
  rintro _ w2 ⟨Qa, ra, rfl, _, _, k2, _⟩
  have HB2 := hid (HB1.out.kp0 k2)
  have HK2 := hid (HK1.out.trans k2 (fun _ _ h => h))
  have HRU := hid (runs_val Q r 5000 10 _ w2 HB2.out)
  have q1 := eqf79 Qa
  clear HAL k2 HB1
  unfold ptr at *
  go_wp2_with fail
  refine HRU.out.mono ?_
  rintro _ w3 ⟨Qb, rb, rfl, _, _, k3, _⟩
  have HB3 := hid (HB2.out.kp0 k3)
  have HK3 := hid (HK2.out.trans k3 (fun _ _ h => h))
  have q2 := eqf65 Qb
  have HS1 := hid (set_ok Q r 5000 10 _ w3 HB3.out 1000 100 (by decide))
  have t1 : tch 10 1000 100 = (0, 2) := by decide
  rw [t1] at HS1
  clear HRU k3 HB2 t1
  unfold ptr at *
  go_wp2_with fail
  refine HS1.out.mono ?_
  rintro _ w4 ⟨rfl, k4, ws1, hb4, d1⟩
  have hc1 : cnt (cs true (List.replicate 1 0)) 0 (2 - 0) = 2 := by decide
  have HD1 := hid d1
  have HB4 := hid hb4
  have HK4 := hid (HK3.out.trans k4 (fun i hi e => by have := HQR.out.2; omega))
  have HS2 := hid (set_ok Q r 5000 10 _ w4 HB4.out 4999 1 (by decide))
  have t2 : tch 10 4999 1 = (4, 5) := by decide
  rw [t2] at HS2
  rw [hc1]
  clear HS1 k4 HB3 t2 d1 hb4 hc1 q1 q2
  unfold ptr at *
  go_wp2_with fail
  refine HS2.out.mono ?_
  rintro _ w5 ⟨rfl, k5, ws2, hb5, d2⟩
  have hc2 : cnt (cs true ws1) 4 (5 - 4) = 1 := by
    have h4 := HD1.out 4
    rw [dty_rep] at h4
    show 0 + (if !dty ws1 (4 + 0) then 1 else 0) = 1
    rw [h4]
    decide
  have h19 := nineteen HD1.out d2 (by have := hb5.ln; rw [e0, e1] at this; exact this) hb5.W
  subst h19
  have HB5 := hid hb5
  have HK5 := hid (HK4.out.trans k5 (fun i hi e => by have := HQR.out.2; omega))
  have HBY := hid (mbytes_any Q r 5000 10 _ w5 HB5.out)
  rw [e0, e2, byts_19] at HBY
  rw [hc2]
  clear HS2 k5 HB4 d2 hb5 hc2
  unfold ptr at *
  go_wp2_with (first | (go_at_call 11; refine (HNU.out _ _).mono ?_; rintro e w' ⟨rfl, h⟩; replace h := h.symm; subst h))
  refine HBY.out.mono ?_
  rintro _ w6 ⟨b, rfl, _, k6, r6⟩
  have hcv := run_convert_b (c := 1) (n := 1) rfl r6
  rw [str_19] at hcv
  have HK6 := hid (HK5.out.trans k6 (fun _ _ h => h))
  clear HBY k6 r6
  go_wp2_with fail
  go_ret
  exact ⟨rfl, HK6.out⟩
end Go.Proofs.YteenlifdamhffaaDoor
