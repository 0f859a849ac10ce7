/- granules: a map in memory; New. -/
import Derived.Test.YteenlifdamhffaaDoorNe
import Derived.Test.YteenlifdamhffaaDoorRp
namespace Go.Proofs.YteenlifdamhffaaDoor
open Go.RowKit
set_option linter.unusedVariables false
set_option linter.unusedSimpArgs false
theorem ite_pos2 {b : Bool} {a c : Prop} (h : b = true) (k : a) : (if b = true then a else c) := by rw [h, if_pos rfl]; exact k
/-- A map in memory. -/
structure Bm (w : World) (Q r sz gr : Nat) (ws : List Nat) : Prop where
  st : St 88 w Q #[.int .i64 sz, .int .i64 gr, .slice (some ⟨r, 0, none⟩) (nwd (frm gr sz)) (nwd (frm gr sz))]
  rw : Rw .u64 102 w r (up ws)
  ln : ws.length = nwd (frm gr sz)
  W : W64 ws
  far : ∀ g, frm gr sz ≤ g → dty ws g = false
  szb : sz ≤ 67108864
  grb : 9 ≤ gr ∧ gr ≤ 26
section
variable {w : World} {Q r sz gr : Nat} {ws : List Nat}
theorem Bm.kp {F : Nat → Prop} {w' : World} (h : Bm w Q r sz gr ws) (k : Kp F w w') (h1 : ¬ F Q) (h2 : ¬ F r) : Bm w' Q r sz gr ws := ⟨h.st.kp k h1, h.rw.kp k h2, h.ln, h.W, h.far, h.szb, h.grb⟩
theorem Bm.kp0 {w' : World} (h : Bm w Q r sz gr ws) (k : Kp (fun _ => False) w w') : Bm w' Q r sz gr ws := h.kp k (fun e => e) (fun e => e)
theorem Bm.may (h : Bm w Q r sz gr ws) : mayb (sz : Int) (gr : Int) = true := mayb_iff.2 ⟨by omega, by have := h.szb; omega, by have := h.grb; omega, by have := h.grb; omega⟩
theorem Bm.lb (h : Bm w Q r sz gr ws) : ws.length ≤ 1000000000 ∧ frm gr sz ≤ 67108864 := by
  have h1 := frm_le gr sz
  have h2 := h.szb
  have h3 := nwd_fact (frm gr sz)
  have h4 := h.ln
  omega
theorem Bm.ne (h : Bm w Q r sz gr ws) : Q ≠ r := by
  intro e
  subst e
  have h1 := h.st
  have h2 := h.rw
  unfold St at h1
  unfold Rw at h2
  rw [h1] at h2
  injection h2 with h2
  injection h2 with h3 h4 h5
  cases h4
end
set_option maxRecDepth 100000 in
set_option maxHeartbeats 2000000 in
theorem new_bad (sz gr : Int) (w : World) (hm : mayb sz gr = false) : Calls Tryd.prog 9 #[.int .i64 sz, .int .i64 gr] w fun e w' => e = .returned (.tuple #[.pointer none, .int .i64 2]) ∧ Kp (fun _ => False) w w' := by
  have HM := hid (fun w => may_any sz gr w)
  rw [hm] at HM
  have k1 : Kp (fun _ => False) w (w.alloc (.cells #[.int .i64 sz, .int .i64 gr] 82)) := (Kp.refl _ _).alloc _
  have HK := hid k1
  clear hm k1
  go_enter Tryd.func9, Tryd.ntmps9
  go_wp2_with (first | (go_at_call 35; refine (HM.out _).mono ?_; rintro _ w1 ⟨rfl, k⟩))
  go_ret2
  exact ⟨rfl, HK.out.trans k (fun _ _ h => h)⟩
def q9r4_0 : Oper := { dst := some 13, op := Go.Op.load 82 (Go.Operand.tmp 6), type := 82, pos := "granules.go:23", after := #[], guard := none }
def q9r4_1 : Oper := { dst := some 14, op := Go.Op.load 82 (Go.Operand.tmp 6), type := 82, pos := "granules.go:23", after := #[], guard := none }
def q9r4_2 : Oper := { dst := some 15, op := Go.Op.call { callee := Go.Callee.value (Go.Operand.func 37), args := #[Go.Operand.tmp 14], argTypes := #[82] }, type := 2, pos := "granules.go:23", after := #[{ on := 1, ground := Go.Ground.data }], guard := none }
def q9r4_3 : Oper := { dst := some 16, op := Go.Op.call { callee := Go.Callee.value (Go.Operand.func 36), args := #[Go.Operand.tmp 15], argTypes := #[2] }, type := 84, pos := "granules.go:23", after := #[{ on := 2, ground := Go.Ground.data }, { on := 2, ground := Go.Ground.chain }], guard := none }
def q9r4_4 : Oper := { dst := some 17, op := Go.Op.build 88 #[(0, Go.Operand.tmp 13), (1, Go.Operand.tmp 16)], type := 88, pos := "granules.go:23", after := #[{ on := 0, ground := Go.Ground.data }, { on := 3, ground := Go.Ground.data }], guard := none }
def q9r4_5 : Oper := { dst := some 18, op := Go.Op.box 88 (Go.Operand.tmp 17), type := 24, pos := "granules.go:23", after := #[{ on := 4, ground := Go.Ground.data }], guard := none }
def q9r4_6 : Oper := { dst := some 4, op := Go.Op.assign (Go.Operand.tmp 18), type := 24, pos := "granules.go:23", after := #[{ on := 5, ground := Go.Ground.data }, { on := 3, ground := Go.Ground.chain }, { on := 0, ground := Go.Ground.phase }, { on := 1, ground := Go.Ground.phase }, { on := 2, ground := Go.Ground.phase }, { on := 3, ground := Go.Ground.phase }, { on := 4, ground := Go.Ground.phase }, { on := 5, ground := Go.Ground.phase }], guard := none }
def q9r4_7 : Oper := { dst := some 5, op := Go.Op.assign (Go.Operand.const (Go.Value.int Go.IntKind.i64 0)), type := 25, pos := "granules.go:23", after := #[{ on := 6, ground := Go.Ground.chain }, { on := 0, ground := Go.Ground.phase }, { on := 1, ground := Go.Ground.phase }, { on := 2, ground := Go.Ground.phase }, { on := 3, ground := Go.Ground.phase }, { on := 4, ground := Go.Ground.phase }, { on := 5, ground := Go.Ground.phase }, { on := 6, ground := Go.Ground.phase }], guard := none }
def o9r4 : Array Oper := #[q9r4_0, q9r4_1, q9r4_2, q9r4_3, q9r4_4, q9r4_5, q9r4_6, q9r4_7]
def p9r4_8 : List (Nat × Oper) := []
def p9r4_7 : List (Nat × Oper) := (0, q9r4_7) :: p9r4_8
def p9r4_6 : List (Nat × Oper) := (0, q9r4_6) :: p9r4_7
def p9r4_5 : List (Nat × Oper) := (1, q9r4_5) :: p9r4_6
def p9r4_4 : List (Nat × Oper) := (0, q9r4_4) :: p9r4_5
def p9r4_3 : List (Nat × Oper) := (1, q9r4_3) :: p9r4_4
def p9r4_2 : List (Nat × Oper) := (1, q9r4_2) :: p9r4_3
def p9r4_1 : List (Nat × Oper) := (0, q9r4_1) :: p9r4_2
def p9r4_0 : List (Nat × Oper) := (0, q9r4_0) :: p9r4_1
def c9r4 : List (Nat × Nat) := [(0, 0), (0, 1), (1, 2), (1, 3), (0, 4), (1, 5), (0, 6), (0, 7)]
theorem b9r4 : (Region.noSelect o9r4 && (c9r4.length == o9r4.size) && planB o9r4 [] c9r4 (Array.replicate o9r4.size false)) = true := by kernel_rfl
theorem d9r4 : (c9r4.map fun p => (p.1, o9r4[p.2]?)) = (p9r4_0.map fun p => (p.1, some p.2)) := by kernel_rfl
set_option maxRecDepth 100000 in
set_option maxHeartbeats 4000000 in
theorem new_good (sz gr : Nat) (w : World) (hs : sz ≤ 67108864) (hg : 9 ≤ gr ∧ gr ≤ 26) : Calls Tryd.prog 9 #[.int .i64 sz, .int .i64 gr] w fun e w' => ∃ Q r, e = .returned (.tuple #[ptr Q, .int .i64 0]) ∧ w.heap.size ≤ Q ∧ w.heap.size ≤ r ∧ Kp (fun _ => False) w w' ∧ Bm w' Q r sz gr (List.replicate (nwd (frm gr sz)) 0) := by
  have hm : mayb (sz : Int) (gr : Int) = true := mayb_iff.2 (by omega)
  have HM := hid (fun w => may_any (sz : Int) (gr : Int) w)
  rw [hm] at HM
  have k1 : Kp (fun _ => False) w (w.alloc (.cells #[.int .i64 sz, .int .i64 gr] 82)) := (Kp.refl _ _).alloc _
  have s1 := St.new 82 w #[.int .i64 sz, .int .i64 gr]
  have HK := hid k1
  have HS := hid s1
  have HSZ := hid hs
  have HGR := hid hg
  clear hm k1 s1
  go_enter Tryd.func9, Tryd.ntmps9
  go_wp2_with (first | (go_at_call 35; refine (HM.out _).mono ?_; rintro _ w1 ⟨rfl, k⟩))
  have KX := hid (HK.out.trans k (fun _ _ h => h))
  have HS1 := hid (HS.out.kp k (fun h => h))
  obtain ⟨X0, hX0⟩ : ∃ X, w1 = X := ⟨_, rfl⟩
  rw [hX0] at KX HS1
  rw [hX0]
  obtain ⟨B, hB⟩ : ∃ B, w.heap.size = B := ⟨_, rfl⟩
  rw [hB] at HS1
  have C0 : Hid (X0.cell? ⟨B, 0, none⟩ = some (.int .i64 sz)) := HS1.out.cell 0
  have C1 : Hid (X0.cell? ⟨B, 1, none⟩ = some (.int .i64 gr)) := HS1.out.cell 1
  have HBB := hid hB
  rw [hB]
  have K00 : Hid (Kp (fun _ => False) X0 X0.drew) := (Kp.refl _ _).drew
  have HMA : Hid (∀ U, Kp (fun _ => False) X0 U → Calls Tryd.prog 37 #[.agg #[.int .i64 sz, .int .i64 gr]] U fun e w' => e = .returned (.int .i64 (frm gr sz)) ∧ Kp (fun _ => False) U w') := fun U _ => many_any sz gr (by omega) (by omega) U
  have HNR : Hid (∀ U, Kp (fun _ => False) X0 U → Calls Tryd.prog 36 #[.int .i64 (frm gr sz)] U fun e w' => e = .returned (.slice (some ⟨U.heap.size, 0, none⟩) (nwd (frm gr sz)) (nwd (frm gr sz))) ∧ Rw .u64 102 w' U.heap.size (List.replicate (nwd (frm gr sz)) 0) ∧ Below U.heap.size U w') := fun U _ => newrow_any _ (by have := frm_le gr sz; omega) U
  clear HM HK HS k hX0 hB HS1 hs hg
  change (Code.region 4 o9r4 true).wp _ _ _ _
  refine wp_region_plan (fun w' => Kp (fun _ => False) X0 w') [] c9r4 p9r4_0 hmix b9r4 d9r4 (fun _ _ d _ _ h => by cases d <;> exact h) ?_
  refine plan_take (o := q9r4_0) (r := p9r4_1) ?vx0 K00.out (by rfl) ?hyx0 ?restx0
  case hyx0 => (intro w hSw; (try dsimp only at hSw); have c0 := hSw.cell C0.out; have c1 := hSw.cell C1.out; simp only [q9r4_0]; go_simp; try with_reducible rfl)
  try simp only [q9r4_0, Act.put, List.setIfInBounds_toArray, List.set_cons_zero, List.set_cons_succ]
  refine plan_take (o := q9r4_1) (r := p9r4_2) ?vx1 K00.out (by rfl) ?hyx1 ?restx1
  case hyx1 => (intro w hSw; (try dsimp only at hSw); have c0 := hSw.cell C0.out; have c1 := hSw.cell C1.out; simp only [q9r4_1]; go_simp; try with_reducible rfl)
  try simp only [q9r4_1, Act.put, List.setIfInBounds_toArray, List.set_cons_zero, List.set_cons_succ]
  refine plan_act (o := q9r4_2) (r := p9r4_3) (fun K hK => ?_)
  simp only [q9r4_2]
  refine ite_pos2 (by rfl) ?_
  go_simp
  refine (HMA.out _ K00.out).mono ?_
  rintro e w5 ⟨rfl, k5⟩
  have K5 : Hid (Kp (fun _ => False) X0 w5) := (K00.out).trans k5 (fun _ _ h => h)
  clear k5
  go_wp2_with fail
  refine hK.out _ _ (fun _ => K5.out) ?_
  clear hK K
  try simp only [q9r4_2, Act.put, List.setIfInBounds_toArray, List.set_cons_zero, List.set_cons_succ]
  refine plan_act (o := q9r4_3) (r := p9r4_4) (fun K hK => ?_)
  simp only [q9r4_3]
  refine ite_pos2 (by rfl) ?_
  go_simp
  refine (HNR.out _ K5.out).mono ?_
  rintro e w6 ⟨rfl, r6, b6⟩
  have K6 : Hid (Kp (fun _ => False) X0 w6) := (K5.out).trans (Kp.of_below b6) (fun _ _ h => h)
  have HR6 := hid r6
  have HB6 : Hid (X0.heap.size ≤ w5.heap.size) := (K5.out).size
  clear b6 r6
  go_wp2_with fail
  refine hK.out _ _ (fun _ => K6.out) ?_
  clear hK K
  try simp only [q9r4_3, Act.put, List.setIfInBounds_toArray, List.set_cons_zero, List.set_cons_succ]
  refine plan_take (o := q9r4_4) (r := p9r4_5) ?vx4 K6.out (by rfl) ?hyx4 ?restx4
  case hyx4 => (intro w hSw; (try dsimp only at hSw); have c0 := hSw.cell C0.out; have c1 := hSw.cell C1.out; simp only [q9r4_4]; go_simp; try with_reducible rfl)
  try simp only [q9r4_4, Act.put, List.setIfInBounds_toArray, List.set_cons_zero, List.set_cons_succ]
  refine plan_act (o := q9r4_5) (r := p9r4_6) (fun K hK => ?_)
  simp only [q9r4_5]
  refine ite_pos2 (by rfl) ?_
  go_simp
  have KAL : Hid (∀ ob : Obj, Kp (fun _ => False) X0 (w6.alloc ob)) := fun ob => K6.out.alloc ob
  refine hK.out _ _ (fun _ => KAL.out _) ?_
  clear hK K
  try simp only [q9r4_5, Act.put, List.setIfInBounds_toArray, List.set_cons_zero, List.set_cons_succ]
  refine plan_take (o := q9r4_6) (r := p9r4_7) ?vx6 (KAL.out _) (by rfl) ?hyx6 ?restx6
  case hyx6 => (intro w hSw; (try dsimp only at hSw); have c0 := hSw.cell C0.out; have c1 := hSw.cell C1.out; simp only [q9r4_6]; go_simp; try with_reducible rfl)
  try simp only [q9r4_6, Act.put, List.setIfInBounds_toArray, List.set_cons_zero, List.set_cons_succ]
  refine plan_take (o := q9r4_7) (r := p9r4_8) ?vx7 (KAL.out _) (by rfl) ?hyx7 ?restx7
  case hyx7 => (intro w hSw; (try dsimp only at hSw); have c0 := hSw.cell C0.out; have c1 := hSw.cell C1.out; simp only [q9r4_7]; go_simp; try with_reducible rfl)
  try simp only [q9r4_7, Act.put, List.setIfInBounds_toArray, List.set_cons_zero, List.set_cons_succ]
  refine plan_done ?_
  go_wp2_with fail
  go_ret2
  have hsz := HB6.out
  have hk6 := K6.out.size
  have hkx := KX.out.size
  have hbb := HBB.out
  have hal : Kp (fun _ => False) w6 (w6.alloc (.cells #[.int .i64 sz, .int .i64 gr, .slice (some ⟨w5.heap.size, 0, none⟩) (nwd (frm gr sz)) (nwd (frm gr sz))] 88)) := (Kp.refl _ _).alloc _
  refine ⟨w6.heap.size, w5.heap.size, rfl, by omega, by omega, KX.out.trans (KAL.out _) (fun _ _ h => h), ⟨St.new 88 w6 _, ?_, by simp, W64.rep _, fun g _ => dty_rep _ g, HSZ.out, HGR.out⟩⟩
  rw [← up_rep]
  exact HR6.out.kp hal (fun h => h)
def q14r3_0 : Oper := { dst := some 5, op := Go.Op.move (Go.Operand.tmp 0), type := 24, pos := "granules.go:183", after := #[], guard := none }
def q14r3_1 : Oper := { dst := some 6, op := Go.Op.nilCheck (Go.Operand.tmp 5), type := 0, pos := "granules.go:183", after := #[{ on := 0, ground := Go.Ground.data }], guard := none }
def q14r3_2 : Oper := { dst := some 7, op := Go.Op.fieldAddr 88 (Go.Operand.tmp 6) 0, type := 0, pos := "granules.go:183", after := #[{ on := 1, ground := Go.Ground.data }], guard := none }
def q14r3_3 : Oper := { dst := some 8, op := Go.Op.load 82 (Go.Operand.tmp 7), type := 82, pos := "granules.go:183", after := #[{ on := 2, ground := Go.Ground.data }], guard := none }
def q14r3_4 : Oper := { dst := some 9, op := Go.Op.move (Go.Operand.tmp 0), type := 24, pos := "granules.go:183", after := #[], guard := none }
def q14r3_5 : Oper := { dst := some 10, op := Go.Op.nilCheck (Go.Operand.tmp 9), type := 0, pos := "granules.go:183", after := #[{ on := 4, ground := Go.Ground.data }], guard := none }
def q14r3_6 : Oper := { dst := some 11, op := Go.Op.fieldAddr 88 (Go.Operand.tmp 10) 1, type := 0, pos := "granules.go:183", after := #[{ on := 5, ground := Go.Ground.data }], guard := none }
def q14r3_7 : Oper := { dst := some 12, op := Go.Op.load 84 (Go.Operand.tmp 11), type := 84, pos := "granules.go:183", after := #[{ on := 6, ground := Go.Ground.data }], guard := none }
def q14r3_8 : Oper := { dst := some 13, op := Go.Op.move (Go.Operand.tmp 0), type := 24, pos := "granules.go:183", after := #[], guard := none }
def q14r3_9 : Oper := { dst := some 14, op := Go.Op.nilCheck (Go.Operand.tmp 13), type := 0, pos := "granules.go:183", after := #[{ on := 8, ground := Go.Ground.data }], guard := none }
def q14r3_10 : Oper := { dst := some 15, op := Go.Op.fieldAddr 88 (Go.Operand.tmp 14) 0, type := 0, pos := "granules.go:183", after := #[{ on := 9, ground := Go.Ground.data }], guard := none }
def q14r3_11 : Oper := { dst := some 16, op := Go.Op.load 82 (Go.Operand.tmp 15), type := 82, pos := "granules.go:183", after := #[{ on := 10, ground := Go.Ground.data }], guard := none }
def q14r3_12 : Oper := { dst := some 17, op := Go.Op.call { callee := Go.Callee.value (Go.Operand.func 37), args := #[Go.Operand.tmp 16], argTypes := #[82] }, type := 2, pos := "granules.go:183", after := #[{ on := 11, ground := Go.Ground.data }], guard := none }
def q14r3_13 : Oper := { dst := some 18, op := Go.Op.call { callee := Go.Callee.value (Go.Operand.func 45), args := #[Go.Operand.tmp 12, Go.Operand.tmp 17], argTypes := #[84, 2] }, type := 84, pos := "granules.go:183", after := #[{ on := 7, ground := Go.Ground.data }, { on := 12, ground := Go.Ground.data }, { on := 12, ground := Go.Ground.chain }], guard := none }
def q14r3_14 : Oper := { dst := some 19, op := Go.Op.build 88 #[(0, Go.Operand.tmp 8), (1, Go.Operand.tmp 18)], type := 88, pos := "granules.go:183", after := #[{ on := 3, ground := Go.Ground.data }, { on := 13, ground := Go.Ground.data }], guard := none }
def q14r3_15 : Oper := { dst := some 20, op := Go.Op.box 88 (Go.Operand.tmp 19), type := 24, pos := "granules.go:183", after := #[{ on := 14, ground := Go.Ground.data }], guard := none }
def q14r3_16 : Oper := { dst := some 2, op := Go.Op.assign (Go.Operand.tmp 20), type := 24, pos := "granules.go:183", after := #[{ on := 15, ground := Go.Ground.data }, { on := 13, ground := Go.Ground.chain }, { on := 0, ground := Go.Ground.phase }, { on := 1, ground := Go.Ground.phase }, { on := 2, ground := Go.Ground.phase }, { on := 3, ground := Go.Ground.phase }, { on := 4, ground := Go.Ground.phase }, { on := 5, ground := Go.Ground.phase }, { on := 6, ground := Go.Ground.phase }, { on := 7, ground := Go.Ground.phase }, { on := 8, ground := Go.Ground.phase }, { on := 9, ground := Go.Ground.phase }, { on := 10, ground := Go.Ground.phase }, { on := 11, ground := Go.Ground.phase }, { on := 12, ground := Go.Ground.phase }, { on := 13, ground := Go.Ground.phase }, { on := 14, ground := Go.Ground.phase }, { on := 15, ground := Go.Ground.phase }], guard := none }
def o14r3 : Array Oper := #[q14r3_0, q14r3_1, q14r3_2, q14r3_3, q14r3_4, q14r3_5, q14r3_6, q14r3_7, q14r3_8, q14r3_9, q14r3_10, q14r3_11, q14r3_12, q14r3_13, q14r3_14, q14r3_15, q14r3_16]
def p14r3_17 : List (Nat × Oper) := []
def p14r3_16 : List (Nat × Oper) := (0, q14r3_16) :: p14r3_17
def p14r3_15 : List (Nat × Oper) := (1, q14r3_15) :: p14r3_16
def p14r3_14 : List (Nat × Oper) := (0, q14r3_14) :: p14r3_15
def p14r3_13 : List (Nat × Oper) := (1, q14r3_13) :: p14r3_14
def p14r3_12 : List (Nat × Oper) := (1, q14r3_12) :: p14r3_13
def p14r3_11 : List (Nat × Oper) := (0, q14r3_11) :: p14r3_12
def p14r3_10 : List (Nat × Oper) := (0, q14r3_10) :: p14r3_11
def p14r3_9 : List (Nat × Oper) := (0, q14r3_9) :: p14r3_10
def p14r3_8 : List (Nat × Oper) := (0, q14r3_8) :: p14r3_9
def p14r3_7 : List (Nat × Oper) := (0, q14r3_7) :: p14r3_8
def p14r3_6 : List (Nat × Oper) := (0, q14r3_6) :: p14r3_7
def p14r3_5 : List (Nat × Oper) := (0, q14r3_5) :: p14r3_6
def p14r3_4 : List (Nat × Oper) := (0, q14r3_4) :: p14r3_5
def p14r3_3 : List (Nat × Oper) := (0, q14r3_3) :: p14r3_4
def p14r3_2 : List (Nat × Oper) := (0, q14r3_2) :: p14r3_3
def p14r3_1 : List (Nat × Oper) := (0, q14r3_1) :: p14r3_2
def p14r3_0 : List (Nat × Oper) := (0, q14r3_0) :: p14r3_1
def c14r3 : List (Nat × Nat) := [(0, 0), (0, 1), (0, 2), (0, 3), (0, 4), (0, 5), (0, 6), (0, 7), (0, 8), (0, 9), (0, 10), (0, 11), (1, 12), (1, 13), (0, 14), (1, 15), (0, 16)]
theorem b14r3 : (Region.noSelect o14r3 && (c14r3.length == o14r3.size) && planB o14r3 [] c14r3 (Array.replicate o14r3.size false)) = true := by kernel_rfl
theorem d14r3 : (c14r3.map fun p => (p.1, o14r3[p.2]?)) = (p14r3_0.map fun p => (p.1, some p.2)) := by kernel_rfl
set_option maxRecDepth 100000 in
set_option maxHeartbeats 4000000 in
theorem copy_any (Q r sz gr : Nat) (ws : List Nat) (w : World) (h : Bm w Q r sz gr ws) : Calls Tryd.prog 14 #[ptr Q] w fun e w' => ∃ Q' r', e = .returned (ptr Q') ∧ w.heap.size ≤ Q' ∧ w.heap.size ≤ r' ∧ Kp (fun _ => False) w w' ∧ Bm w' Q' r' sz gr ws := by
  have HN := hid (none_some Q (sz : Int) (gr : Int) w (h.st.cell 0) (h.st.cell 1))
  rw [h.may] at HN
  have HH := hid h
  unfold ptr
  go_enter Tryd.func14, Tryd.ntmps14
  go_wp2_with (first | (go_at_call 44; refine HN.out.mono ?_; rintro _ w1 ⟨rfl, k⟩))
  have KX := hid k
  have HB := hid (h.kp0 k)
  obtain ⟨X0, hX0⟩ : ∃ X, w1 = X := ⟨_, rfl⟩
  rw [hX0] at KX HB
  rw [hX0]
  have C0 : Hid (X0.cell? ⟨Q, 0, none⟩ = some (.int .i64 sz)) := HB.out.st.cell 0
  have C1 : Hid (X0.cell? ⟨Q, 1, none⟩ = some (.int .i64 gr)) := HB.out.st.cell 1
  have C2 : Hid (X0.cell? ⟨Q, 2, none⟩ = some (.slice (some ⟨r, 0, none⟩) (nwd (frm gr sz)) (nwd (frm gr sz)))) := HB.out.st.cell 2
  have K00 : Hid (Kp (fun _ => False) X0 X0.drew) := (Kp.refl _ _).drew
  have HMA : Hid (∀ U, Kp (fun _ => False) X0 U → Calls Tryd.prog 37 #[.agg #[.int .i64 sz, .int .i64 gr]] U fun e w' => e = .returned (.int .i64 (frm gr sz)) ∧ Kp (fun _ => False) U w') := fun U _ => many_any sz gr (by have := h.grb; omega) (by have := h.szb; omega) U
  have HSD : Hid (∀ U, Kp (fun _ => False) X0 U → Calls Tryd.prog 45 #[.slice (some ⟨r, 0, none⟩) (nwd (frm gr sz)) (nwd (frm gr sz)), .int .i64 (frm gr sz)] U fun e w' => ∃ b, e = .returned (.slice (some ⟨b, 0, none⟩) (nwd (frm gr sz)) (nwd (frm gr sz))) ∧ U.heap.size ≤ b ∧ Kp (fun _ => False) U w' ∧ ∃ ws', ws'.length = nwd (frm gr sz) ∧ W64 ws' ∧ (∀ g, dty ws' g = (dty ws g && decide (g < frm gr sz))) ∧ Rw .u64 102 w' b (up ws')) := fun U kU => sized_any r _ _ (frm gr sz) ws U h.ln.symm h.W h.lb.1 (by have := h.lb.2; omega) (HB.out.rw.kp kU (fun e => e))
  have HEQ : Hid (∀ ws' : List Nat, ws'.length = nwd (frm gr sz) → W64 ws' → (∀ g, dty ws' g = (dty ws g && decide (g < frm gr sz))) → ws' = ws) := fun ws' l1 l2 l3 => dty_ext (l1.trans h.ln.symm) l2 h.W (fun g _ => by
    rw [l3 g]
    by_cases hg : g < frm gr sz
    · rw [decide_eq_true hg, Bool.and_true]
    · rw [h.far g (by omega)]; rfl)
  clear HN k hX0 h
  change (Code.region 3 o14r3 true).wp _ _ _ _
  refine wp_region_plan (fun w' => Kp (fun _ => False) X0 w') [] c14r3 p14r3_0 hmix b14r3 d14r3 (fun _ _ d _ _ h => by cases d <;> exact h) ?_
  refine plan_take (o := q14r3_0) (r := p14r3_1) ?vy0 K00.out (by rfl) ?hyy0 ?resty0
  case hyy0 => (intro w hSw; (try dsimp only at hSw); have c0 := hSw.cell C0.out; have c1 := hSw.cell C1.out; have c2 := hSw.cell C2.out; simp only [q14r3_0]; go_simp; try with_reducible rfl)
  try simp only [q14r3_0, Act.put, List.setIfInBounds_toArray, List.set_cons_zero, List.set_cons_succ]
  refine plan_take (o := q14r3_1) (r := p14r3_2) ?vy1 K00.out (by rfl) ?hyy1 ?resty1
  case hyy1 => (intro w hSw; (try dsimp only at hSw); have c0 := hSw.cell C0.out; have c1 := hSw.cell C1.out; have c2 := hSw.cell C2.out; simp only [q14r3_1]; go_simp; try with_reducible rfl)
  try simp only [q14r3_1, Act.put, List.setIfInBounds_toArray, List.set_cons_zero, List.set_cons_succ]
  refine plan_take (o := q14r3_2) (r := p14r3_3) ?vy2 K00.out (by rfl) ?hyy2 ?resty2
  case hyy2 => (intro w hSw; (try dsimp only at hSw); have c0 := hSw.cell C0.out; have c1 := hSw.cell C1.out; have c2 := hSw.cell C2.out; simp only [q14r3_2]; go_simp; try with_reducible rfl)
  try simp only [q14r3_2, Act.put, List.setIfInBounds_toArray, List.set_cons_zero, List.set_cons_succ]
  refine plan_take (o := q14r3_3) (r := p14r3_4) ?vy3 K00.out (by rfl) ?hyy3 ?resty3
  case hyy3 => (intro w hSw; (try dsimp only at hSw); have c0 := hSw.cell C0.out; have c1 := hSw.cell C1.out; have c2 := hSw.cell C2.out; simp only [q14r3_3]; go_simp; try with_reducible rfl)
  try simp only [q14r3_3, Act.put, List.setIfInBounds_toArray, List.set_cons_zero, List.set_cons_succ]
  refine plan_take (o := q14r3_4) (r := p14r3_5) ?vy4 K00.out (by rfl) ?hyy4 ?resty4
  case hyy4 => (intro w hSw; (try dsimp only at hSw); have c0 := hSw.cell C0.out; have c1 := hSw.cell C1.out; have c2 := hSw.cell C2.out; simp only [q14r3_4]; go_simp; try with_reducible rfl)
  try simp only [q14r3_4, Act.put, List.setIfInBounds_toArray, List.set_cons_zero, List.set_cons_succ]
  refine plan_take (o := q14r3_5) (r := p14r3_6) ?vy5 K00.out (by rfl) ?hyy5 ?resty5
  case hyy5 => (intro w hSw; (try dsimp only at hSw); have c0 := hSw.cell C0.out; have c1 := hSw.cell C1.out; have c2 := hSw.cell C2.out; simp only [q14r3_5]; go_simp; try with_reducible rfl)
  try simp only [q14r3_5, Act.put, List.setIfInBounds_toArray, List.set_cons_zero, List.set_cons_succ]
  refine plan_take (o := q14r3_6) (r := p14r3_7) ?vy6 K00.out (by rfl) ?hyy6 ?resty6
  case hyy6 => (intro w hSw; (try dsimp only at hSw); have c0 := hSw.cell C0.out; have c1 := hSw.cell C1.out; have c2 := hSw.cell C2.out; simp only [q14r3_6]; go_simp; try with_reducible rfl)
  try simp only [q14r3_6, Act.put, List.setIfInBounds_toArray, List.set_cons_zero, List.set_cons_succ]
  refine plan_take (o := q14r3_7) (r := p14r3_8) ?vy7 K00.out (by rfl) ?hyy7 ?resty7
  case hyy7 => (intro w hSw; (try dsimp only at hSw); have c0 := hSw.cell C0.out; have c1 := hSw.cell C1.out; have c2 := hSw.cell C2.out; simp only [q14r3_7]; go_simp; try with_reducible rfl)
  try simp only [q14r3_7, Act.put, List.setIfInBounds_toArray, List.set_cons_zero, List.set_cons_succ]
  refine plan_take (o := q14r3_8) (r := p14r3_9) ?vy8 K00.out (by rfl) ?hyy8 ?resty8
  case hyy8 => (intro w hSw; (try dsimp only at hSw); have c0 := hSw.cell C0.out; have c1 := hSw.cell C1.out; have c2 := hSw.cell C2.out; simp only [q14r3_8]; go_simp; try with_reducible rfl)
  try simp only [q14r3_8, Act.put, List.setIfInBounds_toArray, List.set_cons_zero, List.set_cons_succ]
  refine plan_take (o := q14r3_9) (r := p14r3_10) ?vy9 K00.out (by rfl) ?hyy9 ?resty9
  case hyy9 => (intro w hSw; (try dsimp only at hSw); have c0 := hSw.cell C0.out; have c1 := hSw.cell C1.out; have c2 := hSw.cell C2.out; simp only [q14r3_9]; go_simp; try with_reducible rfl)
  try simp only [q14r3_9, Act.put, List.setIfInBounds_toArray, List.set_cons_zero, List.set_cons_succ]
  refine plan_take (o := q14r3_10) (r := p14r3_11) ?vy10 K00.out (by rfl) ?hyy10 ?resty10
  case hyy10 => (intro w hSw; (try dsimp only at hSw); have c0 := hSw.cell C0.out; have c1 := hSw.cell C1.out; have c2 := hSw.cell C2.out; simp only [q14r3_10]; go_simp; try with_reducible rfl)
  try simp only [q14r3_10, Act.put, List.setIfInBounds_toArray, List.set_cons_zero, List.set_cons_succ]
  refine plan_take (o := q14r3_11) (r := p14r3_12) ?vy11 K00.out (by rfl) ?hyy11 ?resty11
  case hyy11 => (intro w hSw; (try dsimp only at hSw); have c0 := hSw.cell C0.out; have c1 := hSw.cell C1.out; have c2 := hSw.cell C2.out; simp only [q14r3_11]; go_simp; try with_reducible rfl)
  try simp only [q14r3_11, Act.put, List.setIfInBounds_toArray, List.set_cons_zero, List.set_cons_succ]
  refine plan_act (o := q14r3_12) (r := p14r3_13) (fun K hK => ?_)
  simp only [q14r3_12]
  refine ite_pos2 (by rfl) ?_
  go_simp
  refine (HMA.out _ K00.out).mono ?_
  rintro e w5 ⟨rfl, k5⟩
  have K5 : Hid (Kp (fun _ => False) X0 w5) := (K00.out).trans k5 (fun _ _ h => h)
  clear k5
  go_wp2_with fail
  refine hK.out _ _ (fun _ => K5.out) ?_
  clear hK K
  try simp only [q14r3_12, Act.put, List.setIfInBounds_toArray, List.set_cons_zero, List.set_cons_succ]
  refine plan_act (o := q14r3_13) (r := p14r3_14) (fun K hK => ?_)
  simp only [q14r3_13]
  refine ite_pos2 (by rfl) ?_
  go_simp
  refine (HSD.out _ K5.out).mono ?_
  rintro e w6 ⟨b, rfl, hb6, k6, ws6, l6, W6, d6, r6⟩
  have K6 : Hid (Kp (fun _ => False) X0 w6) := (K5.out).trans k6 (fun _ _ h => h)
  have HR6 := hid r6
  have HW6 : Hid (ws6 = ws) := HEQ.out ws6 l6 W6 d6
  have HB6 : Hid (X0.heap.size ≤ b) := Nat.le_trans (K5.out).size hb6
  clear k6 l6 W6 d6 r6 hb6
  go_wp2_with fail
  refine hK.out _ _ (fun _ => K6.out) ?_
  clear hK K
  try simp only [q14r3_13, Act.put, List.setIfInBounds_toArray, List.set_cons_zero, List.set_cons_succ]
  refine plan_take (o := q14r3_14) (r := p14r3_15) ?vy14 K6.out (by rfl) ?hyy14 ?resty14
  case hyy14 => (intro w hSw; (try dsimp only at hSw); have c0 := hSw.cell C0.out; have c1 := hSw.cell C1.out; have c2 := hSw.cell C2.out; simp only [q14r3_14]; go_simp; try with_reducible rfl)
  try simp only [q14r3_14, Act.put, List.setIfInBounds_toArray, List.set_cons_zero, List.set_cons_succ]
  refine plan_act (o := q14r3_15) (r := p14r3_16) (fun K hK => ?_)
  simp only [q14r3_15]
  refine ite_pos2 (by rfl) ?_
  go_simp
  have KAL : Hid (∀ ob : Obj, Kp (fun _ => False) X0 (w6.alloc ob)) := fun ob => K6.out.alloc ob
  refine hK.out _ _ (fun _ => KAL.out _) ?_
  clear hK K
  try simp only [q14r3_15, Act.put, List.setIfInBounds_toArray, List.set_cons_zero, List.set_cons_succ]
  refine plan_take (o := q14r3_16) (r := p14r3_17) ?vy16 (KAL.out _) (by rfl) ?hyy16 ?resty16
  case hyy16 => (intro w hSw; (try dsimp only at hSw); have c0 := hSw.cell C0.out; have c1 := hSw.cell C1.out; have c2 := hSw.cell C2.out; simp only [q14r3_16]; go_simp; try with_reducible rfl)
  try simp only [q14r3_16, Act.put, List.setIfInBounds_toArray, List.set_cons_zero, List.set_cons_succ]
  refine plan_done ?_
  go_wp2_with fail
  go_ret
  have hal : Kp (fun _ => False) w6 (w6.alloc (.cells #[.int .i64 sz, .int .i64 gr, .slice (some ⟨b, 0, none⟩) (nwd (frm gr sz)) (nwd (frm gr sz))] 88)) := (Kp.refl _ _).alloc _
  have hk6 := K6.out.size
  have hkx := KX.out.size
  have hb6 := HB6.out
  have hr := HR6.out
  rw [HW6.out] at hr
  exact ⟨w6.heap.size, b, rfl, by omega, by omega, KX.out.trans (KAL.out _) (fun _ _ h => h), ⟨St.new 88 w6 _, hr.kp hal (fun h => h), HH.out.ln, HH.out.W, HH.out.far, HH.out.szb, HH.out.grb⟩⟩

end Go.Proofs.YteenlifdamhffaaDoor
