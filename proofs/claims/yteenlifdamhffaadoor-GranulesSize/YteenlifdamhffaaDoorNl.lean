/- granules: Resize. -/
import Derived.Test.YteenlifdamhffaaDoorNh
namespace Go.Proofs.YteenlifdamhffaaDoor
open Go.RowKit
set_option linter.unusedVariables false
set_option linter.unusedSimpArgs false
set_option maxRecDepth 100000 in
set_option maxHeartbeats 4000000 in
theorem resize_bad (Q r sz gr : Nat) (ws : List Nat) (w : World) (h : Bm w Q r sz gr ws) (s2 : Int) (hm : mayb s2 (gr : Int) = false) : Calls Tryd.prog 32 #[ptr Q, .int .i64 s2] w fun e w' => e = .returned (.int .i64 2) ∧ Kp (fun _ => False) w w' := by
  have HN := hid (none_some Q (sz : Int) (gr : Int) w (h.st.cell 0) (h.st.cell 1))
  rw [h.may] at HN
  have HM := hid (fun w => may_any s2 (gr : Int) w)
  rw [hm] at HM
  have HH := hid h
  have HK : Hid (∀ U : World, Kp (fun _ => False) U (U.alloc (.cells #[.int .i64 s2, .int .i64 gr] 82))) := fun U => (Kp.refl _ _).alloc _
  clear h hm
  unfold ptr
  go_enter Tryd.func32, Tryd.ntmps32
  go_wp2_with (first | (go_at_call 44; refine HN.out.mono ?_; rintro _ w1 ⟨rfl, k⟩; have c1 := (HH.out.kp0 k).st.cell 1; simp at c1) | (go_at_call 35; refine (HM.out _).mono ?_; rintro _ w2 ⟨rfl, k2⟩))
  go_ret
  exact ⟨rfl, (k.trans (HK.out _) (fun _ _ h => h)).trans k2 (fun _ _ h => h)⟩
def q32r6_0 : Oper := { dst := some 18, op := Go.Op.move (Go.Operand.tmp 0), type := 24, pos := "granules.go:127", after := #[], guard := none }
def q32r6_1 : Oper := { dst := some 19, op := Go.Op.load 82 (Go.Operand.tmp 5), type := 82, pos := "granules.go:127", after := #[], guard := none }
def q32r6_2 : Oper := { dst := some 20, op := Go.Op.move (Go.Operand.tmp 0), type := 24, pos := "granules.go:127", after := #[], guard := none }
def q32r6_3 : Oper := { dst := some 21, op := Go.Op.nilCheck (Go.Operand.tmp 20), type := 0, pos := "granules.go:127", after := #[{ on := 2, ground := Go.Ground.data }], guard := none }
def q32r6_4 : Oper := { dst := some 22, op := Go.Op.fieldAddr 88 (Go.Operand.tmp 21) 1, type := 0, pos := "granules.go:127", after := #[{ on := 3, ground := Go.Ground.data }], guard := none }
def q32r6_5 : Oper := { dst := some 23, op := Go.Op.load 84 (Go.Operand.tmp 22), type := 84, pos := "granules.go:127", after := #[{ on := 4, ground := Go.Ground.data }], guard := none }
def q32r6_6 : Oper := { dst := some 24, op := Go.Op.load 82 (Go.Operand.tmp 5), type := 82, pos := "granules.go:127", after := #[], guard := none }
def q32r6_7 : Oper := { dst := some 25, op := Go.Op.call { callee := Go.Callee.value (Go.Operand.func 37), args := #[Go.Operand.tmp 24], argTypes := #[82] }, type := 2, pos := "granules.go:127", after := #[{ on := 6, ground := Go.Ground.data }], guard := none }
def q32r6_8 : Oper := { dst := some 26, op := Go.Op.call { callee := Go.Callee.value (Go.Operand.func 45), args := #[Go.Operand.tmp 23, Go.Operand.tmp 25], argTypes := #[84, 2] }, type := 84, pos := "granules.go:127", after := #[{ on := 5, ground := Go.Ground.data }, { on := 7, ground := Go.Ground.data }, { on := 7, ground := Go.Ground.chain }], guard := none }
def q32r6_9 : Oper := { dst := some 27, op := Go.Op.build 88 #[(0, Go.Operand.tmp 19), (1, Go.Operand.tmp 26)], type := 88, pos := "granules.go:127", after := #[{ on := 1, ground := Go.Ground.data }, { on := 8, ground := Go.Ground.data }], guard := none }
def q32r6_10 : Oper := { dst := some 28, op := Go.Op.nilCheck (Go.Operand.tmp 18), type := 0, pos := "granules.go:127", after := #[{ on := 0, ground := Go.Ground.data }, { on := 0, ground := Go.Ground.phase }, { on := 1, ground := Go.Ground.phase }, { on := 2, ground := Go.Ground.phase }, { on := 3, ground := Go.Ground.phase }, { on := 4, ground := Go.Ground.phase }, { on := 5, ground := Go.Ground.phase }, { on := 6, ground := Go.Ground.phase }, { on := 7, ground := Go.Ground.phase }, { on := 8, ground := Go.Ground.phase }, { on := 9, ground := Go.Ground.phase }], guard := none }
def q32r6_11 : Oper := { dst := none, op := Go.Op.store 88 (Go.Operand.tmp 28) (Go.Operand.tmp 27), type := 0, pos := "granules.go:127", after := #[{ on := 10, ground := Go.Ground.data }, { on := 9, ground := Go.Ground.data }, { on := 8, ground := Go.Ground.chain }, { on := 0, ground := Go.Ground.phase }, { on := 1, ground := Go.Ground.phase }, { on := 2, ground := Go.Ground.phase }, { on := 3, ground := Go.Ground.phase }, { on := 4, ground := Go.Ground.phase }, { on := 5, ground := Go.Ground.phase }, { on := 6, ground := Go.Ground.phase }, { on := 7, ground := Go.Ground.phase }, { on := 8, ground := Go.Ground.phase }, { on := 9, ground := Go.Ground.phase }], guard := none }
def o32r6 : Array Oper := #[q32r6_0, q32r6_1, q32r6_2, q32r6_3, q32r6_4, q32r6_5, q32r6_6, q32r6_7, q32r6_8, q32r6_9, q32r6_10, q32r6_11]
def p32r6_12 : List (Nat × Oper) := []
def p32r6_11 : List (Nat × Oper) := (2, q32r6_11) :: p32r6_12
def p32r6_10 : List (Nat × Oper) := (0, q32r6_10) :: p32r6_11
def p32r6_9 : List (Nat × Oper) := (0, q32r6_9) :: p32r6_10
def p32r6_8 : List (Nat × Oper) := (1, q32r6_8) :: p32r6_9
def p32r6_7 : List (Nat × Oper) := (1, q32r6_7) :: p32r6_8
def p32r6_6 : List (Nat × Oper) := (0, q32r6_6) :: p32r6_7
def p32r6_5 : List (Nat × Oper) := (0, q32r6_5) :: p32r6_6
def p32r6_4 : List (Nat × Oper) := (0, q32r6_4) :: p32r6_5
def p32r6_3 : List (Nat × Oper) := (0, q32r6_3) :: p32r6_4
def p32r6_2 : List (Nat × Oper) := (0, q32r6_2) :: p32r6_3
def p32r6_1 : List (Nat × Oper) := (0, q32r6_1) :: p32r6_2
def p32r6_0 : List (Nat × Oper) := (0, q32r6_0) :: p32r6_1
def c32r6 : List (Nat × Nat) := [(0, 0), (0, 1), (0, 2), (0, 3), (0, 4), (0, 5), (0, 6), (1, 7), (1, 8), (0, 9), (0, 10), (2, 11)]
theorem b32r6 : (Region.noSelect o32r6 && (c32r6.length == o32r6.size) && planB o32r6 [11] c32r6 (Array.replicate o32r6.size false)) = true := by kernel_rfl
theorem d32r6 : (c32r6.map fun p => (p.1, o32r6[p.2]?)) = (p32r6_0.map fun p => (p.1, some p.2)) := by kernel_rfl
set_option maxRecDepth 100000 in
set_option maxHeartbeats 4000000 in
theorem resize_ok (Q r sz gr s2 : Nat) (ws : List Nat) (w : World) (h : Bm w Q r sz gr ws) (hs2 : s2 ≤ 67108864) : Calls Tryd.prog 32 #[ptr Q, .int .i64 s2] w fun e w' => e = .returned (.int .i64 0) ∧ Kp (fun i => i = Q) w w' ∧ ∃ r' ws', w.heap.size ≤ r' ∧ Bm w' Q r' s2 gr ws' ∧ ∀ g, dty ws' g = (dty ws g && decide (g < frm gr s2)) := by
  have HN := hid (none_some Q (sz : Int) (gr : Int) w (h.st.cell 0) (h.st.cell 1))
  rw [h.may] at HN
  have HM := hid (fun w => may_any (s2 : Int) (gr : Int) w)
  have hm : mayb (s2 : Int) (gr : Int) = true := mayb_iff.2 ⟨by omega, by omega, by have := h.grb; omega, by have := h.grb; omega⟩
  rw [hm] at HM
  have HH := hid h
  clear hm
  unfold ptr
  go_enter Tryd.func32, Tryd.ntmps32
  go_wp2_with (first | (go_at_call 44; refine HN.out.mono ?_; rintro _ w1 ⟨rfl, k⟩; have c1 := (HH.out.kp0 k).st.cell 1; simp at c1) | (go_at_call 35; refine (HM.out _).mono ?_; rintro _ w2 ⟨rfl, k2⟩))
  have sB := (St.new 82 w1 #[.int .i64 s2, .int .i64 gr]).kp k2 (fun h => h)
  have kA : Kp (fun _ => False) w1 (w1.alloc (.cells #[.int .i64 s2, .int .i64 gr] 82)) := (Kp.refl _ _).alloc _
  have KX := hid ((k.trans kA (fun _ _ h => h)).trans k2 (fun _ _ h => h))
  have HB := hid (HH.out.kp0 KX.out)
  obtain ⟨X0, hX0⟩ : ∃ X, w2 = X := ⟨_, rfl⟩
  obtain ⟨B, hBx⟩ : ∃ B, w1.heap.size = B := ⟨_, rfl⟩
  rw [hX0] at KX HB sB
  rw [hBx] at sB
  rw [hX0, hBx]
  have D0 : Hid (X0.cell? ⟨B, 0, none⟩ = some (.int .i64 s2)) := sB.cell 0
  have D1 : Hid (X0.cell? ⟨B, 1, none⟩ = some (.int .i64 gr)) := sB.cell 1
  have C0 : Hid (X0.cell? ⟨Q, 0, none⟩ = some (.int .i64 sz)) := HB.out.st.cell 0
  have C1 : Hid (X0.cell? ⟨Q, 1, none⟩ = some (.int .i64 gr)) := HB.out.st.cell 1
  have C2 : Hid (X0.cell? ⟨Q, 2, none⟩ = some (.slice (some ⟨r, 0, none⟩) (nwd (frm gr sz)) (nwd (frm gr sz)))) := HB.out.st.cell 2
  have K00 : Hid (Kp (fun _ => False) X0 X0.drew) := (Kp.refl _ _).drew
  have HMA : Hid (∀ U, Kp (fun _ => False) X0 U → Calls Tryd.prog 37 #[.agg #[.int .i64 s2, .int .i64 gr]] U fun e w' => e = .returned (.int .i64 (frm gr s2)) ∧ Kp (fun _ => False) U w') := fun U _ => many_any s2 gr (by have := h.grb; omega) (by omega) U
  have HSD : Hid (∀ U, Kp (fun _ => False) X0 U → Calls Tryd.prog 45 #[.slice (some ⟨r, 0, none⟩) (nwd (frm gr sz)) (nwd (frm gr sz)), .int .i64 (frm gr s2)] U fun e w' => ∃ b, e = .returned (.slice (some ⟨b, 0, none⟩) (nwd (frm gr s2)) (nwd (frm gr s2))) ∧ U.heap.size ≤ b ∧ Kp (fun _ => False) U w' ∧ ∃ ws', ws'.length = nwd (frm gr s2) ∧ W64 ws' ∧ (∀ g, dty ws' g = (dty ws g && decide (g < frm gr s2))) ∧ Rw .u64 102 w' b (up ws')) := fun U kU => sized_any r _ _ (frm gr s2) ws U h.ln.symm h.W h.lb.1 (by have := frm_le gr s2; omega) (HB.out.rw.kp kU (fun e => e))
  clear HN HM k k2 hX0 hBx sB kA h
  change (Code.region 6 o32r6 true).wp _ _ _ _
  refine wp_region_plan (fun w' => Kp (fun _ => False) X0 w') [11] c32r6 p32r6_0 hmix b32r6 d32r6 (fun _ _ d _ _ h => by cases d <;> exact h) ?_
  refine plan_take (o := q32r6_0) (r := p32r6_1) ?vf0 K00.out (by rfl) ?hyf0 ?restf0
  case hyf0 => (intro w hSw; (try dsimp only at hSw); have d0 := hSw.cell D0.out; have d1 := hSw.cell D1.out; have c2 := hSw.cell C2.out; have c0 := hSw.cell C0.out; have c1 := hSw.cell C1.out; simp only [q32r6_0]; go_simp; try with_reducible rfl)
  try simp only [q32r6_0, Act.put, List.setIfInBounds_toArray, List.set_cons_zero, List.set_cons_succ]
  refine plan_take (o := q32r6_1) (r := p32r6_2) ?vf1 K00.out (by rfl) ?hyf1 ?restf1
  case hyf1 => (intro w hSw; (try dsimp only at hSw); have d0 := hSw.cell D0.out; have d1 := hSw.cell D1.out; have c2 := hSw.cell C2.out; have c0 := hSw.cell C0.out; have c1 := hSw.cell C1.out; simp only [q32r6_1]; go_simp; try with_reducible rfl)
  try simp only [q32r6_1, Act.put, List.setIfInBounds_toArray, List.set_cons_zero, List.set_cons_succ]
  refine plan_take (o := q32r6_2) (r := p32r6_3) ?vf2 K00.out (by rfl) ?hyf2 ?restf2
  case hyf2 => (intro w hSw; (try dsimp only at hSw); have d0 := hSw.cell D0.out; have d1 := hSw.cell D1.out; have c2 := hSw.cell C2.out; have c0 := hSw.cell C0.out; have c1 := hSw.cell C1.out; simp only [q32r6_2]; go_simp; try with_reducible rfl)
  try simp only [q32r6_2, Act.put, List.setIfInBounds_toArray, List.set_cons_zero, List.set_cons_succ]
  refine plan_take (o := q32r6_3) (r := p32r6_4) ?vf3 K00.out (by rfl) ?hyf3 ?restf3
  case hyf3 => (intro w hSw; (try dsimp only at hSw); have d0 := hSw.cell D0.out; have d1 := hSw.cell D1.out; have c2 := hSw.cell C2.out; have c0 := hSw.cell C0.out; have c1 := hSw.cell C1.out; simp only [q32r6_3]; go_simp; try with_reducible rfl)
  try simp only [q32r6_3, Act.put, List.setIfInBounds_toArray, List.set_cons_zero, List.set_cons_succ]
  refine plan_take (o := q32r6_4) (r := p32r6_5) ?vf4 K00.out (by rfl) ?hyf4 ?restf4
  case hyf4 => (intro w hSw; (try dsimp only at hSw); have d0 := hSw.cell D0.out; have d1 := hSw.cell D1.out; have c2 := hSw.cell C2.out; have c0 := hSw.cell C0.out; have c1 := hSw.cell C1.out; simp only [q32r6_4]; go_simp; try with_reducible rfl)
  try simp only [q32r6_4, Act.put, List.setIfInBounds_toArray, List.set_cons_zero, List.set_cons_succ]
  refine plan_take (o := q32r6_5) (r := p32r6_6) ?vf5 K00.out (by rfl) ?hyf5 ?restf5
  case hyf5 => (intro w hSw; (try dsimp only at hSw); have d0 := hSw.cell D0.out; have d1 := hSw.cell D1.out; have c2 := hSw.cell C2.out; have c0 := hSw.cell C0.out; have c1 := hSw.cell C1.out; simp only [q32r6_5]; go_simp; try with_reducible rfl)
  try simp only [q32r6_5, Act.put, List.setIfInBounds_toArray, List.set_cons_zero, List.set_cons_succ]
  refine plan_take (o := q32r6_6) (r := p32r6_7) ?vf6 K00.out (by rfl) ?hyf6 ?restf6
  case hyf6 => (intro w hSw; (try dsimp only at hSw); have d0 := hSw.cell D0.out; have d1 := hSw.cell D1.out; have c2 := hSw.cell C2.out; have c0 := hSw.cell C0.out; have c1 := hSw.cell C1.out; simp only [q32r6_6]; go_simp; try with_reducible rfl)
  try simp only [q32r6_6, Act.put, List.setIfInBounds_toArray, List.set_cons_zero, List.set_cons_succ]
  refine plan_act (o := q32r6_7) (r := p32r6_8) (fun K hK => ?_)
  simp only [q32r6_7]
  refine ite_pos2 (by rfl) ?_
  go_simp
  refine (HMA.out _ K00.out).mono ?_
  rintro e w5 ⟨rfl, k5⟩
  have K5 : Hid (Kp (fun _ => False) X0 w5) := (K00.out).trans k5 (fun _ _ h => h)
  clear k5
  go_wp2_with fail
  refine hK.out _ _ (fun _ => K5.out) ?_
  clear hK K
  try simp only [q32r6_7, Act.put, List.setIfInBounds_toArray, List.set_cons_zero, List.set_cons_succ]
  refine plan_act (o := q32r6_8) (r := p32r6_9) (fun K hK => ?_)
  simp only [q32r6_8]
  refine ite_pos2 (by rfl) ?_
  go_simp
  refine (HSD.out _ K5.out).mono ?_
  rintro e w6 ⟨b, rfl, hb6, k6, ws6, l6, W6, d6, r6⟩
  have K6 : Hid (Kp (fun _ => False) X0 w6) := (K5.out).trans k6 (fun _ _ h => h)
  have HB6 : Hid (X0.heap.size ≤ b) := Nat.le_trans (K5.out).size hb6
  have HWS : Hid (ws6.length = nwd (frm gr s2) ∧ W64 ws6 ∧ (∀ g, dty ws6 g = (dty ws g && decide (g < frm gr s2))) ∧ Rw .u64 102 w6 b (up ws6)) := ⟨l6, W6, d6, r6⟩
  clear k6 l6 W6 d6 r6 hb6
  go_wp2_with fail
  refine hK.out _ _ (fun _ => K6.out) ?_
  clear hK K
  try simp only [q32r6_8, Act.put, List.setIfInBounds_toArray, List.set_cons_zero, List.set_cons_succ]
  refine plan_take (o := q32r6_9) (r := p32r6_10) ?vf9 K6.out (by rfl) ?hyf9 ?restf9
  case hyf9 => (intro w hSw; (try dsimp only at hSw); have d0 := hSw.cell D0.out; have d1 := hSw.cell D1.out; have c2 := hSw.cell C2.out; have c0 := hSw.cell C0.out; have c1 := hSw.cell C1.out; simp only [q32r6_9]; go_simp; try with_reducible rfl)
  try simp only [q32r6_9, Act.put, List.setIfInBounds_toArray, List.set_cons_zero, List.set_cons_succ]
  refine plan_take (o := q32r6_10) (r := p32r6_11) ?vf10 K6.out (by rfl) ?hyf10 ?restf10
  case hyf10 => (intro w hSw; (try dsimp only at hSw); have d0 := hSw.cell D0.out; have d1 := hSw.cell D1.out; have c2 := hSw.cell C2.out; have c0 := hSw.cell C0.out; have c1 := hSw.cell C1.out; simp only [q32r6_10]; go_simp; try with_reducible rfl)
  try simp only [q32r6_10, Act.put, List.setIfInBounds_toArray, List.set_cons_zero, List.set_cons_succ]
  refine plan_late (o := q32r6_11) (r := p32r6_12) (fun K hK => ?_)
  simp only [q32r6_11]
  have st6 := HB.out.st.kp K6.out (fun h => h)
  have e0 := st6.cell 0
  have e1 := st6.cell 1
  have e2 := st6.cell 2
  have f0 := st6.frozen 0
  have f1 := st6.frozen 1
  have f2 := st6.frozen 2
  simp at e0 e1 e2
  refine ite_pos2 (by rfl) ?_
  go_simp
  refine hK.out _ _ ?_
  clear hK K
  try simp only [q32r6_11, Act.put, List.setIfInBounds_toArray, List.set_cons_zero, List.set_cons_succ]
  refine plan_done ?_
  go_wp2_with fail
  go_ret
  obtain ⟨g1, g2, g3, g4⟩ := HWS.out
  have hbq : ¬ b = Q := by
    have h1 := HB.out.st.lt
    have h2 := HB6.out
    omega
  have s0 := ((st6.set 0 (.int .i64 s2)).set 1 (.int .i64 gr)).set 2 (.slice (some ⟨b, 0, none⟩) (nwd (frm gr s2)) (nwd (frm gr s2)))
  have k0 := kp_setCell w6 Q 0 (.int .i64 s2) (fun i => i = Q) rfl
  have k1 := kp_setCell (w6.setCell ⟨Q, 0, none⟩ (.int .i64 s2)) Q 1 (.int .i64 gr) (fun i => i = Q) rfl
  have k2 := kp_setCell ((w6.setCell ⟨Q, 0, none⟩ (.int .i64 s2)).setCell ⟨Q, 1, none⟩ (.int .i64 gr)) Q 2 (.slice (some ⟨b, 0, none⟩) (nwd (frm gr s2)) (nwd (frm gr s2))) (fun i => i = Q) rfl
  have kk := (k0.trans k1 (fun _ _ h => h)).trans k2 (fun _ _ h => h)
  have h1 := KX.out.size
  have h2 := HB6.out
  refine ⟨rfl, ((KX.out.trans K6.out (fun _ _ h => h)).mono (G := fun i => i = Q) (fun _ _ h => h.elim)).trans kk (fun _ _ h => h), b, ws6, by omega, ⟨by simpa using s0, g4.kp kk (fun h => hbq h), g1, g2, fun g hg => ?_, hs2, HH.out.grb⟩, g3⟩
  rw [g3 g, decide_eq_false (by omega), Bool.and_false]
end Go.Proofs.YteenlifdamhffaaDoor
