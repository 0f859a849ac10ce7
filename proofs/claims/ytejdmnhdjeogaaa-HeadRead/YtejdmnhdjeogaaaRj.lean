/- The document: Tables. -/
import Derived.Test.YtejdmnhdjeogaaaRf
namespace Go.Proofs.Ytejdmnhdjeogaaa
open Go.RowKit
set_option linter.unusedVariables false
def q18r1_0 : Oper := { dst := some 3, op := Go.Op.load 24 (Go.Operand.tmp 1), type := 24, pos := "ref.go:39", after := #[], guard := none }
def q18r1_1 : Oper := { dst := some 4, op := Go.Op.call { callee := Go.Callee.value (Go.Operand.func 17), args := #[Go.Operand.tmp 3], argTypes := #[24] }, type := 2, pos := "ref.go:39", after := #[{ on := 0, ground := Go.Ground.data }], guard := none }
def q18r1_2 : Oper := { dst := some 5, op := Go.Op.fieldAddr 24 (Go.Operand.tmp 1) 0, type := 0, pos := "ref.go:39", after := #[], guard := none }
def q18r1_3 : Oper := { dst := some 6, op := Go.Op.load 3 (Go.Operand.tmp 5), type := 3, pos := "ref.go:39", after := #[{ on := 2, ground := Go.Ground.data }], guard := none }
def q18r1_4 : Oper := { dst := some 7, op := Go.Op.call { callee := Go.Callee.value (Go.Operand.func 16), args := #[Go.Operand.tmp 6], argTypes := #[3] }, type := 2, pos := "ref.go:39", after := #[{ on := 3, ground := Go.Ground.data }, { on := 1, ground := Go.Ground.chain }], guard := none }
def q18r1_5 : Oper := { dst := some 8, op := Go.Op.binOp Go.BinOp.quo 2 (Go.Operand.tmp 7) (Go.Operand.const (Go.Value.int Go.IntKind.i64 8)) 2, type := 2, pos := "ref.go:39", after := #[{ on := 4, ground := Go.Ground.data }], guard := none }
def q18r1_6 : Oper := { dst := some 9, op := Go.Op.call { callee := Go.Callee.value (Go.Operand.func 31), args := #[Go.Operand.tmp 4, Go.Operand.tmp 8], argTypes := #[2, 2] }, type := 2, pos := "ref.go:39", after := #[{ on := 1, ground := Go.Ground.data }, { on := 5, ground := Go.Ground.data }, { on := 4, ground := Go.Ground.chain }], guard := none }
def q18r1_7 : Oper := { dst := some 2, op := Go.Op.assign (Go.Operand.tmp 9), type := 2, pos := "ref.go:39", after := #[{ on := 6, ground := Go.Ground.data }, { on := 6, ground := Go.Ground.chain }, { on := 0, ground := Go.Ground.phase }, { on := 1, ground := Go.Ground.phase }, { on := 2, ground := Go.Ground.phase }, { on := 3, ground := Go.Ground.phase }, { on := 4, ground := Go.Ground.phase }, { on := 5, ground := Go.Ground.phase }, { on := 6, ground := Go.Ground.phase }], guard := none }
def o18r1 : Array Oper := #[q18r1_0, q18r1_1, q18r1_2, q18r1_3, q18r1_4, q18r1_5, q18r1_6, q18r1_7]
def p18r1_8 : List (Nat × Oper) := []
def p18r1_7 : List (Nat × Oper) := (0, q18r1_7) :: p18r1_8
def p18r1_6 : List (Nat × Oper) := (1, q18r1_6) :: p18r1_7
def p18r1_5 : List (Nat × Oper) := (0, q18r1_5) :: p18r1_6
def p18r1_4 : List (Nat × Oper) := (1, q18r1_4) :: p18r1_5
def p18r1_3 : List (Nat × Oper) := (1, q18r1_1) :: p18r1_4
def p18r1_2 : List (Nat × Oper) := (0, q18r1_3) :: p18r1_3
def p18r1_1 : List (Nat × Oper) := (0, q18r1_2) :: p18r1_2
def p18r1_0 : List (Nat × Oper) := (0, q18r1_0) :: p18r1_1
def c18r1 : List (Nat × Nat) := [(0, 0), (0, 2), (0, 3), (1, 1), (1, 4), (0, 5), (1, 6), (0, 7)]
theorem b18r1 : (Region.noSelect o18r1 && (c18r1.length == o18r1.size) && planB o18r1 [] c18r1 (Array.replicate o18r1.size false)) = true := by kernel_rfl
theorem d18r1 : (c18r1.map fun p => (p.1, o18r1[p.2]?)) = (p18r1_0.map fun p => (p.1, some p.2)) := by kernel_rfl
set_option maxRecDepth 100000 in
set_option maxHeartbeats 2000000 in
theorem rtables (h : Hd) (w : World) (h9 : 9 ≤ h.bits) (h16 : h.bits ≤ 16) (z0 : 0 ≤ h.size) (z1 : h.size ≤ 67108864) :
    Calls Try.prog 18 #[.agg h.cs] w fun e w' => e = .returned (.int .i64 (tbl h)) ∧ Kp (fun _ => False) w w' := by
  have HB := hid (Hb.new w h)
  have HK : Hid (Kp (fun _ => False) w (w.alloc (.cells h.cs 24))) := (Kp.refl _ _).alloc _
  have hbd := clu_bd h9 h16
  have gn := up_nn h.size (clu h.bits) z0 (by omega)
  have gl := up_le h.size (clu h.bits) z0 (by omega)
  have gg : gst h = up h.size (clu h.bits) := rfl
  have E0 : Hid ((w.alloc (.cells h.cs 24)).cell? ⟨w.heap.size, 0, none⟩ = some (.int .i64 h.bits)) := HB.out.cell 0
  have E2 : Hid ((w.alloc (.cells h.cs 24)).cell? ⟨w.heap.size, 2, none⟩ = some (.int .i64 h.size)) := HB.out.cell 2
  have HTB : Hid (tbl h = up (gst h) (clu h.bits / 8)) := rfl
  have RC : Hid (∀ w, Calls Try.prog 16 #[.int .i64 h.bits] w fun e w' => e = .returned (.int .i64 (clu h.bits)) ∧ w' = w) := fun w => rcluster h.bits w h9 h16
  have RG : Hid (∀ w, Calls Try.prog 17 #[.agg h.cs] w fun e w' => e = .returned (.int .i64 (gst h)) ∧ Kp (fun _ => False) w w') := fun w => rguest h w h9 h16 z0 z1
  rw [← gg] at gn gl
  clear gg
  generalize gst h = gs at *
  generalize clu h.bits = c at *
  go_enter Try.func18, Try.ntmps18
  go_wp2_with fail
  generalize w.alloc (.cells h.cs 24) = W at *
  generalize hB : w.heap.size = B at *
  have h0 : Kp (fun _ => False) W W.drew := (Kp.refl _ _).drew
  change (Code.region 1 o18r1 true).wp _ _ _ _
  refine wp_region_plan (fun w' => Kp (fun _ => False) W w') [] c18r1 p18r1_0 hmix b18r1 d18r1 (fun _ _ d _ _ h => by cases d <;> exact h) ?_
  refine plan_take (o := q18r1_0) (r := p18r1_1) (.agg h.cs) h0 (by rfl) ?hyg180 ?restg180
  case hyg180 => exact fun w hSw => exec_load_hd rfl rfl (HB.out.kp hSw (fun x => x))
  try simp only [q18r1_0, Act.put, List.setIfInBounds_toArray, List.set_cons_zero, List.set_cons_succ]
  refine plan_take (o := q18r1_2) (r := p18r1_2) ?vg182 h0 (by rfl) ?hyg182 ?restg182
  case hyg182 => (intro w _; simp only [q18r1_2]; go_simp; try with_reducible rfl)
  try simp only [q18r1_2, Act.put, List.setIfInBounds_toArray, List.set_cons_zero, List.set_cons_succ]
  refine plan_take (o := q18r1_3) (r := p18r1_3) ?vg183 h0 (by rfl) ?hyg183 ?restg183
  case hyg183 => (intro w hSw; (try dsimp only at hSw); have e0 := hSw.cell E0.out; have e2 := hSw.cell E2.out; simp only [q18r1_3]; go_simp; try with_reducible rfl)
  try simp only [q18r1_3, Act.put, List.setIfInBounds_toArray, List.set_cons_zero, List.set_cons_succ]
  refine plan_act (o := q18r1_1) (r := p18r1_4) (fun K hK => ?_)
  simp only [q18r1_1]
  go_simp
  refine (RG.out _).mono ?_
  rintro _ w1 ⟨rfl, k1⟩
  go_wp2_with fail
  refine hK.out _ _ (fun h => h.trans k1 (fun _ _ x => x)) ?_
  have s1 : Kp (fun _ => False) W w1 := h0.trans k1 (fun _ _ x => x)
  clear hK K
  refine plan_act (o := q18r1_4) (r := p18r1_5) (fun K hK => ?_)
  simp only [q18r1_4]
  go_simp
  refine (RC.out _).mono ?_
  rintro _ w2 ⟨rfl, ew2⟩
  have k2 : Kp (fun _ => False) _ w2 := (by rw [ew2]; exact Kp.refl (fun _ => False) w1)
  clear ew2
  go_wp2_with fail
  refine hK.out _ _ (fun h => h.trans k2 (fun _ _ x => x)) ?_
  have s2 : Kp (fun _ => False) W w2 := s1.trans k2 (fun _ _ x => x)
  clear hK K
  refine plan_take (o := q18r1_5) (r := p18r1_6) ?vg185 s2 (by rfl) ?hyg185 ?restg185
  case hyg185 => (intro w _; simp only [q18r1_5]; go_simp; try with_reducible rfl)
  try simp only [q18r1_5, Act.put, List.setIfInBounds_toArray, List.set_cons_zero, List.set_cons_succ]
  refine plan_act (o := q18r1_6) (r := p18r1_7) (fun K hK => ?_)
  simp only [q18r1_6]
  go_simp
  rw [show IntKind.i64.wrap (c.tdiv 8) = c / 8 by rw [Int.tdiv_eq_ediv_of_nonneg (by omega), IntKind.wrap_i64]; omega]
  refine (rup gs (c / 8) _ (by omega) (by omega) (by omega) (by omega)).mono ?_
  rintro _ w3 ⟨rfl, ew3⟩
  have k3 : Kp (fun _ => False) _ w3 := (by rw [ew3]; exact Kp.refl (fun _ => False) w2)
  clear ew3
  go_wp2_with fail
  refine hK.out _ _ (fun h => h.trans k3 (fun _ _ x => x)) ?_
  have s3 : Kp (fun _ => False) W w3 := s2.trans k3 (fun _ _ x => x)
  clear hK K
  refine plan_take (o := q18r1_7) (r := p18r1_8) ?vg187 s3 (by rfl) ?hyg187 ?restg187
  case hyg187 => (intro w _; simp only [q18r1_7]; go_simp; try with_reducible rfl)
  try simp only [q18r1_7, Act.put, List.setIfInBounds_toArray, List.set_cons_zero, List.set_cons_succ]
  refine plan_done ?_
  go_wp2_with fail
  go_ret
  rw [HTB.out]
  exact ⟨rfl, HK.out.trans s3 (fun _ _ x => x)⟩
end Go.Proofs.Ytejdmnhdjeogaaa
