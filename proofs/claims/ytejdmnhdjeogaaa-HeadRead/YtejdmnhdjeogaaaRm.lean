/- The document: May. -/
import Derived.Test.YtejdmnhdjeogaaaRj
import Derived.Test.YtejdmnhdjeogaaaRk
import Derived.Test.YtejdmnhdjeogaaaTa
namespace Go.Proofs.Ytejdmnhdjeogaaa
open Go.RowKit
set_option linter.unusedVariables false
theorem Tells.get {e : Ending} {p : Prop} (h : Tells e p) : ∃ b : Bool, e = .returned (.bool b) ∧ (b = true ↔ p) := by
  rcases h with ⟨h, rfl⟩ | ⟨h, rfl⟩
  · exact ⟨true, rfl, by simp [h]⟩
  · exact ⟨false, rfl, by simp [h]⟩
theorem plan_act_skip {P : Program} {ops : Array Oper} {Q : Exit → Act → World → Prop} {S : World → Prop} {o : Oper} {r : List (Nat × Oper)} {a : Act} {w : World} (hw : Region.wanted o (yielded ops a.tmps) = false) (h : wpPlan P ops Q S r (a.put o.dst undef) w) : wpPlan P ops Q S ((1, o) :: r) a w := by
  refine plan_act (fun K hK => ?_)
  rw [if_neg (by rw [hw]; decide)]
  exact hK.out _ _ (fun h => h) h
def q8r3_0 : Oper := { dst := some 35, op := Go.Op.fieldAddr 24 (Go.Operand.tmp 1) 4, type := 0, pos := "ref.go:57", after := #[], guard := none }
def q8r3_1 : Oper := { dst := some 36, op := Go.Op.load 3 (Go.Operand.tmp 35), type := 3, pos := "ref.go:57", after := #[{ on := 0, ground := Go.Ground.data }], guard := none }
def q8r3_2 : Oper := { dst := some 37, op := Go.Op.binOp Go.BinOp.lss 3 (Go.Operand.tmp 36) (Go.Operand.const (Go.Value.int Go.IntKind.i64 0)) 3, type := 4, pos := "ref.go:57", after := #[{ on := 1, ground := Go.Ground.data }], guard := none }
def q8r3_3 : Oper := { dst := some 38, op := Go.Op.move (Go.Operand.tmp 37), type := 4, pos := "ref.go:57", after := #[{ on := 2, ground := Go.Ground.data }], guard := none }
def q8r3_4 : Oper := { dst := some 39, op := Go.Op.fieldAddr 24 (Go.Operand.tmp 1) 4, type := 0, pos := "ref.go:57", after := #[{ on := 3, ground := Go.Ground.guard }], guard := some (3, false) }
def q8r3_5 : Oper := { dst := some 40, op := Go.Op.load 3 (Go.Operand.tmp 39), type := 3, pos := "ref.go:57", after := #[{ on := 4, ground := Go.Ground.data }, { on := 3, ground := Go.Ground.guard }], guard := some (3, false) }
def q8r3_6 : Oper := { dst := some 41, op := Go.Op.binOp Go.BinOp.gtr 3 (Go.Operand.tmp 40) (Go.Operand.const (Go.Value.int Go.IntKind.i64 1048576)) 3, type := 4, pos := "ref.go:57", after := #[{ on := 5, ground := Go.Ground.data }, { on := 3, ground := Go.Ground.guard }], guard := some (3, false) }
def q8r3_7 : Oper := { dst := some 42, op := Go.Op.pick (Go.Operand.tmp 38) (Go.Operand.const (Go.Value.bool true)) (Go.Operand.tmp 41), type := 4, pos := "ref.go:57", after := #[{ on := 3, ground := Go.Ground.data }, { on := 6, ground := Go.Ground.data }], guard := none }
def q8r3_8 : Oper := { dst := some 43, op := Go.Op.move (Go.Operand.tmp 42), type := 4, pos := "ref.go:57", after := #[{ on := 7, ground := Go.Ground.data }, { on := 3, ground := Go.Ground.chain }], guard := none }
def q8r3_9 : Oper := { dst := some 44, op := Go.Op.fieldAddr 24 (Go.Operand.tmp 1) 4, type := 0, pos := "ref.go:57", after := #[{ on := 8, ground := Go.Ground.guard }], guard := some (8, false) }
def q8r3_10 : Oper := { dst := some 45, op := Go.Op.load 3 (Go.Operand.tmp 44), type := 3, pos := "ref.go:57", after := #[{ on := 9, ground := Go.Ground.data }, { on := 8, ground := Go.Ground.guard }], guard := some (8, false) }
def q8r3_11 : Oper := { dst := some 46, op := Go.Op.load 24 (Go.Operand.tmp 1), type := 24, pos := "ref.go:57", after := #[{ on := 8, ground := Go.Ground.guard }], guard := some (8, false) }
def q8r3_12 : Oper := { dst := some 47, op := Go.Op.call { callee := Go.Callee.value (Go.Operand.func 18), args := #[Go.Operand.tmp 46], argTypes := #[24] }, type := 2, pos := "ref.go:57", after := #[{ on := 11, ground := Go.Ground.data }, { on := 8, ground := Go.Ground.chain }, { on := 8, ground := Go.Ground.guard }], guard := some (8, false) }
def q8r3_13 : Oper := { dst := some 48, op := Go.Op.binOp Go.BinOp.lss 2 (Go.Operand.tmp 45) (Go.Operand.tmp 47) 2, type := 4, pos := "ref.go:57", after := #[{ on := 10, ground := Go.Ground.data }, { on := 12, ground := Go.Ground.data }, { on := 8, ground := Go.Ground.guard }], guard := some (8, false) }
def q8r3_14 : Oper := { dst := some 49, op := Go.Op.pick (Go.Operand.tmp 43) (Go.Operand.const (Go.Value.bool true)) (Go.Operand.tmp 48), type := 4, pos := "ref.go:57", after := #[{ on := 8, ground := Go.Ground.data }, { on := 13, ground := Go.Ground.data }], guard := none }
def q8r3_15 : Oper := { dst := some 50, op := Go.Op.move (Go.Operand.tmp 49), type := 4, pos := "ref.go:57", after := #[{ on := 14, ground := Go.Ground.data }, { on := 12, ground := Go.Ground.chain }], guard := none }
def q8r3_16 : Oper := { dst := some 51, op := Go.Op.fieldAddr 24 (Go.Operand.tmp 1) 5, type := 0, pos := "ref.go:57", after := #[{ on := 15, ground := Go.Ground.guard }], guard := some (15, false) }
def q8r3_17 : Oper := { dst := some 52, op := Go.Op.load 3 (Go.Operand.tmp 51), type := 3, pos := "ref.go:57", after := #[{ on := 16, ground := Go.Ground.data }, { on := 15, ground := Go.Ground.guard }], guard := some (15, false) }
def q8r3_18 : Oper := { dst := some 53, op := Go.Op.binOp Go.BinOp.lss 3 (Go.Operand.tmp 52) (Go.Operand.const (Go.Value.int Go.IntKind.i64 0)) 3, type := 4, pos := "ref.go:57", after := #[{ on := 17, ground := Go.Ground.data }, { on := 15, ground := Go.Ground.guard }], guard := some (15, false) }
def q8r3_19 : Oper := { dst := some 54, op := Go.Op.pick (Go.Operand.tmp 50) (Go.Operand.const (Go.Value.bool true)) (Go.Operand.tmp 53), type := 4, pos := "ref.go:57", after := #[{ on := 15, ground := Go.Ground.data }, { on := 18, ground := Go.Ground.data }], guard := none }
def q8r3_20 : Oper := { dst := some 55, op := Go.Op.move (Go.Operand.tmp 54), type := 4, pos := "ref.go:57", after := #[{ on := 19, ground := Go.Ground.data }, { on := 15, ground := Go.Ground.chain }], guard := none }
def q8r3_21 : Oper := { dst := some 56, op := Go.Op.fieldAddr 24 (Go.Operand.tmp 1) 5, type := 0, pos := "ref.go:57", after := #[{ on := 20, ground := Go.Ground.guard }], guard := some (20, false) }
def q8r3_22 : Oper := { dst := some 57, op := Go.Op.load 3 (Go.Operand.tmp 56), type := 3, pos := "ref.go:57", after := #[{ on := 21, ground := Go.Ground.data }, { on := 20, ground := Go.Ground.guard }], guard := some (20, false) }
def q8r3_23 : Oper := { dst := some 58, op := Go.Op.binOp Go.BinOp.gtr 3 (Go.Operand.tmp 57) (Go.Operand.const (Go.Value.int Go.IntKind.i64 6)) 3, type := 4, pos := "ref.go:57", after := #[{ on := 22, ground := Go.Ground.data }, { on := 20, ground := Go.Ground.guard }], guard := some (20, false) }
def q8r3_24 : Oper := { dst := some 59, op := Go.Op.pick (Go.Operand.tmp 55) (Go.Operand.const (Go.Value.bool true)) (Go.Operand.tmp 58), type := 4, pos := "ref.go:57", after := #[{ on := 20, ground := Go.Ground.data }, { on := 23, ground := Go.Ground.data }], guard := none }
def q8r3_25 : Oper := { dst := some 60, op := Go.Op.move (Go.Operand.tmp 59), type := 4, pos := "ref.go:57", after := #[{ on := 24, ground := Go.Ground.data }, { on := 20, ground := Go.Ground.chain }], guard := none }
def q8r3_26 : Oper := { dst := some 61, op := Go.Op.fieldAddr 24 (Go.Operand.tmp 1) 7, type := 0, pos := "ref.go:57", after := #[{ on := 25, ground := Go.Ground.guard }], guard := some (25, false) }
def q8r3_27 : Oper := { dst := some 62, op := Go.Op.load 3 (Go.Operand.tmp 61), type := 3, pos := "ref.go:57", after := #[{ on := 26, ground := Go.Ground.data }, { on := 25, ground := Go.Ground.guard }], guard := some (25, false) }
def q8r3_28 : Oper := { dst := some 63, op := Go.Op.binOp Go.BinOp.lss 3 (Go.Operand.tmp 62) (Go.Operand.const (Go.Value.int Go.IntKind.i64 1)) 3, type := 4, pos := "ref.go:57", after := #[{ on := 27, ground := Go.Ground.data }, { on := 25, ground := Go.Ground.guard }], guard := some (25, false) }
def q8r3_29 : Oper := { dst := some 64, op := Go.Op.pick (Go.Operand.tmp 60) (Go.Operand.const (Go.Value.bool true)) (Go.Operand.tmp 63), type := 4, pos := "ref.go:57", after := #[{ on := 25, ground := Go.Ground.data }, { on := 28, ground := Go.Ground.data }], guard := none }
def q8r3_30 : Oper := { dst := some 65, op := Go.Op.move (Go.Operand.tmp 64), type := 4, pos := "ref.go:57", after := #[{ on := 29, ground := Go.Ground.data }, { on := 25, ground := Go.Ground.chain }], guard := none }
def q8r3_31 : Oper := { dst := some 66, op := Go.Op.fieldAddr 24 (Go.Operand.tmp 1) 7, type := 0, pos := "ref.go:57", after := #[{ on := 30, ground := Go.Ground.guard }], guard := some (30, false) }
def q8r3_32 : Oper := { dst := some 67, op := Go.Op.load 3 (Go.Operand.tmp 66), type := 3, pos := "ref.go:57", after := #[{ on := 31, ground := Go.Ground.data }, { on := 30, ground := Go.Ground.guard }], guard := some (30, false) }
def q8r3_33 : Oper := { dst := some 68, op := Go.Op.binOp Go.BinOp.gtr 3 (Go.Operand.tmp 67) (Go.Operand.const (Go.Value.int Go.IntKind.i64 65536)) 3, type := 4, pos := "ref.go:57", after := #[{ on := 32, ground := Go.Ground.data }, { on := 30, ground := Go.Ground.guard }], guard := some (30, false) }
def q8r3_34 : Oper := { dst := some 69, op := Go.Op.pick (Go.Operand.tmp 65) (Go.Operand.const (Go.Value.bool true)) (Go.Operand.tmp 68), type := 4, pos := "ref.go:57", after := #[{ on := 30, ground := Go.Ground.data }, { on := 33, ground := Go.Ground.data }], guard := none }
def o8r3 : Array Oper := #[q8r3_0, q8r3_1, q8r3_2, q8r3_3, q8r3_4, q8r3_5, q8r3_6, q8r3_7, q8r3_8, q8r3_9, q8r3_10, q8r3_11, q8r3_12, q8r3_13, q8r3_14, q8r3_15, q8r3_16, q8r3_17, q8r3_18, q8r3_19, q8r3_20, q8r3_21, q8r3_22, q8r3_23, q8r3_24, q8r3_25, q8r3_26, q8r3_27, q8r3_28, q8r3_29, q8r3_30, q8r3_31, q8r3_32, q8r3_33, q8r3_34]
def p8r3_35 : List (Nat × Oper) := []
def p8r3_34 : List (Nat × Oper) := (0, q8r3_34) :: p8r3_35
def p8r3_33 : List (Nat × Oper) := (0, q8r3_33) :: p8r3_34
def p8r3_32 : List (Nat × Oper) := (0, q8r3_32) :: p8r3_33
def p8r3_31 : List (Nat × Oper) := (0, q8r3_31) :: p8r3_32
def p8r3_30 : List (Nat × Oper) := (0, q8r3_30) :: p8r3_31
def p8r3_29 : List (Nat × Oper) := (0, q8r3_29) :: p8r3_30
def p8r3_28 : List (Nat × Oper) := (0, q8r3_28) :: p8r3_29
def p8r3_27 : List (Nat × Oper) := (0, q8r3_27) :: p8r3_28
def p8r3_26 : List (Nat × Oper) := (0, q8r3_26) :: p8r3_27
def p8r3_25 : List (Nat × Oper) := (0, q8r3_25) :: p8r3_26
def p8r3_24 : List (Nat × Oper) := (0, q8r3_24) :: p8r3_25
def p8r3_23 : List (Nat × Oper) := (0, q8r3_23) :: p8r3_24
def p8r3_22 : List (Nat × Oper) := (0, q8r3_22) :: p8r3_23
def p8r3_21 : List (Nat × Oper) := (0, q8r3_21) :: p8r3_22
def p8r3_20 : List (Nat × Oper) := (0, q8r3_20) :: p8r3_21
def p8r3_19 : List (Nat × Oper) := (0, q8r3_19) :: p8r3_20
def p8r3_18 : List (Nat × Oper) := (0, q8r3_18) :: p8r3_19
def p8r3_17 : List (Nat × Oper) := (0, q8r3_17) :: p8r3_18
def p8r3_16 : List (Nat × Oper) := (0, q8r3_16) :: p8r3_17
def p8r3_15 : List (Nat × Oper) := (0, q8r3_15) :: p8r3_16
def p8r3_14 : List (Nat × Oper) := (0, q8r3_14) :: p8r3_15
def p8r3_13 : List (Nat × Oper) := (0, q8r3_13) :: p8r3_14
def p8r3_12 : List (Nat × Oper) := (1, q8r3_12) :: p8r3_13
def p8r3_11 : List (Nat × Oper) := (0, q8r3_11) :: p8r3_12
def p8r3_10 : List (Nat × Oper) := (0, q8r3_10) :: p8r3_11
def p8r3_9 : List (Nat × Oper) := (0, q8r3_9) :: p8r3_10
def p8r3_8 : List (Nat × Oper) := (0, q8r3_8) :: p8r3_9
def p8r3_7 : List (Nat × Oper) := (0, q8r3_7) :: p8r3_8
def p8r3_6 : List (Nat × Oper) := (0, q8r3_6) :: p8r3_7
def p8r3_5 : List (Nat × Oper) := (0, q8r3_5) :: p8r3_6
def p8r3_4 : List (Nat × Oper) := (0, q8r3_4) :: p8r3_5
def p8r3_3 : List (Nat × Oper) := (0, q8r3_3) :: p8r3_4
def p8r3_2 : List (Nat × Oper) := (0, q8r3_2) :: p8r3_3
def p8r3_1 : List (Nat × Oper) := (0, q8r3_1) :: p8r3_2
def p8r3_0 : List (Nat × Oper) := (0, q8r3_0) :: p8r3_1
def c8r3 : List (Nat × Nat) := [(0, 0), (0, 1), (0, 2), (0, 3), (0, 4), (0, 5), (0, 6), (0, 7), (0, 8), (0, 9), (0, 10), (0, 11), (1, 12), (0, 13), (0, 14), (0, 15), (0, 16), (0, 17), (0, 18), (0, 19), (0, 20), (0, 21), (0, 22), (0, 23), (0, 24), (0, 25), (0, 26), (0, 27), (0, 28), (0, 29), (0, 30), (0, 31), (0, 32), (0, 33), (0, 34)]
theorem b8r3 : (Region.noSelect o8r3 && (c8r3.length == o8r3.size) && planB o8r3 [] c8r3 (Array.replicate o8r3.size false)) = true := by kernel_rfl
theorem d8r3 : (c8r3.map fun p => (p.1, o8r3[p.2]?)) = (p8r3_0.map fun p => (p.1, some p.2)) := by kernel_rfl
set_option maxRecDepth 100000 in
set_option maxHeartbeats 16000000 in
theorem rmay (h : Hd) (w : World) (wf : h.Wf) (hn : h.name.size ≤ maxLen) : Calls Try.prog 8 #[.agg h.cs] w fun e w' => Tells e (May h) ∧ Kp (fun _ => False) w w' := by
  have HB := hid (Hb.new w h)
  have HK : Hid (Kp (fun _ => False) w (w.alloc (.cells h.cs 24))) := (Kp.refl _ _).alloc _
  have E0 : Hid ((w.alloc (.cells h.cs 24)).cell? ⟨w.heap.size, 0, none⟩ = some (.int .i64 h.bits)) := HB.out.cell 0
  have E1 : Hid ((w.alloc (.cells h.cs 24)).cell? ⟨w.heap.size, 1, none⟩ = some (.int .u64 h.flags)) := HB.out.cell 1
  have E2 : Hid ((w.alloc (.cells h.cs 24)).cell? ⟨w.heap.size, 2, none⟩ = some (.int .i64 h.size)) := HB.out.cell 2
  have E3 : Hid ((w.alloc (.cells h.cs 24)).cell? ⟨w.heap.size, 3, none⟩ = some (.int .i64 h.l1)) := HB.out.cell 3
  have E4 : Hid ((w.alloc (.cells h.cs 24)).cell? ⟨w.heap.size, 4, none⟩ = some (.int .i64 h.l1len)) := HB.out.cell 4
  have E5 : Hid ((w.alloc (.cells h.cs 24)).cell? ⟨w.heap.size, 5, none⟩ = some (.int .i64 h.order)) := HB.out.cell 5
  have E6 : Hid ((w.alloc (.cells h.cs 24)).cell? ⟨w.heap.size, 6, none⟩ = some (.int .i64 h.counts)) := HB.out.cell 6
  have E7 : Hid ((w.alloc (.cells h.cs 24)).cell? ⟨w.heap.size, 7, none⟩ = some (.int .i64 h.countslen)) := HB.out.cell 7
  have E8 : Hid ((w.alloc (.cells h.cs 24)).cell? ⟨w.heap.size, 8, none⟩ = some (.int .i64 h.snaps)) := HB.out.cell 8
  have E9 : Hid ((w.alloc (.cells h.cs 24)).cell? ⟨w.heap.size, 9, none⟩ = some (.int .i64 h.snapsat)) := HB.out.cell 9
  have E10 : Hid ((w.alloc (.cells h.cs 24)).cell? ⟨w.heap.size, 10, none⟩ = some (.int .i64 h.snapslen)) := HB.out.cell 10
  have E11 : Hid ((w.alloc (.cells h.cs 24)).cell? ⟨w.heap.size, 11, none⟩ = some (.int .i64 h.maps)) := HB.out.cell 11
  have E12 : Hid ((w.alloc (.cells h.cs 24)).cell? ⟨w.heap.size, 12, none⟩ = some (.int .i64 h.mapsat)) := HB.out.cell 12
  have E13 : Hid ((w.alloc (.cells h.cs 24)).cell? ⟨w.heap.size, 13, none⟩ = some (.int .i64 h.mapslen)) := HB.out.cell 13
  have E14 : Hid ((w.alloc (.cells h.cs 24)).cell? ⟨w.heap.size, 14, none⟩ = some (.string h.name)) := HB.out.cell 14
  have e0 := E0.out
  have e1 := E1.out
  have e2 := E2.out
  have WF := hid wf
  have HN := hid hn
  have hf := wf.flags
  have hsz := wf.size
  unfold I6 at hsz
  clear wf hn
  have HTM : Hid (0 ≤ h.size → h.size.tmod 512 = h.size % 512) := fun e => Int.tmod_eq_emod_of_nonneg e
  go_enter Try.func8, Try.ntmps8
  by_cases a0 : h.bits < 9
  · go_wp2_with fail
    go_ret
    exact ⟨Or.inr ⟨fun m => by have := m.b9; omega, rfl⟩, HK.out⟩
  · skip
    by_cases a1 : 16 < h.bits
    · go_wp2_with fail
      go_ret
      exact ⟨Or.inr ⟨fun m => by have := m.b16; omega, rfl⟩, HK.out⟩
    · skip
      by_cases a2 : 1 < h.flags
      · go_wp2_with fail
        go_ret
        exact ⟨Or.inr ⟨fun m => by have := m.flags; omega, rfl⟩, HK.out⟩
      · skip
        by_cases a3 : h.size < 0
        · go_wp2_with fail
          go_ret
          exact ⟨Or.inr ⟨fun m => by have := m.s0; omega, rfl⟩, HK.out⟩
        · skip
          by_cases a4 : 67108864 < h.size
          · go_wp2_with fail
            go_ret
            exact ⟨Or.inr ⟨fun m => by have := m.s1; omega, rfl⟩, HK.out⟩
          · skip
            have tm := HTM.out (by omega)
            by_cases a5 : h.size % 512 = 0
            · skip
              go_wp2_with fail
              have hbd := clu_bd (show 9 ≤ h.bits by omega) (show h.bits ≤ 16 by omega)
              have h9 : 9 ≤ h.bits := by omega
              have h16 : h.bits ≤ 16 := by omega
              have z0 : 0 ≤ h.size := by omega
              have z1 : h.size ≤ 67108864 := by omega
              have f1 : h.flags ≤ 1 := by omega
              clear e0 e1 e2 hsz
              generalize w.alloc (.cells h.cs 24) = W at *
              generalize hB : w.heap.size = B at *
              have h0 : Kp (fun _ => False) W W.drew := (Kp.refl _ _).drew
              have RT : Hid (∀ w, Calls Try.prog 18 #[.agg h.cs] w fun e w' => e = .returned (.int .i64 (tbl h)) ∧ Kp (fun _ => False) w w') := fun w => rtables h w h9 h16 z0 z1
              obtain ⟨tb, htb⟩ : ∃ tb, tb = tbl h := ⟨_, rfl⟩
              have HTB := hid htb
              rw [← htb] at RT
              clear htb
              by_cases d0 : h.l1len < 0
              · have et0 : decide (h.l1len < 0) = true := decide_eq_true d0
                change (Code.region 3 o8r3 true).wp _ _ _ _
                refine wp_region_plan (fun w' => Kp (fun _ => False) W w') [] c8r3 p8r3_0 hmix b8r3 d8r3 (fun _ _ d _ _ h => by cases d <;> exact h) ?_
                refine plan_take (o := q8r3_0) (r := p8r3_1) ?vj00 h0 (by rfl) ?hyj00 ?restj00
                case hyj00 => (intro w _; simp only [q8r3_0]; go_simp; try with_reducible rfl)
                try simp only [q8r3_0, Act.put, List.setIfInBounds_toArray, List.set_cons_zero, List.set_cons_succ]
                refine plan_take (o := q8r3_1) (r := p8r3_2) ?vj01 h0 (by rfl) ?hyj01 ?restj01
                case hyj01 => (intro w hSw; (try dsimp only at hSw); have c0 := hSw.cell E4.out; simp only [q8r3_1]; go_simp; try with_reducible rfl)
                try simp only [q8r3_1, Act.put, List.setIfInBounds_toArray, List.set_cons_zero, List.set_cons_succ]
                refine plan_take (o := q8r3_2) (r := p8r3_3) ?vj02 h0 (by rfl) ?hyj02 ?restj02
                case hyj02 => (intro w _; simp only [q8r3_2]; go_simp; try with_reducible rfl)
                try simp only [q8r3_2, Act.put, List.setIfInBounds_toArray, List.set_cons_zero, List.set_cons_succ]
                refine plan_take (o := q8r3_3) (r := p8r3_4) ?vj03 h0 (by rfl) ?hyj03 ?restj03
                case hyj03 => (intro w _; simp only [q8r3_3]; go_simp; try with_reducible rfl)
                try simp only [q8r3_3, Act.put, List.setIfInBounds_toArray, List.set_cons_zero, List.set_cons_succ]
                refine plan_skip (o := q8r3_4) (r := p8r3_5) h0 (by rfl) ?_
                try simp only [q8r3_4, Act.put, List.setIfInBounds_toArray, List.set_cons_zero, List.set_cons_succ]
                refine plan_skip (o := q8r3_5) (r := p8r3_6) h0 (by rfl) ?_
                try simp only [q8r3_5, Act.put, List.setIfInBounds_toArray, List.set_cons_zero, List.set_cons_succ]
                refine plan_skip (o := q8r3_6) (r := p8r3_7) h0 (by rfl) ?_
                try simp only [q8r3_6, Act.put, List.setIfInBounds_toArray, List.set_cons_zero, List.set_cons_succ]
                refine plan_take (o := q8r3_7) (r := p8r3_8) ?vj07 h0 (by rfl) ?hyj07 ?restj07
                case hyj07 => (intro w _; simp only [q8r3_7]; go_simp; try with_reducible rfl)
                try simp only [q8r3_7, Act.put, List.setIfInBounds_toArray, List.set_cons_zero, List.set_cons_succ]
                refine plan_take (o := q8r3_8) (r := p8r3_9) ?vj08 h0 (by rfl) ?hyj08 ?restj08
                case hyj08 => (intro w _; simp only [q8r3_8]; go_simp; try with_reducible rfl)
                try simp only [q8r3_8, Act.put, List.setIfInBounds_toArray, List.set_cons_zero, List.set_cons_succ]
                refine plan_skip (o := q8r3_9) (r := p8r3_10) h0 (by rfl) ?_
                try simp only [q8r3_9, Act.put, List.setIfInBounds_toArray, List.set_cons_zero, List.set_cons_succ]
                refine plan_skip (o := q8r3_10) (r := p8r3_11) h0 (by rfl) ?_
                try simp only [q8r3_10, Act.put, List.setIfInBounds_toArray, List.set_cons_zero, List.set_cons_succ]
                refine plan_skip (o := q8r3_11) (r := p8r3_12) h0 (by rfl) ?_
                try simp only [q8r3_11, Act.put, List.setIfInBounds_toArray, List.set_cons_zero, List.set_cons_succ]
                refine plan_act_skip (o := q8r3_12) (r := p8r3_13) (by rfl) ?_
                try simp only [q8r3_12, Act.put, List.setIfInBounds_toArray, List.set_cons_zero, List.set_cons_succ]
                refine plan_skip (o := q8r3_13) (r := p8r3_14) h0 (by rfl) ?_
                try simp only [q8r3_13, Act.put, List.setIfInBounds_toArray, List.set_cons_zero, List.set_cons_succ]
                refine plan_take (o := q8r3_14) (r := p8r3_15) ?vj014 h0 (by rfl) ?hyj014 ?restj014
                case hyj014 => (intro w _; simp only [q8r3_14]; go_simp; try with_reducible rfl)
                try simp only [q8r3_14, Act.put, List.setIfInBounds_toArray, List.set_cons_zero, List.set_cons_succ]
                refine plan_take (o := q8r3_15) (r := p8r3_16) ?vj015 h0 (by rfl) ?hyj015 ?restj015
                case hyj015 => (intro w _; simp only [q8r3_15]; go_simp; try with_reducible rfl)
                try simp only [q8r3_15, Act.put, List.setIfInBounds_toArray, List.set_cons_zero, List.set_cons_succ]
                refine plan_skip (o := q8r3_16) (r := p8r3_17) h0 (by rfl) ?_
                try simp only [q8r3_16, Act.put, List.setIfInBounds_toArray, List.set_cons_zero, List.set_cons_succ]
                refine plan_skip (o := q8r3_17) (r := p8r3_18) h0 (by rfl) ?_
                try simp only [q8r3_17, Act.put, List.setIfInBounds_toArray, List.set_cons_zero, List.set_cons_succ]
                refine plan_skip (o := q8r3_18) (r := p8r3_19) h0 (by rfl) ?_
                try simp only [q8r3_18, Act.put, List.setIfInBounds_toArray, List.set_cons_zero, List.set_cons_succ]
                refine plan_take (o := q8r3_19) (r := p8r3_20) ?vj019 h0 (by rfl) ?hyj019 ?restj019
                case hyj019 => (intro w _; simp only [q8r3_19]; go_simp; try with_reducible rfl)
                try simp only [q8r3_19, Act.put, List.setIfInBounds_toArray, List.set_cons_zero, List.set_cons_succ]
                refine plan_take (o := q8r3_20) (r := p8r3_21) ?vj020 h0 (by rfl) ?hyj020 ?restj020
                case hyj020 => (intro w _; simp only [q8r3_20]; go_simp; try with_reducible rfl)
                try simp only [q8r3_20, Act.put, List.setIfInBounds_toArray, List.set_cons_zero, List.set_cons_succ]
                refine plan_skip (o := q8r3_21) (r := p8r3_22) h0 (by rfl) ?_
                try simp only [q8r3_21, Act.put, List.setIfInBounds_toArray, List.set_cons_zero, List.set_cons_succ]
                refine plan_skip (o := q8r3_22) (r := p8r3_23) h0 (by rfl) ?_
                try simp only [q8r3_22, Act.put, List.setIfInBounds_toArray, List.set_cons_zero, List.set_cons_succ]
                refine plan_skip (o := q8r3_23) (r := p8r3_24) h0 (by rfl) ?_
                try simp only [q8r3_23, Act.put, List.setIfInBounds_toArray, List.set_cons_zero, List.set_cons_succ]
                refine plan_take (o := q8r3_24) (r := p8r3_25) ?vj024 h0 (by rfl) ?hyj024 ?restj024
                case hyj024 => (intro w _; simp only [q8r3_24]; go_simp; try with_reducible rfl)
                try simp only [q8r3_24, Act.put, List.setIfInBounds_toArray, List.set_cons_zero, List.set_cons_succ]
                refine plan_take (o := q8r3_25) (r := p8r3_26) ?vj025 h0 (by rfl) ?hyj025 ?restj025
                case hyj025 => (intro w _; simp only [q8r3_25]; go_simp; try with_reducible rfl)
                try simp only [q8r3_25, Act.put, List.setIfInBounds_toArray, List.set_cons_zero, List.set_cons_succ]
                refine plan_skip (o := q8r3_26) (r := p8r3_27) h0 (by rfl) ?_
                try simp only [q8r3_26, Act.put, List.setIfInBounds_toArray, List.set_cons_zero, List.set_cons_succ]
                refine plan_skip (o := q8r3_27) (r := p8r3_28) h0 (by rfl) ?_
                try simp only [q8r3_27, Act.put, List.setIfInBounds_toArray, List.set_cons_zero, List.set_cons_succ]
                refine plan_skip (o := q8r3_28) (r := p8r3_29) h0 (by rfl) ?_
                try simp only [q8r3_28, Act.put, List.setIfInBounds_toArray, List.set_cons_zero, List.set_cons_succ]
                refine plan_take (o := q8r3_29) (r := p8r3_30) ?vj029 h0 (by rfl) ?hyj029 ?restj029
                case hyj029 => (intro w _; simp only [q8r3_29]; go_simp; try with_reducible rfl)
                try simp only [q8r3_29, Act.put, List.setIfInBounds_toArray, List.set_cons_zero, List.set_cons_succ]
                refine plan_take (o := q8r3_30) (r := p8r3_31) ?vj030 h0 (by rfl) ?hyj030 ?restj030
                case hyj030 => (intro w _; simp only [q8r3_30]; go_simp; try with_reducible rfl)
                try simp only [q8r3_30, Act.put, List.setIfInBounds_toArray, List.set_cons_zero, List.set_cons_succ]
                refine plan_skip (o := q8r3_31) (r := p8r3_32) h0 (by rfl) ?_
                try simp only [q8r3_31, Act.put, List.setIfInBounds_toArray, List.set_cons_zero, List.set_cons_succ]
                refine plan_skip (o := q8r3_32) (r := p8r3_33) h0 (by rfl) ?_
                try simp only [q8r3_32, Act.put, List.setIfInBounds_toArray, List.set_cons_zero, List.set_cons_succ]
                refine plan_skip (o := q8r3_33) (r := p8r3_34) h0 (by rfl) ?_
                try simp only [q8r3_33, Act.put, List.setIfInBounds_toArray, List.set_cons_zero, List.set_cons_succ]
                refine plan_take (o := q8r3_34) (r := p8r3_35) ?vj034 h0 (by rfl) ?hyj034 ?restj034
                case hyj034 => (intro w _; simp only [q8r3_34]; go_simp; try with_reducible rfl)
                try simp only [q8r3_34, Act.put, List.setIfInBounds_toArray, List.set_cons_zero, List.set_cons_succ]
                refine plan_done ?_
                go_wp2_with fail
                go_ret
                exact ⟨Or.inr ⟨fun m => by have := m.n0; omega, rfl⟩, HK.out.trans h0 (fun _ _ x => x)⟩
              · skip
                have ee0 : decide (h.l1len < 0) = false := decide_eq_false (by omega)
                by_cases d1 : 1048576 < h.l1len
                · have et1 : decide (1048576 < h.l1len) = true := decide_eq_true d1
                  change (Code.region 3 o8r3 true).wp _ _ _ _
                  refine wp_region_plan (fun w' => Kp (fun _ => False) W w') [] c8r3 p8r3_0 hmix b8r3 d8r3 (fun _ _ d _ _ h => by cases d <;> exact h) ?_
                  refine plan_take (o := q8r3_0) (r := p8r3_1) ?vj10 h0 (by rfl) ?hyj10 ?restj10
                  case hyj10 => (intro w _; simp only [q8r3_0]; go_simp; try with_reducible rfl)
                  try simp only [q8r3_0, Act.put, List.setIfInBounds_toArray, List.set_cons_zero, List.set_cons_succ]
                  refine plan_take (o := q8r3_1) (r := p8r3_2) ?vj11 h0 (by rfl) ?hyj11 ?restj11
                  case hyj11 => (intro w hSw; (try dsimp only at hSw); have c0 := hSw.cell E4.out; simp only [q8r3_1]; go_simp; try with_reducible rfl)
                  try simp only [q8r3_1, Act.put, List.setIfInBounds_toArray, List.set_cons_zero, List.set_cons_succ]
                  refine plan_take (o := q8r3_2) (r := p8r3_3) ?vj12 h0 (by rfl) ?hyj12 ?restj12
                  case hyj12 => (intro w _; simp only [q8r3_2]; go_simp; try with_reducible rfl)
                  try simp only [q8r3_2, Act.put, List.setIfInBounds_toArray, List.set_cons_zero, List.set_cons_succ]
                  refine plan_take (o := q8r3_3) (r := p8r3_4) ?vj13 h0 (by rfl) ?hyj13 ?restj13
                  case hyj13 => (intro w _; simp only [q8r3_3]; go_simp; try with_reducible rfl)
                  try simp only [q8r3_3, Act.put, List.setIfInBounds_toArray, List.set_cons_zero, List.set_cons_succ]
                  refine plan_take (o := q8r3_4) (r := p8r3_5) ?vj14 h0 (by rfl) ?hyj14 ?restj14
                  case hyj14 => (intro w _; simp only [q8r3_4]; go_simp; try with_reducible rfl)
                  try simp only [q8r3_4, Act.put, List.setIfInBounds_toArray, List.set_cons_zero, List.set_cons_succ]
                  refine plan_take (o := q8r3_5) (r := p8r3_6) ?vj15 h0 (by rfl) ?hyj15 ?restj15
                  case hyj15 => (intro w hSw; (try dsimp only at hSw); have c0 := hSw.cell E4.out; simp only [q8r3_5]; go_simp; try with_reducible rfl)
                  try simp only [q8r3_5, Act.put, List.setIfInBounds_toArray, List.set_cons_zero, List.set_cons_succ]
                  refine plan_take (o := q8r3_6) (r := p8r3_7) ?vj16 h0 (by rfl) ?hyj16 ?restj16
                  case hyj16 => (intro w _; simp only [q8r3_6]; go_simp; try with_reducible rfl)
                  try simp only [q8r3_6, Act.put, List.setIfInBounds_toArray, List.set_cons_zero, List.set_cons_succ]
                  refine plan_take (o := q8r3_7) (r := p8r3_8) ?vj17 h0 (by rfl) ?hyj17 ?restj17
                  case hyj17 => (intro w _; simp only [q8r3_7]; go_simp; try with_reducible rfl)
                  try simp only [q8r3_7, Act.put, List.setIfInBounds_toArray, List.set_cons_zero, List.set_cons_succ]
                  refine plan_take (o := q8r3_8) (r := p8r3_9) ?vj18 h0 (by rfl) ?hyj18 ?restj18
                  case hyj18 => (intro w _; simp only [q8r3_8]; go_simp; try with_reducible rfl)
                  try simp only [q8r3_8, Act.put, List.setIfInBounds_toArray, List.set_cons_zero, List.set_cons_succ]
                  refine plan_skip (o := q8r3_9) (r := p8r3_10) h0 (by rfl) ?_
                  try simp only [q8r3_9, Act.put, List.setIfInBounds_toArray, List.set_cons_zero, List.set_cons_succ]
                  refine plan_skip (o := q8r3_10) (r := p8r3_11) h0 (by rfl) ?_
                  try simp only [q8r3_10, Act.put, List.setIfInBounds_toArray, List.set_cons_zero, List.set_cons_succ]
                  refine plan_skip (o := q8r3_11) (r := p8r3_12) h0 (by rfl) ?_
                  try simp only [q8r3_11, Act.put, List.setIfInBounds_toArray, List.set_cons_zero, List.set_cons_succ]
                  refine plan_act_skip (o := q8r3_12) (r := p8r3_13) (by rfl) ?_
                  try simp only [q8r3_12, Act.put, List.setIfInBounds_toArray, List.set_cons_zero, List.set_cons_succ]
                  refine plan_skip (o := q8r3_13) (r := p8r3_14) h0 (by rfl) ?_
                  try simp only [q8r3_13, Act.put, List.setIfInBounds_toArray, List.set_cons_zero, List.set_cons_succ]
                  refine plan_take (o := q8r3_14) (r := p8r3_15) ?vj114 h0 (by rfl) ?hyj114 ?restj114
                  case hyj114 => (intro w _; simp only [q8r3_14]; go_simp; try with_reducible rfl)
                  try simp only [q8r3_14, Act.put, List.setIfInBounds_toArray, List.set_cons_zero, List.set_cons_succ]
                  refine plan_take (o := q8r3_15) (r := p8r3_16) ?vj115 h0 (by rfl) ?hyj115 ?restj115
                  case hyj115 => (intro w _; simp only [q8r3_15]; go_simp; try with_reducible rfl)
                  try simp only [q8r3_15, Act.put, List.setIfInBounds_toArray, List.set_cons_zero, List.set_cons_succ]
                  refine plan_skip (o := q8r3_16) (r := p8r3_17) h0 (by rfl) ?_
                  try simp only [q8r3_16, Act.put, List.setIfInBounds_toArray, List.set_cons_zero, List.set_cons_succ]
                  refine plan_skip (o := q8r3_17) (r := p8r3_18) h0 (by rfl) ?_
                  try simp only [q8r3_17, Act.put, List.setIfInBounds_toArray, List.set_cons_zero, List.set_cons_succ]
                  refine plan_skip (o := q8r3_18) (r := p8r3_19) h0 (by rfl) ?_
                  try simp only [q8r3_18, Act.put, List.setIfInBounds_toArray, List.set_cons_zero, List.set_cons_succ]
                  refine plan_take (o := q8r3_19) (r := p8r3_20) ?vj119 h0 (by rfl) ?hyj119 ?restj119
                  case hyj119 => (intro w _; simp only [q8r3_19]; go_simp; try with_reducible rfl)
                  try simp only [q8r3_19, Act.put, List.setIfInBounds_toArray, List.set_cons_zero, List.set_cons_succ]
                  refine plan_take (o := q8r3_20) (r := p8r3_21) ?vj120 h0 (by rfl) ?hyj120 ?restj120
                  case hyj120 => (intro w _; simp only [q8r3_20]; go_simp; try with_reducible rfl)
                  try simp only [q8r3_20, Act.put, List.setIfInBounds_toArray, List.set_cons_zero, List.set_cons_succ]
                  refine plan_skip (o := q8r3_21) (r := p8r3_22) h0 (by rfl) ?_
                  try simp only [q8r3_21, Act.put, List.setIfInBounds_toArray, List.set_cons_zero, List.set_cons_succ]
                  refine plan_skip (o := q8r3_22) (r := p8r3_23) h0 (by rfl) ?_
                  try simp only [q8r3_22, Act.put, List.setIfInBounds_toArray, List.set_cons_zero, List.set_cons_succ]
                  refine plan_skip (o := q8r3_23) (r := p8r3_24) h0 (by rfl) ?_
                  try simp only [q8r3_23, Act.put, List.setIfInBounds_toArray, List.set_cons_zero, List.set_cons_succ]
                  refine plan_take (o := q8r3_24) (r := p8r3_25) ?vj124 h0 (by rfl) ?hyj124 ?restj124
                  case hyj124 => (intro w _; simp only [q8r3_24]; go_simp; try with_reducible rfl)
                  try simp only [q8r3_24, Act.put, List.setIfInBounds_toArray, List.set_cons_zero, List.set_cons_succ]
                  refine plan_take (o := q8r3_25) (r := p8r3_26) ?vj125 h0 (by rfl) ?hyj125 ?restj125
                  case hyj125 => (intro w _; simp only [q8r3_25]; go_simp; try with_reducible rfl)
                  try simp only [q8r3_25, Act.put, List.setIfInBounds_toArray, List.set_cons_zero, List.set_cons_succ]
                  refine plan_skip (o := q8r3_26) (r := p8r3_27) h0 (by rfl) ?_
                  try simp only [q8r3_26, Act.put, List.setIfInBounds_toArray, List.set_cons_zero, List.set_cons_succ]
                  refine plan_skip (o := q8r3_27) (r := p8r3_28) h0 (by rfl) ?_
                  try simp only [q8r3_27, Act.put, List.setIfInBounds_toArray, List.set_cons_zero, List.set_cons_succ]
                  refine plan_skip (o := q8r3_28) (r := p8r3_29) h0 (by rfl) ?_
                  try simp only [q8r3_28, Act.put, List.setIfInBounds_toArray, List.set_cons_zero, List.set_cons_succ]
                  refine plan_take (o := q8r3_29) (r := p8r3_30) ?vj129 h0 (by rfl) ?hyj129 ?restj129
                  case hyj129 => (intro w _; simp only [q8r3_29]; go_simp; try with_reducible rfl)
                  try simp only [q8r3_29, Act.put, List.setIfInBounds_toArray, List.set_cons_zero, List.set_cons_succ]
                  refine plan_take (o := q8r3_30) (r := p8r3_31) ?vj130 h0 (by rfl) ?hyj130 ?restj130
                  case hyj130 => (intro w _; simp only [q8r3_30]; go_simp; try with_reducible rfl)
                  try simp only [q8r3_30, Act.put, List.setIfInBounds_toArray, List.set_cons_zero, List.set_cons_succ]
                  refine plan_skip (o := q8r3_31) (r := p8r3_32) h0 (by rfl) ?_
                  try simp only [q8r3_31, Act.put, List.setIfInBounds_toArray, List.set_cons_zero, List.set_cons_succ]
                  refine plan_skip (o := q8r3_32) (r := p8r3_33) h0 (by rfl) ?_
                  try simp only [q8r3_32, Act.put, List.setIfInBounds_toArray, List.set_cons_zero, List.set_cons_succ]
                  refine plan_skip (o := q8r3_33) (r := p8r3_34) h0 (by rfl) ?_
                  try simp only [q8r3_33, Act.put, List.setIfInBounds_toArray, List.set_cons_zero, List.set_cons_succ]
                  refine plan_take (o := q8r3_34) (r := p8r3_35) ?vj134 h0 (by rfl) ?hyj134 ?restj134
                  case hyj134 => (intro w _; simp only [q8r3_34]; go_simp; try with_reducible rfl)
                  try simp only [q8r3_34, Act.put, List.setIfInBounds_toArray, List.set_cons_zero, List.set_cons_succ]
                  refine plan_done ?_
                  go_wp2_with fail
                  go_ret
                  exact ⟨Or.inr ⟨fun m => by have := m.n1; omega, rfl⟩, HK.out.trans h0 (fun _ _ x => x)⟩
                · skip
                  have ee1 : decide (1048576 < h.l1len) = false := decide_eq_false (by omega)
                  by_cases d2 : h.l1len < tb
                  · have et2 : decide (h.l1len < tb) = true := decide_eq_true d2
                    change (Code.region 3 o8r3 true).wp _ _ _ _
                    refine wp_region_plan (fun w' => Kp (fun _ => False) W w') [] c8r3 p8r3_0 hmix b8r3 d8r3 (fun _ _ d _ _ h => by cases d <;> exact h) ?_
                    refine plan_take (o := q8r3_0) (r := p8r3_1) ?vj20 h0 (by rfl) ?hyj20 ?restj20
                    case hyj20 => (intro w _; simp only [q8r3_0]; go_simp; try with_reducible rfl)
                    try simp only [q8r3_0, Act.put, List.setIfInBounds_toArray, List.set_cons_zero, List.set_cons_succ]
                    refine plan_take (o := q8r3_1) (r := p8r3_2) ?vj21 h0 (by rfl) ?hyj21 ?restj21
                    case hyj21 => (intro w hSw; (try dsimp only at hSw); have c0 := hSw.cell E4.out; simp only [q8r3_1]; go_simp; try with_reducible rfl)
                    try simp only [q8r3_1, Act.put, List.setIfInBounds_toArray, List.set_cons_zero, List.set_cons_succ]
                    refine plan_take (o := q8r3_2) (r := p8r3_3) ?vj22 h0 (by rfl) ?hyj22 ?restj22
                    case hyj22 => (intro w _; simp only [q8r3_2]; go_simp; try with_reducible rfl)
                    try simp only [q8r3_2, Act.put, List.setIfInBounds_toArray, List.set_cons_zero, List.set_cons_succ]
                    refine plan_take (o := q8r3_3) (r := p8r3_4) ?vj23 h0 (by rfl) ?hyj23 ?restj23
                    case hyj23 => (intro w _; simp only [q8r3_3]; go_simp; try with_reducible rfl)
                    try simp only [q8r3_3, Act.put, List.setIfInBounds_toArray, List.set_cons_zero, List.set_cons_succ]
                    refine plan_take (o := q8r3_4) (r := p8r3_5) ?vj24 h0 (by rfl) ?hyj24 ?restj24
                    case hyj24 => (intro w _; simp only [q8r3_4]; go_simp; try with_reducible rfl)
                    try simp only [q8r3_4, Act.put, List.setIfInBounds_toArray, List.set_cons_zero, List.set_cons_succ]
                    refine plan_take (o := q8r3_5) (r := p8r3_6) ?vj25 h0 (by rfl) ?hyj25 ?restj25
                    case hyj25 => (intro w hSw; (try dsimp only at hSw); have c0 := hSw.cell E4.out; simp only [q8r3_5]; go_simp; try with_reducible rfl)
                    try simp only [q8r3_5, Act.put, List.setIfInBounds_toArray, List.set_cons_zero, List.set_cons_succ]
                    refine plan_take (o := q8r3_6) (r := p8r3_7) ?vj26 h0 (by rfl) ?hyj26 ?restj26
                    case hyj26 => (intro w _; simp only [q8r3_6]; go_simp; try with_reducible rfl)
                    try simp only [q8r3_6, Act.put, List.setIfInBounds_toArray, List.set_cons_zero, List.set_cons_succ]
                    refine plan_take (o := q8r3_7) (r := p8r3_8) ?vj27 h0 (by rfl) ?hyj27 ?restj27
                    case hyj27 => (intro w _; simp only [q8r3_7]; go_simp; try with_reducible rfl)
                    try simp only [q8r3_7, Act.put, List.setIfInBounds_toArray, List.set_cons_zero, List.set_cons_succ]
                    refine plan_take (o := q8r3_8) (r := p8r3_9) ?vj28 h0 (by rfl) ?hyj28 ?restj28
                    case hyj28 => (intro w _; simp only [q8r3_8]; go_simp; try with_reducible rfl)
                    try simp only [q8r3_8, Act.put, List.setIfInBounds_toArray, List.set_cons_zero, List.set_cons_succ]
                    refine plan_take (o := q8r3_9) (r := p8r3_10) ?vj29 h0 (by rfl) ?hyj29 ?restj29
                    case hyj29 => (intro w _; simp only [q8r3_9]; go_simp; try with_reducible rfl)
                    try simp only [q8r3_9, Act.put, List.setIfInBounds_toArray, List.set_cons_zero, List.set_cons_succ]
                    refine plan_take (o := q8r3_10) (r := p8r3_11) ?vj210 h0 (by rfl) ?hyj210 ?restj210
                    case hyj210 => (intro w hSw; (try dsimp only at hSw); have c0 := hSw.cell E4.out; simp only [q8r3_10]; go_simp; try with_reducible rfl)
                    try simp only [q8r3_10, Act.put, List.setIfInBounds_toArray, List.set_cons_zero, List.set_cons_succ]
                    refine plan_take (o := q8r3_11) (r := p8r3_12) (.agg h.cs) h0 (by rfl) ?hyj211 ?restj211
                    case hyj211 => exact fun w hSw => exec_load_hd rfl rfl (HB.out.kp hSw (fun x => x))
                    try simp only [q8r3_11, Act.put, List.setIfInBounds_toArray, List.set_cons_zero, List.set_cons_succ]
                    refine plan_act (o := q8r3_12) (r := p8r3_13) (fun K hK => ?_)
                    simp only [q8r3_12]
                    go_simp
                    refine (RT.out _).mono ?_
                    rintro _ w1 ⟨rfl, k1⟩
                    go_wp2_with fail
                    refine hK.out _ _ (fun h => h.trans k1 (fun _ _ x => x)) ?_
                    have s1 : Kp (fun _ => False) W w1 := h0.trans k1 (fun _ _ x => x)
                    clear hK K
                    refine plan_take (o := q8r3_13) (r := p8r3_14) ?vj213 s1 (by rfl) ?hyj213 ?restj213
                    case hyj213 => (intro w _; simp only [q8r3_13]; go_simp; try with_reducible rfl)
                    try simp only [q8r3_13, Act.put, List.setIfInBounds_toArray, List.set_cons_zero, List.set_cons_succ]
                    refine plan_take (o := q8r3_14) (r := p8r3_15) ?vj214 s1 (by rfl) ?hyj214 ?restj214
                    case hyj214 => (intro w _; simp only [q8r3_14]; go_simp; try with_reducible rfl)
                    try simp only [q8r3_14, Act.put, List.setIfInBounds_toArray, List.set_cons_zero, List.set_cons_succ]
                    refine plan_take (o := q8r3_15) (r := p8r3_16) ?vj215 s1 (by rfl) ?hyj215 ?restj215
                    case hyj215 => (intro w _; simp only [q8r3_15]; go_simp; try with_reducible rfl)
                    try simp only [q8r3_15, Act.put, List.setIfInBounds_toArray, List.set_cons_zero, List.set_cons_succ]
                    refine plan_skip (o := q8r3_16) (r := p8r3_17) s1 (by rfl) ?_
                    try simp only [q8r3_16, Act.put, List.setIfInBounds_toArray, List.set_cons_zero, List.set_cons_succ]
                    refine plan_skip (o := q8r3_17) (r := p8r3_18) s1 (by rfl) ?_
                    try simp only [q8r3_17, Act.put, List.setIfInBounds_toArray, List.set_cons_zero, List.set_cons_succ]
                    refine plan_skip (o := q8r3_18) (r := p8r3_19) s1 (by rfl) ?_
                    try simp only [q8r3_18, Act.put, List.setIfInBounds_toArray, List.set_cons_zero, List.set_cons_succ]
                    refine plan_take (o := q8r3_19) (r := p8r3_20) ?vj219 s1 (by rfl) ?hyj219 ?restj219
                    case hyj219 => (intro w _; simp only [q8r3_19]; go_simp; try with_reducible rfl)
                    try simp only [q8r3_19, Act.put, List.setIfInBounds_toArray, List.set_cons_zero, List.set_cons_succ]
                    refine plan_take (o := q8r3_20) (r := p8r3_21) ?vj220 s1 (by rfl) ?hyj220 ?restj220
                    case hyj220 => (intro w _; simp only [q8r3_20]; go_simp; try with_reducible rfl)
                    try simp only [q8r3_20, Act.put, List.setIfInBounds_toArray, List.set_cons_zero, List.set_cons_succ]
                    refine plan_skip (o := q8r3_21) (r := p8r3_22) s1 (by rfl) ?_
                    try simp only [q8r3_21, Act.put, List.setIfInBounds_toArray, List.set_cons_zero, List.set_cons_succ]
                    refine plan_skip (o := q8r3_22) (r := p8r3_23) s1 (by rfl) ?_
                    try simp only [q8r3_22, Act.put, List.setIfInBounds_toArray, List.set_cons_zero, List.set_cons_succ]
                    refine plan_skip (o := q8r3_23) (r := p8r3_24) s1 (by rfl) ?_
                    try simp only [q8r3_23, Act.put, List.setIfInBounds_toArray, List.set_cons_zero, List.set_cons_succ]
                    refine plan_take (o := q8r3_24) (r := p8r3_25) ?vj224 s1 (by rfl) ?hyj224 ?restj224
                    case hyj224 => (intro w _; simp only [q8r3_24]; go_simp; try with_reducible rfl)
                    try simp only [q8r3_24, Act.put, List.setIfInBounds_toArray, List.set_cons_zero, List.set_cons_succ]
                    refine plan_take (o := q8r3_25) (r := p8r3_26) ?vj225 s1 (by rfl) ?hyj225 ?restj225
                    case hyj225 => (intro w _; simp only [q8r3_25]; go_simp; try with_reducible rfl)
                    try simp only [q8r3_25, Act.put, List.setIfInBounds_toArray, List.set_cons_zero, List.set_cons_succ]
                    refine plan_skip (o := q8r3_26) (r := p8r3_27) s1 (by rfl) ?_
                    try simp only [q8r3_26, Act.put, List.setIfInBounds_toArray, List.set_cons_zero, List.set_cons_succ]
                    refine plan_skip (o := q8r3_27) (r := p8r3_28) s1 (by rfl) ?_
                    try simp only [q8r3_27, Act.put, List.setIfInBounds_toArray, List.set_cons_zero, List.set_cons_succ]
                    refine plan_skip (o := q8r3_28) (r := p8r3_29) s1 (by rfl) ?_
                    try simp only [q8r3_28, Act.put, List.setIfInBounds_toArray, List.set_cons_zero, List.set_cons_succ]
                    refine plan_take (o := q8r3_29) (r := p8r3_30) ?vj229 s1 (by rfl) ?hyj229 ?restj229
                    case hyj229 => (intro w _; simp only [q8r3_29]; go_simp; try with_reducible rfl)
                    try simp only [q8r3_29, Act.put, List.setIfInBounds_toArray, List.set_cons_zero, List.set_cons_succ]
                    refine plan_take (o := q8r3_30) (r := p8r3_31) ?vj230 s1 (by rfl) ?hyj230 ?restj230
                    case hyj230 => (intro w _; simp only [q8r3_30]; go_simp; try with_reducible rfl)
                    try simp only [q8r3_30, Act.put, List.setIfInBounds_toArray, List.set_cons_zero, List.set_cons_succ]
                    refine plan_skip (o := q8r3_31) (r := p8r3_32) s1 (by rfl) ?_
                    try simp only [q8r3_31, Act.put, List.setIfInBounds_toArray, List.set_cons_zero, List.set_cons_succ]
                    refine plan_skip (o := q8r3_32) (r := p8r3_33) s1 (by rfl) ?_
                    try simp only [q8r3_32, Act.put, List.setIfInBounds_toArray, List.set_cons_zero, List.set_cons_succ]
                    refine plan_skip (o := q8r3_33) (r := p8r3_34) s1 (by rfl) ?_
                    try simp only [q8r3_33, Act.put, List.setIfInBounds_toArray, List.set_cons_zero, List.set_cons_succ]
                    refine plan_take (o := q8r3_34) (r := p8r3_35) ?vj234 s1 (by rfl) ?hyj234 ?restj234
                    case hyj234 => (intro w _; simp only [q8r3_34]; go_simp; try with_reducible rfl)
                    try simp only [q8r3_34, Act.put, List.setIfInBounds_toArray, List.set_cons_zero, List.set_cons_succ]
                    refine plan_done ?_
                    go_wp2_with fail
                    go_ret
                    exact ⟨Or.inr ⟨fun m => by have := m.n2; rw [← HTB.out] at this; omega, rfl⟩, HK.out.trans s1 (fun _ _ x => x)⟩
                  · skip
                    have ee2 : decide (h.l1len < tb) = false := decide_eq_false (by omega)
                    by_cases d3 : h.order < 0
                    · have et3 : decide (h.order < 0) = true := decide_eq_true d3
                      change (Code.region 3 o8r3 true).wp _ _ _ _
                      refine wp_region_plan (fun w' => Kp (fun _ => False) W w') [] c8r3 p8r3_0 hmix b8r3 d8r3 (fun _ _ d _ _ h => by cases d <;> exact h) ?_
                      refine plan_take (o := q8r3_0) (r := p8r3_1) ?vj30 h0 (by rfl) ?hyj30 ?restj30
                      case hyj30 => (intro w _; simp only [q8r3_0]; go_simp; try with_reducible rfl)
                      try simp only [q8r3_0, Act.put, List.setIfInBounds_toArray, List.set_cons_zero, List.set_cons_succ]
                      refine plan_take (o := q8r3_1) (r := p8r3_2) ?vj31 h0 (by rfl) ?hyj31 ?restj31
                      case hyj31 => (intro w hSw; (try dsimp only at hSw); have c0 := hSw.cell E4.out; simp only [q8r3_1]; go_simp; try with_reducible rfl)
                      try simp only [q8r3_1, Act.put, List.setIfInBounds_toArray, List.set_cons_zero, List.set_cons_succ]
                      refine plan_take (o := q8r3_2) (r := p8r3_3) ?vj32 h0 (by rfl) ?hyj32 ?restj32
                      case hyj32 => (intro w _; simp only [q8r3_2]; go_simp; try with_reducible rfl)
                      try simp only [q8r3_2, Act.put, List.setIfInBounds_toArray, List.set_cons_zero, List.set_cons_succ]
                      refine plan_take (o := q8r3_3) (r := p8r3_4) ?vj33 h0 (by rfl) ?hyj33 ?restj33
                      case hyj33 => (intro w _; simp only [q8r3_3]; go_simp; try with_reducible rfl)
                      try simp only [q8r3_3, Act.put, List.setIfInBounds_toArray, List.set_cons_zero, List.set_cons_succ]
                      refine plan_take (o := q8r3_4) (r := p8r3_5) ?vj34 h0 (by rfl) ?hyj34 ?restj34
                      case hyj34 => (intro w _; simp only [q8r3_4]; go_simp; try with_reducible rfl)
                      try simp only [q8r3_4, Act.put, List.setIfInBounds_toArray, List.set_cons_zero, List.set_cons_succ]
                      refine plan_take (o := q8r3_5) (r := p8r3_6) ?vj35 h0 (by rfl) ?hyj35 ?restj35
                      case hyj35 => (intro w hSw; (try dsimp only at hSw); have c0 := hSw.cell E4.out; simp only [q8r3_5]; go_simp; try with_reducible rfl)
                      try simp only [q8r3_5, Act.put, List.setIfInBounds_toArray, List.set_cons_zero, List.set_cons_succ]
                      refine plan_take (o := q8r3_6) (r := p8r3_7) ?vj36 h0 (by rfl) ?hyj36 ?restj36
                      case hyj36 => (intro w _; simp only [q8r3_6]; go_simp; try with_reducible rfl)
                      try simp only [q8r3_6, Act.put, List.setIfInBounds_toArray, List.set_cons_zero, List.set_cons_succ]
                      refine plan_take (o := q8r3_7) (r := p8r3_8) ?vj37 h0 (by rfl) ?hyj37 ?restj37
                      case hyj37 => (intro w _; simp only [q8r3_7]; go_simp; try with_reducible rfl)
                      try simp only [q8r3_7, Act.put, List.setIfInBounds_toArray, List.set_cons_zero, List.set_cons_succ]
                      refine plan_take (o := q8r3_8) (r := p8r3_9) ?vj38 h0 (by rfl) ?hyj38 ?restj38
                      case hyj38 => (intro w _; simp only [q8r3_8]; go_simp; try with_reducible rfl)
                      try simp only [q8r3_8, Act.put, List.setIfInBounds_toArray, List.set_cons_zero, List.set_cons_succ]
                      refine plan_take (o := q8r3_9) (r := p8r3_10) ?vj39 h0 (by rfl) ?hyj39 ?restj39
                      case hyj39 => (intro w _; simp only [q8r3_9]; go_simp; try with_reducible rfl)
                      try simp only [q8r3_9, Act.put, List.setIfInBounds_toArray, List.set_cons_zero, List.set_cons_succ]
                      refine plan_take (o := q8r3_10) (r := p8r3_11) ?vj310 h0 (by rfl) ?hyj310 ?restj310
                      case hyj310 => (intro w hSw; (try dsimp only at hSw); have c0 := hSw.cell E4.out; simp only [q8r3_10]; go_simp; try with_reducible rfl)
                      try simp only [q8r3_10, Act.put, List.setIfInBounds_toArray, List.set_cons_zero, List.set_cons_succ]
                      refine plan_take (o := q8r3_11) (r := p8r3_12) (.agg h.cs) h0 (by rfl) ?hyj311 ?restj311
                      case hyj311 => exact fun w hSw => exec_load_hd rfl rfl (HB.out.kp hSw (fun x => x))
                      try simp only [q8r3_11, Act.put, List.setIfInBounds_toArray, List.set_cons_zero, List.set_cons_succ]
                      refine plan_act (o := q8r3_12) (r := p8r3_13) (fun K hK => ?_)
                      simp only [q8r3_12]
                      go_simp
                      refine (RT.out _).mono ?_
                      rintro _ w1 ⟨rfl, k1⟩
                      go_wp2_with fail
                      refine hK.out _ _ (fun h => h.trans k1 (fun _ _ x => x)) ?_
                      have s1 : Kp (fun _ => False) W w1 := h0.trans k1 (fun _ _ x => x)
                      clear hK K
                      refine plan_take (o := q8r3_13) (r := p8r3_14) ?vj313 s1 (by rfl) ?hyj313 ?restj313
                      case hyj313 => (intro w _; simp only [q8r3_13]; go_simp; try with_reducible rfl)
                      try simp only [q8r3_13, Act.put, List.setIfInBounds_toArray, List.set_cons_zero, List.set_cons_succ]
                      refine plan_take (o := q8r3_14) (r := p8r3_15) ?vj314 s1 (by rfl) ?hyj314 ?restj314
                      case hyj314 => (intro w _; simp only [q8r3_14]; go_simp; try with_reducible rfl)
                      try simp only [q8r3_14, Act.put, List.setIfInBounds_toArray, List.set_cons_zero, List.set_cons_succ]
                      refine plan_take (o := q8r3_15) (r := p8r3_16) ?vj315 s1 (by rfl) ?hyj315 ?restj315
                      case hyj315 => (intro w _; simp only [q8r3_15]; go_simp; try with_reducible rfl)
                      try simp only [q8r3_15, Act.put, List.setIfInBounds_toArray, List.set_cons_zero, List.set_cons_succ]
                      refine plan_take (o := q8r3_16) (r := p8r3_17) ?vj316 s1 (by rfl) ?hyj316 ?restj316
                      case hyj316 => (intro w _; simp only [q8r3_16]; go_simp; try with_reducible rfl)
                      try simp only [q8r3_16, Act.put, List.setIfInBounds_toArray, List.set_cons_zero, List.set_cons_succ]
                      refine plan_take (o := q8r3_17) (r := p8r3_18) ?vj317 s1 (by rfl) ?hyj317 ?restj317
                      case hyj317 => (intro w hSw; (try dsimp only at hSw); have c0 := hSw.cell E5.out; simp only [q8r3_17]; go_simp; try with_reducible rfl)
                      try simp only [q8r3_17, Act.put, List.setIfInBounds_toArray, List.set_cons_zero, List.set_cons_succ]
                      refine plan_take (o := q8r3_18) (r := p8r3_19) ?vj318 s1 (by rfl) ?hyj318 ?restj318
                      case hyj318 => (intro w _; simp only [q8r3_18]; go_simp; try with_reducible rfl)
                      try simp only [q8r3_18, Act.put, List.setIfInBounds_toArray, List.set_cons_zero, List.set_cons_succ]
                      refine plan_take (o := q8r3_19) (r := p8r3_20) ?vj319 s1 (by rfl) ?hyj319 ?restj319
                      case hyj319 => (intro w _; simp only [q8r3_19]; go_simp; try with_reducible rfl)
                      try simp only [q8r3_19, Act.put, List.setIfInBounds_toArray, List.set_cons_zero, List.set_cons_succ]
                      refine plan_take (o := q8r3_20) (r := p8r3_21) ?vj320 s1 (by rfl) ?hyj320 ?restj320
                      case hyj320 => (intro w _; simp only [q8r3_20]; go_simp; try with_reducible rfl)
                      try simp only [q8r3_20, Act.put, List.setIfInBounds_toArray, List.set_cons_zero, List.set_cons_succ]
                      refine plan_skip (o := q8r3_21) (r := p8r3_22) s1 (by rfl) ?_
                      try simp only [q8r3_21, Act.put, List.setIfInBounds_toArray, List.set_cons_zero, List.set_cons_succ]
                      refine plan_skip (o := q8r3_22) (r := p8r3_23) s1 (by rfl) ?_
                      try simp only [q8r3_22, Act.put, List.setIfInBounds_toArray, List.set_cons_zero, List.set_cons_succ]
                      refine plan_skip (o := q8r3_23) (r := p8r3_24) s1 (by rfl) ?_
                      try simp only [q8r3_23, Act.put, List.setIfInBounds_toArray, List.set_cons_zero, List.set_cons_succ]
                      refine plan_take (o := q8r3_24) (r := p8r3_25) ?vj324 s1 (by rfl) ?hyj324 ?restj324
                      case hyj324 => (intro w _; simp only [q8r3_24]; go_simp; try with_reducible rfl)
                      try simp only [q8r3_24, Act.put, List.setIfInBounds_toArray, List.set_cons_zero, List.set_cons_succ]
                      refine plan_take (o := q8r3_25) (r := p8r3_26) ?vj325 s1 (by rfl) ?hyj325 ?restj325
                      case hyj325 => (intro w _; simp only [q8r3_25]; go_simp; try with_reducible rfl)
                      try simp only [q8r3_25, Act.put, List.setIfInBounds_toArray, List.set_cons_zero, List.set_cons_succ]
                      refine plan_skip (o := q8r3_26) (r := p8r3_27) s1 (by rfl) ?_
                      try simp only [q8r3_26, Act.put, List.setIfInBounds_toArray, List.set_cons_zero, List.set_cons_succ]
                      refine plan_skip (o := q8r3_27) (r := p8r3_28) s1 (by rfl) ?_
                      try simp only [q8r3_27, Act.put, List.setIfInBounds_toArray, List.set_cons_zero, List.set_cons_succ]
                      refine plan_skip (o := q8r3_28) (r := p8r3_29) s1 (by rfl) ?_
                      try simp only [q8r3_28, Act.put, List.setIfInBounds_toArray, List.set_cons_zero, List.set_cons_succ]
                      refine plan_take (o := q8r3_29) (r := p8r3_30) ?vj329 s1 (by rfl) ?hyj329 ?restj329
                      case hyj329 => (intro w _; simp only [q8r3_29]; go_simp; try with_reducible rfl)
                      try simp only [q8r3_29, Act.put, List.setIfInBounds_toArray, List.set_cons_zero, List.set_cons_succ]
                      refine plan_take (o := q8r3_30) (r := p8r3_31) ?vj330 s1 (by rfl) ?hyj330 ?restj330
                      case hyj330 => (intro w _; simp only [q8r3_30]; go_simp; try with_reducible rfl)
                      try simp only [q8r3_30, Act.put, List.setIfInBounds_toArray, List.set_cons_zero, List.set_cons_succ]
                      refine plan_skip (o := q8r3_31) (r := p8r3_32) s1 (by rfl) ?_
                      try simp only [q8r3_31, Act.put, List.setIfInBounds_toArray, List.set_cons_zero, List.set_cons_succ]
                      refine plan_skip (o := q8r3_32) (r := p8r3_33) s1 (by rfl) ?_
                      try simp only [q8r3_32, Act.put, List.setIfInBounds_toArray, List.set_cons_zero, List.set_cons_succ]
                      refine plan_skip (o := q8r3_33) (r := p8r3_34) s1 (by rfl) ?_
                      try simp only [q8r3_33, Act.put, List.setIfInBounds_toArray, List.set_cons_zero, List.set_cons_succ]
                      refine plan_take (o := q8r3_34) (r := p8r3_35) ?vj334 s1 (by rfl) ?hyj334 ?restj334
                      case hyj334 => (intro w _; simp only [q8r3_34]; go_simp; try with_reducible rfl)
                      try simp only [q8r3_34, Act.put, List.setIfInBounds_toArray, List.set_cons_zero, List.set_cons_succ]
                      refine plan_done ?_
                      go_wp2_with fail
                      go_ret
                      exact ⟨Or.inr ⟨fun m => by have := m.o0; omega, rfl⟩, HK.out.trans s1 (fun _ _ x => x)⟩
                    · skip
                      have ee3 : decide (h.order < 0) = false := decide_eq_false (by omega)
                      by_cases d4 : 6 < h.order
                      · have et4 : decide (6 < h.order) = true := decide_eq_true d4
                        change (Code.region 3 o8r3 true).wp _ _ _ _
                        refine wp_region_plan (fun w' => Kp (fun _ => False) W w') [] c8r3 p8r3_0 hmix b8r3 d8r3 (fun _ _ d _ _ h => by cases d <;> exact h) ?_
                        refine plan_take (o := q8r3_0) (r := p8r3_1) ?vj40 h0 (by rfl) ?hyj40 ?restj40
                        case hyj40 => (intro w _; simp only [q8r3_0]; go_simp; try with_reducible rfl)
                        try simp only [q8r3_0, Act.put, List.setIfInBounds_toArray, List.set_cons_zero, List.set_cons_succ]
                        refine plan_take (o := q8r3_1) (r := p8r3_2) ?vj41 h0 (by rfl) ?hyj41 ?restj41
                        case hyj41 => (intro w hSw; (try dsimp only at hSw); have c0 := hSw.cell E4.out; simp only [q8r3_1]; go_simp; try with_reducible rfl)
                        try simp only [q8r3_1, Act.put, List.setIfInBounds_toArray, List.set_cons_zero, List.set_cons_succ]
                        refine plan_take (o := q8r3_2) (r := p8r3_3) ?vj42 h0 (by rfl) ?hyj42 ?restj42
                        case hyj42 => (intro w _; simp only [q8r3_2]; go_simp; try with_reducible rfl)
                        try simp only [q8r3_2, Act.put, List.setIfInBounds_toArray, List.set_cons_zero, List.set_cons_succ]
                        refine plan_take (o := q8r3_3) (r := p8r3_4) ?vj43 h0 (by rfl) ?hyj43 ?restj43
                        case hyj43 => (intro w _; simp only [q8r3_3]; go_simp; try with_reducible rfl)
                        try simp only [q8r3_3, Act.put, List.setIfInBounds_toArray, List.set_cons_zero, List.set_cons_succ]
                        refine plan_take (o := q8r3_4) (r := p8r3_5) ?vj44 h0 (by rfl) ?hyj44 ?restj44
                        case hyj44 => (intro w _; simp only [q8r3_4]; go_simp; try with_reducible rfl)
                        try simp only [q8r3_4, Act.put, List.setIfInBounds_toArray, List.set_cons_zero, List.set_cons_succ]
                        refine plan_take (o := q8r3_5) (r := p8r3_6) ?vj45 h0 (by rfl) ?hyj45 ?restj45
                        case hyj45 => (intro w hSw; (try dsimp only at hSw); have c0 := hSw.cell E4.out; simp only [q8r3_5]; go_simp; try with_reducible rfl)
                        try simp only [q8r3_5, Act.put, List.setIfInBounds_toArray, List.set_cons_zero, List.set_cons_succ]
                        refine plan_take (o := q8r3_6) (r := p8r3_7) ?vj46 h0 (by rfl) ?hyj46 ?restj46
                        case hyj46 => (intro w _; simp only [q8r3_6]; go_simp; try with_reducible rfl)
                        try simp only [q8r3_6, Act.put, List.setIfInBounds_toArray, List.set_cons_zero, List.set_cons_succ]
                        refine plan_take (o := q8r3_7) (r := p8r3_8) ?vj47 h0 (by rfl) ?hyj47 ?restj47
                        case hyj47 => (intro w _; simp only [q8r3_7]; go_simp; try with_reducible rfl)
                        try simp only [q8r3_7, Act.put, List.setIfInBounds_toArray, List.set_cons_zero, List.set_cons_succ]
                        refine plan_take (o := q8r3_8) (r := p8r3_9) ?vj48 h0 (by rfl) ?hyj48 ?restj48
                        case hyj48 => (intro w _; simp only [q8r3_8]; go_simp; try with_reducible rfl)
                        try simp only [q8r3_8, Act.put, List.setIfInBounds_toArray, List.set_cons_zero, List.set_cons_succ]
                        refine plan_take (o := q8r3_9) (r := p8r3_10) ?vj49 h0 (by rfl) ?hyj49 ?restj49
                        case hyj49 => (intro w _; simp only [q8r3_9]; go_simp; try with_reducible rfl)
                        try simp only [q8r3_9, Act.put, List.setIfInBounds_toArray, List.set_cons_zero, List.set_cons_succ]
                        refine plan_take (o := q8r3_10) (r := p8r3_11) ?vj410 h0 (by rfl) ?hyj410 ?restj410
                        case hyj410 => (intro w hSw; (try dsimp only at hSw); have c0 := hSw.cell E4.out; simp only [q8r3_10]; go_simp; try with_reducible rfl)
                        try simp only [q8r3_10, Act.put, List.setIfInBounds_toArray, List.set_cons_zero, List.set_cons_succ]
                        refine plan_take (o := q8r3_11) (r := p8r3_12) (.agg h.cs) h0 (by rfl) ?hyj411 ?restj411
                        case hyj411 => exact fun w hSw => exec_load_hd rfl rfl (HB.out.kp hSw (fun x => x))
                        try simp only [q8r3_11, Act.put, List.setIfInBounds_toArray, List.set_cons_zero, List.set_cons_succ]
                        refine plan_act (o := q8r3_12) (r := p8r3_13) (fun K hK => ?_)
                        simp only [q8r3_12]
                        go_simp
                        refine (RT.out _).mono ?_
                        rintro _ w1 ⟨rfl, k1⟩
                        go_wp2_with fail
                        refine hK.out _ _ (fun h => h.trans k1 (fun _ _ x => x)) ?_
                        have s1 : Kp (fun _ => False) W w1 := h0.trans k1 (fun _ _ x => x)
                        clear hK K
                        refine plan_take (o := q8r3_13) (r := p8r3_14) ?vj413 s1 (by rfl) ?hyj413 ?restj413
                        case hyj413 => (intro w _; simp only [q8r3_13]; go_simp; try with_reducible rfl)
                        try simp only [q8r3_13, Act.put, List.setIfInBounds_toArray, List.set_cons_zero, List.set_cons_succ]
                        refine plan_take (o := q8r3_14) (r := p8r3_15) ?vj414 s1 (by rfl) ?hyj414 ?restj414
                        case hyj414 => (intro w _; simp only [q8r3_14]; go_simp; try with_reducible rfl)
                        try simp only [q8r3_14, Act.put, List.setIfInBounds_toArray, List.set_cons_zero, List.set_cons_succ]
                        refine plan_take (o := q8r3_15) (r := p8r3_16) ?vj415 s1 (by rfl) ?hyj415 ?restj415
                        case hyj415 => (intro w _; simp only [q8r3_15]; go_simp; try with_reducible rfl)
                        try simp only [q8r3_15, Act.put, List.setIfInBounds_toArray, List.set_cons_zero, List.set_cons_succ]
                        refine plan_take (o := q8r3_16) (r := p8r3_17) ?vj416 s1 (by rfl) ?hyj416 ?restj416
                        case hyj416 => (intro w _; simp only [q8r3_16]; go_simp; try with_reducible rfl)
                        try simp only [q8r3_16, Act.put, List.setIfInBounds_toArray, List.set_cons_zero, List.set_cons_succ]
                        refine plan_take (o := q8r3_17) (r := p8r3_18) ?vj417 s1 (by rfl) ?hyj417 ?restj417
                        case hyj417 => (intro w hSw; (try dsimp only at hSw); have c0 := hSw.cell E5.out; simp only [q8r3_17]; go_simp; try with_reducible rfl)
                        try simp only [q8r3_17, Act.put, List.setIfInBounds_toArray, List.set_cons_zero, List.set_cons_succ]
                        refine plan_take (o := q8r3_18) (r := p8r3_19) ?vj418 s1 (by rfl) ?hyj418 ?restj418
                        case hyj418 => (intro w _; simp only [q8r3_18]; go_simp; try with_reducible rfl)
                        try simp only [q8r3_18, Act.put, List.setIfInBounds_toArray, List.set_cons_zero, List.set_cons_succ]
                        refine plan_take (o := q8r3_19) (r := p8r3_20) ?vj419 s1 (by rfl) ?hyj419 ?restj419
                        case hyj419 => (intro w _; simp only [q8r3_19]; go_simp; try with_reducible rfl)
                        try simp only [q8r3_19, Act.put, List.setIfInBounds_toArray, List.set_cons_zero, List.set_cons_succ]
                        refine plan_take (o := q8r3_20) (r := p8r3_21) ?vj420 s1 (by rfl) ?hyj420 ?restj420
                        case hyj420 => (intro w _; simp only [q8r3_20]; go_simp; try with_reducible rfl)
                        try simp only [q8r3_20, Act.put, List.setIfInBounds_toArray, List.set_cons_zero, List.set_cons_succ]
                        refine plan_take (o := q8r3_21) (r := p8r3_22) ?vj421 s1 (by rfl) ?hyj421 ?restj421
                        case hyj421 => (intro w _; simp only [q8r3_21]; go_simp; try with_reducible rfl)
                        try simp only [q8r3_21, Act.put, List.setIfInBounds_toArray, List.set_cons_zero, List.set_cons_succ]
                        refine plan_take (o := q8r3_22) (r := p8r3_23) ?vj422 s1 (by rfl) ?hyj422 ?restj422
                        case hyj422 => (intro w hSw; (try dsimp only at hSw); have c0 := hSw.cell E5.out; simp only [q8r3_22]; go_simp; try with_reducible rfl)
                        try simp only [q8r3_22, Act.put, List.setIfInBounds_toArray, List.set_cons_zero, List.set_cons_succ]
                        refine plan_take (o := q8r3_23) (r := p8r3_24) ?vj423 s1 (by rfl) ?hyj423 ?restj423
                        case hyj423 => (intro w _; simp only [q8r3_23]; go_simp; try with_reducible rfl)
                        try simp only [q8r3_23, Act.put, List.setIfInBounds_toArray, List.set_cons_zero, List.set_cons_succ]
                        refine plan_take (o := q8r3_24) (r := p8r3_25) ?vj424 s1 (by rfl) ?hyj424 ?restj424
                        case hyj424 => (intro w _; simp only [q8r3_24]; go_simp; try with_reducible rfl)
                        try simp only [q8r3_24, Act.put, List.setIfInBounds_toArray, List.set_cons_zero, List.set_cons_succ]
                        refine plan_take (o := q8r3_25) (r := p8r3_26) ?vj425 s1 (by rfl) ?hyj425 ?restj425
                        case hyj425 => (intro w _; simp only [q8r3_25]; go_simp; try with_reducible rfl)
                        try simp only [q8r3_25, Act.put, List.setIfInBounds_toArray, List.set_cons_zero, List.set_cons_succ]
                        refine plan_skip (o := q8r3_26) (r := p8r3_27) s1 (by rfl) ?_
                        try simp only [q8r3_26, Act.put, List.setIfInBounds_toArray, List.set_cons_zero, List.set_cons_succ]
                        refine plan_skip (o := q8r3_27) (r := p8r3_28) s1 (by rfl) ?_
                        try simp only [q8r3_27, Act.put, List.setIfInBounds_toArray, List.set_cons_zero, List.set_cons_succ]
                        refine plan_skip (o := q8r3_28) (r := p8r3_29) s1 (by rfl) ?_
                        try simp only [q8r3_28, Act.put, List.setIfInBounds_toArray, List.set_cons_zero, List.set_cons_succ]
                        refine plan_take (o := q8r3_29) (r := p8r3_30) ?vj429 s1 (by rfl) ?hyj429 ?restj429
                        case hyj429 => (intro w _; simp only [q8r3_29]; go_simp; try with_reducible rfl)
                        try simp only [q8r3_29, Act.put, List.setIfInBounds_toArray, List.set_cons_zero, List.set_cons_succ]
                        refine plan_take (o := q8r3_30) (r := p8r3_31) ?vj430 s1 (by rfl) ?hyj430 ?restj430
                        case hyj430 => (intro w _; simp only [q8r3_30]; go_simp; try with_reducible rfl)
                        try simp only [q8r3_30, Act.put, List.setIfInBounds_toArray, List.set_cons_zero, List.set_cons_succ]
                        refine plan_skip (o := q8r3_31) (r := p8r3_32) s1 (by rfl) ?_
                        try simp only [q8r3_31, Act.put, List.setIfInBounds_toArray, List.set_cons_zero, List.set_cons_succ]
                        refine plan_skip (o := q8r3_32) (r := p8r3_33) s1 (by rfl) ?_
                        try simp only [q8r3_32, Act.put, List.setIfInBounds_toArray, List.set_cons_zero, List.set_cons_succ]
                        refine plan_skip (o := q8r3_33) (r := p8r3_34) s1 (by rfl) ?_
                        try simp only [q8r3_33, Act.put, List.setIfInBounds_toArray, List.set_cons_zero, List.set_cons_succ]
                        refine plan_take (o := q8r3_34) (r := p8r3_35) ?vj434 s1 (by rfl) ?hyj434 ?restj434
                        case hyj434 => (intro w _; simp only [q8r3_34]; go_simp; try with_reducible rfl)
                        try simp only [q8r3_34, Act.put, List.setIfInBounds_toArray, List.set_cons_zero, List.set_cons_succ]
                        refine plan_done ?_
                        go_wp2_with fail
                        go_ret
                        exact ⟨Or.inr ⟨fun m => by have := m.o1; omega, rfl⟩, HK.out.trans s1 (fun _ _ x => x)⟩
                      · skip
                        have ee4 : decide (6 < h.order) = false := decide_eq_false (by omega)
                        by_cases d5 : h.countslen < 1
                        · have et5 : decide (h.countslen < 1) = true := decide_eq_true d5
                          change (Code.region 3 o8r3 true).wp _ _ _ _
                          refine wp_region_plan (fun w' => Kp (fun _ => False) W w') [] c8r3 p8r3_0 hmix b8r3 d8r3 (fun _ _ d _ _ h => by cases d <;> exact h) ?_
                          refine plan_take (o := q8r3_0) (r := p8r3_1) ?vj50 h0 (by rfl) ?hyj50 ?restj50
                          case hyj50 => (intro w _; simp only [q8r3_0]; go_simp; try with_reducible rfl)
                          try simp only [q8r3_0, Act.put, List.setIfInBounds_toArray, List.set_cons_zero, List.set_cons_succ]
                          refine plan_take (o := q8r3_1) (r := p8r3_2) ?vj51 h0 (by rfl) ?hyj51 ?restj51
                          case hyj51 => (intro w hSw; (try dsimp only at hSw); have c0 := hSw.cell E4.out; simp only [q8r3_1]; go_simp; try with_reducible rfl)
                          try simp only [q8r3_1, Act.put, List.setIfInBounds_toArray, List.set_cons_zero, List.set_cons_succ]
                          refine plan_take (o := q8r3_2) (r := p8r3_3) ?vj52 h0 (by rfl) ?hyj52 ?restj52
                          case hyj52 => (intro w _; simp only [q8r3_2]; go_simp; try with_reducible rfl)
                          try simp only [q8r3_2, Act.put, List.setIfInBounds_toArray, List.set_cons_zero, List.set_cons_succ]
                          refine plan_take (o := q8r3_3) (r := p8r3_4) ?vj53 h0 (by rfl) ?hyj53 ?restj53
                          case hyj53 => (intro w _; simp only [q8r3_3]; go_simp; try with_reducible rfl)
                          try simp only [q8r3_3, Act.put, List.setIfInBounds_toArray, List.set_cons_zero, List.set_cons_succ]
                          refine plan_take (o := q8r3_4) (r := p8r3_5) ?vj54 h0 (by rfl) ?hyj54 ?restj54
                          case hyj54 => (intro w _; simp only [q8r3_4]; go_simp; try with_reducible rfl)
                          try simp only [q8r3_4, Act.put, List.setIfInBounds_toArray, List.set_cons_zero, List.set_cons_succ]
                          refine plan_take (o := q8r3_5) (r := p8r3_6) ?vj55 h0 (by rfl) ?hyj55 ?restj55
                          case hyj55 => (intro w hSw; (try dsimp only at hSw); have c0 := hSw.cell E4.out; simp only [q8r3_5]; go_simp; try with_reducible rfl)
                          try simp only [q8r3_5, Act.put, List.setIfInBounds_toArray, List.set_cons_zero, List.set_cons_succ]
                          refine plan_take (o := q8r3_6) (r := p8r3_7) ?vj56 h0 (by rfl) ?hyj56 ?restj56
                          case hyj56 => (intro w _; simp only [q8r3_6]; go_simp; try with_reducible rfl)
                          try simp only [q8r3_6, Act.put, List.setIfInBounds_toArray, List.set_cons_zero, List.set_cons_succ]
                          refine plan_take (o := q8r3_7) (r := p8r3_8) ?vj57 h0 (by rfl) ?hyj57 ?restj57
                          case hyj57 => (intro w _; simp only [q8r3_7]; go_simp; try with_reducible rfl)
                          try simp only [q8r3_7, Act.put, List.setIfInBounds_toArray, List.set_cons_zero, List.set_cons_succ]
                          refine plan_take (o := q8r3_8) (r := p8r3_9) ?vj58 h0 (by rfl) ?hyj58 ?restj58
                          case hyj58 => (intro w _; simp only [q8r3_8]; go_simp; try with_reducible rfl)
                          try simp only [q8r3_8, Act.put, List.setIfInBounds_toArray, List.set_cons_zero, List.set_cons_succ]
                          refine plan_take (o := q8r3_9) (r := p8r3_10) ?vj59 h0 (by rfl) ?hyj59 ?restj59
                          case hyj59 => (intro w _; simp only [q8r3_9]; go_simp; try with_reducible rfl)
                          try simp only [q8r3_9, Act.put, List.setIfInBounds_toArray, List.set_cons_zero, List.set_cons_succ]
                          refine plan_take (o := q8r3_10) (r := p8r3_11) ?vj510 h0 (by rfl) ?hyj510 ?restj510
                          case hyj510 => (intro w hSw; (try dsimp only at hSw); have c0 := hSw.cell E4.out; simp only [q8r3_10]; go_simp; try with_reducible rfl)
                          try simp only [q8r3_10, Act.put, List.setIfInBounds_toArray, List.set_cons_zero, List.set_cons_succ]
                          refine plan_take (o := q8r3_11) (r := p8r3_12) (.agg h.cs) h0 (by rfl) ?hyj511 ?restj511
                          case hyj511 => exact fun w hSw => exec_load_hd rfl rfl (HB.out.kp hSw (fun x => x))
                          try simp only [q8r3_11, Act.put, List.setIfInBounds_toArray, List.set_cons_zero, List.set_cons_succ]
                          refine plan_act (o := q8r3_12) (r := p8r3_13) (fun K hK => ?_)
                          simp only [q8r3_12]
                          go_simp
                          refine (RT.out _).mono ?_
                          rintro _ w1 ⟨rfl, k1⟩
                          go_wp2_with fail
                          refine hK.out _ _ (fun h => h.trans k1 (fun _ _ x => x)) ?_
                          have s1 : Kp (fun _ => False) W w1 := h0.trans k1 (fun _ _ x => x)
                          clear hK K
                          refine plan_take (o := q8r3_13) (r := p8r3_14) ?vj513 s1 (by rfl) ?hyj513 ?restj513
                          case hyj513 => (intro w _; simp only [q8r3_13]; go_simp; try with_reducible rfl)
                          try simp only [q8r3_13, Act.put, List.setIfInBounds_toArray, List.set_cons_zero, List.set_cons_succ]
                          refine plan_take (o := q8r3_14) (r := p8r3_15) ?vj514 s1 (by rfl) ?hyj514 ?restj514
                          case hyj514 => (intro w _; simp only [q8r3_14]; go_simp; try with_reducible rfl)
                          try simp only [q8r3_14, Act.put, List.setIfInBounds_toArray, List.set_cons_zero, List.set_cons_succ]
                          refine plan_take (o := q8r3_15) (r := p8r3_16) ?vj515 s1 (by rfl) ?hyj515 ?restj515
                          case hyj515 => (intro w _; simp only [q8r3_15]; go_simp; try with_reducible rfl)
                          try simp only [q8r3_15, Act.put, List.setIfInBounds_toArray, List.set_cons_zero, List.set_cons_succ]
                          refine plan_take (o := q8r3_16) (r := p8r3_17) ?vj516 s1 (by rfl) ?hyj516 ?restj516
                          case hyj516 => (intro w _; simp only [q8r3_16]; go_simp; try with_reducible rfl)
                          try simp only [q8r3_16, Act.put, List.setIfInBounds_toArray, List.set_cons_zero, List.set_cons_succ]
                          refine plan_take (o := q8r3_17) (r := p8r3_18) ?vj517 s1 (by rfl) ?hyj517 ?restj517
                          case hyj517 => (intro w hSw; (try dsimp only at hSw); have c0 := hSw.cell E5.out; simp only [q8r3_17]; go_simp; try with_reducible rfl)
                          try simp only [q8r3_17, Act.put, List.setIfInBounds_toArray, List.set_cons_zero, List.set_cons_succ]
                          refine plan_take (o := q8r3_18) (r := p8r3_19) ?vj518 s1 (by rfl) ?hyj518 ?restj518
                          case hyj518 => (intro w _; simp only [q8r3_18]; go_simp; try with_reducible rfl)
                          try simp only [q8r3_18, Act.put, List.setIfInBounds_toArray, List.set_cons_zero, List.set_cons_succ]
                          refine plan_take (o := q8r3_19) (r := p8r3_20) ?vj519 s1 (by rfl) ?hyj519 ?restj519
                          case hyj519 => (intro w _; simp only [q8r3_19]; go_simp; try with_reducible rfl)
                          try simp only [q8r3_19, Act.put, List.setIfInBounds_toArray, List.set_cons_zero, List.set_cons_succ]
                          refine plan_take (o := q8r3_20) (r := p8r3_21) ?vj520 s1 (by rfl) ?hyj520 ?restj520
                          case hyj520 => (intro w _; simp only [q8r3_20]; go_simp; try with_reducible rfl)
                          try simp only [q8r3_20, Act.put, List.setIfInBounds_toArray, List.set_cons_zero, List.set_cons_succ]
                          refine plan_take (o := q8r3_21) (r := p8r3_22) ?vj521 s1 (by rfl) ?hyj521 ?restj521
                          case hyj521 => (intro w _; simp only [q8r3_21]; go_simp; try with_reducible rfl)
                          try simp only [q8r3_21, Act.put, List.setIfInBounds_toArray, List.set_cons_zero, List.set_cons_succ]
                          refine plan_take (o := q8r3_22) (r := p8r3_23) ?vj522 s1 (by rfl) ?hyj522 ?restj522
                          case hyj522 => (intro w hSw; (try dsimp only at hSw); have c0 := hSw.cell E5.out; simp only [q8r3_22]; go_simp; try with_reducible rfl)
                          try simp only [q8r3_22, Act.put, List.setIfInBounds_toArray, List.set_cons_zero, List.set_cons_succ]
                          refine plan_take (o := q8r3_23) (r := p8r3_24) ?vj523 s1 (by rfl) ?hyj523 ?restj523
                          case hyj523 => (intro w _; simp only [q8r3_23]; go_simp; try with_reducible rfl)
                          try simp only [q8r3_23, Act.put, List.setIfInBounds_toArray, List.set_cons_zero, List.set_cons_succ]
                          refine plan_take (o := q8r3_24) (r := p8r3_25) ?vj524 s1 (by rfl) ?hyj524 ?restj524
                          case hyj524 => (intro w _; simp only [q8r3_24]; go_simp; try with_reducible rfl)
                          try simp only [q8r3_24, Act.put, List.setIfInBounds_toArray, List.set_cons_zero, List.set_cons_succ]
                          refine plan_take (o := q8r3_25) (r := p8r3_26) ?vj525 s1 (by rfl) ?hyj525 ?restj525
                          case hyj525 => (intro w _; simp only [q8r3_25]; go_simp; try with_reducible rfl)
                          try simp only [q8r3_25, Act.put, List.setIfInBounds_toArray, List.set_cons_zero, List.set_cons_succ]
                          refine plan_take (o := q8r3_26) (r := p8r3_27) ?vj526 s1 (by rfl) ?hyj526 ?restj526
                          case hyj526 => (intro w _; simp only [q8r3_26]; go_simp; try with_reducible rfl)
                          try simp only [q8r3_26, Act.put, List.setIfInBounds_toArray, List.set_cons_zero, List.set_cons_succ]
                          refine plan_take (o := q8r3_27) (r := p8r3_28) ?vj527 s1 (by rfl) ?hyj527 ?restj527
                          case hyj527 => (intro w hSw; (try dsimp only at hSw); have c0 := hSw.cell E7.out; simp only [q8r3_27]; go_simp; try with_reducible rfl)
                          try simp only [q8r3_27, Act.put, List.setIfInBounds_toArray, List.set_cons_zero, List.set_cons_succ]
                          refine plan_take (o := q8r3_28) (r := p8r3_29) ?vj528 s1 (by rfl) ?hyj528 ?restj528
                          case hyj528 => (intro w _; simp only [q8r3_28]; go_simp; try with_reducible rfl)
                          try simp only [q8r3_28, Act.put, List.setIfInBounds_toArray, List.set_cons_zero, List.set_cons_succ]
                          refine plan_take (o := q8r3_29) (r := p8r3_30) ?vj529 s1 (by rfl) ?hyj529 ?restj529
                          case hyj529 => (intro w _; simp only [q8r3_29]; go_simp; try with_reducible rfl)
                          try simp only [q8r3_29, Act.put, List.setIfInBounds_toArray, List.set_cons_zero, List.set_cons_succ]
                          refine plan_take (o := q8r3_30) (r := p8r3_31) ?vj530 s1 (by rfl) ?hyj530 ?restj530
                          case hyj530 => (intro w _; simp only [q8r3_30]; go_simp; try with_reducible rfl)
                          try simp only [q8r3_30, Act.put, List.setIfInBounds_toArray, List.set_cons_zero, List.set_cons_succ]
                          refine plan_skip (o := q8r3_31) (r := p8r3_32) s1 (by rfl) ?_
                          try simp only [q8r3_31, Act.put, List.setIfInBounds_toArray, List.set_cons_zero, List.set_cons_succ]
                          refine plan_skip (o := q8r3_32) (r := p8r3_33) s1 (by rfl) ?_
                          try simp only [q8r3_32, Act.put, List.setIfInBounds_toArray, List.set_cons_zero, List.set_cons_succ]
                          refine plan_skip (o := q8r3_33) (r := p8r3_34) s1 (by rfl) ?_
                          try simp only [q8r3_33, Act.put, List.setIfInBounds_toArray, List.set_cons_zero, List.set_cons_succ]
                          refine plan_take (o := q8r3_34) (r := p8r3_35) ?vj534 s1 (by rfl) ?hyj534 ?restj534
                          case hyj534 => (intro w _; simp only [q8r3_34]; go_simp; try with_reducible rfl)
                          try simp only [q8r3_34, Act.put, List.setIfInBounds_toArray, List.set_cons_zero, List.set_cons_succ]
                          refine plan_done ?_
                          go_wp2_with fail
                          go_ret
                          exact ⟨Or.inr ⟨fun m => by have := m.c0; omega, rfl⟩, HK.out.trans s1 (fun _ _ x => x)⟩
                        · skip
                          have ee5 : decide (h.countslen < 1) = false := decide_eq_false (by omega)
                          by_cases d6 : 65536 < h.countslen
                          · have et6 : decide (65536 < h.countslen) = true := decide_eq_true d6
                            change (Code.region 3 o8r3 true).wp _ _ _ _
                            refine wp_region_plan (fun w' => Kp (fun _ => False) W w') [] c8r3 p8r3_0 hmix b8r3 d8r3 (fun _ _ d _ _ h => by cases d <;> exact h) ?_
                            refine plan_take (o := q8r3_0) (r := p8r3_1) ?vj60 h0 (by rfl) ?hyj60 ?restj60
                            case hyj60 => (intro w _; simp only [q8r3_0]; go_simp; try with_reducible rfl)
                            try simp only [q8r3_0, Act.put, List.setIfInBounds_toArray, List.set_cons_zero, List.set_cons_succ]
                            refine plan_take (o := q8r3_1) (r := p8r3_2) ?vj61 h0 (by rfl) ?hyj61 ?restj61
                            case hyj61 => (intro w hSw; (try dsimp only at hSw); have c0 := hSw.cell E4.out; simp only [q8r3_1]; go_simp; try with_reducible rfl)
                            try simp only [q8r3_1, Act.put, List.setIfInBounds_toArray, List.set_cons_zero, List.set_cons_succ]
                            refine plan_take (o := q8r3_2) (r := p8r3_3) ?vj62 h0 (by rfl) ?hyj62 ?restj62
                            case hyj62 => (intro w _; simp only [q8r3_2]; go_simp; try with_reducible rfl)
                            try simp only [q8r3_2, Act.put, List.setIfInBounds_toArray, List.set_cons_zero, List.set_cons_succ]
                            refine plan_take (o := q8r3_3) (r := p8r3_4) ?vj63 h0 (by rfl) ?hyj63 ?restj63
                            case hyj63 => (intro w _; simp only [q8r3_3]; go_simp; try with_reducible rfl)
                            try simp only [q8r3_3, Act.put, List.setIfInBounds_toArray, List.set_cons_zero, List.set_cons_succ]
                            refine plan_take (o := q8r3_4) (r := p8r3_5) ?vj64 h0 (by rfl) ?hyj64 ?restj64
                            case hyj64 => (intro w _; simp only [q8r3_4]; go_simp; try with_reducible rfl)
                            try simp only [q8r3_4, Act.put, List.setIfInBounds_toArray, List.set_cons_zero, List.set_cons_succ]
                            refine plan_take (o := q8r3_5) (r := p8r3_6) ?vj65 h0 (by rfl) ?hyj65 ?restj65
                            case hyj65 => (intro w hSw; (try dsimp only at hSw); have c0 := hSw.cell E4.out; simp only [q8r3_5]; go_simp; try with_reducible rfl)
                            try simp only [q8r3_5, Act.put, List.setIfInBounds_toArray, List.set_cons_zero, List.set_cons_succ]
                            refine plan_take (o := q8r3_6) (r := p8r3_7) ?vj66 h0 (by rfl) ?hyj66 ?restj66
                            case hyj66 => (intro w _; simp only [q8r3_6]; go_simp; try with_reducible rfl)
                            try simp only [q8r3_6, Act.put, List.setIfInBounds_toArray, List.set_cons_zero, List.set_cons_succ]
                            refine plan_take (o := q8r3_7) (r := p8r3_8) ?vj67 h0 (by rfl) ?hyj67 ?restj67
                            case hyj67 => (intro w _; simp only [q8r3_7]; go_simp; try with_reducible rfl)
                            try simp only [q8r3_7, Act.put, List.setIfInBounds_toArray, List.set_cons_zero, List.set_cons_succ]
                            refine plan_take (o := q8r3_8) (r := p8r3_9) ?vj68 h0 (by rfl) ?hyj68 ?restj68
                            case hyj68 => (intro w _; simp only [q8r3_8]; go_simp; try with_reducible rfl)
                            try simp only [q8r3_8, Act.put, List.setIfInBounds_toArray, List.set_cons_zero, List.set_cons_succ]
                            refine plan_take (o := q8r3_9) (r := p8r3_10) ?vj69 h0 (by rfl) ?hyj69 ?restj69
                            case hyj69 => (intro w _; simp only [q8r3_9]; go_simp; try with_reducible rfl)
                            try simp only [q8r3_9, Act.put, List.setIfInBounds_toArray, List.set_cons_zero, List.set_cons_succ]
                            refine plan_take (o := q8r3_10) (r := p8r3_11) ?vj610 h0 (by rfl) ?hyj610 ?restj610
                            case hyj610 => (intro w hSw; (try dsimp only at hSw); have c0 := hSw.cell E4.out; simp only [q8r3_10]; go_simp; try with_reducible rfl)
                            try simp only [q8r3_10, Act.put, List.setIfInBounds_toArray, List.set_cons_zero, List.set_cons_succ]
                            refine plan_take (o := q8r3_11) (r := p8r3_12) (.agg h.cs) h0 (by rfl) ?hyj611 ?restj611
                            case hyj611 => exact fun w hSw => exec_load_hd rfl rfl (HB.out.kp hSw (fun x => x))
                            try simp only [q8r3_11, Act.put, List.setIfInBounds_toArray, List.set_cons_zero, List.set_cons_succ]
                            refine plan_act (o := q8r3_12) (r := p8r3_13) (fun K hK => ?_)
                            simp only [q8r3_12]
                            go_simp
                            refine (RT.out _).mono ?_
                            rintro _ w1 ⟨rfl, k1⟩
                            go_wp2_with fail
                            refine hK.out _ _ (fun h => h.trans k1 (fun _ _ x => x)) ?_
                            have s1 : Kp (fun _ => False) W w1 := h0.trans k1 (fun _ _ x => x)
                            clear hK K
                            refine plan_take (o := q8r3_13) (r := p8r3_14) ?vj613 s1 (by rfl) ?hyj613 ?restj613
                            case hyj613 => (intro w _; simp only [q8r3_13]; go_simp; try with_reducible rfl)
                            try simp only [q8r3_13, Act.put, List.setIfInBounds_toArray, List.set_cons_zero, List.set_cons_succ]
                            refine plan_take (o := q8r3_14) (r := p8r3_15) ?vj614 s1 (by rfl) ?hyj614 ?restj614
                            case hyj614 => (intro w _; simp only [q8r3_14]; go_simp; try with_reducible rfl)
                            try simp only [q8r3_14, Act.put, List.setIfInBounds_toArray, List.set_cons_zero, List.set_cons_succ]
                            refine plan_take (o := q8r3_15) (r := p8r3_16) ?vj615 s1 (by rfl) ?hyj615 ?restj615
                            case hyj615 => (intro w _; simp only [q8r3_15]; go_simp; try with_reducible rfl)
                            try simp only [q8r3_15, Act.put, List.setIfInBounds_toArray, List.set_cons_zero, List.set_cons_succ]
                            refine plan_take (o := q8r3_16) (r := p8r3_17) ?vj616 s1 (by rfl) ?hyj616 ?restj616
                            case hyj616 => (intro w _; simp only [q8r3_16]; go_simp; try with_reducible rfl)
                            try simp only [q8r3_16, Act.put, List.setIfInBounds_toArray, List.set_cons_zero, List.set_cons_succ]
                            refine plan_take (o := q8r3_17) (r := p8r3_18) ?vj617 s1 (by rfl) ?hyj617 ?restj617
                            case hyj617 => (intro w hSw; (try dsimp only at hSw); have c0 := hSw.cell E5.out; simp only [q8r3_17]; go_simp; try with_reducible rfl)
                            try simp only [q8r3_17, Act.put, List.setIfInBounds_toArray, List.set_cons_zero, List.set_cons_succ]
                            refine plan_take (o := q8r3_18) (r := p8r3_19) ?vj618 s1 (by rfl) ?hyj618 ?restj618
                            case hyj618 => (intro w _; simp only [q8r3_18]; go_simp; try with_reducible rfl)
                            try simp only [q8r3_18, Act.put, List.setIfInBounds_toArray, List.set_cons_zero, List.set_cons_succ]
                            refine plan_take (o := q8r3_19) (r := p8r3_20) ?vj619 s1 (by rfl) ?hyj619 ?restj619
                            case hyj619 => (intro w _; simp only [q8r3_19]; go_simp; try with_reducible rfl)
                            try simp only [q8r3_19, Act.put, List.setIfInBounds_toArray, List.set_cons_zero, List.set_cons_succ]
                            refine plan_take (o := q8r3_20) (r := p8r3_21) ?vj620 s1 (by rfl) ?hyj620 ?restj620
                            case hyj620 => (intro w _; simp only [q8r3_20]; go_simp; try with_reducible rfl)
                            try simp only [q8r3_20, Act.put, List.setIfInBounds_toArray, List.set_cons_zero, List.set_cons_succ]
                            refine plan_take (o := q8r3_21) (r := p8r3_22) ?vj621 s1 (by rfl) ?hyj621 ?restj621
                            case hyj621 => (intro w _; simp only [q8r3_21]; go_simp; try with_reducible rfl)
                            try simp only [q8r3_21, Act.put, List.setIfInBounds_toArray, List.set_cons_zero, List.set_cons_succ]
                            refine plan_take (o := q8r3_22) (r := p8r3_23) ?vj622 s1 (by rfl) ?hyj622 ?restj622
                            case hyj622 => (intro w hSw; (try dsimp only at hSw); have c0 := hSw.cell E5.out; simp only [q8r3_22]; go_simp; try with_reducible rfl)
                            try simp only [q8r3_22, Act.put, List.setIfInBounds_toArray, List.set_cons_zero, List.set_cons_succ]
                            refine plan_take (o := q8r3_23) (r := p8r3_24) ?vj623 s1 (by rfl) ?hyj623 ?restj623
                            case hyj623 => (intro w _; simp only [q8r3_23]; go_simp; try with_reducible rfl)
                            try simp only [q8r3_23, Act.put, List.setIfInBounds_toArray, List.set_cons_zero, List.set_cons_succ]
                            refine plan_take (o := q8r3_24) (r := p8r3_25) ?vj624 s1 (by rfl) ?hyj624 ?restj624
                            case hyj624 => (intro w _; simp only [q8r3_24]; go_simp; try with_reducible rfl)
                            try simp only [q8r3_24, Act.put, List.setIfInBounds_toArray, List.set_cons_zero, List.set_cons_succ]
                            refine plan_take (o := q8r3_25) (r := p8r3_26) ?vj625 s1 (by rfl) ?hyj625 ?restj625
                            case hyj625 => (intro w _; simp only [q8r3_25]; go_simp; try with_reducible rfl)
                            try simp only [q8r3_25, Act.put, List.setIfInBounds_toArray, List.set_cons_zero, List.set_cons_succ]
                            refine plan_take (o := q8r3_26) (r := p8r3_27) ?vj626 s1 (by rfl) ?hyj626 ?restj626
                            case hyj626 => (intro w _; simp only [q8r3_26]; go_simp; try with_reducible rfl)
                            try simp only [q8r3_26, Act.put, List.setIfInBounds_toArray, List.set_cons_zero, List.set_cons_succ]
                            refine plan_take (o := q8r3_27) (r := p8r3_28) ?vj627 s1 (by rfl) ?hyj627 ?restj627
                            case hyj627 => (intro w hSw; (try dsimp only at hSw); have c0 := hSw.cell E7.out; simp only [q8r3_27]; go_simp; try with_reducible rfl)
                            try simp only [q8r3_27, Act.put, List.setIfInBounds_toArray, List.set_cons_zero, List.set_cons_succ]
                            refine plan_take (o := q8r3_28) (r := p8r3_29) ?vj628 s1 (by rfl) ?hyj628 ?restj628
                            case hyj628 => (intro w _; simp only [q8r3_28]; go_simp; try with_reducible rfl)
                            try simp only [q8r3_28, Act.put, List.setIfInBounds_toArray, List.set_cons_zero, List.set_cons_succ]
                            refine plan_take (o := q8r3_29) (r := p8r3_30) ?vj629 s1 (by rfl) ?hyj629 ?restj629
                            case hyj629 => (intro w _; simp only [q8r3_29]; go_simp; try with_reducible rfl)
                            try simp only [q8r3_29, Act.put, List.setIfInBounds_toArray, List.set_cons_zero, List.set_cons_succ]
                            refine plan_take (o := q8r3_30) (r := p8r3_31) ?vj630 s1 (by rfl) ?hyj630 ?restj630
                            case hyj630 => (intro w _; simp only [q8r3_30]; go_simp; try with_reducible rfl)
                            try simp only [q8r3_30, Act.put, List.setIfInBounds_toArray, List.set_cons_zero, List.set_cons_succ]
                            refine plan_take (o := q8r3_31) (r := p8r3_32) ?vj631 s1 (by rfl) ?hyj631 ?restj631
                            case hyj631 => (intro w _; simp only [q8r3_31]; go_simp; try with_reducible rfl)
                            try simp only [q8r3_31, Act.put, List.setIfInBounds_toArray, List.set_cons_zero, List.set_cons_succ]
                            refine plan_take (o := q8r3_32) (r := p8r3_33) ?vj632 s1 (by rfl) ?hyj632 ?restj632
                            case hyj632 => (intro w hSw; (try dsimp only at hSw); have c0 := hSw.cell E7.out; simp only [q8r3_32]; go_simp; try with_reducible rfl)
                            try simp only [q8r3_32, Act.put, List.setIfInBounds_toArray, List.set_cons_zero, List.set_cons_succ]
                            refine plan_take (o := q8r3_33) (r := p8r3_34) ?vj633 s1 (by rfl) ?hyj633 ?restj633
                            case hyj633 => (intro w _; simp only [q8r3_33]; go_simp; try with_reducible rfl)
                            try simp only [q8r3_33, Act.put, List.setIfInBounds_toArray, List.set_cons_zero, List.set_cons_succ]
                            refine plan_take (o := q8r3_34) (r := p8r3_35) ?vj634 s1 (by rfl) ?hyj634 ?restj634
                            case hyj634 => (intro w _; simp only [q8r3_34]; go_simp; try with_reducible rfl)
                            try simp only [q8r3_34, Act.put, List.setIfInBounds_toArray, List.set_cons_zero, List.set_cons_succ]
                            refine plan_done ?_
                            go_wp2_with fail
                            go_ret
                            exact ⟨Or.inr ⟨fun m => by have := m.c1; omega, rfl⟩, HK.out.trans s1 (fun _ _ x => x)⟩
                          · skip
                            have ee6 : decide (65536 < h.countslen) = false := decide_eq_false (by omega)
                            change (Code.region 3 o8r3 true).wp _ _ _ _
                            refine wp_region_plan (fun w' => Kp (fun _ => False) W w') [] c8r3 p8r3_0 hmix b8r3 d8r3 (fun _ _ d _ _ h => by cases d <;> exact h) ?_
                            refine plan_take (o := q8r3_0) (r := p8r3_1) ?vj70 h0 (by rfl) ?hyj70 ?restj70
                            case hyj70 => (intro w _; simp only [q8r3_0]; go_simp; try with_reducible rfl)
                            try simp only [q8r3_0, Act.put, List.setIfInBounds_toArray, List.set_cons_zero, List.set_cons_succ]
                            refine plan_take (o := q8r3_1) (r := p8r3_2) ?vj71 h0 (by rfl) ?hyj71 ?restj71
                            case hyj71 => (intro w hSw; (try dsimp only at hSw); have c0 := hSw.cell E4.out; simp only [q8r3_1]; go_simp; try with_reducible rfl)
                            try simp only [q8r3_1, Act.put, List.setIfInBounds_toArray, List.set_cons_zero, List.set_cons_succ]
                            refine plan_take (o := q8r3_2) (r := p8r3_3) ?vj72 h0 (by rfl) ?hyj72 ?restj72
                            case hyj72 => (intro w _; simp only [q8r3_2]; go_simp; try with_reducible rfl)
                            try simp only [q8r3_2, Act.put, List.setIfInBounds_toArray, List.set_cons_zero, List.set_cons_succ]
                            refine plan_take (o := q8r3_3) (r := p8r3_4) ?vj73 h0 (by rfl) ?hyj73 ?restj73
                            case hyj73 => (intro w _; simp only [q8r3_3]; go_simp; try with_reducible rfl)
                            try simp only [q8r3_3, Act.put, List.setIfInBounds_toArray, List.set_cons_zero, List.set_cons_succ]
                            refine plan_take (o := q8r3_4) (r := p8r3_5) ?vj74 h0 (by rfl) ?hyj74 ?restj74
                            case hyj74 => (intro w _; simp only [q8r3_4]; go_simp; try with_reducible rfl)
                            try simp only [q8r3_4, Act.put, List.setIfInBounds_toArray, List.set_cons_zero, List.set_cons_succ]
                            refine plan_take (o := q8r3_5) (r := p8r3_6) ?vj75 h0 (by rfl) ?hyj75 ?restj75
                            case hyj75 => (intro w hSw; (try dsimp only at hSw); have c0 := hSw.cell E4.out; simp only [q8r3_5]; go_simp; try with_reducible rfl)
                            try simp only [q8r3_5, Act.put, List.setIfInBounds_toArray, List.set_cons_zero, List.set_cons_succ]
                            refine plan_take (o := q8r3_6) (r := p8r3_7) ?vj76 h0 (by rfl) ?hyj76 ?restj76
                            case hyj76 => (intro w _; simp only [q8r3_6]; go_simp; try with_reducible rfl)
                            try simp only [q8r3_6, Act.put, List.setIfInBounds_toArray, List.set_cons_zero, List.set_cons_succ]
                            refine plan_take (o := q8r3_7) (r := p8r3_8) ?vj77 h0 (by rfl) ?hyj77 ?restj77
                            case hyj77 => (intro w _; simp only [q8r3_7]; go_simp; try with_reducible rfl)
                            try simp only [q8r3_7, Act.put, List.setIfInBounds_toArray, List.set_cons_zero, List.set_cons_succ]
                            refine plan_take (o := q8r3_8) (r := p8r3_9) ?vj78 h0 (by rfl) ?hyj78 ?restj78
                            case hyj78 => (intro w _; simp only [q8r3_8]; go_simp; try with_reducible rfl)
                            try simp only [q8r3_8, Act.put, List.setIfInBounds_toArray, List.set_cons_zero, List.set_cons_succ]
                            refine plan_take (o := q8r3_9) (r := p8r3_10) ?vj79 h0 (by rfl) ?hyj79 ?restj79
                            case hyj79 => (intro w _; simp only [q8r3_9]; go_simp; try with_reducible rfl)
                            try simp only [q8r3_9, Act.put, List.setIfInBounds_toArray, List.set_cons_zero, List.set_cons_succ]
                            refine plan_take (o := q8r3_10) (r := p8r3_11) ?vj710 h0 (by rfl) ?hyj710 ?restj710
                            case hyj710 => (intro w hSw; (try dsimp only at hSw); have c0 := hSw.cell E4.out; simp only [q8r3_10]; go_simp; try with_reducible rfl)
                            try simp only [q8r3_10, Act.put, List.setIfInBounds_toArray, List.set_cons_zero, List.set_cons_succ]
                            refine plan_take (o := q8r3_11) (r := p8r3_12) (.agg h.cs) h0 (by rfl) ?hyj711 ?restj711
                            case hyj711 => exact fun w hSw => exec_load_hd rfl rfl (HB.out.kp hSw (fun x => x))
                            try simp only [q8r3_11, Act.put, List.setIfInBounds_toArray, List.set_cons_zero, List.set_cons_succ]
                            refine plan_act (o := q8r3_12) (r := p8r3_13) (fun K hK => ?_)
                            simp only [q8r3_12]
                            go_simp
                            refine (RT.out _).mono ?_
                            rintro _ w1 ⟨rfl, k1⟩
                            go_wp2_with fail
                            refine hK.out _ _ (fun h => h.trans k1 (fun _ _ x => x)) ?_
                            have s1 : Kp (fun _ => False) W w1 := h0.trans k1 (fun _ _ x => x)
                            clear hK K
                            refine plan_take (o := q8r3_13) (r := p8r3_14) ?vj713 s1 (by rfl) ?hyj713 ?restj713
                            case hyj713 => (intro w _; simp only [q8r3_13]; go_simp; try with_reducible rfl)
                            try simp only [q8r3_13, Act.put, List.setIfInBounds_toArray, List.set_cons_zero, List.set_cons_succ]
                            refine plan_take (o := q8r3_14) (r := p8r3_15) ?vj714 s1 (by rfl) ?hyj714 ?restj714
                            case hyj714 => (intro w _; simp only [q8r3_14]; go_simp; try with_reducible rfl)
                            try simp only [q8r3_14, Act.put, List.setIfInBounds_toArray, List.set_cons_zero, List.set_cons_succ]
                            refine plan_take (o := q8r3_15) (r := p8r3_16) ?vj715 s1 (by rfl) ?hyj715 ?restj715
                            case hyj715 => (intro w _; simp only [q8r3_15]; go_simp; try with_reducible rfl)
                            try simp only [q8r3_15, Act.put, List.setIfInBounds_toArray, List.set_cons_zero, List.set_cons_succ]
                            refine plan_take (o := q8r3_16) (r := p8r3_17) ?vj716 s1 (by rfl) ?hyj716 ?restj716
                            case hyj716 => (intro w _; simp only [q8r3_16]; go_simp; try with_reducible rfl)
                            try simp only [q8r3_16, Act.put, List.setIfInBounds_toArray, List.set_cons_zero, List.set_cons_succ]
                            refine plan_take (o := q8r3_17) (r := p8r3_18) ?vj717 s1 (by rfl) ?hyj717 ?restj717
                            case hyj717 => (intro w hSw; (try dsimp only at hSw); have c0 := hSw.cell E5.out; simp only [q8r3_17]; go_simp; try with_reducible rfl)
                            try simp only [q8r3_17, Act.put, List.setIfInBounds_toArray, List.set_cons_zero, List.set_cons_succ]
                            refine plan_take (o := q8r3_18) (r := p8r3_19) ?vj718 s1 (by rfl) ?hyj718 ?restj718
                            case hyj718 => (intro w _; simp only [q8r3_18]; go_simp; try with_reducible rfl)
                            try simp only [q8r3_18, Act.put, List.setIfInBounds_toArray, List.set_cons_zero, List.set_cons_succ]
                            refine plan_take (o := q8r3_19) (r := p8r3_20) ?vj719 s1 (by rfl) ?hyj719 ?restj719
                            case hyj719 => (intro w _; simp only [q8r3_19]; go_simp; try with_reducible rfl)
                            try simp only [q8r3_19, Act.put, List.setIfInBounds_toArray, List.set_cons_zero, List.set_cons_succ]
                            refine plan_take (o := q8r3_20) (r := p8r3_21) ?vj720 s1 (by rfl) ?hyj720 ?restj720
                            case hyj720 => (intro w _; simp only [q8r3_20]; go_simp; try with_reducible rfl)
                            try simp only [q8r3_20, Act.put, List.setIfInBounds_toArray, List.set_cons_zero, List.set_cons_succ]
                            refine plan_take (o := q8r3_21) (r := p8r3_22) ?vj721 s1 (by rfl) ?hyj721 ?restj721
                            case hyj721 => (intro w _; simp only [q8r3_21]; go_simp; try with_reducible rfl)
                            try simp only [q8r3_21, Act.put, List.setIfInBounds_toArray, List.set_cons_zero, List.set_cons_succ]
                            refine plan_take (o := q8r3_22) (r := p8r3_23) ?vj722 s1 (by rfl) ?hyj722 ?restj722
                            case hyj722 => (intro w hSw; (try dsimp only at hSw); have c0 := hSw.cell E5.out; simp only [q8r3_22]; go_simp; try with_reducible rfl)
                            try simp only [q8r3_22, Act.put, List.setIfInBounds_toArray, List.set_cons_zero, List.set_cons_succ]
                            refine plan_take (o := q8r3_23) (r := p8r3_24) ?vj723 s1 (by rfl) ?hyj723 ?restj723
                            case hyj723 => (intro w _; simp only [q8r3_23]; go_simp; try with_reducible rfl)
                            try simp only [q8r3_23, Act.put, List.setIfInBounds_toArray, List.set_cons_zero, List.set_cons_succ]
                            refine plan_take (o := q8r3_24) (r := p8r3_25) ?vj724 s1 (by rfl) ?hyj724 ?restj724
                            case hyj724 => (intro w _; simp only [q8r3_24]; go_simp; try with_reducible rfl)
                            try simp only [q8r3_24, Act.put, List.setIfInBounds_toArray, List.set_cons_zero, List.set_cons_succ]
                            refine plan_take (o := q8r3_25) (r := p8r3_26) ?vj725 s1 (by rfl) ?hyj725 ?restj725
                            case hyj725 => (intro w _; simp only [q8r3_25]; go_simp; try with_reducible rfl)
                            try simp only [q8r3_25, Act.put, List.setIfInBounds_toArray, List.set_cons_zero, List.set_cons_succ]
                            refine plan_take (o := q8r3_26) (r := p8r3_27) ?vj726 s1 (by rfl) ?hyj726 ?restj726
                            case hyj726 => (intro w _; simp only [q8r3_26]; go_simp; try with_reducible rfl)
                            try simp only [q8r3_26, Act.put, List.setIfInBounds_toArray, List.set_cons_zero, List.set_cons_succ]
                            refine plan_take (o := q8r3_27) (r := p8r3_28) ?vj727 s1 (by rfl) ?hyj727 ?restj727
                            case hyj727 => (intro w hSw; (try dsimp only at hSw); have c0 := hSw.cell E7.out; simp only [q8r3_27]; go_simp; try with_reducible rfl)
                            try simp only [q8r3_27, Act.put, List.setIfInBounds_toArray, List.set_cons_zero, List.set_cons_succ]
                            refine plan_take (o := q8r3_28) (r := p8r3_29) ?vj728 s1 (by rfl) ?hyj728 ?restj728
                            case hyj728 => (intro w _; simp only [q8r3_28]; go_simp; try with_reducible rfl)
                            try simp only [q8r3_28, Act.put, List.setIfInBounds_toArray, List.set_cons_zero, List.set_cons_succ]
                            refine plan_take (o := q8r3_29) (r := p8r3_30) ?vj729 s1 (by rfl) ?hyj729 ?restj729
                            case hyj729 => (intro w _; simp only [q8r3_29]; go_simp; try with_reducible rfl)
                            try simp only [q8r3_29, Act.put, List.setIfInBounds_toArray, List.set_cons_zero, List.set_cons_succ]
                            refine plan_take (o := q8r3_30) (r := p8r3_31) ?vj730 s1 (by rfl) ?hyj730 ?restj730
                            case hyj730 => (intro w _; simp only [q8r3_30]; go_simp; try with_reducible rfl)
                            try simp only [q8r3_30, Act.put, List.setIfInBounds_toArray, List.set_cons_zero, List.set_cons_succ]
                            refine plan_take (o := q8r3_31) (r := p8r3_32) ?vj731 s1 (by rfl) ?hyj731 ?restj731
                            case hyj731 => (intro w _; simp only [q8r3_31]; go_simp; try with_reducible rfl)
                            try simp only [q8r3_31, Act.put, List.setIfInBounds_toArray, List.set_cons_zero, List.set_cons_succ]
                            refine plan_take (o := q8r3_32) (r := p8r3_33) ?vj732 s1 (by rfl) ?hyj732 ?restj732
                            case hyj732 => (intro w hSw; (try dsimp only at hSw); have c0 := hSw.cell E7.out; simp only [q8r3_32]; go_simp; try with_reducible rfl)
                            try simp only [q8r3_32, Act.put, List.setIfInBounds_toArray, List.set_cons_zero, List.set_cons_succ]
                            refine plan_take (o := q8r3_33) (r := p8r3_34) ?vj733 s1 (by rfl) ?hyj733 ?restj733
                            case hyj733 => (intro w _; simp only [q8r3_33]; go_simp; try with_reducible rfl)
                            try simp only [q8r3_33, Act.put, List.setIfInBounds_toArray, List.set_cons_zero, List.set_cons_succ]
                            refine plan_take (o := q8r3_34) (r := p8r3_35) ?vj734 s1 (by rfl) ?hyj734 ?restj734
                            case hyj734 => (intro w _; simp only [q8r3_34]; go_simp; try with_reducible rfl)
                            try simp only [q8r3_34, Act.put, List.setIfInBounds_toArray, List.set_cons_zero, List.set_cons_succ]
                            refine plan_done ?_
                            have y0 := s1.cell E0.out
                            have y3 := s1.cell E3.out
                            have y4 := s1.cell E4.out
                            have y6 := s1.cell E6.out
                            have y8 := s1.cell E8.out
                            have y9 := s1.cell E9.out
                            have y10 := s1.cell E10.out
                            have y11 := s1.cell E11.out
                            have y12 := s1.cell E12.out
                            have y13 := s1.cell E13.out
                            have y14 := s1.cell E14.out
                            have KS := hid s1
                            clear s1 h0 RT k1
                            have HP1 : Hid (May h → (h.l1len = 0 ∧ h.l1 = 0) ∨ (0 < h.l1len ∧ Plc (clu h.bits) h.l1)) := fun m => m.l1
                            by_cases q0 : h.l1len = 0
                            · by_cases q1 : h.l1 = 0
                              · go_wp2_with fail
                                by_cases p2 : Plc (clu h.bits) h.counts
                                · refine (rplace_yes WF.out.counts h9 h16 p2).mono ?_
                                  rintro e wc ⟨rfl, ec⟩
                                  have PP := hid p2
                                  clear p2
                                  go_wp2_with fail
                                  refine (rlist h.snaps h.snapsat h.snapslen h.bits _ WF.out.snapsat h9 h16).mono ?_
                                  rintro e ws ⟨ts, es⟩
                                  obtain ⟨bs, rfl, hbs⟩ := ts.get
                                  have HBS := hid hbs
                                  clear hbs ts
                                  go_wp2_with fail
                                  refine (rlist h.maps h.mapsat h.mapslen h.bits _ WF.out.mapsat h9 h16).mono ?_
                                  rintro e wm ⟨tm2, em⟩
                                  obtain ⟨bm, rfl, hbm⟩ := tm2.get
                                  have HBM := hid hbm
                                  clear hbm tm2
                                  go_wp2_with fail
                                  have hnl : h.name.size ≤ 9223372036854775807 := by have := HN.out; unfold maxLen at this; omega
                                  have HNB : Hid (∀ k (hk : k < h.name.size), h.name.data.toList[k]? = some h.name[k]) := fun k hk => by
                                    have hk2 : k < h.name.data.toList.length := by simpa using hk
                                    rw [List.getElem?_eq_getElem hk2]
                                    rfl
                                  have HMAY : Hid (bs = true → bm = true → h.name.size ≤ 64 → Nn h.name → May h) := fun e1 e2 e3 e4 =>
                                    { b9 := h9, b16 := h16, flags := f1, s0 := z0, s1 := z1, s5 := a5, n0 := by omega, n1 := by omega, n2 := by rw [← HTB.out]; omega, o0 := by omega, o1 := by omega, c0 := by omega, c1 := by omega, l1 := Or.inl ⟨q0, q1⟩, counts := PP.out, snaps := HBS.out.1 e1, maps := HBM.out.1 e2, nn := e4, long := e3 }
                                  have HKW := hid (HK.out.trans KS.out (fun _ _ x => x))
                                  clear ee0 ee1 ee2 ee3 ee4 ee5 ee6 y0 y3 y4 y6 y8 y9 y10 y11 y12 y13
                                  go_loop [5] (fun i => ∃ k : Nat, k ≤ h.name.size ∧ i = .int .i64 k ∧ ∀ j, j < k → h.name.data.toList[j]? ≠ some 0) (fun i => h.name.size - (intOf i).toNat)
                                  case atStart => exact ⟨0, Nat.zero_le _, rfl, fun j hj => absurd hj (by omega)⟩
                                  case round =>
                                    obtain ⟨k, hk, rfl, hall⟩ := hrel
                                    have HALL := hid hall
                                    clear hall
                                    by_cases hkn : k < h.name.size
                                    · have hki : (k : Int) < (h.name.size : Int) := by omega
                                      have hq := HNB.out k hkn
                                      by_cases hz : h.name[k] = 0
                                      · have hz2 : (((h.name[k]).toNat : Int) == 0) = true := by rw [hz]; rfl
                                        have HNN : Hid (¬ May h) := fun m => m.nn 0 (by rw [hz] at hq; exact List.mem_of_getElem? hq) rfl
                                        clear hq hz
                                        go_wp2_with fail
                                        go_ret
                                        exact ⟨Or.inr ⟨HNN.out, rfl⟩, HKW.out⟩
                                      · have hz2 : (((h.name[k]).toNat : Int) == 0) = false := by
                                          have : (h.name[k]).toNat ≠ 0 := fun e => hz (UInt8.toNat_inj.1 e)
                                          simp only [beq_eq_false_iff_ne, ne_eq]
                                          omega
                                        have HAL2 : Hid (∀ j, j < k + 1 → h.name.data.toList[j]? ≠ some 0) := fun j hj => by
                                          by_cases e : j = k
                                          · subst e; rw [hq]; intro e; exact hz (Option.some.inj e)
                                          · exact HALL.out j (by omega)
                                        clear hq hz
                                        go_wp2_with fail
                                        exact ⟨⟨k + 1, by omega, by simp, HAL2.out⟩, by simp only [intOf]; omega⟩
                                    · have hki : ¬ (k : Int) < (h.name.size : Int) := by omega
                                      have HNN : Hid (Nn h.name) := fun b hb => by
                                        obtain ⟨j, hj, rfl⟩ := List.getElem_of_mem hb
                                        intro e
                                        refine HALL.out j ?_ (by rw [List.getElem?_eq_getElem hj, e])
                                        have : j < h.name.size := by simpa using hj
                                        omega
                                      clear hk
                                      by_cases h64 : h.name.size ≤ 64
                                      · have h64i : (h.name.size : Int) ≤ 64 := by omega
                                        cases bs with
                                        | false =>
                                          go_wp2_with fail
                                          go_ret
                                          exact ⟨Or.inr ⟨fun m => (by have := HBS.out.2 m.snaps; cases this), rfl⟩, HKW.out⟩
                                        | true =>
                                          cases bm with
                                          | false =>
                                            go_wp2_with fail
                                            go_ret
                                            exact ⟨Or.inr ⟨fun m => (by have := HBM.out.2 m.maps; cases this), rfl⟩, HKW.out⟩
                                          | true =>
                                            go_wp2_with fail
                                            go_ret
                                            exact ⟨Or.inl ⟨HMAY.out (by trivial) (by trivial) h64 HNN.out, rfl⟩, HKW.out⟩
                                      · have h64i : ¬ (h.name.size : Int) ≤ 64 := by omega
                                        have HLN : Hid (¬ May h) := fun m => h64 m.long
                                        cases bs with
                                        | false =>
                                          go_wp2_with fail
                                          go_ret
                                          exact ⟨Or.inr ⟨HLN.out, rfl⟩, HKW.out⟩
                                        | true =>
                                          cases bm with
                                          | false =>
                                            go_wp2_with fail
                                            go_ret
                                            exact ⟨Or.inr ⟨HLN.out, rfl⟩, HKW.out⟩
                                          | true =>
                                            go_wp2_with fail
                                            go_ret
                                            exact ⟨Or.inr ⟨HLN.out, rfl⟩, HKW.out⟩
                                · refine (rplace_no WF.out.counts h9 h16 p2).mono ?_
                                  rintro e wc ⟨rfl, ec⟩
                                  have PP := hid p2
                                  clear p2
                                  go_wp2_with fail
                                  go_ret
                                  exact ⟨Or.inr ⟨fun m => PP.out m.counts, rfl⟩, HK.out.trans KS.out (fun _ _ x => x)⟩
                              · go_wp2_with fail
                                go_ret
                                exact ⟨Or.inr ⟨fun m => (by rcases HP1.out m with ⟨_, e⟩ | ⟨e, _⟩ <;> omega), rfl⟩, HK.out.trans KS.out (fun _ _ x => x)⟩
                            · go_wp2_with fail
                              by_cases p1 : Plc (clu h.bits) h.l1
                              · refine (rplace_yes WF.out.l1 h9 h16 p1).mono ?_
                                rintro e wl ⟨rfl, el⟩
                                have P1 := hid p1
                                clear p1
                                go_wp2_with fail
                                by_cases p2 : Plc (clu h.bits) h.counts
                                · refine (rplace_yes WF.out.counts h9 h16 p2).mono ?_
                                  rintro e wc ⟨rfl, ec⟩
                                  have PP := hid p2
                                  clear p2
                                  go_wp2_with fail
                                  refine (rlist h.snaps h.snapsat h.snapslen h.bits _ WF.out.snapsat h9 h16).mono ?_
                                  rintro e ws ⟨ts, es⟩
                                  obtain ⟨bs, rfl, hbs⟩ := ts.get
                                  have HBS := hid hbs
                                  clear hbs ts
                                  go_wp2_with fail
                                  refine (rlist h.maps h.mapsat h.mapslen h.bits _ WF.out.mapsat h9 h16).mono ?_
                                  rintro e wm ⟨tm2, em⟩
                                  obtain ⟨bm, rfl, hbm⟩ := tm2.get
                                  have HBM := hid hbm
                                  clear hbm tm2
                                  go_wp2_with fail
                                  have hnl : h.name.size ≤ 9223372036854775807 := by have := HN.out; unfold maxLen at this; omega
                                  have HNB : Hid (∀ k (hk : k < h.name.size), h.name.data.toList[k]? = some h.name[k]) := fun k hk => by
                                    have hk2 : k < h.name.data.toList.length := by simpa using hk
                                    rw [List.getElem?_eq_getElem hk2]
                                    rfl
                                  have HMAY : Hid (bs = true → bm = true → h.name.size ≤ 64 → Nn h.name → May h) := fun e1 e2 e3 e4 =>
                                    { b9 := h9, b16 := h16, flags := f1, s0 := z0, s1 := z1, s5 := a5, n0 := by omega, n1 := by omega, n2 := by rw [← HTB.out]; omega, o0 := by omega, o1 := by omega, c0 := by omega, c1 := by omega, l1 := Or.inr ⟨by omega, P1.out⟩, counts := PP.out, snaps := HBS.out.1 e1, maps := HBM.out.1 e2, nn := e4, long := e3 }
                                  have HKW := hid (HK.out.trans KS.out (fun _ _ x => x))
                                  clear ee0 ee1 ee2 ee3 ee4 ee5 ee6 y0 y3 y4 y6 y8 y9 y10 y11 y12 y13
                                  go_loop [5] (fun i => ∃ k : Nat, k ≤ h.name.size ∧ i = .int .i64 k ∧ ∀ j, j < k → h.name.data.toList[j]? ≠ some 0) (fun i => h.name.size - (intOf i).toNat)
                                  case atStart => exact ⟨0, Nat.zero_le _, rfl, fun j hj => absurd hj (by omega)⟩
                                  case round =>
                                    obtain ⟨k, hk, rfl, hall⟩ := hrel
                                    have HALL := hid hall
                                    clear hall
                                    by_cases hkn : k < h.name.size
                                    · have hki : (k : Int) < (h.name.size : Int) := by omega
                                      have hq := HNB.out k hkn
                                      by_cases hz : h.name[k] = 0
                                      · have hz2 : (((h.name[k]).toNat : Int) == 0) = true := by rw [hz]; rfl
                                        have HNN : Hid (¬ May h) := fun m => m.nn 0 (by rw [hz] at hq; exact List.mem_of_getElem? hq) rfl
                                        clear hq hz
                                        go_wp2_with fail
                                        go_ret
                                        exact ⟨Or.inr ⟨HNN.out, rfl⟩, HKW.out⟩
                                      · have hz2 : (((h.name[k]).toNat : Int) == 0) = false := by
                                          have : (h.name[k]).toNat ≠ 0 := fun e => hz (UInt8.toNat_inj.1 e)
                                          simp only [beq_eq_false_iff_ne, ne_eq]
                                          omega
                                        have HAL2 : Hid (∀ j, j < k + 1 → h.name.data.toList[j]? ≠ some 0) := fun j hj => by
                                          by_cases e : j = k
                                          · subst e; rw [hq]; intro e; exact hz (Option.some.inj e)
                                          · exact HALL.out j (by omega)
                                        clear hq hz
                                        go_wp2_with fail
                                        exact ⟨⟨k + 1, by omega, by simp, HAL2.out⟩, by simp only [intOf]; omega⟩
                                    · have hki : ¬ (k : Int) < (h.name.size : Int) := by omega
                                      have HNN : Hid (Nn h.name) := fun b hb => by
                                        obtain ⟨j, hj, rfl⟩ := List.getElem_of_mem hb
                                        intro e
                                        refine HALL.out j ?_ (by rw [List.getElem?_eq_getElem hj, e])
                                        have : j < h.name.size := by simpa using hj
                                        omega
                                      clear hk
                                      by_cases h64 : h.name.size ≤ 64
                                      · have h64i : (h.name.size : Int) ≤ 64 := by omega
                                        cases bs with
                                        | false =>
                                          go_wp2_with fail
                                          go_ret
                                          exact ⟨Or.inr ⟨fun m => (by have := HBS.out.2 m.snaps; cases this), rfl⟩, HKW.out⟩
                                        | true =>
                                          cases bm with
                                          | false =>
                                            go_wp2_with fail
                                            go_ret
                                            exact ⟨Or.inr ⟨fun m => (by have := HBM.out.2 m.maps; cases this), rfl⟩, HKW.out⟩
                                          | true =>
                                            go_wp2_with fail
                                            go_ret
                                            exact ⟨Or.inl ⟨HMAY.out (by trivial) (by trivial) h64 HNN.out, rfl⟩, HKW.out⟩
                                      · have h64i : ¬ (h.name.size : Int) ≤ 64 := by omega
                                        have HLN : Hid (¬ May h) := fun m => h64 m.long
                                        cases bs with
                                        | false =>
                                          go_wp2_with fail
                                          go_ret
                                          exact ⟨Or.inr ⟨HLN.out, rfl⟩, HKW.out⟩
                                        | true =>
                                          cases bm with
                                          | false =>
                                            go_wp2_with fail
                                            go_ret
                                            exact ⟨Or.inr ⟨HLN.out, rfl⟩, HKW.out⟩
                                          | true =>
                                            go_wp2_with fail
                                            go_ret
                                            exact ⟨Or.inr ⟨HLN.out, rfl⟩, HKW.out⟩
                                · refine (rplace_no WF.out.counts h9 h16 p2).mono ?_
                                  rintro e wc ⟨rfl, ec⟩
                                  have PP := hid p2
                                  clear p2
                                  go_wp2_with fail
                                  go_ret
                                  exact ⟨Or.inr ⟨fun m => PP.out m.counts, rfl⟩, HK.out.trans KS.out (fun _ _ x => x)⟩
                              · refine (rplace_no WF.out.l1 h9 h16 p1).mono ?_
                                rintro e wl ⟨rfl, el⟩
                                have P1 := hid p1
                                clear p1
                                go_wp2_with fail
                                go_ret
                                exact ⟨Or.inr ⟨fun m => (by rcases HP1.out m with ⟨e, _⟩ | ⟨_, e⟩; omega; exact P1.out e), rfl⟩, HK.out.trans KS.out (fun _ _ x => x)⟩
            · go_wp2_with fail
              go_ret
              exact ⟨Or.inr ⟨fun m => by have := m.s5; omega, rfl⟩, HK.out⟩
end Go.Proofs.Ytejdmnhdjeogaaa
