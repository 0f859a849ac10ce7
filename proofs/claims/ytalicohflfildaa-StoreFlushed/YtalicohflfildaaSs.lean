/- file.same, of files that read the same and have no pieces. -/
import Derived.Test.YtalicohflfildaaWi
import Derived.Test.YtalicohflfildaaSq
import Derived.Test.YtalicohflfildaaRg
namespace Go.Proofs.Ytalicohflfildaa
open Go.RowKit

set_option maxRecDepth 100000 in
set_option maxHeartbeats 1000000 in
theorem equalf0 (pa qa : Option Addr) (pc qc : Nat) (f : Value) (w : World) : Calls Try.prog 58 #[.slice pa 0 pc, .slice qa 0 qc, f] w fun e w' => e = .returned (.bool true) ∧ w' = w := by
  go_enter Try.func58, Try.ntmps58
  go_wp2_with fail
  go_loopw [7, 8, 9, 17] (fun _ _ _ iv wr => iv = .int .i64 0 ∧ wr = w) (fun _ _ _ _ _ => 0)
  case atStart => exact ⟨rfl, rfl⟩
  case round =>
    obtain ⟨rfl, rfl⟩ := hrel
    go_wp2
    go_ret
    exact ⟨rfl, rfl⟩
set_option maxRecDepth 100000 in
set_option maxHeartbeats 1000000 in
theorem same57 (D : Nat → Prop) (w : World) (m m' : Nat) (L : Nat → Int) (es es' : List (Int × Value × Nat)) (c c' : Nat) (h : Sm D w m L zero es c) (h' : Sm D w m' L zero es' c') :
    Calls Try.prog 57 #[.map (some m), .map (some m')] w fun e w' => e = .returned (.bool true) ∧ Kp (fun _ => False) w w' := by
  have H1 : Hid (Sm D w m L zero es c) := h
  have H2 : Hid (Sm D w m' L zero es' c') := h'
  clear h h'
  go_enter Try.func57, Try.ntmps57
  go_wp2_with fail
  refine (within_any D w m m' L es es' c c' H1.out H2.out).mono ?_
  rintro e w1 ⟨rfl, k1⟩
  have K1 : Hid (Kp (fun _ => False) w w1) := k1
  clear k1
  go_wp2_with fail
  refine (within_any D w1 m' m L es' es c' c (H2.out.kp K1.out (fun h => h) (fun _ _ h => h)) (H1.out.kp K1.out (fun h => h) (fun _ _ h => h))).mono ?_
  rintro e w2 ⟨rfl, k2⟩
  have K2 : Hid (Kp (fun _ => False) w1 w2) := k2
  clear k2
  go_wp2_with fail
  go_ret
  exact ⟨rfl, K1.out.trans K2.out (fun _ _ h => h)⟩
set_option maxRecDepth 100000 in
set_option maxHeartbeats 8000000 in
theorem fsame_any (D : Nat → Prop) (w : World) (a a' : Fa) (sz : Nat) (L : Nat → Int) (h : Fr D w a sz L []) (h' : Fr D w a' sz L []) :
    Calls Try.prog 40 #[.pointer (some ⟨a.fb, 0, none⟩), .pointer (some ⟨a'.fb, 0, none⟩)] w fun e w' => e = .returned (.bool true) ∧ Kp (fun _ => False) w w' := by
  obtain ⟨es, c, hm⟩ := h.la
  obtain ⟨es', c', hm'⟩ := h'.la
  obtain ⟨vs, hp⟩ := h.pc
  obtain ⟨vs', hp'⟩ := h'.pc
  obtain ⟨pa, pc, e1⟩ := ownsRow_shape hp.row
  obtain ⟨qa, qc, e2⟩ := ownsRow_shape hp'.row
  have HS : Hid (St 70 w a.fb #[.int .i64 sz, .map (some a.lm), .map (some a.om), .slice pa 0 pc]) := by have := h.st; rw [e1] at this; exact this
  have HS' : Hid (St 70 w a'.fb #[.int .i64 sz, .map (some a'.lm), .map (some a'.om), .slice qa 0 qc]) := by have := h'.st; rw [e2] at this; exact this
  have c0 : w.cell? ⟨a.fb, 0, none⟩ = some (.int .i64 sz) := HS.out.cell 0
  have c1 : w.cell? ⟨a.fb, 1, none⟩ = some (.map (some a.lm)) := HS.out.cell 1
  have c3 : w.cell? ⟨a.fb, 3, none⟩ = some (.slice pa 0 pc) := HS.out.cell 3
  have d3 : w.cell? ⟨a'.fb, 3, none⟩ = some (.slice qa 0 qc) := HS'.out.cell 3
  have d0 : w.cell? ⟨a'.fb, 0, none⟩ = some (.int .i64 sz) := HS'.out.cell 0
  have d1 : w.cell? ⟨a'.fb, 1, none⟩ = some (.map (some a'.lm)) := HS'.out.cell 1
  have HM : Hid (Sm D w a.lm L zero es c) := hm
  have HM' : Hid (Sm D w a'.lm L zero es' c') := hm'
  clear h h' hm hm' hp hp' e1 e2
  generalize a.fb = fb at *
  generalize a'.fb = fb' at *
  generalize a.lm = lm at *
  generalize a'.lm = lm' at *
  generalize a.om = om at *
  generalize a'.om = om' at *
  go_enter Try.func40, Try.ntmps40
  go_wp2_with fail
  have hmix : Try.prog.follows .mixedOrders = true := by kernel_rfl
  refine wp_region_G (fun w' => (w'.cell? ⟨fb, 0, none⟩ = some (.int .i64 sz) ∧ w'.cell? ⟨fb, 1, none⟩ = some (.map (some lm)) ∧ w'.cell? ⟨fb, 3, none⟩ = some (.slice pa 0 pc)) ∧ (w'.cell? ⟨fb', 0, none⟩ = some (.int .i64 sz) ∧ w'.cell? ⟨fb', 1, none⟩ = some (.map (some lm')) ∧ w'.cell? ⟨fb', 3, none⟩ = some (.slice qa 0 qc))) [] hmix ⟨⟨c0, c1, c3⟩, d0, d1, d3⟩ (fun h0 => ?_)
  refine wpAnyG_takeW (i := 0) (oi := { dst := some 5, op := Op.move (Operand.tmp 0), type := 65, pos := "file.go:126", after := #[], guard := none }) (v := .pointer (some ⟨fb, 0, none⟩)) rfl (by kernel_rfl) (fun _ _ _ h => h) (Or.inl ⟨by rfl, fun w _ => by go_simp⟩) ?_
  simp only [Act.put, List.setIfInBounds_toArray, List.set_cons_zero, List.set_cons_succ]
  refine wpAnyG_takeW (i := 1) (oi := { dst := some 6, op := Op.nilCheck (Operand.tmp 5), type := 0, pos := "file.go:126", after := #[{ on := 0, ground := Ground.data }], guard := none }) (v := .pointer (some ⟨fb, 0, none⟩)) rfl (by kernel_rfl) (fun _ _ _ h => h) (Or.inl ⟨by rfl, fun w _ => by go_simp⟩) ?_
  simp only [Act.put, List.setIfInBounds_toArray, List.set_cons_zero, List.set_cons_succ]
  refine wpAnyG_takeW (i := 2) (oi := { dst := some 7, op := Op.fieldAddr 70 (Operand.tmp 6) 0, type := 0, pos := "file.go:126", after := #[{ on := 1, ground := Ground.data }], guard := none }) (v := .pointer (some ⟨fb, 0, none⟩)) rfl (by kernel_rfl) (fun _ _ _ h => h) (Or.inl ⟨by rfl, fun w _ => by go_simp⟩) ?_
  simp only [Act.put, List.setIfInBounds_toArray, List.set_cons_zero, List.set_cons_succ]
  refine wpAnyG_take (i := 3) (oi := { dst := some 8, op := Op.load 2 (Operand.tmp 7), type := 2, pos := "file.go:126", after := #[{ on := 2, ground := Ground.data }], guard := none }) (v := .int .i64 sz) rfl (by kernel_rfl) (fun _ _ _ h => h) (Or.inl ⟨by rfl, fun w hSw => by (try dsimp only at hSw); go_simp⟩) h0 ?_
  simp only [Act.put, List.setIfInBounds_toArray, List.set_cons_zero, List.set_cons_succ]
  refine wpAnyG_takeW (i := 4) (oi := { dst := some 9, op := Op.move (Operand.tmp 1), type := 65, pos := "file.go:126", after := #[], guard := none }) (v := .pointer (some ⟨fb', 0, none⟩)) rfl (by kernel_rfl) (fun _ _ _ h => h) (Or.inl ⟨by rfl, fun w _ => by go_simp⟩) ?_
  simp only [Act.put, List.setIfInBounds_toArray, List.set_cons_zero, List.set_cons_succ]
  refine wpAnyG_takeW (i := 5) (oi := { dst := some 10, op := Op.nilCheck (Operand.tmp 9), type := 0, pos := "file.go:126", after := #[{ on := 4, ground := Ground.data }], guard := none }) (v := .pointer (some ⟨fb', 0, none⟩)) rfl (by kernel_rfl) (fun _ _ _ h => h) (Or.inl ⟨by rfl, fun w _ => by go_simp⟩) ?_
  simp only [Act.put, List.setIfInBounds_toArray, List.set_cons_zero, List.set_cons_succ]
  refine wpAnyG_takeW (i := 6) (oi := { dst := some 11, op := Op.fieldAddr 70 (Operand.tmp 10) 0, type := 0, pos := "file.go:126", after := #[{ on := 5, ground := Ground.data }], guard := none }) (v := .pointer (some ⟨fb', 0, none⟩)) rfl (by kernel_rfl) (fun _ _ _ h => h) (Or.inl ⟨by rfl, fun w _ => by go_simp⟩) ?_
  simp only [Act.put, List.setIfInBounds_toArray, List.set_cons_zero, List.set_cons_succ]
  refine wpAnyG_take (i := 7) (oi := { dst := some 12, op := Op.load 2 (Operand.tmp 11), type := 2, pos := "file.go:126", after := #[{ on := 6, ground := Ground.data }], guard := none }) (v := .int .i64 sz) rfl (by kernel_rfl) (fun _ _ _ h => h) (Or.inl ⟨by rfl, fun w hSw => by (try dsimp only at hSw); go_simp⟩) h0 ?_
  simp only [Act.put, List.setIfInBounds_toArray, List.set_cons_zero, List.set_cons_succ]
  refine wpAnyG_takeW (i := 8) (oi := { dst := some 13, op := Op.binOp BinOp.eql 2 (Operand.tmp 8) (Operand.tmp 12) 2, type := 4, pos := "file.go:126", after := #[{ on := 3, ground := Ground.data }, { on := 7, ground := Ground.data }], guard := none }) (v := .bool true) rfl (by kernel_rfl) (fun _ _ _ h => h) (Or.inl ⟨by rfl, fun w _ => by go_simp⟩) ?_
  simp only [Act.put, List.setIfInBounds_toArray, List.set_cons_zero, List.set_cons_succ]
  refine wpAnyG_takeW (i := 9) (oi := { dst := some 14, op := Op.move (Operand.tmp 13), type := 4, pos := "file.go:126", after := #[{ on := 8, ground := Ground.data }], guard := none }) (v := .bool true) rfl (by kernel_rfl) (fun _ _ _ h => h) (Or.inl ⟨by rfl, fun w _ => by go_simp⟩) ?_
  simp only [Act.put, List.setIfInBounds_toArray, List.set_cons_zero, List.set_cons_succ]
  refine wpAnyG_takeW (i := 10) (oi := { dst := some 15, op := Op.move (Operand.tmp 0), type := 65, pos := "file.go:126", after := #[{ on := 9, ground := Ground.guard }], guard := some (9, true) }) (v := .pointer (some ⟨fb, 0, none⟩)) rfl (by kernel_rfl) (fun _ _ _ h => h) (Or.inl ⟨by rfl, fun w _ => by go_simp⟩) ?_
  simp only [Act.put, List.setIfInBounds_toArray, List.set_cons_zero, List.set_cons_succ]
  refine wpAnyG_takeW (i := 11) (oi := { dst := some 16, op := Op.nilCheck (Operand.tmp 15), type := 0, pos := "file.go:126", after := #[{ on := 10, ground := Ground.data }, { on := 9, ground := Ground.guard }], guard := some (9, true) }) (v := .pointer (some ⟨fb, 0, none⟩)) rfl (by kernel_rfl) (fun _ _ _ h => h) (Or.inl ⟨by rfl, fun w _ => by go_simp⟩) ?_
  simp only [Act.put, List.setIfInBounds_toArray, List.set_cons_zero, List.set_cons_succ]
  refine wpAnyG_takeW (i := 12) (oi := { dst := some 17, op := Op.fieldAddr 70 (Operand.tmp 16) 1, type := 0, pos := "file.go:126", after := #[{ on := 11, ground := Ground.data }, { on := 9, ground := Ground.guard }], guard := some (9, true) }) (v := .pointer (some ⟨fb, 1, none⟩)) rfl (by kernel_rfl) (fun _ _ _ h => h) (Or.inl ⟨by rfl, fun w _ => by go_simp⟩) ?_
  simp only [Act.put, List.setIfInBounds_toArray, List.set_cons_zero, List.set_cons_succ]
  refine wpAnyG_take (i := 13) (oi := { dst := some 18, op := Op.load 67 (Operand.tmp 17), type := 67, pos := "file.go:126", after := #[{ on := 12, ground := Ground.data }, { on := 9, ground := Ground.guard }], guard := some (9, true) }) (v := .map (some lm)) rfl (by kernel_rfl) (fun _ _ _ h => h) (Or.inl ⟨by rfl, fun w hSw => by (try dsimp only at hSw); go_simp⟩) h0 ?_
  simp only [Act.put, List.setIfInBounds_toArray, List.set_cons_zero, List.set_cons_succ]
  refine wpAnyG_takeW (i := 14) (oi := { dst := some 19, op := Op.move (Operand.tmp 1), type := 65, pos := "file.go:126", after := #[{ on := 9, ground := Ground.guard }], guard := some (9, true) }) (v := .pointer (some ⟨fb', 0, none⟩)) rfl (by kernel_rfl) (fun _ _ _ h => h) (Or.inl ⟨by rfl, fun w _ => by go_simp⟩) ?_
  simp only [Act.put, List.setIfInBounds_toArray, List.set_cons_zero, List.set_cons_succ]
  refine wpAnyG_takeW (i := 15) (oi := { dst := some 20, op := Op.nilCheck (Operand.tmp 19), type := 0, pos := "file.go:126", after := #[{ on := 14, ground := Ground.data }, { on := 9, ground := Ground.guard }], guard := some (9, true) }) (v := .pointer (some ⟨fb', 0, none⟩)) rfl (by kernel_rfl) (fun _ _ _ h => h) (Or.inl ⟨by rfl, fun w _ => by go_simp⟩) ?_
  simp only [Act.put, List.setIfInBounds_toArray, List.set_cons_zero, List.set_cons_succ]
  refine wpAnyG_takeW (i := 16) (oi := { dst := some 21, op := Op.fieldAddr 70 (Operand.tmp 20) 1, type := 0, pos := "file.go:126", after := #[{ on := 15, ground := Ground.data }, { on := 9, ground := Ground.guard }], guard := some (9, true) }) (v := .pointer (some ⟨fb', 1, none⟩)) rfl (by kernel_rfl) (fun _ _ _ h => h) (Or.inl ⟨by rfl, fun w _ => by go_simp⟩) ?_
  simp only [Act.put, List.setIfInBounds_toArray, List.set_cons_zero, List.set_cons_succ]
  refine wpAnyG_take (i := 17) (oi := { dst := some 22, op := Op.load 67 (Operand.tmp 21), type := 67, pos := "file.go:126", after := #[{ on := 16, ground := Ground.data }, { on := 9, ground := Ground.guard }], guard := some (9, true) }) (v := .map (some lm')) rfl (by kernel_rfl) (fun _ _ _ h => h) (Or.inl ⟨by rfl, fun w hSw => by (try dsimp only at hSw); go_simp⟩) h0 ?_
  simp only [Act.put, List.setIfInBounds_toArray, List.set_cons_zero, List.set_cons_succ]
  refine wpAnyG_one (i := 18) (by kernel_rfl) rfl (fun K hK => ?_)
  go_simp
  refine (same57 D _ lm lm' L es es' c c' (HM.out.kp (Kp.refl (fun _ => False) w).drew (fun h => h) (fun _ _ h => h)) (HM'.out.kp (Kp.refl (fun _ => False) w).drew (fun h => h) (fun _ _ h => h))).mono ?_
  rintro e w1 ⟨rfl, k1⟩
  have k01 : Kp (fun _ => False) w w1 := ((Kp.refl (fun _ => False) w).drew).trans k1 (fun _ _ h => h)
  have c0' : w1.cell? ⟨fb, 0, none⟩ = some (.int .i64 sz) := (HS.out.kp k01 (fun h => h)).cell 0
  have c1' : w1.cell? ⟨fb, 1, none⟩ = some (.map (some lm)) := (HS.out.kp k01 (fun h => h)).cell 1
  have c3' : w1.cell? ⟨fb, 3, none⟩ = some (.slice pa 0 pc) := (HS.out.kp k01 (fun h => h)).cell 3
  have d0' : w1.cell? ⟨fb', 0, none⟩ = some (.int .i64 sz) := (HS'.out.kp k01 (fun h => h)).cell 0
  have d1' : w1.cell? ⟨fb', 1, none⟩ = some (.map (some lm')) := (HS'.out.kp k01 (fun h => h)).cell 1
  have d3' : w1.cell? ⟨fb', 3, none⟩ = some (.slice qa 0 qc) := (HS'.out.kp k01 (fun h => h)).cell 3
  have K1 : Hid (Kp (fun _ => False) w w1) := k01
  clear k1 k01
  go_wp2_with fail
  refine hK.out _ _ (fun _ _ => ⟨⟨c0', c1', c3'⟩, d0', d1', d3'⟩) ?_
  clear hK K
  have h1 : (fun w' => (w'.cell? ⟨fb, 0, none⟩ = some (.int .i64 sz) ∧ w'.cell? ⟨fb, 1, none⟩ = some (.map (some lm)) ∧ w'.cell? ⟨fb, 3, none⟩ = some (.slice pa 0 pc)) ∧ (w'.cell? ⟨fb', 0, none⟩ = some (.int .i64 sz) ∧ w'.cell? ⟨fb', 1, none⟩ = some (.map (some lm')) ∧ w'.cell? ⟨fb', 3, none⟩ = some (.slice qa 0 qc))) w1 := ⟨⟨c0', c1', c3'⟩, d0', d1', d3'⟩
  refine wpAnyG_takeW (i := 19) (oi := { dst := some 24, op := Op.pick (Operand.tmp 14) (Operand.tmp 23) (Operand.const (Value.bool false)), type := 4, pos := "file.go:126", after := #[{ on := 9, ground := Ground.data }, { on := 18, ground := Ground.data }], guard := none }) (v := .bool true) rfl (by kernel_rfl) (fun _ _ _ h => h) (Or.inl ⟨by rfl, fun w _ => by go_simp⟩) ?_
  simp only [Act.put, List.setIfInBounds_toArray, List.set_cons_zero, List.set_cons_succ]
  refine wpAnyG_takeW (i := 20) (oi := { dst := some 25, op := Op.move (Operand.tmp 24), type := 4, pos := "file.go:126", after := #[{ on := 19, ground := Ground.data }, { on := 18, ground := Ground.chain }], guard := none }) (v := .bool true) rfl (by kernel_rfl) (fun _ _ _ h => h) (Or.inl ⟨by rfl, fun w _ => by go_simp⟩) ?_
  simp only [Act.put, List.setIfInBounds_toArray, List.set_cons_zero, List.set_cons_succ]
  refine wpAnyG_takeW (i := 21) (oi := { dst := some 26, op := Op.move (Operand.tmp 0), type := 65, pos := "file.go:126", after := #[{ on := 20, ground := Ground.guard }], guard := some (20, true) }) (v := .pointer (some ⟨fb, 0, none⟩)) rfl (by kernel_rfl) (fun _ _ _ h => h) (Or.inl ⟨by rfl, fun w _ => by go_simp⟩) ?_
  simp only [Act.put, List.setIfInBounds_toArray, List.set_cons_zero, List.set_cons_succ]
  refine wpAnyG_takeW (i := 22) (oi := { dst := some 27, op := Op.nilCheck (Operand.tmp 26), type := 0, pos := "file.go:126", after := #[{ on := 21, ground := Ground.data }, { on := 20, ground := Ground.guard }], guard := some (20, true) }) (v := .pointer (some ⟨fb, 0, none⟩)) rfl (by kernel_rfl) (fun _ _ _ h => h) (Or.inl ⟨by rfl, fun w _ => by go_simp⟩) ?_
  simp only [Act.put, List.setIfInBounds_toArray, List.set_cons_zero, List.set_cons_succ]
  refine wpAnyG_takeW (i := 23) (oi := { dst := some 28, op := Op.fieldAddr 70 (Operand.tmp 27) 3, type := 0, pos := "file.go:126", after := #[{ on := 22, ground := Ground.data }, { on := 20, ground := Ground.guard }], guard := some (20, true) }) (v := .pointer (some ⟨fb, 3, none⟩)) rfl (by kernel_rfl) (fun _ _ _ h => h) (Or.inl ⟨by rfl, fun w _ => by go_simp⟩) ?_
  simp only [Act.put, List.setIfInBounds_toArray, List.set_cons_zero, List.set_cons_succ]
  refine wpAnyG_take (i := 24) (oi := { dst := some 29, op := Op.load 68 (Operand.tmp 28), type := 68, pos := "file.go:126", after := #[{ on := 23, ground := Ground.data }, { on := 20, ground := Ground.guard }], guard := some (20, true) }) (v := .slice pa 0 pc) rfl (by kernel_rfl) (fun _ _ _ h => h) (Or.inl ⟨by rfl, fun w hSw => by (try dsimp only at hSw); go_simp⟩) h1 ?_
  simp only [Act.put, List.setIfInBounds_toArray, List.set_cons_zero, List.set_cons_succ]
  refine wpAnyG_takeW (i := 25) (oi := { dst := some 30, op := Op.move (Operand.tmp 1), type := 65, pos := "file.go:126", after := #[{ on := 20, ground := Ground.guard }], guard := some (20, true) }) (v := .pointer (some ⟨fb', 0, none⟩)) rfl (by kernel_rfl) (fun _ _ _ h => h) (Or.inl ⟨by rfl, fun w _ => by go_simp⟩) ?_
  simp only [Act.put, List.setIfInBounds_toArray, List.set_cons_zero, List.set_cons_succ]
  refine wpAnyG_takeW (i := 26) (oi := { dst := some 31, op := Op.nilCheck (Operand.tmp 30), type := 0, pos := "file.go:126", after := #[{ on := 25, ground := Ground.data }, { on := 20, ground := Ground.guard }], guard := some (20, true) }) (v := .pointer (some ⟨fb', 0, none⟩)) rfl (by kernel_rfl) (fun _ _ _ h => h) (Or.inl ⟨by rfl, fun w _ => by go_simp⟩) ?_
  simp only [Act.put, List.setIfInBounds_toArray, List.set_cons_zero, List.set_cons_succ]
  refine wpAnyG_takeW (i := 27) (oi := { dst := some 32, op := Op.fieldAddr 70 (Operand.tmp 31) 3, type := 0, pos := "file.go:126", after := #[{ on := 26, ground := Ground.data }, { on := 20, ground := Ground.guard }], guard := some (20, true) }) (v := .pointer (some ⟨fb', 3, none⟩)) rfl (by kernel_rfl) (fun _ _ _ h => h) (Or.inl ⟨by rfl, fun w _ => by go_simp⟩) ?_
  simp only [Act.put, List.setIfInBounds_toArray, List.set_cons_zero, List.set_cons_succ]
  refine wpAnyG_take (i := 28) (oi := { dst := some 33, op := Op.load 68 (Operand.tmp 32), type := 68, pos := "file.go:126", after := #[{ on := 27, ground := Ground.data }, { on := 20, ground := Ground.guard }], guard := some (20, true) }) (v := .slice qa 0 qc) rfl (by kernel_rfl) (fun _ _ _ h => h) (Or.inl ⟨by rfl, fun w hSw => by (try dsimp only at hSw); go_simp⟩) h1 ?_
  simp only [Act.put, List.setIfInBounds_toArray, List.set_cons_zero, List.set_cons_succ]
  refine wpAnyG_one (i := 29) (by kernel_rfl) rfl (fun K hK => ?_)
  go_simp
  refine (equalf0 pa qa pc qc _ _).mono ?_
  rintro e w2 ⟨rfl, h2⟩
  have k2 : Kp (fun _ => False) w1 w2 := by rw [h2]; exact Kp.refl _ _
  clear h2
  have K2 : Hid (Kp (fun _ => False) w w2) := K1.out.trans k2 (fun _ _ h => h)
  go_wp2_with fail
  refine hK.out _ _ (fun _ _ => ⟨⟨(HS.out.kp K2.out (fun h => h)).cell 0, (HS.out.kp K2.out (fun h => h)).cell 1, (HS.out.kp K2.out (fun h => h)).cell 3⟩, (HS'.out.kp K2.out (fun h => h)).cell 0, (HS'.out.kp K2.out (fun h => h)).cell 1, (HS'.out.kp K2.out (fun h => h)).cell 3⟩) ?_
  clear hK K k2
  refine wpAnyG_takeW (i := 30) (oi := { dst := some 35, op := Op.pick (Operand.tmp 25) (Operand.tmp 34) (Operand.const (Value.bool false)), type := 4, pos := "file.go:126", after := #[{ on := 20, ground := Ground.data }, { on := 29, ground := Ground.data }], guard := none }) (v := .bool true) rfl (by kernel_rfl) (fun _ _ _ h => h) (Or.inl ⟨by rfl, fun w _ => by go_simp⟩) ?_
  simp only [Act.put, List.setIfInBounds_toArray, List.set_cons_zero, List.set_cons_succ]
  refine wpAnyG_takeW (i := 31) (oi := { dst := some 4, op := Op.assign (Operand.tmp 35), type := 4, pos := "file.go:126", after := #[{ on := 30, ground := Ground.data }, { on := 29, ground := Ground.chain }, { on := 0, ground := Ground.phase }, { on := 1, ground := Ground.phase }, { on := 2, ground := Ground.phase }, { on := 3, ground := Ground.phase }, { on := 4, ground := Ground.phase }, { on := 5, ground := Ground.phase }, { on := 6, ground := Ground.phase }, { on := 7, ground := Ground.phase }, { on := 8, ground := Ground.phase }, { on := 9, ground := Ground.phase }, { on := 10, ground := Ground.phase }, { on := 11, ground := Ground.phase }, { on := 12, ground := Ground.phase }, { on := 13, ground := Ground.phase }, { on := 14, ground := Ground.phase }, { on := 15, ground := Ground.phase }, { on := 16, ground := Ground.phase }, { on := 17, ground := Ground.phase }, { on := 18, ground := Ground.phase }, { on := 19, ground := Ground.phase }, { on := 20, ground := Ground.phase }, { on := 21, ground := Ground.phase }, { on := 22, ground := Ground.phase }, { on := 23, ground := Ground.phase }, { on := 24, ground := Ground.phase }, { on := 25, ground := Ground.phase }, { on := 26, ground := Ground.phase }, { on := 27, ground := Ground.phase }, { on := 28, ground := Ground.phase }, { on := 29, ground := Ground.phase }, { on := 30, ground := Ground.phase }], guard := none }) (v := .bool true) rfl (by kernel_rfl) (fun _ _ _ h => h) (Or.inl ⟨by rfl, fun w _ => by go_simp⟩) ?_
  simp only [Act.put, List.setIfInBounds_toArray, List.set_cons_zero, List.set_cons_succ]
  refine wpAnyG_done (by kernel_rfl) ?_ _
  go_wp2_with fail
  go_ret
  exact ⟨rfl, K2.out⟩
end Go.Proofs.Ytalicohflfildaa
