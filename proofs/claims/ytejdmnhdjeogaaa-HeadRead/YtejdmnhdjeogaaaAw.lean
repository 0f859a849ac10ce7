/- The walk of HeadApart. -/
import Derived.Test.YtejdmnhdjeogaaaKw
namespace Go.Proofs.Ytejdmnhdjeogaaa
open Go.RowKit
set_option linter.unusedVariables false
theorem conv_sec {h : Hd} (m : May h) {w : World} {G : Nat} (hr : Rw 5 w G (secL h)) (c : Nat) : (convert 26 9 (.slice (some ⟨G, 0, none⟩) 512 c)).run Try.prog w = .ok (.string (strOfNums (secL h))) w :=
  run_convert_rw w 26 9 5 Try.underlying26 Try.underlying5 Try.underlying9 (some ⟨G, 0, none⟩) 512 c (secL h) (secL_length h m.long) (fun _ => ⟨G, 0, rfl, fun i hi => hr.cells i (by rw [secL_length h m.long]; exact hi)⟩)
theorem str_sec {a b : Hd} (ma : May a) (mb : May b) (fa : 0 ≤ a.flags) (fb : 0 ≤ b.flags) : ((strOfNums (secL a)).toList == (strOfNums (secL b)).toList) = eqH a b := by
  by_cases e : a = b
  · subst e; rw [eqH_self]; simp
  · rw [eqH_ne e]
    cases hq : ((strOfNums (secL a)).toList == (strOfNums (secL b)).toList) with
    | false => rfl
    | true =>
      have e2 := congrArg byts (str_eq hq)
      rw [byts_str _ (secL_byt a), byts_str _ (secL_byt b)] at e2
      exact absurd (sec_inj ma mb fa fb e2) e
def q5r7_0 : Oper := { dst := some 53, op := Go.Op.move (Go.Operand.tmp 5), type := 26, pos := "law.go:68", after := #[], guard := none }
def q5r7_1 : Oper := { dst := some 54, op := Go.Op.convert 26 9 (Go.Operand.tmp 53), type := 9, pos := "law.go:68", after := #[{ on := 0, ground := Go.Ground.data }], guard := none }
def q5r7_2 : Oper := { dst := some 55, op := Go.Op.move (Go.Operand.tmp 7), type := 26, pos := "law.go:68", after := #[], guard := none }
def q5r7_3 : Oper := { dst := some 56, op := Go.Op.convert 26 9 (Go.Operand.tmp 55), type := 9, pos := "law.go:68", after := #[{ on := 2, ground := Go.Ground.data }], guard := none }
def q5r7_4 : Oper := { dst := some 57, op := Go.Op.binOp Go.BinOp.eql 9 (Go.Operand.tmp 54) (Go.Operand.tmp 56) 9, type := 4, pos := "law.go:68", after := #[{ on := 1, ground := Go.Ground.data }, { on := 3, ground := Go.Ground.data }], guard := none }
def q5r7_5 : Oper := { dst := some 58, op := Go.Op.load 24 (Go.Operand.tmp 2), type := 24, pos := "law.go:68", after := #[], guard := none }
def q5r7_6 : Oper := { dst := some 59, op := Go.Op.load 24 (Go.Operand.tmp 3), type := 24, pos := "law.go:68", after := #[], guard := none }
def q5r7_7 : Oper := { dst := some 60, op := Go.Op.binOp Go.BinOp.eql 24 (Go.Operand.tmp 58) (Go.Operand.tmp 59) 24, type := 4, pos := "law.go:68", after := #[{ on := 5, ground := Go.Ground.data }, { on := 6, ground := Go.Ground.data }], guard := none }
def q5r7_8 : Oper := { dst := some 61, op := Go.Op.binOp Go.BinOp.eql 4 (Go.Operand.tmp 57) (Go.Operand.tmp 60) 4, type := 4, pos := "law.go:68", after := #[{ on := 4, ground := Go.Ground.data }, { on := 7, ground := Go.Ground.data }], guard := none }
def q5r7_9 : Oper := { dst := some 62, op := Go.Op.move (Go.Operand.tmp 61), type := 4, pos := "law.go:68", after := #[{ on := 8, ground := Go.Ground.data }], guard := none }
def q5r7_10 : Oper := { dst := some 63, op := Go.Op.call { callee := Go.Callee.value (Go.Operand.func 6), args := #[], argTypes := #[] }, type := 4, pos := "law.go:68", after := #[{ on := 9, ground := Go.Ground.chain }, { on := 9, ground := Go.Ground.guard }], guard := some (9, true) }
def q5r7_11 : Oper := { dst := some 64, op := Go.Op.pick (Go.Operand.tmp 62) (Go.Operand.tmp 63) (Go.Operand.const (Go.Value.bool false)), type := 4, pos := "law.go:68", after := #[{ on := 9, ground := Go.Ground.data }, { on := 10, ground := Go.Ground.data }], guard := none }
def q5r7_12 : Oper := { dst := some 4, op := Go.Op.assign (Go.Operand.tmp 64), type := 4, pos := "law.go:68", after := #[{ on := 11, ground := Go.Ground.data }, { on := 10, ground := Go.Ground.chain }, { on := 0, ground := Go.Ground.phase }, { on := 1, ground := Go.Ground.phase }, { on := 2, ground := Go.Ground.phase }, { on := 3, ground := Go.Ground.phase }, { on := 4, ground := Go.Ground.phase }, { on := 5, ground := Go.Ground.phase }, { on := 6, ground := Go.Ground.phase }, { on := 7, ground := Go.Ground.phase }, { on := 8, ground := Go.Ground.phase }, { on := 9, ground := Go.Ground.phase }, { on := 10, ground := Go.Ground.phase }, { on := 11, ground := Go.Ground.phase }], guard := none }
def o5r7 : Array Oper := #[q5r7_0, q5r7_1, q5r7_2, q5r7_3, q5r7_4, q5r7_5, q5r7_6, q5r7_7, q5r7_8, q5r7_9, q5r7_10, q5r7_11, q5r7_12]
def p5r7_13 : List (Nat × Oper) := []
def p5r7_12 : List (Nat × Oper) := (0, q5r7_12) :: p5r7_13
def p5r7_11 : List (Nat × Oper) := (0, q5r7_11) :: p5r7_12
def p5r7_10 : List (Nat × Oper) := (1, q5r7_10) :: p5r7_11
def p5r7_9 : List (Nat × Oper) := (0, q5r7_9) :: p5r7_10
def p5r7_8 : List (Nat × Oper) := (0, q5r7_8) :: p5r7_9
def p5r7_7 : List (Nat × Oper) := (0, q5r7_7) :: p5r7_8
def p5r7_6 : List (Nat × Oper) := (0, q5r7_6) :: p5r7_7
def p5r7_5 : List (Nat × Oper) := (0, q5r7_5) :: p5r7_6
def p5r7_4 : List (Nat × Oper) := (0, q5r7_4) :: p5r7_5
def p5r7_3 : List (Nat × Oper) := (0, q5r7_3) :: p5r7_4
def p5r7_2 : List (Nat × Oper) := (0, q5r7_2) :: p5r7_3
def p5r7_1 : List (Nat × Oper) := (0, q5r7_1) :: p5r7_2
def p5r7_0 : List (Nat × Oper) := (0, q5r7_0) :: p5r7_1
def c5r7 : List (Nat × Nat) := [(0, 0), (0, 1), (0, 2), (0, 3), (0, 4), (0, 5), (0, 6), (0, 7), (0, 8), (0, 9), (1, 10), (0, 11), (0, 12)]
theorem b5r7 : (Region.noSelect o5r7 && (c5r7.length == o5r7.size) && planB o5r7 [] c5r7 (Array.replicate o5r7.size false)) = true := by kernel_rfl
theorem d5r7 : (c5r7.map fun p => (p.1, o5r7[p.2]?)) = (p5r7_0.map fun p => (p.1, some p.2)) := by kernel_rfl
set_option maxRecDepth 100000 in
set_option maxHeartbeats 8000000 in
theorem apart_walk (a b : Hd) (w : World) (wa : a.Wf) (wb : b.Wf) (na : a.name.size ≤ maxLen) (nb : b.name.size ≤ maxLen) : Calls Try.prog 5 #[.agg a.cs, .agg b.cs] w fun e w' => e = .returned (.bool true) ∧ Kp (fun _ => False) w w' := by
  have la : a.name.size ≤ 9223372036854775807 := by unfold maxLen at na; omega
  have lb : b.name.size ≤ 9223372036854775807 := by unfold maxLen at nb; omega
  have HA : Hid (Hb ((w.alloc (.cells a.cs 24)).alloc (.cells b.cs 24)) w.heap.size a) := (Hb.new w a).kp ((Kp.refl (fun _ => False) _).alloc _) (fun x => x)
  have HB : Hid (Hb ((w.alloc (.cells a.cs 24)).alloc (.cells b.cs 24)) (w.heap.size + 1) b) := hid (by have e := Hb.new (w.alloc (.cells a.cs 24)) b; simpa using e)
  have HK : Hid (Kp (fun _ => False) w ((w.alloc (.cells a.cs 24)).alloc (.cells b.cs 24))) := ((Kp.refl _ _).alloc _).alloc _
  have ca : ((w.alloc (.cells a.cs 24)).alloc (.cells b.cs 24)).cell? ⟨w.heap.size, 14, none⟩ = some (.string a.name) := HA.out.cell 14
  have cb : ((w.alloc (.cells a.cs 24)).alloc (.cells b.cs 24)).cell? ⟨w.heap.size + 1, 14, none⟩ = some (.string b.name) := HB.out.cell 14
  have WA := hid wa
  have WB := hid wb
  have LA := hid la
  have LB := hid lb
  clear wa wb na nb la lb
  go_enter Try.func5, Try.ntmps5
  by_cases ha : 1000 < a.name.size
  · have hai : (1000 : Int) < (a.name.size : Int) := by omega
    go_wp2_with (go_at_call 6; refine (known_any _).mono ?_; rintro e w1 ⟨rfl, k1⟩)
    go_ret
    exact ⟨rfl, HK.out.trans k1 (fun _ _ x => x)⟩
  · have hai : ¬ (1000 : Int) < (a.name.size : Int) := by omega
    by_cases hb : 1000 < b.name.size
    · have hbi : (1000 : Int) < (b.name.size : Int) := by omega
      go_wp2_with (go_at_call 6; refine (known_any _).mono ?_; rintro e w1 ⟨rfl, k1⟩)
      go_ret
      exact ⟨rfl, HK.out.trans k1 (fun _ _ x => x)⟩
    · have hbi : ¬ (1000 : Int) < (b.name.size : Int) := by omega
      clear ha hb
      by_cases ma : May a
      · have MA := hid ma
        clear ma
        by_cases mb : May b
        · have MB := hid mb
          clear mb
          go_wp2_with (first | (refine wpList_load_hd rfl (.tmp 2) rfl w.heap.size rfl HA.out ?_) | (go_at_call 7; refine (bytes_ok a _ WA.out MA.out).mono ?_; rintro e w1 ⟨Ga, rfl, hGa, ra, k1⟩) | (refine wpList_load_hd rfl (.tmp 3) rfl (w.heap.size + 1) rfl (HB.out.kp k1 (fun x => x)) ?_) | (go_at_call 7; refine (bytes_ok b _ WB.out MB.out).mono ?_; rintro e w2 ⟨Gb, rfl, hGb, rb, k2⟩))
          have K12 := hid (k1.trans k2 (fun _ _ x => x))
          have A2 := hid (HA.out.kp K12.out (fun x => x))
          have B2 := hid (HB.out.kp K12.out (fun x => x))
          have RA := hid (ra.kp k2 (fun x => x))
          have RB := hid rb
          have KK := hid (HK.out.trans K12.out (fun _ _ x => x))
          have hsq := str_sec MA.out MB.out WA.out.flags.1 WB.out.flags.1
          have CA : Hid (∀ w G, Rw 5 w G (secL a) → ∀ c, (convert 26 9 (.slice (some ⟨G, 0, none⟩) 512 c)).run Try.prog w = .ok (.string (strOfNums (secL a))) w) := fun w G h c => conv_sec MA.out h c
          have CB : Hid (∀ w G, Rw 5 w G (secL b) → ∀ c, (convert 26 9 (.slice (some ⟨G, 0, none⟩) 512 c)).run Try.prog w = .ok (.string (strOfNums (secL b))) w) := fun w G h c => conv_sec MB.out h c
          clear k1 k2 ra rb K12 HA HB HK ca cb hGa hGb
          generalize strOfNums (secL a) = sa at *
          generalize strOfNums (secL b) = sb at *
          obtain ⟨q, hq⟩ : ∃ q, q = eqH a b := ⟨_, rfl⟩
          rw [← hq] at hsq
          have HQ := hid hq
          clear hq
          generalize w.heap.size = B at *
          have h0 : Kp (fun _ => False) w2 w2.drew := (Kp.refl _ _).drew
          change (Code.region 7 o5r7 true).wp _ _ _ _
          refine wp_region_plan (fun w' => Kp (fun _ => False) w2 w') [] c5r7 p5r7_0 hmix b5r7 d5r7 (fun _ _ d _ _ h => by cases d <;> exact h) ?_
          refine plan_take (o := q5r7_0) (r := p5r7_1) ?v0 h0 (by rfl) ?hy0 ?rest0
          case hy0 => (intro w _; simp only [q5r7_0]; go_simp; try with_reducible rfl)
          try simp only [q5r7_0, Act.put, List.setIfInBounds_toArray, List.set_cons_zero, List.set_cons_succ]
          refine plan_take (o := q5r7_1) (r := p5r7_2) ?v1 h0 (by rfl) ?hy1 ?rest1
          case hy1 => (intro w hSw; (try dsimp only at hSw); have hcv := CA.out w Ga (RA.out.kp hSw (fun x => x)); simp only [q5r7_1]; go_simp; try with_reducible rfl)
          try simp only [q5r7_1, Act.put, List.setIfInBounds_toArray, List.set_cons_zero, List.set_cons_succ]
          refine plan_take (o := q5r7_2) (r := p5r7_3) ?v2 h0 (by rfl) ?hy2 ?rest2
          case hy2 => (intro w _; simp only [q5r7_2]; go_simp; try with_reducible rfl)
          try simp only [q5r7_2, Act.put, List.setIfInBounds_toArray, List.set_cons_zero, List.set_cons_succ]
          refine plan_take (o := q5r7_3) (r := p5r7_4) ?v3 h0 (by rfl) ?hy3 ?rest3
          case hy3 => (intro w hSw; (try dsimp only at hSw); have hcv := CB.out w Gb (RB.out.kp hSw (fun x => x)); simp only [q5r7_3]; go_simp; try with_reducible rfl)
          try simp only [q5r7_3, Act.put, List.setIfInBounds_toArray, List.set_cons_zero, List.set_cons_succ]
          refine plan_take (o := q5r7_4) (r := p5r7_5) ?v4 h0 (by rfl) ?hy4 ?rest4
          case hy4 => (intro w _; simp only [q5r7_4]; go_simp; try with_reducible rfl)
          try simp only [q5r7_4, Act.put, List.setIfInBounds_toArray, List.set_cons_zero, List.set_cons_succ]
          refine plan_take (o := q5r7_5) (r := p5r7_6) (.agg a.cs) h0 (by rfl) ?hy5 ?rest5
          case hy5 => exact fun w hSw => exec_load_hd rfl rfl (A2.out.kp hSw (fun x => x))
          try simp only [q5r7_5, Act.put, List.setIfInBounds_toArray, List.set_cons_zero, List.set_cons_succ]
          refine plan_take (o := q5r7_6) (r := p5r7_7) (.agg b.cs) h0 (by rfl) ?hy6 ?rest6
          case hy6 => exact fun w hSw => exec_load_hd rfl rfl (B2.out.kp hSw (fun x => x))
          try simp only [q5r7_6, Act.put, List.setIfInBounds_toArray, List.set_cons_zero, List.set_cons_succ]
          refine plan_take (o := q5r7_7) (r := p5r7_8) (.bool q) h0 (by rfl) ?hy7 ?rest7
          case hy7 => exact fun w hSw => (by rw [exec_eq_hd (x := .tmp 58) (y := .tmp 59) (h := a) (k := b) rfl rfl rfl, HQ.out])
          try simp only [q5r7_7, Act.put, List.setIfInBounds_toArray, List.set_cons_zero, List.set_cons_succ]
          refine plan_take (o := q5r7_8) (r := p5r7_9) ?v8 h0 (by rfl) ?hy8 ?rest8
          case hy8 => (intro w _; simp only [q5r7_8]; go_simp; try with_reducible rfl)
          try simp only [q5r7_8, Act.put, List.setIfInBounds_toArray, List.set_cons_zero, List.set_cons_succ]
          refine plan_take (o := q5r7_9) (r := p5r7_10) ?v9 h0 (by rfl) ?hy9 ?rest9
          case hy9 => (intro w _; simp only [q5r7_9]; go_simp; try with_reducible rfl)
          try simp only [q5r7_9, Act.put, List.setIfInBounds_toArray, List.set_cons_zero, List.set_cons_succ]
          refine plan_act (o := q5r7_10) (r := p5r7_11) (fun K hK => ?_)
          simp only [q5r7_10]
          go_simp
          refine (known_any _).mono ?_
          rintro _ w3 ⟨rfl, k3⟩
          go_wp2_with fail
          refine hK.out _ _ (fun h => h.trans k3 (fun _ _ x => x)) ?_
          have s3 : Kp (fun _ => False) w2 w3 := h0.trans k3 (fun _ _ x => x)
          clear hK K
          refine plan_take (o := q5r7_11) (r := p5r7_12) ?v11 s3 (by rfl) ?hy11 ?rest11
          case hy11 => (intro w _; simp only [q5r7_11]; go_simp; try with_reducible rfl)
          try simp only [q5r7_11, Act.put, List.setIfInBounds_toArray, List.set_cons_zero, List.set_cons_succ]
          refine plan_take (o := q5r7_12) (r := p5r7_13) ?v12 s3 (by rfl) ?hy12 ?rest12
          case hy12 => (intro w _; simp only [q5r7_12]; go_simp; try with_reducible rfl)
          try simp only [q5r7_12, Act.put, List.setIfInBounds_toArray, List.set_cons_zero, List.set_cons_succ]
          refine plan_done ?_
          go_wp2_with fail
          go_ret
          exact ⟨rfl, KK.out.trans s3 (fun _ _ x => x)⟩
        · have MB := hid mb
          clear mb
          go_wp2_with (first | (refine wpList_load_hd rfl (.tmp 2) rfl w.heap.size rfl HA.out ?_) | (go_at_call 7; refine (bytes_ok a _ WA.out MA.out).mono ?_; rintro e w1 ⟨Ga, rfl, hGa, ra, k1⟩) | (refine wpList_load_hd rfl (.tmp 3) rfl (w.heap.size + 1) rfl (HB.out.kp k1 (fun x => x)) ?_) | (go_at_call 7; refine (bytes_bad b _ WB.out LB.out MB.out).mono ?_; rintro e w2 ⟨rfl, k2⟩; have k12 := hid (k1.trans k2 (fun _ _ x => x))) | (refine wpList_load_hd rfl (.tmp 2) rfl w.heap.size rfl (HA.out.kp k12.out (fun x => x)) ?_) | (go_at_call 9; refine (check_ok a _ WA.out MA.out).mono ?_; rintro e w3 ⟨rfl, k3⟩; have k13 := hid (k12.out.trans k3 (fun _ _ x => x))) | (refine wpList_load_hd_g (by rfl) (.tmp 3) rfl (w.heap.size + 1) rfl (HB.out.kp k13.out (fun x => x)) ?_) | (go_at_call 9; refine (check_bad b _ WB.out LB.out MB.out).mono ?_; rintro e w4 ⟨rfl, k4⟩; have k14 := hid (k13.out.trans k4 (fun _ _ x => x))) | (go_at_call 6; refine (known_any _).mono ?_; rintro e w5 ⟨rfl, k5⟩))
          go_ret
          exact ⟨rfl, (HK.out.trans k14.out (fun _ _ x => x)).trans k5 (fun _ _ x => x)⟩
      · have MA := hid ma
        clear ma
        by_cases mb : May b
        · have MB := hid mb
          clear mb
          go_wp2_with (first | (refine wpList_load_hd rfl (.tmp 2) rfl w.heap.size rfl HA.out ?_) | (go_at_call 7; refine (bytes_bad a _ WA.out LA.out MA.out).mono ?_; rintro e w1 ⟨rfl, k1⟩) | (refine wpList_load_hd rfl (.tmp 3) rfl (w.heap.size + 1) rfl (HB.out.kp k1 (fun x => x)) ?_) | (go_at_call 7; refine (bytes_ok b _ WB.out MB.out).mono ?_; rintro e w2 ⟨Gb, rfl, hGb, rb, k2⟩; have k12 := hid (k1.trans k2 (fun _ _ x => x))) | (refine wpList_load_hd rfl (.tmp 2) rfl w.heap.size rfl (HA.out.kp k12.out (fun x => x)) ?_) | (go_at_call 9; refine (check_bad a _ WA.out LA.out MA.out).mono ?_; rintro e w3 ⟨rfl, k3⟩; have k13 := hid (k12.out.trans k3 (fun _ _ x => x))) | (refine wpList_load_hd_g (by rfl) (.tmp 3) rfl (w.heap.size + 1) rfl (HB.out.kp k13.out (fun x => x)) ?_) | (go_at_call 9; refine (check_ok b _ WB.out MB.out).mono ?_; rintro e w4 ⟨rfl, k4⟩; have k14 := hid (k13.out.trans k4 (fun _ _ x => x))) | (go_at_call 6; refine (known_any _).mono ?_; rintro e w5 ⟨rfl, k5⟩))
          go_ret
          exact ⟨rfl, (HK.out.trans k14.out (fun _ _ x => x)).trans k5 (fun _ _ x => x)⟩
        · have MB := hid mb
          clear mb
          go_wp2_with (first | (refine wpList_load_hd rfl (.tmp 2) rfl w.heap.size rfl HA.out ?_) | (go_at_call 7; refine (bytes_bad a _ WA.out LA.out MA.out).mono ?_; rintro e w1 ⟨rfl, k1⟩) | (refine wpList_load_hd rfl (.tmp 3) rfl (w.heap.size + 1) rfl (HB.out.kp k1 (fun x => x)) ?_) | (go_at_call 7; refine (bytes_bad b _ WB.out LB.out MB.out).mono ?_; rintro e w2 ⟨rfl, k2⟩; have k12 := hid (k1.trans k2 (fun _ _ x => x))) | (refine wpList_load_hd rfl (.tmp 2) rfl w.heap.size rfl (HA.out.kp k12.out (fun x => x)) ?_) | (go_at_call 9; refine (check_bad a _ WA.out LA.out MA.out).mono ?_; rintro e w3 ⟨rfl, k3⟩; have k13 := hid (k12.out.trans k3 (fun _ _ x => x))) | (refine wpList_load_hd_g (by rfl) (.tmp 3) rfl (w.heap.size + 1) rfl (HB.out.kp k13.out (fun x => x)) ?_) | (go_at_call 9; refine (check_bad b _ WB.out LB.out MB.out).mono ?_; rintro e w4 ⟨rfl, k4⟩; have k14 := hid (k13.out.trans k4 (fun _ _ x => x))) | (go_at_call 6; refine (known_any _).mono ?_; rintro e w5 ⟨rfl, k5⟩))
          go_ret
          exact ⟨rfl, (HK.out.trans k14.out (fun _ _ x => x)).trans k5 (fun _ _ x => x)⟩
end Go.Proofs.Ytejdmnhdjeogaaa
