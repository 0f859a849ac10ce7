/- later: drop. -/
import Derived.Test.YtgfondgejimkkaaLa
namespace Go.Proofs.Ytgfondgejimkkaa
open Go.RowKit
set_option linter.unusedVariables false
set_option linter.unusedSimpArgs false
theorem del_one {T ty : TypeId} {w : World} {mb k : Nat} {es : List (Int × Value × Nat)} (h : Mp mki w mb es k) (x : Int) :
    ∃ w4, Mp mki w4 mb (mdel es x) k ∧ Kp (fun i => i = mb) w w4 ∧ (Builtin.delete_ #[71, 2] ty #[.map (some mb), .int .i64 x]).run Try.prog w = .ok (.tuple #[]) w4 :=
  ⟨_, (mp_set h (h.2.sub (mdel_sub es x))).1, kp_putM w mb _, run_delete_mp ky2 Try.underlying71 h x ty⟩
def q63r0_0 : Oper := { dst := some 4, op := Go.Op.move (Go.Operand.tmp 0), type := 30, pos := "later.go:220", after := #[], guard := none }
def q63r0_1 : Oper := { dst := some 5, op := Go.Op.nilCheck (Go.Operand.tmp 4), type := 0, pos := "later.go:220", after := #[{ on := 0, ground := Go.Ground.data }], guard := none }
def q63r0_2 : Oper := { dst := some 6, op := Go.Op.fieldAddr 73 (Go.Operand.tmp 5) 0, type := 0, pos := "later.go:220", after := #[{ on := 1, ground := Go.Ground.data }], guard := none }
def q63r0_3 : Oper := { dst := some 7, op := Go.Op.load 70 (Go.Operand.tmp 6), type := 70, pos := "later.go:220", after := #[{ on := 2, ground := Go.Ground.data }], guard := none }
def q63r0_4 : Oper := { dst := some 8, op := Go.Op.makeInterface 70 (Go.Operand.tmp 7), type := 101, pos := "later.go:220", after := #[{ on := 3, ground := Go.Ground.data }], guard := none }
def q63r0_5 : Oper := { dst := some 9, op := Go.Op.move (Go.Operand.tmp 1), type := 74, pos := "later.go:220", after := #[], guard := none }
def q63r0_6 : Oper := { dst := some 10, op := Go.Op.nilCheck (Go.Operand.tmp 9), type := 0, pos := "later.go:220", after := #[{ on := 5, ground := Go.Ground.data }], guard := none }
def q63r0_7 : Oper := { dst := some 11, op := Go.Op.fieldAddr 77 (Go.Operand.tmp 10) 1, type := 0, pos := "later.go:220", after := #[{ on := 6, ground := Go.Ground.data }], guard := none }
def q63r0_8 : Oper := { dst := some 12, op := Go.Op.load 3 (Go.Operand.tmp 11), type := 3, pos := "later.go:220", after := #[{ on := 7, ground := Go.Ground.data }], guard := none }
def q63r0_9 : Oper := { dst := some 13, op := Go.Op.call { callee := Go.Callee.value (Go.Operand.func 73), args := #[Go.Operand.tmp 8, Go.Operand.tmp 12], argTypes := #[101, 3] }, type := 20, pos := "later.go:220", after := #[{ on := 4, ground := Go.Ground.data }, { on := 8, ground := Go.Ground.data }], guard := none }
def o63r0 : Array Oper := #[q63r0_0, q63r0_1, q63r0_2, q63r0_3, q63r0_4, q63r0_5, q63r0_6, q63r0_7, q63r0_8, q63r0_9]
def p63r0_10 : List (Nat × Oper) := []
def p63r0_9 : List (Nat × Oper) := (2, q63r0_9) :: p63r0_10
def p63r0_8 : List (Nat × Oper) := (0, q63r0_8) :: p63r0_9
def p63r0_7 : List (Nat × Oper) := (0, q63r0_7) :: p63r0_8
def p63r0_6 : List (Nat × Oper) := (0, q63r0_6) :: p63r0_7
def p63r0_5 : List (Nat × Oper) := (0, q63r0_5) :: p63r0_6
def p63r0_4 : List (Nat × Oper) := (0, q63r0_4) :: p63r0_5
def p63r0_3 : List (Nat × Oper) := (0, q63r0_3) :: p63r0_4
def p63r0_2 : List (Nat × Oper) := (0, q63r0_2) :: p63r0_3
def p63r0_1 : List (Nat × Oper) := (0, q63r0_1) :: p63r0_2
def p63r0_0 : List (Nat × Oper) := (0, q63r0_0) :: p63r0_1
def c63r0 : List (Nat × Nat) := [(0, 0), (0, 1), (0, 2), (0, 3), (0, 4), (0, 5), (0, 6), (0, 7), (0, 8), (2, 9)]
theorem b63r0 : (Region.noSelect o63r0 && (c63r0.length == o63r0.size) && planB o63r0 [9] c63r0 (Array.replicate o63r0.size false)) = true := by kernel_rfl
theorem d63r0 : (c63r0.map fun p => (p.1, o63r0[p.2]?)) = (p63r0_0.map fun p => (p.1, some p.2)) := by kernel_rfl
def q63r1_0 : Oper := { dst := some 14, op := Go.Op.move (Go.Operand.tmp 0), type := 30, pos := "later.go:221", after := #[], guard := none }
def q63r1_1 : Oper := { dst := some 15, op := Go.Op.nilCheck (Go.Operand.tmp 14), type := 0, pos := "later.go:221", after := #[{ on := 0, ground := Go.Ground.data }], guard := none }
def q63r1_2 : Oper := { dst := some 16, op := Go.Op.fieldAddr 73 (Go.Operand.tmp 15) 1, type := 0, pos := "later.go:221", after := #[{ on := 1, ground := Go.Ground.data }], guard := none }
def q63r1_3 : Oper := { dst := some 17, op := Go.Op.load 71 (Go.Operand.tmp 16), type := 71, pos := "later.go:221", after := #[{ on := 2, ground := Go.Ground.data }], guard := none }
def q63r1_4 : Oper := { dst := some 18, op := Go.Op.move (Go.Operand.tmp 1), type := 74, pos := "later.go:221", after := #[], guard := none }
def q63r1_5 : Oper := { dst := some 19, op := Go.Op.nilCheck (Go.Operand.tmp 18), type := 0, pos := "later.go:221", after := #[{ on := 4, ground := Go.Ground.data }], guard := none }
def q63r1_6 : Oper := { dst := some 20, op := Go.Op.fieldAddr 77 (Go.Operand.tmp 19) 0, type := 0, pos := "later.go:221", after := #[{ on := 5, ground := Go.Ground.data }], guard := none }
def q63r1_7 : Oper := { dst := some 21, op := Go.Op.fieldAddr 38 (Go.Operand.tmp 20) 0, type := 0, pos := "later.go:221", after := #[{ on := 6, ground := Go.Ground.data }], guard := none }
def q63r1_8 : Oper := { dst := some 22, op := Go.Op.load 2 (Go.Operand.tmp 21), type := 2, pos := "later.go:221", after := #[{ on := 7, ground := Go.Ground.data }], guard := none }
def q63r1_9 : Oper := { dst := none, op := Go.Op.call { callee := Go.Callee.builtin Go.Builtin.delete, args := #[Go.Operand.tmp 17, Go.Operand.tmp 22], argTypes := #[71, 2] }, type := 0, pos := "later.go:221", after := #[{ on := 3, ground := Go.Ground.data }, { on := 8, ground := Go.Ground.data }], guard := none }
def o63r1 : Array Oper := #[q63r1_0, q63r1_1, q63r1_2, q63r1_3, q63r1_4, q63r1_5, q63r1_6, q63r1_7, q63r1_8, q63r1_9]
def p63r1_10 : List (Nat × Oper) := []
def p63r1_9 : List (Nat × Oper) := (2, q63r1_9) :: p63r1_10
def p63r1_8 : List (Nat × Oper) := (0, q63r1_8) :: p63r1_9
def p63r1_7 : List (Nat × Oper) := (0, q63r1_7) :: p63r1_8
def p63r1_6 : List (Nat × Oper) := (0, q63r1_6) :: p63r1_7
def p63r1_5 : List (Nat × Oper) := (0, q63r1_5) :: p63r1_6
def p63r1_4 : List (Nat × Oper) := (0, q63r1_4) :: p63r1_5
def p63r1_3 : List (Nat × Oper) := (0, q63r1_3) :: p63r1_4
def p63r1_2 : List (Nat × Oper) := (0, q63r1_2) :: p63r1_3
def p63r1_1 : List (Nat × Oper) := (0, q63r1_1) :: p63r1_2
def p63r1_0 : List (Nat × Oper) := (0, q63r1_0) :: p63r1_1
def c63r1 : List (Nat × Nat) := [(0, 0), (0, 1), (0, 2), (0, 3), (0, 4), (0, 5), (0, 6), (0, 7), (0, 8), (2, 9)]
theorem b63r1 : (Region.noSelect o63r1 && (c63r1.length == o63r1.size) && planB o63r1 [9] c63r1 (Array.replicate o63r1.size false)) = true := by kernel_rfl
theorem d63r1 : (c63r1.map fun p => (p.1, o63r1[p.2]?)) = (p63r1_0.map fun p => (p.1, some p.2)) := by kernel_rfl
def q63r2_0 : Oper := { dst := some 23, op := Go.Op.move (Go.Operand.tmp 0), type := 30, pos := "later.go:222", after := #[], guard := none }
def q63r2_1 : Oper := { dst := some 24, op := Go.Op.nilCheck (Go.Operand.tmp 23), type := 0, pos := "later.go:222", after := #[{ on := 0, ground := Go.Ground.data }], guard := none }
def q63r2_2 : Oper := { dst := some 25, op := Go.Op.fieldAddr 73 (Go.Operand.tmp 24) 2, type := 0, pos := "later.go:222", after := #[{ on := 1, ground := Go.Ground.data }], guard := none }
def q63r2_3 : Oper := { dst := some 26, op := Go.Op.load 71 (Go.Operand.tmp 25), type := 71, pos := "later.go:222", after := #[{ on := 2, ground := Go.Ground.data }], guard := none }
def q63r2_4 : Oper := { dst := some 27, op := Go.Op.move (Go.Operand.tmp 1), type := 74, pos := "later.go:222", after := #[], guard := none }
def q63r2_5 : Oper := { dst := some 28, op := Go.Op.nilCheck (Go.Operand.tmp 27), type := 0, pos := "later.go:222", after := #[{ on := 4, ground := Go.Ground.data }], guard := none }
def q63r2_6 : Oper := { dst := some 29, op := Go.Op.fieldAddr 77 (Go.Operand.tmp 28) 0, type := 0, pos := "later.go:222", after := #[{ on := 5, ground := Go.Ground.data }], guard := none }
def q63r2_7 : Oper := { dst := some 30, op := Go.Op.load 38 (Go.Operand.tmp 29), type := 38, pos := "later.go:222", after := #[{ on := 6, ground := Go.Ground.data }], guard := none }
def q63r2_8 : Oper := { dst := some 31, op := Go.Op.call { callee := Go.Callee.value (Go.Operand.func 48), args := #[Go.Operand.tmp 30], argTypes := #[38] }, type := 2, pos := "later.go:222", after := #[{ on := 7, ground := Go.Ground.data }], guard := none }
def q63r2_9 : Oper := { dst := none, op := Go.Op.call { callee := Go.Callee.builtin Go.Builtin.delete, args := #[Go.Operand.tmp 26, Go.Operand.tmp 31], argTypes := #[71, 2] }, type := 0, pos := "later.go:222", after := #[{ on := 3, ground := Go.Ground.data }, { on := 8, ground := Go.Ground.data }, { on := 8, ground := Go.Ground.chain }], guard := none }
def o63r2 : Array Oper := #[q63r2_0, q63r2_1, q63r2_2, q63r2_3, q63r2_4, q63r2_5, q63r2_6, q63r2_7, q63r2_8, q63r2_9]
def p63r2_10 : List (Nat × Oper) := []
def p63r2_9 : List (Nat × Oper) := (2, q63r2_9) :: p63r2_10
def p63r2_8 : List (Nat × Oper) := (1, q63r2_8) :: p63r2_9
def p63r2_7 : List (Nat × Oper) := (0, q63r2_7) :: p63r2_8
def p63r2_6 : List (Nat × Oper) := (0, q63r2_6) :: p63r2_7
def p63r2_5 : List (Nat × Oper) := (0, q63r2_5) :: p63r2_6
def p63r2_4 : List (Nat × Oper) := (0, q63r2_4) :: p63r2_5
def p63r2_3 : List (Nat × Oper) := (0, q63r2_3) :: p63r2_4
def p63r2_2 : List (Nat × Oper) := (0, q63r2_2) :: p63r2_3
def p63r2_1 : List (Nat × Oper) := (0, q63r2_1) :: p63r2_2
def p63r2_0 : List (Nat × Oper) := (0, q63r2_0) :: p63r2_1
def c63r2 : List (Nat × Nat) := [(0, 0), (0, 1), (0, 2), (0, 3), (0, 4), (0, 5), (0, 6), (0, 7), (1, 8), (2, 9)]
theorem b63r2 : (Region.noSelect o63r2 && (c63r2.length == o63r2.size) && planB o63r2 [9] c63r2 (Array.replicate o63r2.size false)) = true := by kernel_rfl
theorem d63r2 : (c63r2.map fun p => (p.1, o63r2[p.2]?)) = (p63r2_0.map fun p => (p.1, some p.2)) := by kernel_rfl

/-- What drop leaves. -/
structure Dr (c : Nat → Rn) (w w' : World) (Q B mb me : Nat) (v : Value) (L : List Nat) (b : Nat) : Prop where
  ex : ∃ v' M, Lc c w' Q B mb me v' M ∧ (b :: M).Perm L ∧ v'.ownBlock = v.ownBlock
  kp : Kp (Fp Q B mb me v L) w w'
  one : ∃ s, Wt c w' b s
set_option maxRecDepth 100000 in
set_option maxHeartbeats 8000000 in
theorem drop_any (c : Nat → Rn) (w : World) (Q B mb me : Nat) (v : Value) (L : List Nat) (b : Nat) (h : Lc c w Q B mb me v L) (hb : b ∈ L) :
    Calls Try.prog 63 #[ptr Q, ptr b] w fun e w' => e = .returned (.tuple #[]) ∧ Dr c w w' Q B mb me v L b := by
  obtain ⟨i, hi, hib⟩ := gn_of hb
  have hwt := h.ln.tr i hi
  rw [hib] at hwt
  have HC0 : Hid (∀ U, Kp (fun _ => False) w U → U.cell? ⟨Q, 0, none⟩ = some (.pointer (some ⟨B, 0, none⟩)) ∧ U.cell? ⟨b, 2, none⟩ = some (.int .i64 (i : Int))) := fun U hU => ⟨(h.st.kp hU (fun h => h)).cell 0, (St.kp hwt hU (fun h => h)).cell 2⟩
  have HRM : Hid (∀ U, Kp (fun _ => False) w U → Calls Try.prog 73 #[.iface 70 (.pointer (some ⟨B, 0, none⟩)), .int .i64 i] U fun e w' => e = .returned (.iface 74 (.pointer (some ⟨b, 0, none⟩))) ∧ Rmd c w w' 0 B v L b) := fun U hU => by
    have := remove_any c U 0 B v L (h.ln.kp0 hU) h.hp i hi (by have := h.len; omega)
    rw [hib] at this
    exact this.mono fun e w' ⟨h1, h2⟩ => ⟨h1, h2.rest, (hU.mono (G := fun k => k = B ∨ LnF v L k) (fun _ _ h => h.elim)).trans h2.kp (fun _ _ h => h), h2.one⟩
  obtain ⟨eb, kb, mp1, ky1⟩ := h.bm
  obtain ⟨ee, ke, mp2, ky2'⟩ := h.em
  obtain ⟨q1, q2, q3, q4, q5, q6, q7, q8, q9, q10⟩ := sep h.st h.ln mp1 mp2
  have hmb := h.ln.may b hb
  have HEN : Hid (∀ U, Calls Try.prog 48 #[.agg #[.int .i64 (c b).a, .int .i64 (c b).n]] U fun e w' => e = .returned (.int .i64 (c b).e) ∧ Below U.heap.size U w') := fun U => end_any (c b) U hmb
  have HMB := hid hmb
  have HH := hid h
  have HNM := hid h.nm
  have H0 : Hid (Kp (fun _ => False) w w.drew) := (Kp.refl _ _).drew
  have HNF : Hid (∀ i, (i = Q ∨ i = mb ∨ i = me) → ¬ (i = B ∨ LnF v L i)) := by
    rintro i (rfl | rfl | rfl) (e | e | e)
    · exact q1 e
    · exact q3 e
    · exact q2 _ e rfl
    · exact q6 e
    · exact q9 e
    · exact (q8 _ e).1 rfl
    · exact q7 e
    · exact q10 e
    · exact (q8 _ e).2 rfl
  have KY1 := hid ky1
  have KY2 := hid ky2'
  have MB0 := hid mp1
  have ME0 := hid mp2
  have HNE : Hid (∀ x ∈ L, x = b ∨ ((c x).a ≠ (c b).a ∧ (c x).e ≠ (c b).e)) := fun x hx => by
    by_cases e : x = b
    · exact .inl e
    · right
      have hn := h.ln.nodup
      obtain ⟨j, hj, hjx⟩ := gn_of hx
      have hij : i ≠ j := fun e2 => e (by rw [← hjx, ← hib, e2])
      have hpw := List.pairwise_iff_getElem.1 h.ap.2
      have h1 := (h.ln.may x hx).lt
      have h2 := hmb.lt
      have hap : Aprt (c x) (c b) := by
        rcases Nat.lt_or_gt_of_ne hij with hl | hl
        · have := hpw i j (by simpa using hi) (by simpa using hj) hl
          simp only [List.getElem_map, ← gn hi, ← gn hj, hib, hjx] at this
          exact this.symm
        · have := hpw j i (by simpa using hj) (by simpa using hi) hl
          simp only [List.getElem_map, ← gn hi, ← gn hj, hib, hjx] at this
          exact this
      unfold Aprt at hap
      omega
  clear h hwt mp1 mp2 ky1 ky2' hmb q1 q2 q3 q4 q5 q6 q7 q8 q9 q10
  unfold ptr
  go_enter Try.func63, Try.ntmps63
  generalize hC3 : Code.region 3 _ _ = C3
  generalize hC2 : Code.region 2 _ _ = C2
  generalize hC1 : Code.region 1 _ _ = C1
  generalize hC0 : Code.region 0 _ _ = C0
  go_wp2_with fail
  subst hC0
  change (Code.region 0 o63r0 true).wp _ _ _ _
  refine wp_region_plan (fun w' => Kp (fun _ => False) w w') [9] c63r0 p63r0_0 hmix b63r0 d63r0 (fun _ _ d _ _ h => by cases d <;> exact h) ?_
  refine plan_take (o := q63r0_0) (r := p63r0_1) ?va0 H0.out (by rfl) ?hya0 ?resta0
  case hya0 => (intro w hSw; (try dsimp only at hSw); simp only [q63r0_0]; go_simp; try with_reducible rfl)
  try simp only [q63r0_0, Act.put, List.setIfInBounds_toArray, List.set_cons_zero, List.set_cons_succ]
  refine plan_take (o := q63r0_1) (r := p63r0_2) ?va1 H0.out (by rfl) ?hya1 ?resta1
  case hya1 => (intro w hSw; (try dsimp only at hSw); simp only [q63r0_1]; go_simp; try with_reducible rfl)
  try simp only [q63r0_1, Act.put, List.setIfInBounds_toArray, List.set_cons_zero, List.set_cons_succ]
  refine plan_take (o := q63r0_2) (r := p63r0_3) ?va2 H0.out (by rfl) ?hya2 ?resta2
  case hya2 => (intro w hSw; (try dsimp only at hSw); simp only [q63r0_2]; go_simp; try with_reducible rfl)
  try simp only [q63r0_2, Act.put, List.setIfInBounds_toArray, List.set_cons_zero, List.set_cons_succ]
  refine plan_take (o := q63r0_3) (r := p63r0_4) ?va3 H0.out (by rfl) ?hya3 ?resta3
  case hya3 => (intro w hSw; (try dsimp only at hSw); have y := (HC0.out _ hSw).1; simp only [q63r0_3]; go_simp; try with_reducible rfl)
  try simp only [q63r0_3, Act.put, List.setIfInBounds_toArray, List.set_cons_zero, List.set_cons_succ]
  refine plan_take (o := q63r0_4) (r := p63r0_5) ?va4 H0.out (by rfl) ?hya4 ?resta4
  case hya4 => (intro w hSw; (try dsimp only at hSw); simp only [q63r0_4]; go_simp; try with_reducible rfl)
  try simp only [q63r0_4, Act.put, List.setIfInBounds_toArray, List.set_cons_zero, List.set_cons_succ]
  refine plan_take (o := q63r0_5) (r := p63r0_6) ?va5 H0.out (by rfl) ?hya5 ?resta5
  case hya5 => (intro w hSw; (try dsimp only at hSw); simp only [q63r0_5]; go_simp; try with_reducible rfl)
  try simp only [q63r0_5, Act.put, List.setIfInBounds_toArray, List.set_cons_zero, List.set_cons_succ]
  refine plan_take (o := q63r0_6) (r := p63r0_7) ?va6 H0.out (by rfl) ?hya6 ?resta6
  case hya6 => (intro w hSw; (try dsimp only at hSw); simp only [q63r0_6]; go_simp; try with_reducible rfl)
  try simp only [q63r0_6, Act.put, List.setIfInBounds_toArray, List.set_cons_zero, List.set_cons_succ]
  refine plan_take (o := q63r0_7) (r := p63r0_8) ?va7 H0.out (by rfl) ?hya7 ?resta7
  case hya7 => (intro w hSw; (try dsimp only at hSw); simp only [q63r0_7]; go_simp; try with_reducible rfl)
  try simp only [q63r0_7, Act.put, List.setIfInBounds_toArray, List.set_cons_zero, List.set_cons_succ]
  refine plan_take (o := q63r0_8) (r := p63r0_9) ?va8 H0.out (by rfl) ?hya8 ?resta8
  case hya8 => (intro w hSw; (try dsimp only at hSw); have y := (HC0.out _ hSw).2; simp only [q63r0_8]; go_simp; try with_reducible rfl)
  try simp only [q63r0_8, Act.put, List.setIfInBounds_toArray, List.set_cons_zero, List.set_cons_succ]
  refine plan_late (o := q63r0_9) (r := p63r0_10) (fun K hK => ?_)
  simp only [q63r0_9]
  refine ite_pos2 (by rfl) ?_
  go_simp
  refine (HRM.out _ H0.out).mono ?_
  rintro e w1 ⟨rfl, r1⟩
  have R1 := hid r1
  clear r1
  go_wp2_with fail
  refine hK.out _ _ ?_
  clear hK K
  try simp only [q63r0_9, Act.put, List.setIfInBounds_toArray, List.set_cons_zero, List.set_cons_succ]
  refine plan_done ?_
  obtain ⟨⟨v1, M, pm, l1, hp1, ow⟩, k1, s1, w1t⟩ := R1.out
  have PM := hid pm
  have L1 := hid l1
  have HP1 := hid hp1
  have OW := hid ow
  have K1 := hid k1
  have WT := hid w1t
  have SQ1 := hid (HH.out.st.kp k1 (HNF.out _ (.inl rfl)))
  have MB := hid (MB0.out.kp k1 (HNF.out _ (.inr (.inl rfl))))
  have ME := hid (ME0.out.kp k1 (HNF.out _ (.inr (.inr rfl))))
  obtain ⟨q1, q2, q3, q4, q5, q6, q7, q8, q9, q10⟩ := sep SQ1.out l1 MB.out ME.out
  have HQm : Hid (Q ≠ mb ∧ Q ≠ me ∧ b ≠ mb ∧ b ≠ me ∧ b ≠ Q) := by
    refine ⟨q4, q5, fun e => map_cells MB.out.1 (e ▸ w1t), fun e => map_cells ME.out.1 (e ▸ w1t), fun e => apart_types SQ1.out (e ▸ w1t) (by decide)⟩
  have HC1 : Hid (∀ U, Kp (fun k => k = mb ∨ k = me) w1 U → U.cell? ⟨Q, 1, none⟩ = some (.map (some mb)) ∧ U.cell? ⟨Q, 2, none⟩ = some (.map (some me)) ∧ U.cell? ⟨b, 0, none⟩ = some (.int .i64 (c b).a) ∧ U.cell? ⟨b, 1, none⟩ = some (.int .i64 (c b).n) ∧ U.cell? ⟨Q, 3, none⟩ = some (.int .i64 (sz (L.map c)))) := fun U hU => by
    obtain ⟨g1, g2, g3, g4, g5⟩ := HQm.out
    have h1 := SQ1.out.kp hU (by omega)
    have h2 := St.kp WT.out hU (by omega)
    exact ⟨h1.cell 1, h1.cell 2, h2.cell 0, h2.cell 1, h1.cell 3⟩
  have H1 : Hid (Kp (fun _ => False) w1 w1.drew) := (Kp.refl _ _).drew
  clear pm l1 hp1 ow k1 w1t q1 q2 q3 q4 q5 q6 q7 q8 q9 q10 R1 HC0 HRM
  go_wp2_with fail
  subst hC1
  change (Code.region 1 o63r1 true).wp _ _ _ _
  refine wp_region_plan (fun w' => Kp (fun _ => False) w1 w') [9] c63r1 p63r1_0 hmix b63r1 d63r1 (fun _ _ d _ _ h => by cases d <;> exact h) ?_
  refine plan_take (o := q63r1_0) (r := p63r1_1) ?vb0 H1.out (by rfl) ?hyb0 ?restb0
  case hyb0 => (intro w hSw; (try dsimp only at hSw); simp only [q63r1_0]; go_simp; try with_reducible rfl)
  try simp only [q63r1_0, Act.put, List.setIfInBounds_toArray, List.set_cons_zero, List.set_cons_succ]
  refine plan_take (o := q63r1_1) (r := p63r1_2) ?vb1 H1.out (by rfl) ?hyb1 ?restb1
  case hyb1 => (intro w hSw; (try dsimp only at hSw); simp only [q63r1_1]; go_simp; try with_reducible rfl)
  try simp only [q63r1_1, Act.put, List.setIfInBounds_toArray, List.set_cons_zero, List.set_cons_succ]
  refine plan_take (o := q63r1_2) (r := p63r1_3) ?vb2 H1.out (by rfl) ?hyb2 ?restb2
  case hyb2 => (intro w hSw; (try dsimp only at hSw); simp only [q63r1_2]; go_simp; try with_reducible rfl)
  try simp only [q63r1_2, Act.put, List.setIfInBounds_toArray, List.set_cons_zero, List.set_cons_succ]
  refine plan_take (o := q63r1_3) (r := p63r1_4) ?vb3 H1.out (by rfl) ?hyb3 ?restb3
  case hyb3 => (intro w hSw; (try dsimp only at hSw); have y := (HC1.out _ (hSw.mono (fun _ _ h => h.elim))).1; simp only [q63r1_3]; go_simp; try with_reducible rfl)
  try simp only [q63r1_3, Act.put, List.setIfInBounds_toArray, List.set_cons_zero, List.set_cons_succ]
  refine plan_take (o := q63r1_4) (r := p63r1_5) ?vb4 H1.out (by rfl) ?hyb4 ?restb4
  case hyb4 => (intro w hSw; (try dsimp only at hSw); simp only [q63r1_4]; go_simp; try with_reducible rfl)
  try simp only [q63r1_4, Act.put, List.setIfInBounds_toArray, List.set_cons_zero, List.set_cons_succ]
  refine plan_take (o := q63r1_5) (r := p63r1_6) ?vb5 H1.out (by rfl) ?hyb5 ?restb5
  case hyb5 => (intro w hSw; (try dsimp only at hSw); simp only [q63r1_5]; go_simp; try with_reducible rfl)
  try simp only [q63r1_5, Act.put, List.setIfInBounds_toArray, List.set_cons_zero, List.set_cons_succ]
  refine plan_take (o := q63r1_6) (r := p63r1_7) ?vb6 H1.out (by rfl) ?hyb6 ?restb6
  case hyb6 => (intro w hSw; (try dsimp only at hSw); simp only [q63r1_6]; go_simp; try with_reducible rfl)
  try simp only [q63r1_6, Act.put, List.setIfInBounds_toArray, List.set_cons_zero, List.set_cons_succ]
  refine plan_take (o := q63r1_7) (r := p63r1_8) ?vb7 H1.out (by rfl) ?hyb7 ?restb7
  case hyb7 => (intro w hSw; (try dsimp only at hSw); simp only [q63r1_7]; go_simp; try with_reducible rfl)
  try simp only [q63r1_7, Act.put, List.setIfInBounds_toArray, List.set_cons_zero, List.set_cons_succ]
  refine plan_take (o := q63r1_8) (r := p63r1_9) ?vb8 H1.out (by rfl) ?hyb8 ?restb8
  case hyb8 => (intro w hSw; (try dsimp only at hSw); have y := (HC1.out _ (hSw.mono (fun _ _ h => h.elim))).2.2.1; simp only [q63r1_8]; go_simp; try with_reducible rfl)
  try simp only [q63r1_8, Act.put, List.setIfInBounds_toArray, List.set_cons_zero, List.set_cons_succ]
  refine plan_late (o := q63r1_9) (r := p63r1_10) (fun K hK => ?_)
  simp only [q63r1_9]
  refine ite_pos2 (by rfl) ?_
  obtain ⟨w2, m2, k2, rr⟩ := del_one (T := 71) (ty := 0) (MB.out.kp H1.out (fun h => h)) (c b).a
  go_simp
  refine hK.out _ _ ?_
  clear hK K rr
  try simp only [q63r1_9, Act.put, List.setIfInBounds_toArray, List.set_cons_zero, List.set_cons_succ]
  have K2 : Hid (Kp (fun k => k = mb) w1 w2) := (H1.out.mono (fun _ _ h => h.elim)).trans k2 (fun _ _ h => h)
  have M2 := hid m2
  clear m2 k2
  refine plan_done ?_
  have HC2 : Hid (∀ U, Kp (fun _ => False) w2 U → U.cell? ⟨Q, 1, none⟩ = some (.map (some mb)) ∧ U.cell? ⟨Q, 2, none⟩ = some (.map (some me)) ∧ U.cell? ⟨b, 0, none⟩ = some (.int .i64 (c b).a) ∧ U.cell? ⟨b, 1, none⟩ = some (.int .i64 (c b).n) ∧ U.cell? ⟨Q, 3, none⟩ = some (.int .i64 (sz (L.map c)))) := fun U hU => HC1.out U ((K2.out.mono (fun _ _ h => .inl h)).trans hU (fun _ _ h => h.elim))
  have H2 : Hid (Kp (fun _ => False) w2 w2.drew) := (Kp.refl _ _).drew
  go_wp2_with fail
  subst hC2
  change (Code.region 2 o63r2 true).wp _ _ _ _
  refine wp_region_plan (fun w' => Kp (fun _ => False) w2 w') [9] c63r2 p63r2_0 hmix b63r2 d63r2 (fun _ _ d _ _ h => by cases d <;> exact h) ?_
  refine plan_take (o := q63r2_0) (r := p63r2_1) ?vc0 H2.out (by rfl) ?hyc0 ?restc0
  case hyc0 => (intro w hSw; (try dsimp only at hSw); simp only [q63r2_0]; go_simp; try with_reducible rfl)
  try simp only [q63r2_0, Act.put, List.setIfInBounds_toArray, List.set_cons_zero, List.set_cons_succ]
  refine plan_take (o := q63r2_1) (r := p63r2_2) ?vc1 H2.out (by rfl) ?hyc1 ?restc1
  case hyc1 => (intro w hSw; (try dsimp only at hSw); simp only [q63r2_1]; go_simp; try with_reducible rfl)
  try simp only [q63r2_1, Act.put, List.setIfInBounds_toArray, List.set_cons_zero, List.set_cons_succ]
  refine plan_take (o := q63r2_2) (r := p63r2_3) ?vc2 H2.out (by rfl) ?hyc2 ?restc2
  case hyc2 => (intro w hSw; (try dsimp only at hSw); simp only [q63r2_2]; go_simp; try with_reducible rfl)
  try simp only [q63r2_2, Act.put, List.setIfInBounds_toArray, List.set_cons_zero, List.set_cons_succ]
  refine plan_take (o := q63r2_3) (r := p63r2_4) ?vc3 H2.out (by rfl) ?hyc3 ?restc3
  case hyc3 => (intro w hSw; (try dsimp only at hSw); have y := (HC2.out _ hSw).2.1; simp only [q63r2_3]; go_simp; try with_reducible rfl)
  try simp only [q63r2_3, Act.put, List.setIfInBounds_toArray, List.set_cons_zero, List.set_cons_succ]
  refine plan_take (o := q63r2_4) (r := p63r2_5) ?vc4 H2.out (by rfl) ?hyc4 ?restc4
  case hyc4 => (intro w hSw; (try dsimp only at hSw); simp only [q63r2_4]; go_simp; try with_reducible rfl)
  try simp only [q63r2_4, Act.put, List.setIfInBounds_toArray, List.set_cons_zero, List.set_cons_succ]
  refine plan_take (o := q63r2_5) (r := p63r2_6) ?vc5 H2.out (by rfl) ?hyc5 ?restc5
  case hyc5 => (intro w hSw; (try dsimp only at hSw); simp only [q63r2_5]; go_simp; try with_reducible rfl)
  try simp only [q63r2_5, Act.put, List.setIfInBounds_toArray, List.set_cons_zero, List.set_cons_succ]
  refine plan_take (o := q63r2_6) (r := p63r2_7) ?vc6 H2.out (by rfl) ?hyc6 ?restc6
  case hyc6 => (intro w hSw; (try dsimp only at hSw); simp only [q63r2_6]; go_simp; try with_reducible rfl)
  try simp only [q63r2_6, Act.put, List.setIfInBounds_toArray, List.set_cons_zero, List.set_cons_succ]
  refine plan_take (o := q63r2_7) (r := p63r2_8) ?vc7 H2.out (by rfl) ?hyc7 ?restc7
  case hyc7 => (intro w hSw; (try dsimp only at hSw); obtain ⟨_, _, y, y2, _⟩ := HC2.out _ hSw; simp only [q63r2_7]; go_simp; try with_reducible rfl)
  try simp only [q63r2_7, Act.put, List.setIfInBounds_toArray, List.set_cons_zero, List.set_cons_succ]
  refine plan_act (o := q63r2_8) (r := p63r2_9) (fun K hK => ?_)
  simp only [q63r2_8]
  refine ite_pos2 (by rfl) ?_
  go_simp
  refine (HEN.out _).mono ?_
  rintro e w3 ⟨rfl, b3⟩
  have K3 : Hid (Kp (fun _ => False) w2 w3) := H2.out.trans (Kp.of_below (F := fun _ => False) b3) (fun _ _ h => h)
  clear b3
  go_wp2_with fail
  refine hK.out _ _ (fun _ => K3.out) ?_
  clear hK K
  try simp only [q63r2_8, Act.put, List.setIfInBounds_toArray, List.set_cons_zero, List.set_cons_succ]
  refine plan_late (o := q63r2_9) (r := p63r2_10) (fun K hK => ?_)
  simp only [q63r2_9]
  refine ite_pos2 (by rfl) ?_
  obtain ⟨w4, m4, k4, rr⟩ := del_one (T := 71) (ty := 0) (((ME.out.kp K2.out (Ne.symm HNM.out))).kp K3.out (fun h => h)) (c b).e
  go_simp
  refine hK.out _ _ ?_
  clear hK K rr
  try simp only [q63r2_9, Act.put, List.setIfInBounds_toArray, List.set_cons_zero, List.set_cons_succ]
  have K4 : Hid (Kp (fun k => k = mb ∨ k = me) w1 w4) := ((K2.out.mono (fun _ _ h => .inl h)).trans K3.out (fun _ _ h => h.elim)).trans k4 (fun _ _ h => .inr h)
  have M4 := hid m4
  have M2b := hid ((M2.out.kp K3.out (fun h => h)).kp k4 HNM.out)
  clear m4 k4
  refine plan_done ?_
  obtain ⟨_, _, _, cn, cq⟩ := HC1.out w4 K4.out
  have SQ4 := hid (SQ1.out.kp K4.out (by have := HQm.out; omega))
  have hszp : sz (L.map c) = (c b).n + sz (M.map c) := by
    rw [← sz_perm (PM.out.map c), List.map_cons, sz_cons]
  have APM : Hid (Ap (M.map c)) := (HH.out.ap.perm (PM.out.symm.map c)).sub (by rw [List.map_cons]; exact List.sublist_cons_self _ _)
  have hsb := ap_sz HH.out.ap
  have hsb2 := ap_sz APM.out
  have hmn := HMB.out
  unfold Mayr Rn.e at hmn
  have hw : IntKind.i64.wrap (sz (L.map c) - (c b).n) = sz (M.map c) := by rw [IntKind.wrap_i64]; omega
  have hw2 : sz (L.map c) - (c b).n = sz (M.map c) := by omega
  have hw3 : IntKind.i64.wrap (sz (M.map c)) = sz (M.map c) := by rw [IntKind.wrap_i64]; omega
  clear hszp hsb hsb2 hmn
  go_wp2_with fail
  subst hC3
  refine wp_region_tail hmix (by kernel_rfl) ?_
  dsimp only [List.dropLast, List.getLast]
  repeat (gi_big_quiet_step (fail))
  refine wpQuietIn_nil ?_
  intro _ hw'
  obtain ⟨nq, hw2'⟩ := hw'
  subst hw2'
  have kq := drewN_kp (fun _ => False) w4 nq
  generalize w4.drewN nq = X8 at kq ⊢
  have S9 := hid (SQ4.out.kp kq (fun x => x))
  have y8 : X8.cell? ⟨Q, 3, none⟩ = some (.int .i64 (sz (L.map c))) := S9.out.cell 3
  have z8 : X8.frozen? ⟨Q, 3, none⟩ = false := S9.out.frozen 3
  have lq := S9.out.lt
  have KQ := hid kq
  clear kq cq cn
  gi_wp2_with fail
  go_end0
  have kz := kp_setCell X8 Q 3 (.int .i64 (sz (M.map c))) (fun k => k = Q) rfl
  have k18 : Kp (fun k => k = mb ∨ k = me ∨ k = Q) w1 (X8.setCell ⟨Q, 3, none⟩ (.int .i64 (sz (M.map c)))) := (((K4.out.mono (fun _ _ h => h.imp id .inl)).trans KQ.out (fun _ _ h => h.elim))).trans kz (fun _ _ h => .inr (.inr h))
  obtain ⟨q1, q2, q3, q4, q5, q6, q7, q8, q9, q10⟩ := sep SQ1.out L1.out MB.out ME.out
  have hne : ∀ x ∈ M, (c x).a ≠ (c b).a ∧ (c x).e ≠ (c b).e := fun x hx => by
    have hnd : (b :: M).Nodup := PM.out.nodup_iff.2 HH.out.ln.nodup
    rcases HNE.out x (PM.out.mem_iff.1 (by simp [hx])) with e | e
    · exact absurd (e ▸ hx) (List.nodup_cons.1 hnd).1
    · exact e
  refine ⟨rfl, ⟨v1, M, ⟨St.set S9.out 3 _, ?_, HP1.out, ⟨_, _, (M2b.out.kp KQ.out (fun h => h)).kp kz (Ne.symm HQm.out.1), KY1.out.del MB0.out.2 PM.out (fun x hx => (hne x hx).1)⟩, ⟨_, _, (M4.out.kp KQ.out (fun h => h)).kp kz (Ne.symm HQm.out.2.1), KY2.out.del ME0.out.2 PM.out (fun x hx => (hne x hx).2)⟩, HNM.out, APM.out, ?_⟩, PM.out, OW.out⟩, ?_, ⟨_, Wt.kp WT.out k18 (by have := HQm.out; omega)⟩⟩
  · refine L1.out.kp k18 (by omega) (fun g e h => ?_) (fun x hb h => ?_)
    · rcases h with rfl | rfl | rfl
      · exact q9 e
      · exact q10 e
      · exact q3 e
    · rcases h with rfl | rfl | rfl
      · exact (q8 _ hb).1 rfl
      · exact (q8 _ hb).2 rfl
      · exact q2 _ hb rfl
  · have := PM.out.length_eq
    have h2 := HH.out.len
    simp at this
    omega
  · refine (K1.out.mono (G := Fp Q B mb me v L) (fun i _ h => ?_)).trans k18 (fun i hi h => ?_)
    · rcases h with h | h
      · exact .inr (.inl h)
      · exact .inr (.inr (.inr (.inr h)))
    · rcases h with h | h | h
      · exact .inr (.inr (.inl h))
      · exact .inr (.inr (.inr (.inl h)))
      · exact .inl h
end Go.Proofs.Ytgfondgejimkkaa
