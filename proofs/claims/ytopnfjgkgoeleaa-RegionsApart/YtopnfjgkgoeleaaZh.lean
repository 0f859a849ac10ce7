/- RegionsApart: the tail. -/
import Derived.Test.YtopnfjgkgoeleaaZg
namespace Go.Proofs.Ytopnfjgkgoeleaa
open Go.RowKit Go.Shelf
attribute [local go_sem] Oper.semAt_some
set_option linter.unusedVariables false
set_option linter.unusedSimpArgs false
def q4r39_0 : Oper := { dst := some 220, op := Go.Op.load 2 (Go.Operand.tmp 8), type := 2, pos := "law.go:248", after := #[], guard := none }
def q4r39_1 : Oper := { dst := some 221, op := Go.Op.load 24 (Go.Operand.tmp 7), type := 24, pos := "law.go:248", after := #[], guard := none }
def q4r39_2 : Oper := { dst := some 222, op := Go.Op.call { callee := Go.Callee.value (Go.Operand.func 13), args := #[Go.Operand.tmp 221], argTypes := #[24] }, type := 2, pos := "law.go:248", after := #[{ on := 1, ground := Go.Ground.data }], guard := none }
def q4r39_3 : Oper := { dst := some 223, op := Go.Op.binOp Go.BinOp.eql 2 (Go.Operand.tmp 220) (Go.Operand.tmp 222) 2, type := 4, pos := "law.go:248", after := #[{ on := 0, ground := Go.Ground.data }, { on := 2, ground := Go.Ground.data }], guard := none }
def q4r39_4 : Oper := { dst := some 224, op := Go.Op.move (Go.Operand.tmp 223), type := 4, pos := "law.go:248", after := #[{ on := 3, ground := Go.Ground.data }, { on := 2, ground := Go.Ground.chain }], guard := none }
def q4r39_5 : Oper := { dst := some 225, op := Go.Op.load 2 (Go.Operand.tmp 17), type := 2, pos := "law.go:248", after := #[{ on := 4, ground := Go.Ground.guard }], guard := some (4, true) }
def q4r39_6 : Oper := { dst := some 226, op := Go.Op.load 24 (Go.Operand.tmp 7), type := 24, pos := "law.go:248", after := #[{ on := 4, ground := Go.Ground.guard }], guard := some (4, true) }
def q4r39_7 : Oper := { dst := some 227, op := Go.Op.call { callee := Go.Callee.value (Go.Operand.func 13), args := #[Go.Operand.tmp 226], argTypes := #[24] }, type := 2, pos := "law.go:248", after := #[{ on := 6, ground := Go.Ground.data }, { on := 4, ground := Go.Ground.chain }, { on := 4, ground := Go.Ground.guard }], guard := some (4, true) }
def q4r39_8 : Oper := { dst := some 228, op := Go.Op.binOp Go.BinOp.eql 2 (Go.Operand.tmp 225) (Go.Operand.tmp 227) 2, type := 4, pos := "law.go:248", after := #[{ on := 5, ground := Go.Ground.data }, { on := 7, ground := Go.Ground.data }, { on := 4, ground := Go.Ground.guard }], guard := some (4, true) }
def q4r39_9 : Oper := { dst := some 229, op := Go.Op.pick (Go.Operand.tmp 224) (Go.Operand.tmp 228) (Go.Operand.const (Go.Value.bool false)), type := 4, pos := "law.go:248", after := #[{ on := 4, ground := Go.Ground.data }, { on := 8, ground := Go.Ground.data }], guard := none }
def q4r39_10 : Oper := { dst := some 230, op := Go.Op.move (Go.Operand.tmp 229), type := 4, pos := "law.go:248", after := #[{ on := 9, ground := Go.Ground.data }, { on := 7, ground := Go.Ground.chain }], guard := none }
def q4r39_11 : Oper := { dst := some 231, op := Go.Op.call { callee := Go.Callee.value (Go.Operand.func 8), args := #[], argTypes := #[] }, type := 4, pos := "law.go:248", after := #[{ on := 10, ground := Go.Ground.chain }, { on := 10, ground := Go.Ground.guard }], guard := some (10, true) }
def q4r39_12 : Oper := { dst := some 232, op := Go.Op.pick (Go.Operand.tmp 230) (Go.Operand.tmp 231) (Go.Operand.const (Go.Value.bool false)), type := 4, pos := "law.go:248", after := #[{ on := 10, ground := Go.Ground.data }, { on := 11, ground := Go.Ground.data }], guard := none }
def q4r39_13 : Oper := { dst := none, op := Go.Op.store 4 (Go.Operand.tmp 6) (Go.Operand.tmp 232), type := 0, pos := "law.go:248", after := #[{ on := 12, ground := Go.Ground.data }, { on := 11, ground := Go.Ground.chain }, { on := 0, ground := Go.Ground.phase }, { on := 1, ground := Go.Ground.phase }, { on := 2, ground := Go.Ground.phase }, { on := 3, ground := Go.Ground.phase }, { on := 4, ground := Go.Ground.phase }, { on := 5, ground := Go.Ground.phase }, { on := 6, ground := Go.Ground.phase }, { on := 7, ground := Go.Ground.phase }, { on := 8, ground := Go.Ground.phase }, { on := 9, ground := Go.Ground.phase }, { on := 10, ground := Go.Ground.phase }, { on := 11, ground := Go.Ground.phase }, { on := 12, ground := Go.Ground.phase }], guard := none }
def o4r39 : Array Oper := #[q4r39_0, q4r39_1, q4r39_2, q4r39_3, q4r39_4, q4r39_5, q4r39_6, q4r39_7, q4r39_8, q4r39_9, q4r39_10, q4r39_11, q4r39_12, q4r39_13]
def p4r39_14 : List (Nat × Oper) := []
def p4r39_13 : List (Nat × Oper) := (2, q4r39_13) :: p4r39_14
def p4r39_12 : List (Nat × Oper) := (0, q4r39_12) :: p4r39_13
def p4r39_11 : List (Nat × Oper) := (1, q4r39_11) :: p4r39_12
def p4r39_10 : List (Nat × Oper) := (0, q4r39_10) :: p4r39_11
def p4r39_9 : List (Nat × Oper) := (0, q4r39_9) :: p4r39_10
def p4r39_8 : List (Nat × Oper) := (0, q4r39_8) :: p4r39_9
def p4r39_7 : List (Nat × Oper) := (1, q4r39_7) :: p4r39_8
def p4r39_6 : List (Nat × Oper) := (0, q4r39_6) :: p4r39_7
def p4r39_5 : List (Nat × Oper) := (0, q4r39_5) :: p4r39_6
def p4r39_4 : List (Nat × Oper) := (0, q4r39_4) :: p4r39_5
def p4r39_3 : List (Nat × Oper) := (0, q4r39_3) :: p4r39_4
def p4r39_2 : List (Nat × Oper) := (1, q4r39_2) :: p4r39_3
def p4r39_1 : List (Nat × Oper) := (0, q4r39_1) :: p4r39_2
def p4r39_0 : List (Nat × Oper) := (0, q4r39_0) :: p4r39_1
def c4r39 : List (Nat × Nat) := [(0, 0), (0, 1), (1, 2), (0, 3), (0, 4), (0, 5), (0, 6), (1, 7), (0, 8), (0, 9), (0, 10), (1, 11), (0, 12), (2, 13)]
theorem b4r39 : (Region.noSelect o4r39 && (c4r39.length == o4r39.size) && planB o4r39 [13] c4r39 (Array.replicate o4r39.size false)) = true := by kernel_rfl
theorem d4r39 : (c4r39.map fun p => (p.1, o4r39[p.2]?)) = (p4r39_0.map fun p => (p.1, some p.2)) := by kernel_rfl

set_option maxRecDepth 100000 in
set_option maxHeartbeats 4000000 in
theorem c39_wp (w X : World) (bo : Option Addr) (n cb : Nat) (nn st : Int) (T6 T7 T8 B q q1 q2 T17 : Nat) (ao : Option Addr) (c : Nat) (L : List Rn) (ds : List Deferred) (ob : Bool) (f : Nat → Value) (h : LI w T6 B T7 T8 ao c L (endL L) X) (s17 : St 2 X T17 #[.int .i64 (endL L)]) :
    c39.wpIn Fence.wide 20 Try.prog (postN (fun a' Z => (∃ f', a' = { tmps := e38 bo n cb nn st T6 T7 T8 q q1 q2 T17 ob f', defers := ds }) ∧ Kp (fun i => i = T6) X Z ∧ St 4 Z T6 #[.bool true])) { tmps := e38 bo n cb nn st T6 T7 T8 q q1 q2 T17 ob f, defers := ds } X := by
  have c7 : X.cell? ⟨T7, 0, none⟩ = some (.pointer (some ⟨B, 0, none⟩)) := h.s7.cell 0
  have c8 : X.cell? ⟨T8, 0, none⟩ = some (.int .i64 (endL L)) := h.s8.cell 0
  have c17 : X.cell? ⟨T17, 0, none⟩ = some (.int .i64 (endL L)) := s17.cell 0
  have l7 := h.s7.lt
  have l8 := h.s8.lt
  have l17 := s17.lt
  have S6 := hid h.s6
  have HEN : Hid (∀ U, Below X.heap.size X U → Calls Try.prog 13 #[.pointer (some ⟨B, 0, none⟩)] U fun e w' => e = .returned (.int .i64 (endL L)) ∧ Below U.heap.size U w') := fun U hU => end_call U B ao c L (h.rg.below hU)
  generalize endL L = u at *
  have HKE : Hid (∀ U, Below X.heap.size X U → (fun U : World => U.cell? ⟨T7, 0, none⟩ = some (.pointer (some ⟨B, 0, none⟩)) ∧ U.cell? ⟨T8, 0, none⟩ = some (.int .i64 u) ∧ U.cell? ⟨T17, 0, none⟩ = some (.int .i64 u)) U) := fun U hU => ⟨(hU.cell (p := ⟨T7, 0, none⟩) l7).trans c7, (hU.cell (p := ⟨T8, 0, none⟩) l8).trans c8, (hU.cell (p := ⟨T17, 0, none⟩) l17).trans c17⟩
  have HTR : Hid (∀ U V : World, Below X.heap.size X U → Below U.heap.size U V → Below X.heap.size X V) := fun U V h k => h.trans (k.mono h.size)
  have H0 : Hid (Below X.heap.size X X.drew) := ⟨rfl, rfl, rfl, Nat.le_refl _, fun _ _ => rfl⟩
  clear h s17
  refine wpIn_wide.2 ?_
  unfold c39 e38
  generalize hQ : postN _ = QQ
  change (Code.region 39 o4r39 true).wp _ _ _ _
  refine wp_region_plan (fun w' => Below X.heap.size X w') [13] c4r39 p4r39_0 hmix b4r39 d4r39 (fun _ _ d _ _ h => by subst hQ; exact h.elim) ?_
  refine plan_take (o := q4r39_0) (r := p4r39_1) ?vy0 H0.out (by rfl) ?hyy0 ?resty0
  case hyy0 => (intro w hSw; (try dsimp only at hSw); have y := (HKE.out _ hSw).2.1; simp only [q4r39_0]; go_simp; try with_reducible rfl)
  try simp only [q4r39_0, Act.put, List.setIfInBounds_toArray, List.set_cons_zero, List.set_cons_succ]
  refine plan_take (o := q4r39_1) (r := p4r39_2) ?vy1 H0.out (by rfl) ?hyy1 ?resty1
  case hyy1 => (intro w hSw; (try dsimp only at hSw); have y := (HKE.out _ hSw).1; simp only [q4r39_1]; go_simp; try with_reducible rfl)
  try simp only [q4r39_1, Act.put, List.setIfInBounds_toArray, List.set_cons_zero, List.set_cons_succ]
  refine plan_act (o := q4r39_2) (r := p4r39_3) (fun K hK => ?_)
  simp only [q4r39_2]
  refine ite_pos2 (by rfl) ?_
  go_simp
  refine (HEN.out _ H0.out).mono ?_
  rintro e w1 ⟨rfl, b1⟩
  have B1 := hid (HTR.out _ _ H0.out b1)
  clear b1
  go_wp2_with fail
  refine hK.out _ _ (fun _ => B1.out) ?_
  clear hK K
  try simp only [q4r39_2, Act.put, List.setIfInBounds_toArray, List.set_cons_zero, List.set_cons_succ]
  refine plan_take (o := q4r39_3) (r := p4r39_4) (.bool true) B1.out (by rfl) ?hyy3 ?resty3
  case hyy3 => (intro w hSw; (try dsimp only at hSw); simp only [q4r39_3]; go_simp; try with_reducible rfl)
  try simp only [q4r39_3, Act.put, List.setIfInBounds_toArray, List.set_cons_zero, List.set_cons_succ]
  refine plan_take (o := q4r39_4) (r := p4r39_5) ?vy4 B1.out (by rfl) ?hyy4 ?resty4
  case hyy4 => (intro w hSw; (try dsimp only at hSw); simp only [q4r39_4]; go_simp; try with_reducible rfl)
  try simp only [q4r39_4, Act.put, List.setIfInBounds_toArray, List.set_cons_zero, List.set_cons_succ]
  refine plan_take (o := q4r39_5) (r := p4r39_6) ?vy5 B1.out (by rfl) ?hyy5 ?resty5
  case hyy5 => (intro w hSw; (try dsimp only at hSw); have y := (HKE.out _ hSw).2.2; simp only [q4r39_5]; go_simp; try with_reducible rfl)
  try simp only [q4r39_5, Act.put, List.setIfInBounds_toArray, List.set_cons_zero, List.set_cons_succ]
  refine plan_take (o := q4r39_6) (r := p4r39_7) ?vy6 B1.out (by rfl) ?hyy6 ?resty6
  case hyy6 => (intro w hSw; (try dsimp only at hSw); have y := (HKE.out _ hSw).1; simp only [q4r39_6]; go_simp; try with_reducible rfl)
  try simp only [q4r39_6, Act.put, List.setIfInBounds_toArray, List.set_cons_zero, List.set_cons_succ]
  refine plan_act (o := q4r39_7) (r := p4r39_8) (fun K hK => ?_)
  simp only [q4r39_7]
  refine ite_pos2 (by rfl) ?_
  go_simp
  refine (HEN.out _ B1.out).mono ?_
  rintro e w2 ⟨rfl, b2⟩
  have B2 := hid (HTR.out _ _ B1.out b2)
  clear b2
  go_wp2_with fail
  refine hK.out _ _ (fun _ => B2.out) ?_
  clear hK K
  try simp only [q4r39_7, Act.put, List.setIfInBounds_toArray, List.set_cons_zero, List.set_cons_succ]
  refine plan_take (o := q4r39_8) (r := p4r39_9) (.bool true) B2.out (by rfl) ?hyy8 ?resty8
  case hyy8 => (intro w hSw; (try dsimp only at hSw); simp only [q4r39_8]; go_simp; try with_reducible rfl)
  try simp only [q4r39_8, Act.put, List.setIfInBounds_toArray, List.set_cons_zero, List.set_cons_succ]
  refine plan_take (o := q4r39_9) (r := p4r39_10) ?vy9 B2.out (by rfl) ?hyy9 ?resty9
  case hyy9 => (intro w hSw; (try dsimp only at hSw); simp only [q4r39_9]; go_simp; try with_reducible rfl)
  try simp only [q4r39_9, Act.put, List.setIfInBounds_toArray, List.set_cons_zero, List.set_cons_succ]
  refine plan_take (o := q4r39_10) (r := p4r39_11) ?vy10 B2.out (by rfl) ?hyy10 ?resty10
  case hyy10 => (intro w hSw; (try dsimp only at hSw); simp only [q4r39_10]; go_simp; try with_reducible rfl)
  try simp only [q4r39_10, Act.put, List.setIfInBounds_toArray, List.set_cons_zero, List.set_cons_succ]
  refine plan_act (o := q4r39_11) (r := p4r39_12) (fun K hK => ?_)
  simp only [q4r39_11]
  refine ite_pos2 (by rfl) ?_
  go_simp
  refine (works_any _).mono ?_
  rintro e w3 ⟨rfl, b3⟩
  have B3 := hid (HTR.out _ _ B2.out b3)
  clear b3
  go_wp2_with fail
  refine hK.out _ _ (fun _ => B3.out) ?_
  clear hK K
  try simp only [q4r39_11, Act.put, List.setIfInBounds_toArray, List.set_cons_zero, List.set_cons_succ]
  refine plan_take (o := q4r39_12) (r := p4r39_13) ?vy12 B3.out (by rfl) ?hyy12 ?resty12
  case hyy12 => (intro w hSw; (try dsimp only at hSw); simp only [q4r39_12]; go_simp; try with_reducible rfl)
  try simp only [q4r39_12, Act.put, List.setIfInBounds_toArray, List.set_cons_zero, List.set_cons_succ]
  refine plan_late (o := q4r39_13) (r := p4r39_14) (fun K hK => ?_)
  simp only [q4r39_13]
  refine ite_pos2 (by rfl) ?_
  have s6 := S6.out.below B3.out S6.out.lt
  have y6 : w3.cell? ⟨T6, 0, none⟩ = some (.bool false) := s6.cell 0
  have z6 : w3.frozen? ⟨T6, 0, none⟩ = false := s6.frozen 0
  have S63 := hid s6
  clear s6
  go_simp
  refine hK.out _ _ ?_
  clear hK K
  refine plan_done ?_
  subst hQ
  exact ⟨act_of (by kernel_rfl) rfl, (Kp.of_below (F := fun i => i = T6) B3.out).trans (kp_setCell w3 T6 0 _ (fun i => i = T6) rfl) (fun _ _ x => x), St.set S63.out 0 _⟩
/-- What the last loop holds. -/
def LpM (X : World) (bo : Option Addr) (n cb : Nat) (nn st : Int) (T6 T7 T8 : Nat) (q q1 q2 T17 : Nat) (at0 : Int) (ds : List Deferred) (a' : Act) (Z : World) : Prop :=
  ∃ (p : Int) (i : Nat), 0 ≤ p ∧ p ≤ at0 ∧ p % st = 0 ∧ i ≤ 400 ∧ (∃ f, a' = { tmps := eM bo n cb nn st T6 T7 T8 q q1 q2 T17 at0 p i f, defers := ds }) ∧ Kp (fun _ => False) X Z
theorem eM_33 (bo : Option Addr) (n cb : Nat) (nn st : Int) (T6 T7 T8 : Nat) (q q1 q2 T17 : Nat) (at0 p : Int) (i : Nat) (ds : List Deferred) (f : Nat → Value) : ({ tmps := eM bo n cb nn st T6 T7 T8 q q1 q2 T17 at0 p i f, defers := ds } : Act).tmps.getD 33 undef = .int .i64 (i : Int) := rfl
theorem ask_fr {L : List Rn} {p k : Int} (hk : 1 ≤ k) (hp : 0 ≤ p) (hpk : p + k ≤ 72057594037927936) (B : Nat) (ao : Option Addr) (c : Nat) (U : World) (h : Rg U B ao c L) :
    Calls Try.prog 20 #[.pointer (some ⟨B, 0, none⟩), .int .i64 p, .int .i64 k, .slice none 0 0] U fun e w' => e = .returned (.tuple #[.agg (orz (ovr L p k mz)).cs, .bool (ovr L p k mz).isSome, .int .i64 0]) ∧ Below U.heap.size U w' := by
  refine (ask_any U B ao none c 0 0 L [] p k h (by unfold I6; omega) (by unfold I6; omega) rfl (by omega) (by omega) (Src.nil _ _ _)).mono fun e w' ⟨h1, h2⟩ => ⟨?_, h2⟩
  have hb : askB [] p k = true := by simp [askB, allK, lieb]; omega
  rw [h1]
  unfold askO askE
  rw [if_pos hb, if_pos hb, mks_nil]
set_option maxRecDepth 100000 in
set_option maxHeartbeats 4000000 in
theorem cM_wp (w X : World) (bo : Option Addr) (n cb : Nat) (nn st : Int) (T6 T7 T8 B q q1 q2 T17 : Nat) (ao : Option Addr) (c : Nat) (L : List Rn) (at0 : Int) (ds : List Deferred) (A : Act) (ht : A.tmps = eM bo n cb nn st T6 T7 T8 q q1 q2 T17 at0 0 0 (fun i => A.tmps.getD i undef)) (hd : A.defers = ds) (h : LI w T6 B T7 T8 ao c L (endL L) X) (h1 : 1 ≤ nn) (h2 : 1 ≤ st ∧ st ≤ 9223372036854775807) (hat : Fst L 0 nn st at0) (hb : at0 + nn ≤ 72057594037927936) :
    cM.wpIn Fence.wide 20 Try.prog (postN (fun a' Z => (∃ f', a' = { tmps := e30 bo n cb nn st T6 T7 T8 q q1 q2 T17 at0 f', defers := ds }) ∧ Kp (fun _ => False) X Z)) A X := by
  obtain ⟨f, rfl⟩ := act_of ht hd
  have HL := hid h
  have HF := hid hat
  have HA0 : Hid (0 ≤ at0) := hat.1
  clear ht hd h hat
  refine wpIn_wide.2 ?_
  unfold cM eM
  generalize hQ : postN _ = QQ
  go_wp2_with fail
  refine wp_loop (LpM X bo n cb nn st T6 T7 T8 q q1 q2 T17 at0 ds) (fun a' _ => 400 - (intOf (a'.tmps.getD 33 undef)).toNat) ⟨0, 0, Int.le_refl _, HA0.out, by simp, by omega, ⟨f, rfl⟩, Kp.refl _ _⟩ ?_
  rintro a' wr ⟨p, i, hp0, hpa, hpm, hi, ⟨f', rfl⟩, kx⟩
  have hmu : 400 - (intOf (({ tmps := eM bo n cb nn st T6 T7 T8 q q1 q2 T17 at0 p i f', defers := ds } : Act).tmps.getD 33 undef)).toNat = 400 - i := by rw [eM_33]; simp [intOf]
  rw [hmu]
  clear hmu f
  have KX := hid kx
  have HLW := hid (HL.out.same kx)
  have c7 : wr.cell? ⟨T7, 0, none⟩ = some (.pointer (some ⟨B, 0, none⟩)) := HLW.out.s7.cell 0
  clear kx
  unfold eM
  by_cases hlt : p < at0
  · have d1 : decide (p < at0) = true := by simpa using hlt
    by_cases hi4 : i < 400
    · have d2 : (i : Int) < 400 := by omega
      have d3 : decide ((i : Int) < 400) = true := by simpa using d2
      have hsome : (ovr L p nn mz).isSome = true := by
        cases ho : ovr L p nn mz with
        | some x => rfl
        | none => exact absurd ((ovr_fr h1).1 ho) (HF.out.2.2.2 p hp0 hlt hpm)
      have HASK := hid (ask_fr h1 hp0 (by omega) B ao c wr HLW.out.rg)
      rw [hsome] at HASK
      generalize orz (ovr L p nn mz) = y at HASK
      have hst : p + st ≤ at0 := by
        have e1 := HF.out.2.1
        have e2 : (at0 - p) % st = 0 := by rw [Int.sub_emod, e1, hpm]; simp
        have e3 := Int.emod_add_mul_ediv (at0 - p) st
        rw [e2] at e3
        have hq : 1 ≤ (at0 - p) / st := by
          apply Int.le_of_not_gt
          intro hc
          have h5 : (at0 - p) / st ≤ 0 := by omega
          have h6 : st * ((at0 - p) / st) ≤ 0 := Int.mul_nonpos_of_nonneg_of_nonpos (by omega) h5
          omega
        have h6 : st * 1 ≤ st * ((at0 - p) / st) := Int.mul_le_mul_of_nonneg_left hq (by omega)
        omega
      have hw : IntKind.i64.wrap (p + st) = p + st := by rw [IntKind.wrap_i64]; omega
      have HN : Hid (0 ≤ p + st ∧ p + st ≤ at0 ∧ (p + st) % st = 0) := ⟨by omega, hst, by rw [Int.add_emod, hpm]; simp⟩
      go_wp2_with (first | (go_at_call 20; refine HASK.out.mono ?_; rintro e w1 ⟨rfl, b1⟩; have K1 := hid (KX.out.trans (Kp.of_below (F := fun _ => False) b1) (fun _ _ x => x)); clear b1 c7) | (refine wpList_store_r rfl _ _ rfl _ rfl (e' := y) rfl (Rn.B.new w1 zRn) ?_; intro w2 b6 j6; have K2 := hid (K1.out.trans (((Kp.refl (fun _ => False) w1).alloc _).trans j6 (fun i h1 h2 => by omega)) (fun _ _ x => x)); clear b6 j6) | (go_at_call 22; refine (num_any _ _).mono ?_; rintro e w9 ⟨rfl, rfl⟩))
      refine ⟨⟨p + st, i + 1, HN.out.1, HN.out.2.1, HN.out.2.2, by omega, act_of (by kernel_rfl) rfl, K2.out⟩, ?_⟩
      simp [intOf]
      omega
    · have d2 : ¬ (i : Int) < 400 := by omega
      have d3 : decide ((i : Int) < 400) = false := by simpa using d2
      go_wp2_with fail
      subst hQ
      exact ⟨act_of (by kernel_rfl) rfl, KX.out⟩
  · have d1 : decide (p < at0) = false := by simpa using hlt
    go_wp2_with fail
    subst hQ
    exact ⟨act_of (by kernel_rfl) rfl, KX.out⟩
end Go.Proofs.Ytopnfjgkgoeleaa
