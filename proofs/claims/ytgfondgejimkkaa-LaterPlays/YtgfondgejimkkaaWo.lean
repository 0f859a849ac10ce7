/- later: without. -/
import Derived.Test.YtgfondgejimkkaaWn
namespace Go.Proofs.Ytgfondgejimkkaa
open Go.RowKit
set_option linter.unusedVariables false
set_option linter.unusedSimpArgs false
theorem Ownr.base {w : World} {b b' : Nat} {v : Value} {l : List Rn} (h : Ownr w b v l) (hb : b' ≤ b) : Ownr w b' v l := by
  rcases h with ⟨h1, h2 | ⟨g, cap, cur, e, hg, h3⟩⟩
  · exact ⟨h1, .inl h2⟩
  · exact ⟨h1, .inr ⟨g, cap, cur, e, by omega, h3⟩⟩
theorem Ownp.base {w : World} {b b' : Nat} {v : Value} {l : List Nat} (h : Ownp w b v l) (hb : b' ≤ b) : Ownp w b' v l := by
  rcases h with ⟨h1, h2 | ⟨g, cap, cur, e, hg, h3⟩⟩
  · exact ⟨h1, .inl h2⟩
  · exact ⟨h1, .inr ⟨g, cap, cur, e, by omega, h3⟩⟩
/-- append of one run, as an equation. -/
theorem own_app1 {w : World} {base b : Nat} {v : Value} {l : List Rn} {x : Rn} {ty : TypeId} (h : Ownr w base v l) (hb : St 38 w b x.cs) (hl : l.length ≤ 100000) (hbase : base ≤ w.heap.size) :
    ∃ v' w', (Builtin.append_ #[22, 22] ty #[v, .slice (some ⟨b, 0, none⟩) 1 1]).run Try.prog w = .ok v' w' ∧ Ownr w' base v' (l ++ [x]) ∧ Kp (fun i => base ≤ i) w w' := by
  obtain ⟨i0, hi, hz0, hz1, hz2⟩ := info_parts Try.inf38
  obtain ⟨v', w', h1, h2, h3, h4, h5⟩ := run_append_own_at (P := Try.prog) w base 22 ty 38 i0 _ 2 16 Try.underlying22 hi hz0 hz1 hz2 rfl (by decide) v l.length (flr l) h ⟨b, 0, none⟩ 1 1 x.cl rfl (fun j u hu => by rw [add_z, hb.cell j]; simpa [Rn.cs, Rn.cl] using hu) (fun u hu => by simp [Rn.cl] at hu; rcases hu with rfl | rfl <;> rfl) (by unfold maxLen; omega) (by omega) hbase
  refine ⟨v', w', h1, ?_, Kp.of_grown h3 (fun i e => (h.blk e).1)⟩
  unfold Ownr
  rw [flr_append, List.length_append, List.length_singleton]
  simpa [flr] using h2
def q49r4_0 : Oper := { dst := some 22, op := Go.Op.load 38 (Go.Operand.tmp 2), type := 38, pos := "run.go:46", after := #[], guard := none }
def q49r4_1 : Oper := { dst := some 23, op := Go.Op.call { callee := Go.Callee.value (Go.Operand.func 48), args := #[Go.Operand.tmp 22], argTypes := #[38] }, type := 2, pos := "run.go:46", after := #[{ on := 0, ground := Go.Ground.data }], guard := none }
def q49r4_2 : Oper := { dst := some 24, op := Go.Op.load 38 (Go.Operand.tmp 3), type := 38, pos := "run.go:46", after := #[], guard := none }
def q49r4_3 : Oper := { dst := some 25, op := Go.Op.call { callee := Go.Callee.value (Go.Operand.func 48), args := #[Go.Operand.tmp 24], argTypes := #[38] }, type := 2, pos := "run.go:46", after := #[{ on := 2, ground := Go.Ground.data }, { on := 1, ground := Go.Ground.chain }], guard := none }
def q49r4_4 : Oper := { dst := some 26, op := Go.Op.binOp Go.BinOp.gtr 2 (Go.Operand.tmp 23) (Go.Operand.tmp 25) 2, type := 4, pos := "run.go:46", after := #[{ on := 1, ground := Go.Ground.data }, { on := 3, ground := Go.Ground.data }], guard := none }
def o49r4 : Array Oper := #[q49r4_0, q49r4_1, q49r4_2, q49r4_3, q49r4_4]
def p49r4_5 : List (Nat × Oper) := []
def p49r4_4 : List (Nat × Oper) := (0, q49r4_4) :: p49r4_5
def p49r4_3 : List (Nat × Oper) := (1, q49r4_3) :: p49r4_4
def p49r4_2 : List (Nat × Oper) := (1, q49r4_1) :: p49r4_3
def p49r4_1 : List (Nat × Oper) := (0, q49r4_2) :: p49r4_2
def p49r4_0 : List (Nat × Oper) := (0, q49r4_0) :: p49r4_1
def c49r4 : List (Nat × Nat) := [(0, 0), (0, 2), (1, 1), (1, 3), (0, 4)]
theorem b49r4 : (Region.noSelect o49r4 && (c49r4.length == o49r4.size) && planB o49r4 [] c49r4 (Array.replicate o49r4.size false)) = true := by kernel_rfl
theorem d49r4 : (c49r4.map fun p => (p.1, o49r4[p.2]?)) = (p49r4_0.map fun p => (p.1, some p.2)) := by kernel_rfl
def q49r5_0 : Oper := { dst := some 27, op := Go.Op.move (Go.Operand.tmp 5), type := 22, pos := "run.go:47", after := #[], guard := none }
def q49r5_1 : Oper := { dst := some 28, op := Go.Op.load 38 (Go.Operand.tmp 3), type := 38, pos := "run.go:47", after := #[], guard := none }
def q49r5_2 : Oper := { dst := some 29, op := Go.Op.call { callee := Go.Callee.value (Go.Operand.func 48), args := #[Go.Operand.tmp 28], argTypes := #[38] }, type := 2, pos := "run.go:47", after := #[{ on := 1, ground := Go.Ground.data }], guard := none }
def q49r5_3 : Oper := { dst := some 30, op := Go.Op.load 38 (Go.Operand.tmp 2), type := 38, pos := "run.go:47", after := #[], guard := none }
def q49r5_4 : Oper := { dst := some 31, op := Go.Op.call { callee := Go.Callee.value (Go.Operand.func 48), args := #[Go.Operand.tmp 30], argTypes := #[38] }, type := 2, pos := "run.go:47", after := #[{ on := 3, ground := Go.Ground.data }, { on := 2, ground := Go.Ground.chain }], guard := none }
def q49r5_5 : Oper := { dst := some 32, op := Go.Op.load 38 (Go.Operand.tmp 3), type := 38, pos := "run.go:47", after := #[], guard := none }
def q49r5_6 : Oper := { dst := some 33, op := Go.Op.call { callee := Go.Callee.value (Go.Operand.func 48), args := #[Go.Operand.tmp 32], argTypes := #[38] }, type := 2, pos := "run.go:47", after := #[{ on := 5, ground := Go.Ground.data }, { on := 4, ground := Go.Ground.chain }], guard := none }
def q49r5_7 : Oper := { dst := some 34, op := Go.Op.binOp Go.BinOp.sub 2 (Go.Operand.tmp 31) (Go.Operand.tmp 33) 2, type := 2, pos := "run.go:47", after := #[{ on := 4, ground := Go.Ground.data }, { on := 6, ground := Go.Ground.data }], guard := none }
def q49r5_8 : Oper := { dst := some 35, op := Go.Op.build 38 #[(0, Go.Operand.tmp 29), (1, Go.Operand.tmp 34)], type := 38, pos := "run.go:47", after := #[{ on := 2, ground := Go.Ground.data }, { on := 7, ground := Go.Ground.data }], guard := none }
def q49r5_9 : Oper := { dst := some 36, op := Go.Op.buildSlice 22 1 #[(0, Go.Operand.tmp 35)], type := 22, pos := "run.go:47", after := #[{ on := 8, ground := Go.Ground.data }], guard := none }
def q49r5_10 : Oper := { dst := some 37, op := Go.Op.call { callee := Go.Callee.builtin Go.Builtin.append, args := #[Go.Operand.tmp 27, Go.Operand.tmp 36], argTypes := #[22, 22] }, type := 22, pos := "run.go:47", after := #[{ on := 0, ground := Go.Ground.data }, { on := 9, ground := Go.Ground.data }, { on := 6, ground := Go.Ground.chain }], guard := none }
def q49r5_11 : Oper := { dst := some 5, op := Go.Op.assign (Go.Operand.tmp 37), type := 22, pos := "run.go:47", after := #[{ on := 10, ground := Go.Ground.data }, { on := 10, ground := Go.Ground.chain }, { on := 0, ground := Go.Ground.phase }, { on := 1, ground := Go.Ground.phase }, { on := 2, ground := Go.Ground.phase }, { on := 3, ground := Go.Ground.phase }, { on := 4, ground := Go.Ground.phase }, { on := 5, ground := Go.Ground.phase }, { on := 6, ground := Go.Ground.phase }, { on := 7, ground := Go.Ground.phase }, { on := 8, ground := Go.Ground.phase }, { on := 9, ground := Go.Ground.phase }, { on := 10, ground := Go.Ground.phase }], guard := none }
def o49r5 : Array Oper := #[q49r5_0, q49r5_1, q49r5_2, q49r5_3, q49r5_4, q49r5_5, q49r5_6, q49r5_7, q49r5_8, q49r5_9, q49r5_10, q49r5_11]
def p49r5_12 : List (Nat × Oper) := []
def p49r5_11 : List (Nat × Oper) := (0, q49r5_11) :: p49r5_12
def p49r5_10 : List (Nat × Oper) := (1, q49r5_10) :: p49r5_11
def p49r5_9 : List (Nat × Oper) := (1, q49r5_9) :: p49r5_10
def p49r5_8 : List (Nat × Oper) := (0, q49r5_8) :: p49r5_9
def p49r5_7 : List (Nat × Oper) := (0, q49r5_7) :: p49r5_8
def p49r5_6 : List (Nat × Oper) := (1, q49r5_6) :: p49r5_7
def p49r5_5 : List (Nat × Oper) := (1, q49r5_4) :: p49r5_6
def p49r5_4 : List (Nat × Oper) := (1, q49r5_2) :: p49r5_5
def p49r5_3 : List (Nat × Oper) := (0, q49r5_5) :: p49r5_4
def p49r5_2 : List (Nat × Oper) := (0, q49r5_3) :: p49r5_3
def p49r5_1 : List (Nat × Oper) := (0, q49r5_1) :: p49r5_2
def p49r5_0 : List (Nat × Oper) := (0, q49r5_0) :: p49r5_1
def c49r5 : List (Nat × Nat) := [(0, 0), (0, 1), (0, 3), (0, 5), (1, 2), (1, 4), (1, 6), (0, 7), (0, 8), (1, 9), (1, 10), (0, 11)]
theorem b49r5 : (Region.noSelect o49r5 && (c49r5.length == o49r5.size) && planB o49r5 [] c49r5 (Array.replicate o49r5.size false)) = true := by kernel_rfl
theorem d49r5 : (c49r5.map fun p => (p.1, o49r5[p.2]?)) = (p49r5_0.map fun p => (p.1, some p.2)) := by kernel_rfl

set_option maxRecDepth 100000 in
set_option maxHeartbeats 8000000 in
theorem without_any (w : World) (x y : Rn) (hx : Mayr x) (hy : Mayr y) :
    Calls Try.prog 49 #[.agg x.cs, .agg y.cs] w fun e w' => ∃ v, e = .returned v ∧ Ownr w' w.heap.size v (wow y x) ∧ Kp (fun _ => False) w w' := by
  obtain ⟨xa, xn⟩ := x
  obtain ⟨ya, yn⟩ := y
  have HEX : Hid (∀ U, Calls Try.prog 48 #[.agg #[.int .i64 xa, .int .i64 xn]] U fun e w' => e = .returned (.int .i64 (⟨xa, xn⟩ : Rn).e) ∧ Below U.heap.size U w') := fun U => end_any ⟨xa, xn⟩ U hx
  have HEY : Hid (∀ U, Calls Try.prog 48 #[.agg #[.int .i64 ya, .int .i64 yn]] U fun e w' => e = .returned (.int .i64 (⟨ya, yn⟩ : Rn).e) ∧ Below U.heap.size U w') := fun U => end_any ⟨ya, yn⟩ U hy
  have HWO : Hid (wow ⟨ya, yn⟩ ⟨xa, xn⟩ = (if xa < ya then [⟨xa, ya - xa⟩] else []) ++ (if (⟨ya, yn⟩ : Rn).e < (⟨xa, xn⟩ : Rn).e then [⟨(⟨ya, yn⟩ : Rn).e, (⟨xa, xn⟩ : Rn).e - (⟨ya, yn⟩ : Rn).e⟩] else [])) := rfl
  have hxl := hx.lt
  have hyl := hy.lt
  unfold Mayr at hx hy
  have s2 := (St.new 38 w (⟨xa, xn⟩ : Rn).cs).kp ((Kp.refl (fun _ => False) _).alloc (.cells (⟨ya, yn⟩ : Rn).cs 38)) (fun h => h)
  have s3 := St.new 38 (w.alloc (.cells (⟨xa, xn⟩ : Rn).cs 38)) (⟨ya, yn⟩ : Rn).cs
  have k0 : Kp (fun _ => False) w ((w.alloc (.cells (⟨xa, xn⟩ : Rn).cs 38)).alloc (.cells (⟨ya, yn⟩ : Rn).cs 38)) := ((Kp.refl _ _).alloc _).alloc _
  rw [World.size_alloc] at s3
  have hsz : ((w.alloc (.cells (⟨xa, xn⟩ : Rn).cs 38)).alloc (.cells (⟨ya, yn⟩ : Rn).cs 38)).heap.size = w.heap.size + 1 + 1 := by simp
  unfold Rn.cs at *
  dsimp only at *
  generalize (⟨xa, xn⟩ : Rn).e = xe at *
  generalize (⟨ya, yn⟩ : Rn).e = ye at *
  go_enter Try.func49, Try.ntmps49
  generalize hC4 : Code.region 4 _ _ = C4
  generalize hC5 : Code.region 5 _ _ = C5
  generalize hC2 : Code.region 2 _ _ = C2
  go_wp2_with fail
  subst hC2
  generalize (w.alloc (.cells #[.int .i64 xa, .int .i64 xn] 38)).alloc (.cells #[.int .i64 ya, .int .i64 yn] 38) = V at *
  obtain ⟨P, hP⟩ : ∃ P, P = w.heap.size := ⟨_, rfl⟩
  rw [← hP] at s2 s3 hsz ⊢
  have c1 : V.cell? ⟨P, 0, none⟩ = some (.int .i64 xa) := s2.cell 0
  have c2 : V.cell? ⟨P, 1, none⟩ = some (.int .i64 xn) := s2.cell 1
  have c3 : V.cell? ⟨P + 1, 0, none⟩ = some (.int .i64 ya) := s3.cell 0
  have c4 : V.cell? ⟨P + 1, 1, none⟩ = some (.int .i64 yn) := s3.cell 1
  have SXb := hid s2
  have SYb := hid s3
  have HSZ := hid hsz
  have HPw := hid hP
  have K0 := hid k0
  have HFINb : Hid (∀ U, Kp (fun i => P + 2 ≤ i) V U → Kp (fun _ => False) w U) := fun U hU => K0.out.trans hU (fun i hi e => by have := HPw.out; omega)
  clear s2 s3 hsz hP k0
  by_cases h1 : xa < ya
  · go_wp2_with (at_builtin; refine wpList_append_rr rfl _ _ rfl (P + 2) (.slice none 0 0) [] rfl (Ownr.nil _ _) (some ⟨V.heap.size, 0, none⟩) 1 1 [⟨xa, ya - xa⟩] rfl rfl (fun e => by cases e) (fun _ => ⟨V.heap.size, 0, rfl, by simp, fun j u hu => by rw [Nat.zero_add]; exact ((St.new 38 V (⟨xa, ya - xa⟩ : Rn).cs).cell j).trans (by simpa [flr, Rn.cl, Rn.cs] using hu)⟩) (by simp) (by rw [World.size_alloc]; have := HSZ.out; omega) ?_; intro v1 w1 o1 k1 _; have O1 := hid o1; have K1 : Hid (Kp (fun _ => False) V w1) := ((Kp.refl (fun _ => False) V).alloc _).trans k1 (fun _ _ e => by cases e); clear o1 k1)
    have SXa := hid (SXb.out.kp K1.out (fun h => h))
    have SYa := hid (SYb.out.kp K1.out (fun h => h))
    have HSZ : Hid (P + 2 ≤ w1.heap.size) := by have := K1.out.size; have := HSZ.out; show _ ≤ _; omega
    have HFINa : Hid (∀ U, Kp (fun i => P + 2 ≤ i) w1 U → Kp (fun _ => False) w U) := fun U hU => HFINb.out U ((K1.out.mono (fun _ _ h => h.elim)).trans hU (fun _ _ h => h))
    have OA : Hid (∀ U, Kp (fun _ => False) w1 U → Ownr U (P + 2) v1 [⟨xa, ya - xa⟩]) := fun U hU => O1.out.kp hU (fun _ _ h => h)
    clear c1 c2 c3 c4 SXb SYb
    subst hC4
    have H0 : Hid (Kp (fun _ => False) w1 w1.drew) := (Kp.refl _ _).drew
    have HC : Hid (∀ U, Kp (fun i => P + 2 ≤ i) w1 U → U.cell? ⟨P, 0, none⟩ = some (.int .i64 xa) ∧ U.cell? ⟨P, 1, none⟩ = some (.int .i64 xn) ∧ U.cell? ⟨P + 1, 0, none⟩ = some (.int .i64 ya) ∧ U.cell? ⟨P + 1, 1, none⟩ = some (.int .i64 yn)) := fun U hU => ⟨(SXa.out.kp hU (by omega)).cell 0, (SXa.out.kp hU (by omega)).cell 1, (SYa.out.kp hU (by omega)).cell 0, (SYa.out.kp hU (by omega)).cell 1⟩
    by_cases hgt : ye < xe
    · clear SXa SYa
      change (Code.region 4 o49r4 true).wp _ _ _ _
      refine wp_region_plan (fun w' => Kp (fun i => P + 2 ≤ i) w1 w') [] c49r4 p49r4_0 hmix b49r4 d49r4 (fun _ _ d _ _ h => by cases d <;> exact h) ?_
      refine plan_take (o := q49r4_0) (r := p49r4_1) (.agg #[.int .i64 xa, .int .i64 xn]) (H0.out.mono (fun _ _ h => h.elim)) (by rfl) ?hydat0 ?restdat0
      case hydat0 => (intro w hSw; (try dsimp only at hSw); obtain ⟨y1, y2, _, _⟩ := HC.out _ hSw; simp only [q49r4_0]; go_simp; try with_reducible rfl)
      try simp only [q49r4_0, Act.put, List.setIfInBounds_toArray, List.set_cons_zero, List.set_cons_succ]
      refine plan_take (o := q49r4_2) (r := p49r4_2) (.agg #[.int .i64 ya, .int .i64 yn]) (H0.out.mono (fun _ _ h => h.elim)) (by rfl) ?hydat2 ?restdat2
      case hydat2 => (intro w hSw; (try dsimp only at hSw); obtain ⟨_, _, y1, y2⟩ := HC.out _ hSw; simp only [q49r4_2]; go_simp; try with_reducible rfl)
      try simp only [q49r4_2, Act.put, List.setIfInBounds_toArray, List.set_cons_zero, List.set_cons_succ]
      refine plan_act (o := q49r4_1) (r := p49r4_3) (fun K hK => ?_)
      simp only [q49r4_1]
      refine ite_pos2 (by rfl) ?_
      go_simp
      refine (HEX.out _).mono ?_
      rintro e w3 ⟨rfl, b3⟩
      have K3 : Hid (Kp (fun _ => False) w1 w3) := H0.out.trans (Kp.of_below (F := fun _ => False) b3) (fun _ _ h => h)
      clear b3
      go_wp2_with fail
      refine hK.out _ _ (fun _ => K3.out.mono (fun _ _ h => h.elim)) ?_
      clear hK K
      try simp only [q49r4_1, Act.put, List.setIfInBounds_toArray, List.set_cons_zero, List.set_cons_succ]
      refine plan_act (o := q49r4_3) (r := p49r4_4) (fun K hK => ?_)
      simp only [q49r4_3]
      refine ite_pos2 (by rfl) ?_
      go_simp
      refine (HEY.out _).mono ?_
      rintro e w4 ⟨rfl, b3⟩
      have K4 : Hid (Kp (fun _ => False) w1 w4) := K3.out.trans (Kp.of_below (F := fun _ => False) b3) (fun _ _ h => h)
      clear b3
      go_wp2_with fail
      refine hK.out _ _ (fun _ => K4.out.mono (fun _ _ h => h.elim)) ?_
      clear hK K
      try simp only [q49r4_3, Act.put, List.setIfInBounds_toArray, List.set_cons_zero, List.set_cons_succ]
      refine plan_take (o := q49r4_4) (r := p49r4_5) (.bool true) (K4.out.mono (fun _ _ h => h.elim)) (by rfl) ?hydat4 ?restdat4
      case hydat4 => (intro w hSw; (try dsimp only at hSw); have hq := hgt; simp only [q49r4_4]; go_simp; try with_reducible rfl)
      try simp only [q49r4_4, Act.put, List.setIfInBounds_toArray, List.set_cons_zero, List.set_cons_succ]
      refine plan_done ?_
      go_wp2_with fail
      subst hC5
      change (Code.region 5 o49r5 true).wp _ _ _ _
      refine wp_region_plan (fun w' => Kp (fun i => P + 2 ≤ i) w1 w') [] c49r5 p49r5_0 hmix b49r5 d49r5 (fun _ _ d _ _ h => by cases d <;> exact h) ?_
      refine plan_take (o := q49r5_0) (r := p49r5_1) ?veat0 (K4.out.drew.mono (fun _ _ h => h.elim)) (by rfl) ?hyeat0 ?resteat0
      case hyeat0 => (intro w hSw; (try dsimp only at hSw); simp only [q49r5_0]; go_simp; try with_reducible rfl)
      try simp only [q49r5_0, Act.put, List.setIfInBounds_toArray, List.set_cons_zero, List.set_cons_succ]
      refine plan_take (o := q49r5_1) (r := p49r5_2) (.agg #[.int .i64 ya, .int .i64 yn]) (K4.out.drew.mono (fun _ _ h => h.elim)) (by rfl) ?hyeat1 ?resteat1
      case hyeat1 => (intro w hSw; (try dsimp only at hSw); obtain ⟨_, _, y1, y2⟩ := HC.out _ hSw; simp only [q49r5_1]; go_simp; try with_reducible rfl)
      try simp only [q49r5_1, Act.put, List.setIfInBounds_toArray, List.set_cons_zero, List.set_cons_succ]
      refine plan_take (o := q49r5_3) (r := p49r5_3) (.agg #[.int .i64 xa, .int .i64 xn]) (K4.out.drew.mono (fun _ _ h => h.elim)) (by rfl) ?hyeat3 ?resteat3
      case hyeat3 => (intro w hSw; (try dsimp only at hSw); obtain ⟨y1, y2, _, _⟩ := HC.out _ hSw; simp only [q49r5_3]; go_simp; try with_reducible rfl)
      try simp only [q49r5_3, Act.put, List.setIfInBounds_toArray, List.set_cons_zero, List.set_cons_succ]
      refine plan_take (o := q49r5_5) (r := p49r5_4) (.agg #[.int .i64 ya, .int .i64 yn]) (K4.out.drew.mono (fun _ _ h => h.elim)) (by rfl) ?hyeat5 ?resteat5
      case hyeat5 => (intro w hSw; (try dsimp only at hSw); obtain ⟨_, _, y1, y2⟩ := HC.out _ hSw; simp only [q49r5_5]; go_simp; try with_reducible rfl)
      try simp only [q49r5_5, Act.put, List.setIfInBounds_toArray, List.set_cons_zero, List.set_cons_succ]
      refine plan_act (o := q49r5_2) (r := p49r5_5) (fun K hK => ?_)
      simp only [q49r5_2]
      refine ite_pos2 (by rfl) ?_
      go_simp
      refine (HEY.out _).mono ?_
      rintro e w5 ⟨rfl, b3⟩
      have K5 : Hid (Kp (fun _ => False) w1 w5) := K4.out.drew.trans (Kp.of_below (F := fun _ => False) b3) (fun _ _ h => h)
      clear b3
      go_wp2_with fail
      refine hK.out _ _ (fun _ => K5.out.mono (fun _ _ h => h.elim)) ?_
      clear hK K
      try simp only [q49r5_2, Act.put, List.setIfInBounds_toArray, List.set_cons_zero, List.set_cons_succ]
      refine plan_act (o := q49r5_4) (r := p49r5_6) (fun K hK => ?_)
      simp only [q49r5_4]
      refine ite_pos2 (by rfl) ?_
      go_simp
      refine (HEX.out _).mono ?_
      rintro e w6 ⟨rfl, b3⟩
      have K6 : Hid (Kp (fun _ => False) w1 w6) := K5.out.trans (Kp.of_below (F := fun _ => False) b3) (fun _ _ h => h)
      clear b3
      go_wp2_with fail
      refine hK.out _ _ (fun _ => K6.out.mono (fun _ _ h => h.elim)) ?_
      clear hK K
      try simp only [q49r5_4, Act.put, List.setIfInBounds_toArray, List.set_cons_zero, List.set_cons_succ]
      refine plan_act (o := q49r5_6) (r := p49r5_7) (fun K hK => ?_)
      simp only [q49r5_6]
      refine ite_pos2 (by rfl) ?_
      go_simp
      refine (HEY.out _).mono ?_
      rintro e w7 ⟨rfl, b3⟩
      have K7 : Hid (Kp (fun _ => False) w1 w7) := K6.out.trans (Kp.of_below (F := fun _ => False) b3) (fun _ _ h => h)
      clear b3
      go_wp2_with fail
      refine hK.out _ _ (fun _ => K7.out.mono (fun _ _ h => h.elim)) ?_
      clear hK K
      try simp only [q49r5_6, Act.put, List.setIfInBounds_toArray, List.set_cons_zero, List.set_cons_succ]
      refine plan_take (o := q49r5_7) (r := p49r5_8) (.int .i64 (xe - ye)) (K7.out.mono (fun _ _ h => h.elim)) (by rfl) ?hyeat7 ?resteat7
      case hyeat7 => (intro w hSw; simp only [q49r5_7]; go_simp; have hw : IntKind.i64.wrap (xe - ye) = xe - ye := (by rw [IntKind.wrap_i64]; omega); exact hw)
      try simp only [q49r5_7, Act.put, List.setIfInBounds_toArray, List.set_cons_zero, List.set_cons_succ]
      refine plan_take (o := q49r5_8) (r := p49r5_9) ?veat8 (K7.out.mono (fun _ _ h => h.elim)) (by rfl) ?hyeat8 ?resteat8
      case hyeat8 => (intro w hSw; (try dsimp only at hSw); simp only [q49r5_8]; go_simp; try with_reducible rfl)
      try simp only [q49r5_8, Act.put, List.setIfInBounds_toArray, List.set_cons_zero, List.set_cons_succ]
      refine plan_act (o := q49r5_9) (r := p49r5_10) (fun K hK => ?_)
      simp only [q49r5_9]
      refine ite_pos2 (by rfl) ?_
      go_simp
      have K8 : Hid (Kp (fun _ => False) w1 (w7.alloc (.cells #[.int .i64 ye, .int .i64 (xe - ye)] 38))) := K7.out.alloc _
      have S8 := hid (St.new 38 w7 (⟨ye, xe - ye⟩ : Rn).cs)
      refine hK.out _ _ (fun _ => K8.out.mono (fun _ _ h => h.elim)) ?_
      clear hK K
      try simp only [q49r5_9, Act.put, List.setIfInBounds_toArray, List.set_cons_zero, List.set_cons_succ]
      obtain ⟨v9, w9, rr, o9, k9⟩ := own_app1 (ty := 22) (OA.out _ K8.out) S8.out (by simp) (by have := K8.out.size; have := HSZ.out; omega)
      try simp only [Rn.cs] at rr
      refine plan_act (o := q49r5_10) (r := p49r5_11) (fun K hK => ?_)
      simp only [q49r5_10]
      refine ite_pos2 (by rfl) ?_
      refine Lib.wp_append_run _ _ _ _ _ rfl _ _ rfl rfl _ _ rr ?_
      have K9 : Hid (Kp (fun i => P + 2 ≤ i) w1 w9) := (K8.out.mono (fun _ _ h => h.elim)).trans k9 (fun i _ h => h)
      have O9 := hid o9
      refine hK.out _ _ (fun _ => K9.out) ?_
      clear hK K rr o9 k9
      try simp only [q49r5_10, Act.put, List.setIfInBounds_toArray, List.set_cons_zero, List.set_cons_succ]
      refine plan_take (o := q49r5_11) (r := p49r5_12) ?veat11 K9.out (by rfl) ?hyeat11 ?resteat11
      case hyeat11 => (intro w hSw; (try dsimp only at hSw); simp only [q49r5_11]; go_simp; try with_reducible rfl)
      try simp only [q49r5_11, Act.put, List.setIfInBounds_toArray, List.set_cons_zero, List.set_cons_succ]
      refine plan_done ?_
      go_wp2_with fail
      go_ret
      exact ⟨_, rfl, by rw [HWO.out, if_pos (by omega), if_pos (by omega)]; exact O9.out.base (by have := HPw.out; omega), HFINa.out _ K9.out⟩
    · clear SXa SYa
      change (Code.region 4 o49r4 true).wp _ _ _ _
      refine wp_region_plan (fun w' => Kp (fun i => P + 2 ≤ i) w1 w') [] c49r4 p49r4_0 hmix b49r4 d49r4 (fun _ _ d _ _ h => by cases d <;> exact h) ?_
      refine plan_take (o := q49r4_0) (r := p49r4_1) (.agg #[.int .i64 xa, .int .i64 xn]) (H0.out.mono (fun _ _ h => h.elim)) (by rfl) ?hydaf0 ?restdaf0
      case hydaf0 => (intro w hSw; (try dsimp only at hSw); obtain ⟨y1, y2, _, _⟩ := HC.out _ hSw; simp only [q49r4_0]; go_simp; try with_reducible rfl)
      try simp only [q49r4_0, Act.put, List.setIfInBounds_toArray, List.set_cons_zero, List.set_cons_succ]
      refine plan_take (o := q49r4_2) (r := p49r4_2) (.agg #[.int .i64 ya, .int .i64 yn]) (H0.out.mono (fun _ _ h => h.elim)) (by rfl) ?hydaf2 ?restdaf2
      case hydaf2 => (intro w hSw; (try dsimp only at hSw); obtain ⟨_, _, y1, y2⟩ := HC.out _ hSw; simp only [q49r4_2]; go_simp; try with_reducible rfl)
      try simp only [q49r4_2, Act.put, List.setIfInBounds_toArray, List.set_cons_zero, List.set_cons_succ]
      refine plan_act (o := q49r4_1) (r := p49r4_3) (fun K hK => ?_)
      simp only [q49r4_1]
      refine ite_pos2 (by rfl) ?_
      go_simp
      refine (HEX.out _).mono ?_
      rintro e w3 ⟨rfl, b3⟩
      have K3 : Hid (Kp (fun _ => False) w1 w3) := H0.out.trans (Kp.of_below (F := fun _ => False) b3) (fun _ _ h => h)
      clear b3
      go_wp2_with fail
      refine hK.out _ _ (fun _ => K3.out.mono (fun _ _ h => h.elim)) ?_
      clear hK K
      try simp only [q49r4_1, Act.put, List.setIfInBounds_toArray, List.set_cons_zero, List.set_cons_succ]
      refine plan_act (o := q49r4_3) (r := p49r4_4) (fun K hK => ?_)
      simp only [q49r4_3]
      refine ite_pos2 (by rfl) ?_
      go_simp
      refine (HEY.out _).mono ?_
      rintro e w4 ⟨rfl, b3⟩
      have K4 : Hid (Kp (fun _ => False) w1 w4) := K3.out.trans (Kp.of_below (F := fun _ => False) b3) (fun _ _ h => h)
      clear b3
      go_wp2_with fail
      refine hK.out _ _ (fun _ => K4.out.mono (fun _ _ h => h.elim)) ?_
      clear hK K
      try simp only [q49r4_3, Act.put, List.setIfInBounds_toArray, List.set_cons_zero, List.set_cons_succ]
      refine plan_take (o := q49r4_4) (r := p49r4_5) (.bool false) (K4.out.mono (fun _ _ h => h.elim)) (by rfl) ?hydaf4 ?restdaf4
      case hydaf4 => (intro w hSw; (try dsimp only at hSw); have hq := hgt; simp only [q49r4_4]; go_simp; try with_reducible rfl)
      try simp only [q49r4_4, Act.put, List.setIfInBounds_toArray, List.set_cons_zero, List.set_cons_succ]
      refine plan_done ?_
      go_wp2_with fail
      go_ret
      exact ⟨_, rfl, by rw [HWO.out, if_pos (by omega), if_neg (by omega), List.append_nil]; exact (OA.out _ K4.out).base (by have := HPw.out; omega), HFINa.out _ (K4.out.mono (fun _ _ h => h.elim))⟩
  · go_wp2_with fail
    have OA : Hid (∀ U, Kp (fun _ => False) V U → Ownr U (P + 2) (.slice none 0 0) []) := fun U hU => Ownr.nil _ _
    clear c1 c2 c3 c4
    subst hC4
    have H0 : Hid (Kp (fun _ => False) V V.drew) := (Kp.refl _ _).drew
    have HC : Hid (∀ U, Kp (fun i => P + 2 ≤ i) V U → U.cell? ⟨P, 0, none⟩ = some (.int .i64 xa) ∧ U.cell? ⟨P, 1, none⟩ = some (.int .i64 xn) ∧ U.cell? ⟨P + 1, 0, none⟩ = some (.int .i64 ya) ∧ U.cell? ⟨P + 1, 1, none⟩ = some (.int .i64 yn)) := fun U hU => ⟨(SXb.out.kp hU (by omega)).cell 0, (SXb.out.kp hU (by omega)).cell 1, (SYb.out.kp hU (by omega)).cell 0, (SYb.out.kp hU (by omega)).cell 1⟩
    by_cases hgt : ye < xe
    · clear SXb SYb
      change (Code.region 4 o49r4 true).wp _ _ _ _
      refine wp_region_plan (fun w' => Kp (fun i => P + 2 ≤ i) V w') [] c49r4 p49r4_0 hmix b49r4 d49r4 (fun _ _ d _ _ h => by cases d <;> exact h) ?_
      refine plan_take (o := q49r4_0) (r := p49r4_1) (.agg #[.int .i64 xa, .int .i64 xn]) (H0.out.mono (fun _ _ h => h.elim)) (by rfl) ?hydbt0 ?restdbt0
      case hydbt0 => (intro w hSw; (try dsimp only at hSw); obtain ⟨y1, y2, _, _⟩ := HC.out _ hSw; simp only [q49r4_0]; go_simp; try with_reducible rfl)
      try simp only [q49r4_0, Act.put, List.setIfInBounds_toArray, List.set_cons_zero, List.set_cons_succ]
      refine plan_take (o := q49r4_2) (r := p49r4_2) (.agg #[.int .i64 ya, .int .i64 yn]) (H0.out.mono (fun _ _ h => h.elim)) (by rfl) ?hydbt2 ?restdbt2
      case hydbt2 => (intro w hSw; (try dsimp only at hSw); obtain ⟨_, _, y1, y2⟩ := HC.out _ hSw; simp only [q49r4_2]; go_simp; try with_reducible rfl)
      try simp only [q49r4_2, Act.put, List.setIfInBounds_toArray, List.set_cons_zero, List.set_cons_succ]
      refine plan_act (o := q49r4_1) (r := p49r4_3) (fun K hK => ?_)
      simp only [q49r4_1]
      refine ite_pos2 (by rfl) ?_
      go_simp
      refine (HEX.out _).mono ?_
      rintro e w3 ⟨rfl, b3⟩
      have K3 : Hid (Kp (fun _ => False) V w3) := H0.out.trans (Kp.of_below (F := fun _ => False) b3) (fun _ _ h => h)
      clear b3
      go_wp2_with fail
      refine hK.out _ _ (fun _ => K3.out.mono (fun _ _ h => h.elim)) ?_
      clear hK K
      try simp only [q49r4_1, Act.put, List.setIfInBounds_toArray, List.set_cons_zero, List.set_cons_succ]
      refine plan_act (o := q49r4_3) (r := p49r4_4) (fun K hK => ?_)
      simp only [q49r4_3]
      refine ite_pos2 (by rfl) ?_
      go_simp
      refine (HEY.out _).mono ?_
      rintro e w4 ⟨rfl, b3⟩
      have K4 : Hid (Kp (fun _ => False) V w4) := K3.out.trans (Kp.of_below (F := fun _ => False) b3) (fun _ _ h => h)
      clear b3
      go_wp2_with fail
      refine hK.out _ _ (fun _ => K4.out.mono (fun _ _ h => h.elim)) ?_
      clear hK K
      try simp only [q49r4_3, Act.put, List.setIfInBounds_toArray, List.set_cons_zero, List.set_cons_succ]
      refine plan_take (o := q49r4_4) (r := p49r4_5) (.bool true) (K4.out.mono (fun _ _ h => h.elim)) (by rfl) ?hydbt4 ?restdbt4
      case hydbt4 => (intro w hSw; (try dsimp only at hSw); have hq := hgt; simp only [q49r4_4]; go_simp; try with_reducible rfl)
      try simp only [q49r4_4, Act.put, List.setIfInBounds_toArray, List.set_cons_zero, List.set_cons_succ]
      refine plan_done ?_
      go_wp2_with fail
      subst hC5
      change (Code.region 5 o49r5 true).wp _ _ _ _
      refine wp_region_plan (fun w' => Kp (fun i => P + 2 ≤ i) V w') [] c49r5 p49r5_0 hmix b49r5 d49r5 (fun _ _ d _ _ h => by cases d <;> exact h) ?_
      refine plan_take (o := q49r5_0) (r := p49r5_1) ?vebt0 (K4.out.drew.mono (fun _ _ h => h.elim)) (by rfl) ?hyebt0 ?restebt0
      case hyebt0 => (intro w hSw; (try dsimp only at hSw); simp only [q49r5_0]; go_simp; try with_reducible rfl)
      try simp only [q49r5_0, Act.put, List.setIfInBounds_toArray, List.set_cons_zero, List.set_cons_succ]
      refine plan_take (o := q49r5_1) (r := p49r5_2) (.agg #[.int .i64 ya, .int .i64 yn]) (K4.out.drew.mono (fun _ _ h => h.elim)) (by rfl) ?hyebt1 ?restebt1
      case hyebt1 => (intro w hSw; (try dsimp only at hSw); obtain ⟨_, _, y1, y2⟩ := HC.out _ hSw; simp only [q49r5_1]; go_simp; try with_reducible rfl)
      try simp only [q49r5_1, Act.put, List.setIfInBounds_toArray, List.set_cons_zero, List.set_cons_succ]
      refine plan_take (o := q49r5_3) (r := p49r5_3) (.agg #[.int .i64 xa, .int .i64 xn]) (K4.out.drew.mono (fun _ _ h => h.elim)) (by rfl) ?hyebt3 ?restebt3
      case hyebt3 => (intro w hSw; (try dsimp only at hSw); obtain ⟨y1, y2, _, _⟩ := HC.out _ hSw; simp only [q49r5_3]; go_simp; try with_reducible rfl)
      try simp only [q49r5_3, Act.put, List.setIfInBounds_toArray, List.set_cons_zero, List.set_cons_succ]
      refine plan_take (o := q49r5_5) (r := p49r5_4) (.agg #[.int .i64 ya, .int .i64 yn]) (K4.out.drew.mono (fun _ _ h => h.elim)) (by rfl) ?hyebt5 ?restebt5
      case hyebt5 => (intro w hSw; (try dsimp only at hSw); obtain ⟨_, _, y1, y2⟩ := HC.out _ hSw; simp only [q49r5_5]; go_simp; try with_reducible rfl)
      try simp only [q49r5_5, Act.put, List.setIfInBounds_toArray, List.set_cons_zero, List.set_cons_succ]
      refine plan_act (o := q49r5_2) (r := p49r5_5) (fun K hK => ?_)
      simp only [q49r5_2]
      refine ite_pos2 (by rfl) ?_
      go_simp
      refine (HEY.out _).mono ?_
      rintro e w5 ⟨rfl, b3⟩
      have K5 : Hid (Kp (fun _ => False) V w5) := K4.out.drew.trans (Kp.of_below (F := fun _ => False) b3) (fun _ _ h => h)
      clear b3
      go_wp2_with fail
      refine hK.out _ _ (fun _ => K5.out.mono (fun _ _ h => h.elim)) ?_
      clear hK K
      try simp only [q49r5_2, Act.put, List.setIfInBounds_toArray, List.set_cons_zero, List.set_cons_succ]
      refine plan_act (o := q49r5_4) (r := p49r5_6) (fun K hK => ?_)
      simp only [q49r5_4]
      refine ite_pos2 (by rfl) ?_
      go_simp
      refine (HEX.out _).mono ?_
      rintro e w6 ⟨rfl, b3⟩
      have K6 : Hid (Kp (fun _ => False) V w6) := K5.out.trans (Kp.of_below (F := fun _ => False) b3) (fun _ _ h => h)
      clear b3
      go_wp2_with fail
      refine hK.out _ _ (fun _ => K6.out.mono (fun _ _ h => h.elim)) ?_
      clear hK K
      try simp only [q49r5_4, Act.put, List.setIfInBounds_toArray, List.set_cons_zero, List.set_cons_succ]
      refine plan_act (o := q49r5_6) (r := p49r5_7) (fun K hK => ?_)
      simp only [q49r5_6]
      refine ite_pos2 (by rfl) ?_
      go_simp
      refine (HEY.out _).mono ?_
      rintro e w7 ⟨rfl, b3⟩
      have K7 : Hid (Kp (fun _ => False) V w7) := K6.out.trans (Kp.of_below (F := fun _ => False) b3) (fun _ _ h => h)
      clear b3
      go_wp2_with fail
      refine hK.out _ _ (fun _ => K7.out.mono (fun _ _ h => h.elim)) ?_
      clear hK K
      try simp only [q49r5_6, Act.put, List.setIfInBounds_toArray, List.set_cons_zero, List.set_cons_succ]
      refine plan_take (o := q49r5_7) (r := p49r5_8) (.int .i64 (xe - ye)) (K7.out.mono (fun _ _ h => h.elim)) (by rfl) ?hyebt7 ?restebt7
      case hyebt7 => (intro w hSw; simp only [q49r5_7]; go_simp; have hw : IntKind.i64.wrap (xe - ye) = xe - ye := (by rw [IntKind.wrap_i64]; omega); exact hw)
      try simp only [q49r5_7, Act.put, List.setIfInBounds_toArray, List.set_cons_zero, List.set_cons_succ]
      refine plan_take (o := q49r5_8) (r := p49r5_9) ?vebt8 (K7.out.mono (fun _ _ h => h.elim)) (by rfl) ?hyebt8 ?restebt8
      case hyebt8 => (intro w hSw; (try dsimp only at hSw); simp only [q49r5_8]; go_simp; try with_reducible rfl)
      try simp only [q49r5_8, Act.put, List.setIfInBounds_toArray, List.set_cons_zero, List.set_cons_succ]
      refine plan_act (o := q49r5_9) (r := p49r5_10) (fun K hK => ?_)
      simp only [q49r5_9]
      refine ite_pos2 (by rfl) ?_
      go_simp
      have K8 : Hid (Kp (fun _ => False) V (w7.alloc (.cells #[.int .i64 ye, .int .i64 (xe - ye)] 38))) := K7.out.alloc _
      have S8 := hid (St.new 38 w7 (⟨ye, xe - ye⟩ : Rn).cs)
      refine hK.out _ _ (fun _ => K8.out.mono (fun _ _ h => h.elim)) ?_
      clear hK K
      try simp only [q49r5_9, Act.put, List.setIfInBounds_toArray, List.set_cons_zero, List.set_cons_succ]
      obtain ⟨v9, w9, rr, o9, k9⟩ := own_app1 (ty := 22) (OA.out _ K8.out) S8.out (by simp) (by have := K8.out.size; have := HSZ.out; omega)
      try simp only [Rn.cs] at rr
      refine plan_act (o := q49r5_10) (r := p49r5_11) (fun K hK => ?_)
      simp only [q49r5_10]
      refine ite_pos2 (by rfl) ?_
      refine Lib.wp_append_run _ _ _ _ _ rfl _ _ rfl rfl _ _ rr ?_
      have K9 : Hid (Kp (fun i => P + 2 ≤ i) V w9) := (K8.out.mono (fun _ _ h => h.elim)).trans k9 (fun i _ h => h)
      have O9 := hid o9
      refine hK.out _ _ (fun _ => K9.out) ?_
      clear hK K rr o9 k9
      try simp only [q49r5_10, Act.put, List.setIfInBounds_toArray, List.set_cons_zero, List.set_cons_succ]
      refine plan_take (o := q49r5_11) (r := p49r5_12) ?vebt11 K9.out (by rfl) ?hyebt11 ?restebt11
      case hyebt11 => (intro w hSw; (try dsimp only at hSw); simp only [q49r5_11]; go_simp; try with_reducible rfl)
      try simp only [q49r5_11, Act.put, List.setIfInBounds_toArray, List.set_cons_zero, List.set_cons_succ]
      refine plan_done ?_
      go_wp2_with fail
      go_ret
      exact ⟨_, rfl, by rw [HWO.out, if_neg (by omega), if_pos (by omega)]; exact O9.out.base (by have := HPw.out; omega), HFINb.out _ K9.out⟩
    · clear SXb SYb
      change (Code.region 4 o49r4 true).wp _ _ _ _
      refine wp_region_plan (fun w' => Kp (fun i => P + 2 ≤ i) V w') [] c49r4 p49r4_0 hmix b49r4 d49r4 (fun _ _ d _ _ h => by cases d <;> exact h) ?_
      refine plan_take (o := q49r4_0) (r := p49r4_1) (.agg #[.int .i64 xa, .int .i64 xn]) (H0.out.mono (fun _ _ h => h.elim)) (by rfl) ?hydbf0 ?restdbf0
      case hydbf0 => (intro w hSw; (try dsimp only at hSw); obtain ⟨y1, y2, _, _⟩ := HC.out _ hSw; simp only [q49r4_0]; go_simp; try with_reducible rfl)
      try simp only [q49r4_0, Act.put, List.setIfInBounds_toArray, List.set_cons_zero, List.set_cons_succ]
      refine plan_take (o := q49r4_2) (r := p49r4_2) (.agg #[.int .i64 ya, .int .i64 yn]) (H0.out.mono (fun _ _ h => h.elim)) (by rfl) ?hydbf2 ?restdbf2
      case hydbf2 => (intro w hSw; (try dsimp only at hSw); obtain ⟨_, _, y1, y2⟩ := HC.out _ hSw; simp only [q49r4_2]; go_simp; try with_reducible rfl)
      try simp only [q49r4_2, Act.put, List.setIfInBounds_toArray, List.set_cons_zero, List.set_cons_succ]
      refine plan_act (o := q49r4_1) (r := p49r4_3) (fun K hK => ?_)
      simp only [q49r4_1]
      refine ite_pos2 (by rfl) ?_
      go_simp
      refine (HEX.out _).mono ?_
      rintro e w3 ⟨rfl, b3⟩
      have K3 : Hid (Kp (fun _ => False) V w3) := H0.out.trans (Kp.of_below (F := fun _ => False) b3) (fun _ _ h => h)
      clear b3
      go_wp2_with fail
      refine hK.out _ _ (fun _ => K3.out.mono (fun _ _ h => h.elim)) ?_
      clear hK K
      try simp only [q49r4_1, Act.put, List.setIfInBounds_toArray, List.set_cons_zero, List.set_cons_succ]
      refine plan_act (o := q49r4_3) (r := p49r4_4) (fun K hK => ?_)
      simp only [q49r4_3]
      refine ite_pos2 (by rfl) ?_
      go_simp
      refine (HEY.out _).mono ?_
      rintro e w4 ⟨rfl, b3⟩
      have K4 : Hid (Kp (fun _ => False) V w4) := K3.out.trans (Kp.of_below (F := fun _ => False) b3) (fun _ _ h => h)
      clear b3
      go_wp2_with fail
      refine hK.out _ _ (fun _ => K4.out.mono (fun _ _ h => h.elim)) ?_
      clear hK K
      try simp only [q49r4_3, Act.put, List.setIfInBounds_toArray, List.set_cons_zero, List.set_cons_succ]
      refine plan_take (o := q49r4_4) (r := p49r4_5) (.bool false) (K4.out.mono (fun _ _ h => h.elim)) (by rfl) ?hydbf4 ?restdbf4
      case hydbf4 => (intro w hSw; (try dsimp only at hSw); have hq := hgt; simp only [q49r4_4]; go_simp; try with_reducible rfl)
      try simp only [q49r4_4, Act.put, List.setIfInBounds_toArray, List.set_cons_zero, List.set_cons_succ]
      refine plan_done ?_
      go_wp2_with fail
      go_ret
      exact ⟨_, rfl, by rw [HWO.out, if_neg (by omega), if_neg (by omega), List.append_nil]; exact (OA.out _ K4.out).base (by have := HPw.out; omega), HFINb.out _ (K4.out.mono (fun _ _ h => h.elim))⟩
end Go.Proofs.Ytgfondgejimkkaa
