/- LaterDrained: the walk of the law. -/
import Derived.Test.YtgfondgejimkkaaEa
import Derived.Deep.RegionHeld3
import Derived.Test.YtgfondgejimkkaaHo
namespace Go.Proofs.Ytgfondgejimkkaa
open Go.RowKit
set_option linter.unusedVariables false
set_option linter.unusedSimpArgs false
def q4r8_0 : Oper := { dst := some 60, op := Go.Op.load 22 (Go.Operand.tmp 7), type := 22, pos := "law.go:192", after := #[], guard := none }
def q4r8_1 : Oper := { dst := some 61, op := Go.Op.move (Go.Operand.tmp 0), type := 22, pos := "law.go:192", after := #[], guard := none }
def q4r8_2 : Oper := { dst := some 62, op := Go.Op.move (Go.Operand.tmp 8), type := 3, pos := "law.go:192", after := #[], guard := none }
def q4r8_3 : Oper := { dst := some 63, op := Go.Op.indexAddr 22 (Go.Operand.tmp 61) (Go.Operand.tmp 62), type := 0, pos := "law.go:192", after := #[{ on := 1, ground := Go.Ground.data }, { on := 2, ground := Go.Ground.data }], guard := none }
def q4r8_4 : Oper := { dst := some 64, op := Go.Op.load 38 (Go.Operand.tmp 63), type := 38, pos := "law.go:192", after := #[{ on := 3, ground := Go.Ground.data }], guard := none }
def q4r8_5 : Oper := { dst := some 65, op := Go.Op.buildSlice 22 1 #[(0, Go.Operand.tmp 64)], type := 22, pos := "law.go:192", after := #[{ on := 4, ground := Go.Ground.data }], guard := none }
def q4r8_6 : Oper := { dst := some 66, op := Go.Op.call { callee := Go.Callee.builtin Go.Builtin.append, args := #[Go.Operand.tmp 60, Go.Operand.tmp 65], argTypes := #[22, 22] }, type := 22, pos := "law.go:192", after := #[{ on := 0, ground := Go.Ground.data }, { on := 5, ground := Go.Ground.data }], guard := none }
def q4r8_7 : Oper := { dst := none, op := Go.Op.store 22 (Go.Operand.tmp 7) (Go.Operand.tmp 66), type := 0, pos := "law.go:192", after := #[{ on := 6, ground := Go.Ground.data }, { on := 6, ground := Go.Ground.chain }, { on := 0, ground := Go.Ground.phase }, { on := 1, ground := Go.Ground.phase }, { on := 2, ground := Go.Ground.phase }, { on := 3, ground := Go.Ground.phase }, { on := 4, ground := Go.Ground.phase }, { on := 5, ground := Go.Ground.phase }, { on := 6, ground := Go.Ground.phase }], guard := none }
def o4r8 : Array Oper := #[q4r8_0, q4r8_1, q4r8_2, q4r8_3, q4r8_4, q4r8_5, q4r8_6, q4r8_7]
def p4r8_8 : List (Nat × Oper) := []
def p4r8_7 : List (Nat × Oper) := (2, q4r8_7) :: p4r8_8
def p4r8_6 : List (Nat × Oper) := (1, q4r8_6) :: p4r8_7
def p4r8_5 : List (Nat × Oper) := (1, q4r8_5) :: p4r8_6
def p4r8_4 : List (Nat × Oper) := (0, q4r8_4) :: p4r8_5
def p4r8_3 : List (Nat × Oper) := (0, q4r8_3) :: p4r8_4
def p4r8_2 : List (Nat × Oper) := (0, q4r8_2) :: p4r8_3
def p4r8_1 : List (Nat × Oper) := (0, q4r8_1) :: p4r8_2
def p4r8_0 : List (Nat × Oper) := (0, q4r8_0) :: p4r8_1
def c4r8 : List (Nat × Nat) := [(0, 0), (0, 1), (0, 2), (0, 3), (0, 4), (1, 5), (1, 6), (2, 7)]
theorem b4r8 : (Region.noSelect o4r8 && (c4r8.length == o4r8.size) && planB o4r8 [7] c4r8 (Array.replicate o4r8.size false)) = true := by kernel_rfl
theorem d4r8 : (c4r8.map fun p => (p.1, o4r8[p.2]?)) = (p4r8_0.map fun p => (p.1, some p.2)) := by kernel_rfl

theorem own_app1b {w : World} {base b : Nat} {v : Value} {l : List Rn} {x : Rn} {ty : TypeId} (h : Ownr w base v l) (hb : St 38 w b x.cs) (hl : l.length ≤ 100000) (hbase : base ≤ w.heap.size) :
    ∃ v' w', (Builtin.append_ #[22, 22] ty #[v, .slice (some ⟨b, 0, none⟩) 1 1]).run Try.prog w = .ok v' w' ∧ Ownr w' base v' (l ++ [x]) ∧ Kp (fun i => v.ownBlock = some i) w w' ∧ (v'.ownBlock = v.ownBlock ∨ v'.ownBlock = some w.heap.size) := by
  obtain ⟨i0, hi, hz0, hz1, hz2⟩ := info_parts Try.inf38
  obtain ⟨v', w', h1, h2, h3, h4, h5⟩ := run_append_own_at (P := Try.prog) w base 22 ty 38 i0 _ 2 16 Try.underlying22 hi hz0 hz1 hz2 rfl (by decide) v l.length (flr l) h ⟨b, 0, none⟩ 1 1 x.cl rfl (fun j u hu => by rw [add_z, hb.cell j]; simpa [Rn.cs, Rn.cl] using hu) (fun u hu => by simp [Rn.cl] at hu; rcases hu with rfl | rfl <;> rfl) (by unfold maxLen; omega) (by omega) hbase
  refine ⟨v', w', h1, ?_, Kp.of_grown h3 (fun i e => e), h5⟩
  unfold Ownr
  rw [flr_append, List.length_append]
  simpa [flr] using h2
set_option maxRecDepth 100000 in
set_option maxHeartbeats 8000000 in
theorem c8_wp (X : World) (n cb : Nat) (mo : Int) (T5 T6 T7 k gb off base : Nat) (v : Value) (l : List Rn) (ya yn : Int) (A : Act) (ht : A.tmps = eL1 (some ⟨gb, off, none⟩) n cb mo T5 T6 T7 k (fun i => A.tmps.getD i undef)) (hd : A.defers = []) (hk : k < n) (hn : n ≤ 60) (s7 : St 22 X T7 #[v]) (own : Ownr X base v l) (hlen : l.length ≤ 100000) (h7 : T7 < base) (hg : gb < base) (hb : base ≤ X.heap.size)
    (x0 : X.cell? ⟨gb, off + k * 2, none⟩ = some (.int .i64 ya)) (x1 : X.cell? ⟨gb, off + k * 2 + 1, none⟩ = some (.int .i64 yn)) :
    c8.wpIn Fence.wide 20 Try.prog (postN (fun a' Z => (∃ f', a' = { tmps := eL1 (some ⟨gb, off, none⟩) n cb mo T5 T6 T7 k f', defers := [] }) ∧ ∃ v', St 22 Z T7 #[v'] ∧ Ownr Z base v' (l ++ [⟨ya, yn⟩]) ∧ Kp (fun i => i = T7 ∨ base ≤ i) X Z)) A X := by
  obtain ⟨f, rfl⟩ := act_of ht hd
  have hmix : Try.prog.follows .mixedOrders = true := by kernel_rfl
  have HOB : Hid (∀ i, v.ownBlock = some i → base ≤ i) := fun i e => (own.blk e).1
  have HN7 : Hid (¬ v.ownBlock = some T7) := fun e => by have := HOB.out _ e; omega
  have HC : Hid (∀ U, Kp (fun i => v.ownBlock = some i) X U → U.cell? ⟨T7, 0, none⟩ = some v ∧ U.cell? ⟨gb, off + k * 2, none⟩ = some (.int .i64 ya) ∧ U.cell? ⟨gb, off + k * 2 + 1, none⟩ = some (.int .i64 yn)) := fun U hU => ⟨(s7.kp hU HN7.out).cell 0, kp_cell hU x0 (fun e => by have := HOB.out _ e; omega), kp_cell hU x1 (fun e => by have := HOB.out _ e; omega)⟩
  have H0 : Hid (Kp (fun i => v.ownBlock = some i) X X.drew) := (Kp.refl _ _).drew
  have K8 : Hid (Kp (fun i => v.ownBlock = some i) X (X.drew.alloc (.cells #[.int .i64 ya, .int .i64 yn] 38))) := (Kp.refl _ _).drew.alloc _
  have S8 := hid (St.new 38 X.drew (⟨ya, yn⟩ : Rn).cs)
  have OA := hid (own.kp (F := fun _ => False) (w' := X.drew.alloc (.cells #[.int .i64 ya, .int .i64 yn] 38)) ((Kp.refl _ _).drew.alloc _) (fun _ _ h => h))
  have HSZ : Hid (base ≤ X.heap.size) := hb
  have S7 := hid s7
  have hki : (k : Int) < (n : Int) := by omega
  clear s7 own x0 x1 ht hd hb
  refine wpIn_wide.2 ?_
  unfold c8 eL1
  generalize hQ : postN _ = QQ
  change (Code.region 8 o4r8 true).wp _ _ _ _
  refine wp_region_plan (fun w' => Kp (fun i => v.ownBlock = some i) X w') [7] c4r8 p4r8_0 hmix b4r8 d4r8 (fun _ _ d _ _ h => by rw [← hQ] at h; exact h.elim) ?_
  refine plan_take (o := q4r8_0) (r := p4r8_1) ?vx0 H0.out (by rfl) ?hyx0 ?restx0
  case hyx0 => (intro w hSw; (try dsimp only at hSw); have y := (HC.out _ hSw).1; simp only [q4r8_0]; go_simp; try with_reducible rfl)
  try simp only [q4r8_0, Act.put, List.setIfInBounds_toArray, List.set_cons_zero, List.set_cons_succ]
  refine plan_take (o := q4r8_1) (r := p4r8_2) ?vx1 H0.out (by rfl) ?hyx1 ?restx1
  case hyx1 => (intro w hSw; (try dsimp only at hSw); simp only [q4r8_1]; go_simp; try with_reducible rfl)
  try simp only [q4r8_1, Act.put, List.setIfInBounds_toArray, List.set_cons_zero, List.set_cons_succ]
  refine plan_take (o := q4r8_2) (r := p4r8_3) ?vx2 H0.out (by rfl) ?hyx2 ?restx2
  case hyx2 => (intro w hSw; (try dsimp only at hSw); simp only [q4r8_2]; go_simp; try with_reducible rfl)
  try simp only [q4r8_2, Act.put, List.setIfInBounds_toArray, List.set_cons_zero, List.set_cons_succ]
  refine plan_take (o := q4r8_3) (r := p4r8_4) ?vx3 H0.out (by rfl) ?hyx3 ?restx3
  case hyx3 => (intro w hSw; (try dsimp only at hSw); simp only [q4r8_3]; go_simp; try with_reducible rfl)
  try simp only [q4r8_3, Act.put, List.setIfInBounds_toArray, List.set_cons_zero, List.set_cons_succ]
  refine plan_take (o := q4r8_4) (r := p4r8_5) (.agg #[.int .i64 ya, .int .i64 yn]) H0.out (by rfl) ?hyx4 ?restx4
  case hyx4 => (intro w hSw; (try dsimp only at hSw); obtain ⟨_, y0, y1⟩ := HC.out _ hSw; simp only [q4r8_4]; go_simp; try with_reducible rfl)
  try simp only [q4r8_4, Act.put, List.setIfInBounds_toArray, List.set_cons_zero, List.set_cons_succ]
  refine plan_act (o := q4r8_5) (r := p4r8_6) (fun K hK => ?_)
  simp only [q4r8_5]
  refine ite_pos2 (by rfl) ?_
  go_simp
  refine hK.out _ _ (fun _ => K8.out) ?_
  clear hK K
  try simp only [q4r8_5, Act.put, List.setIfInBounds_toArray, List.set_cons_zero, List.set_cons_succ]
  obtain ⟨v9, w9, rr, o9, k9, b9⟩ := own_app1b (ty := 22) OA.out S8.out hlen (by have := K8.out.size; have := HSZ.out; omega)
  try simp only [Rn.cs] at rr
  refine plan_act (o := q4r8_6) (r := p4r8_7) (fun K hK => ?_)
  simp only [q4r8_6]
  refine ite_pos2 (by rfl) ?_
  refine Lib.wp_append_run _ _ _ _ _ rfl _ _ rfl rfl _ _ rr ?_
  have K9 : Hid (Kp (fun i => v.ownBlock = some i) X w9) := K8.out.trans k9 (fun i _ h => h)
  have O9 := hid o9
  have B9 := hid b9
  refine hK.out _ _ (fun _ => K9.out) ?_
  clear hK K rr o9 k9 b9
  try simp only [q4r8_6, Act.put, List.setIfInBounds_toArray, List.set_cons_zero, List.set_cons_succ]
  obtain ⟨ao9, cap9, hv9, _⟩ := O9.out.src
  subst hv9
  have y9 : w9.cell? ⟨T7, 0, none⟩ = some v := (HC.out _ K9.out).1
  have s9 := S7.out.kp K9.out HN7.out
  have z9 : w9.frozen? ⟨T7, 0, none⟩ = false := s9.frozen 0
  have l9 := s9.lt
  refine plan_late (o := q4r8_7) (r := p4r8_8) (fun K hK => ?_)
  simp only [q4r8_7]
  refine ite_pos2 (by rfl) ?_
  go_simp
  refine hK.out _ _ ?_
  clear hK K
  try simp only [q4r8_7, Act.put, List.setIfInBounds_toArray, List.set_cons_zero, List.set_cons_succ]
  refine plan_done ?_
  subst hQ
  have kz := kp_setCell w9 T7 0 (.slice ao9 (l.length + 1) cap9) (fun i => i = T7) rfl
  have o10 := O9.out.kp kz (fun g e h => by have := (O9.out.blk e).1; omega)
  refine ⟨act_of (by kernel_rfl) rfl, _, St.set s9 0 _, ?_, (K9.out.mono (fun i _ e => .inr (HOB.out i e))).trans kz (fun i _ e => .inl e)⟩
  simpa using o10
/-- What the loop holds. -/
def Lp1 (X0 : World) (l : List Rn) (bo : Option Addr) (n cb : Nat) (mo : Int) (T5 T6 T7 : Nat) (a' : Act) (Z : World) : Prop :=
  ∃ (k : Nat) (v : Value), k ≤ n ∧ (∃ f, a' = { tmps := eL1 bo n cb mo T5 T6 T7 k f, defers := [] }) ∧ St 22 Z T7 #[v] ∧ Ownr Z X0.heap.size v (sm (l.take k)) ∧ Kp (fun i => i = T7) X0 Z
theorem eL1_8 (bo : Option Addr) (n cb : Nat) (mo : Int) (T5 T6 T7 k : Nat) (f : Nat → Value) : ({ tmps := eL1 bo n cb mo T5 T6 T7 k f, defers := [] } : Act).tmps.getD 8 undef = .int .i64 (k : Int) := rfl
theorem lp1_of {X0 : World} {l : List Rn} {bo : Option Addr} {n cb : Nat} {mo : Int} {T5 T6 T7 : Nat} {a' : Act} {Z : World} {v : Value} (k0 : Nat) (hk : k0 + 1 ≤ n) (ht : a'.tmps = eL1 bo n cb mo T5 T6 T7 (k0 + 1) (fun i => a'.tmps.getD i undef)) (hd : a'.defers = []) (h1 : St 22 Z T7 #[v]) (h2 : Ownr Z X0.heap.size v (sm (l.take (k0 + 1)))) (h3 : Kp (fun i => i = T7) X0 Z) :
    Lp1 X0 l bo n cb mo T5 T6 T7 a' Z ∧ n - (intOf (a'.tmps.getD 8 undef)).toNat < n - k0 := by
  obtain ⟨f, hf⟩ := act_of ht hd
  refine ⟨⟨k0 + 1, v, hk, ⟨f, hf⟩, h1, h2, h3⟩, ?_⟩
  rw [hf, eL1_8]
  simp [intOf]
  omega
set_option maxRecDepth 100000 in
set_option maxHeartbeats 8000000 in
theorem loop1_wp (w X0 : World) (l : List Rn) (bo : Option Addr) (n cb : Nat) (mo : Int) (T5 T6 T7 : Nat) (A : Act) (ht : A.tmps = eL1 bo n cb mo T5 T6 T7 0 (fun i => A.tmps.getD i undef)) (hd : A.defers = []) (hn : n = l.length) (hn2 : n ≤ 60) (hi6 : ∀ x ∈ l, x.i6) (hS : Srcr w bo l) (kw : Kp (fun _ => False) w X0) (hw7 : w.heap.size ≤ T7) (s7 : St 22 X0 T7 #[.slice none 0 0]) :
    cL1.wpIn Fence.wide 20 Try.prog (postN (fun a' Z => (∃ f', a' = { tmps := e0 bo n cb mo T5 T6 T7 f', defers := [] }) ∧ ∃ v, St 22 Z T7 #[v] ∧ Ownr Z X0.heap.size v (sm l) ∧ Kp (fun i => i = T7) X0 Z)) A X0 := by
  obtain ⟨f, rfl⟩ := act_of ht hd
  have HS := hid hS
  have H6 := hid hi6
  have HN := hid hn
  have HKW := hid kw
  have HW7 : Hid (w.heap.size ≤ T7) := hw7
  have HL0 : Hid (Lp1 X0 l bo n cb mo T5 T6 T7 { tmps := eL1 bo n cb mo T5 T6 T7 0 f, defers := [] } X0) := ⟨0, _, Nat.zero_le _, ⟨f, rfl⟩, s7, Ownr.nil _ _, Kp.refl _ _⟩
  have L7 : Hid (T7 < X0.heap.size) := s7.lt
  clear hS hi6 hn ht hd kw s7 hw7
  refine wpIn_wide.2 ?_
  unfold cL1
  generalize hQ : postN _ = QQ
  go_wp2_with fail
  refine wp_loop (Lp1 X0 l bo n cb mo T5 T6 T7) (fun a' _ => n - (intOf (a'.tmps.getD 8 undef)).toNat) HL0.out ?_
  clear HL0
  rintro a' wr ⟨k, v, hk, ⟨f', rfl⟩, s7, own, kp⟩
  have hmu : n - (intOf (({ tmps := eL1 bo n cb mo T5 T6 T7 k f', defers := [] } : Act).tmps.getD 8 undef)).toNat = n - k := by rw [eL1_8]; simp [intOf]
  rw [hmu]
  clear hmu
  have S7 := hid s7
  have OW := hid own
  have KP := hid kp
  have KW : Hid (Kp (fun i => i = T7) w wr) := (HKW.out.mono (fun _ _ h => h.elim)).trans kp (fun _ _ h => h)
  clear s7 own kp f
  unfold eL1
  by_cases hlt : k < n
  · have hkl : k < l.length := by have := HN.out; omega
    obtain ⟨gb, off, rfl, hgb0, _, _⟩ := HS.out.at (i := k) hkl
    have HXC : Hid (∀ W, Kp (fun i => i = T7) w W → W.cell? ⟨gb, off + k * 2, none⟩ = some (.int .i64 (l.getD k zRn).a) ∧ W.cell? ⟨gb, off + k * 2 + 1, none⟩ = some (.int .i64 (l.getD k zRn).n)) := fun W hW => by
      obtain ⟨g2, o2, e2, _, y⟩ := (HS.out.kp hW (fun b off e hb h => by have := HW7.out; omega)).at (i := k) hkl
      cases e2
      exact y
    have HX6 := hid (H6.out _ (gd_mem hkl))
    have HTS := hid (take_snocr hkl)
    have HGB : Hid (gb < X0.heap.size) := Nat.lt_of_lt_of_le hgb0 HKW.out.size
    have hll : (sm (l.take k)).length ≤ 100000 := Nat.le_trans (sm_len _) (by rw [List.length_take]; omega)
    have HLL := hid hll
    generalize l.getD k zRn = x at *
    have HRM := hid (rmay_any x wr HX6.out)
    obtain ⟨x0, x1⟩ := HXC.out _ KW.out
    have hki : (k : Int) < (n : Int) := by omega
    obtain ⟨xa, xn⟩ := x
    dsimp only at x0 x1 HXC
    unfold Rn.cs at HRM
    dsimp only at HRM
    clear hgb0 hll
    cases hm : mayb ⟨xa, xn⟩ with
    | false =>
      simp only [hm] at HRM
      go_wp2_with (first | (go_at_call 21; refine HRM.out.mono ?_; rintro e w2 ⟨rfl, k2⟩; have K2 := hid k2; clear k2 x0 x1))
      exact lp1_of k hlt (by kernel_rfl) rfl (S7.out.kp K2.out (fun h => h)) (by rw [HTS.out, sm_snoc, if_neg (by unfold okb; rw [hm]; simp), List.append_nil]; exact OW.out.kp K2.out (fun _ _ h => h)) (KP.out.trans K2.out (fun _ _ h => h.elim))
    | true =>
      simp only [hm] at HRM
      by_cases hs : xn < 1000000
      · go_wp2_with (first | (go_at_call 21; refine HRM.out.mono ?_; rintro e w2 ⟨rfl, k2⟩; have K2 := hid k2; have KW2 : Hid (Kp (fun i => i = T7) w w2) := KW.out.trans k2 (fun _ _ h => h.elim); obtain ⟨y0, y1⟩ := HXC.out w2 KW2.out; clear k2 x0 x1))
        refine wp_mono (wpIn_wide.1 (c8_wp w2 n cb mo T5 T6 T7 k gb off X0.heap.size v (sm (l.take k)) xa xn _ ?h1 rfl hlt hn2 (S7.out.kp K2.out (fun h => h)) (OW.out.kp K2.out (fun _ _ h => h)) HLL.out L7.out HGB.out (Nat.le_trans KP.out.size K2.out.size) y0 y1)) ?_
        case h1 => kernel_rfl
        intro e a1 w3 hh
        cases e with
        | normal =>
          obtain ⟨⟨f1, rfl⟩, v3, s3, o3, k3⟩ := hh
          have S3 := hid s3
          have O3 := hid o3
          have K3 : Hid (Kp (fun i => i = T7) X0 w3) := (KP.out.trans K2.out (fun _ _ h => h.elim)).trans k3 (fun i hi e => e.elim id (fun e => by omega))
          clear s3 o3 k3
          unfold eL1
          go_wp2_with fail
          exact lp1_of k hlt (by kernel_rfl) rfl S3.out (by rw [HTS.out, sm_snoc, if_pos (by unfold okb; rw [hm]; simpa using hs)]; exact O3.out) K3.out
        | _ => exact hh.elim
      · go_wp2_with (first | (go_at_call 21; refine HRM.out.mono ?_; rintro e w2 ⟨rfl, k2⟩; have K2 := hid k2; have KW2 : Hid (Kp (fun i => i = T7) w w2) := KW.out.trans k2 (fun _ _ h => h.elim); obtain ⟨y0, y1⟩ := HXC.out w2 KW2.out; clear k2 x0 x1))
        exact lp1_of k hlt (by kernel_rfl) rfl (S7.out.kp K2.out (fun h => h)) (by rw [HTS.out, sm_snoc, if_neg (by unfold okb; rw [hm]; simpa using hs), List.append_nil]; exact OW.out.kp K2.out (fun _ _ h => h)) (KP.out.trans K2.out (fun _ _ h => h.elim))
  · obtain rfl : k = n := by omega
    have HT : Hid (l.take k = l) := List.take_of_length_le (by have := HN.out; omega)
    go_wp2_with fail
    subst hQ
    exact ⟨act_of (by kernel_rfl) rfl, v, S7.out, by rw [← HT.out]; exact OW.out, KP.out⟩
end Go.Proofs.Ytgfondgejimkkaa

namespace Go.Proofs.Ytgfondgejimkkaa
open Go.RowKit
set_option linter.unusedVariables false
set_option linter.unusedSimpArgs false
/-- The first half of a run. -/
def hlf (y : Rn) : Rn := ⟨y.a, (y.n + 1) / 2⟩
theorem hlf_may {y : Rn} (h : Mayr y) : Mayr (hlf y) ∧ ∀ p, Inr (hlf y) p → Inr y p := by
  unfold Mayr Rn.e at h
  refine ⟨?_, fun p hp => ?_⟩
  · unfold Mayr Rn.e hlf
    dsimp only
    omega
  · unfold Inr Rn.e hlf at *
    dsimp only at hp
    omega
/-- What both puts leave. -/
def two (Rb : List Rn) (y : Rn) : List Rn := tog (tog (Rb ++ [hlf y]) ++ [y])
theorem two_ok {Rb : List Rn} {y : Rn} (h : Can Rb) (hy : Mayr y) : Can (tog (Rb ++ [hlf y])) ∧ Can (two Rb y) ∧ (∀ p, Bt (two Rb y) p ↔ Bt Rb p ∨ Inr y p) ∧ (tog (Rb ++ [hlf y])).length ≤ Rb.length + 1 ∧ (two Rb y).length ≤ Rb.length + 2 := by
  obtain ⟨hm, hs⟩ := hlf_may hy
  have m1 : ∀ z ∈ Rb ++ [hlf y], Mayr z := fun z hz => by
    rcases List.mem_append.1 hz with hz | hz
    · exact h.1 z hz
    · rw [List.mem_singleton.1 hz]; exact hm
  obtain ⟨c1, b1⟩ := tog_ok m1
  have m2 : ∀ z ∈ tog (Rb ++ [hlf y]) ++ [y], Mayr z := fun z hz => by
    rcases List.mem_append.1 hz with hz | hz
    · exact c1.1 z hz
    · rw [List.mem_singleton.1 hz]; exact hy
  obtain ⟨c2, b2⟩ := tog_ok m2
  have l1 := tog_len m1
  have l2 := tog_len m2
  rw [List.length_append, List.length_singleton] at l1 l2
  refine ⟨c1, c2, fun p => ?_, l1, by unfold two; omega⟩
  unfold two
  rw [b2, bt_append, b1, bt_append, bt_cons, bt_cons]
  constructor
  · rintro ((h1 | (h1 | h1)) | (h1 | h1))
    · exact .inl h1
    · exact .inr (hs p h1)
    · exact absurd h1 Bt.nil
    · exact .inr h1
    · exact absurd h1 Bt.nil
  · rintro (h1 | h1)
    · exact .inl (.inl h1)
    · exact .inr (.inl h1)
set_option maxRecDepth 100000 in
set_option maxHeartbeats 8000000 in
theorem c17_wp (w X : World) (bo : Option Addr) (n cb : Nat) (mo : Int) (T5 T6 T7 Qa Qb T13 k : Nat) (x y : Rn) (v : Value) (S : List Rn) (Ra Rb : List Rn) (A : Act) (ht : A.tmps = eL2 bo n cb mo T5 T6 T7 Qa Qb T13 (k : Int) (fun i => A.tmps.getD i undef)) (hd : A.defers = []) (hk : k < S.length) (hS : S.length ≤ 60) (hy : S.getD k zRn = y) (hm : Mayr y) (h : Ds w T5 T6 T7 x v S Qa Qb Ra Rb X) (hl : Rb.length < 4096) :
    c17.wpIn Fence.wide 20 Try.prog (postN (fun a' Z => (∃ f', a' = { tmps := eL3 bo n cb mo T5 T6 T7 Qa Qb T13 (k : Int) (sz (tog (Rb ++ [hlf y])) - sz Rb) f', defers := [] }) ∧ Ds w T5 T6 T7 x v S Qa Qb Ra (tog (Rb ++ [hlf y])) Z ∧ BK X Z)) A X := by
  obtain ⟨f, rfl⟩ := act_of ht hd
  obtain ⟨ao, cap, hv, hsr, hc1, hc2, _⟩ := h.own.src
  obtain ⟨gb, off, rfl, hgb, _, _⟩ := hsr.at (i := k) hk
  subst hv
  have HSC : Hid (∀ U, BK X U → (fun U : World => U.cell? ⟨T7, 0, none⟩ = some (.slice (some ⟨gb, off, none⟩) S.length cap) ∧ U.cell? ⟨gb, off + k * 2, none⟩ = some (.int .i64 y.a) ∧ U.cell? ⟨gb, off + k * 2 + 1, none⟩ = some (.int .i64 y.n)) U) := fun U hU => by
    have h7 := hU 22 T7 _ (by unfold bxt; decide) h.s7
    obtain ⟨ao2, cap2, e2, s2, _⟩ := (hU.own h.own).src
    cases e2
    obtain ⟨g3, o3, e3, _, y0, y1⟩ := s2.at (i := k) hk
    cases e3
    rw [hy] at y0 y1
    exact ⟨h7.cell 0, y0, y1⟩
  obtain ⟨ya, yn⟩ := y
  unfold Mayr Rn.e at hm
  dsimp only at hm HSC
  have hmy : Mayr (hlf ⟨ya, yn⟩) := (hlf_may (by unfold Mayr Rn.e; exact hm)).1
  have HPU : Hid (∀ U g, Kp (fun _ => False) X U → Srcr U (some ⟨g, 0, none⟩) [hlf ⟨ya, yn⟩] → Calls Try.prog 22 #[.pointer (some ⟨Qb, 0, none⟩), .slice (some ⟨g, 0, none⟩) 1 1] U fun e Y => e = .returned (.tuple #[.int .i64 (sz (tog (Rb ++ [hlf ⟨ya, yn⟩])) - sz Rb), .int .i64 0]) ∧ Ds w T5 T6 T7 x (.slice (some ⟨gb, off, none⟩) S.length cap) S Qa Qb Ra (tog (Rb ++ [hlf ⟨ya, yn⟩])) Y ∧ BK X Y) := fun U g hU hs => ((h.same hU).putB _ 1 (hlf ⟨ya, yn⟩) (by simp) hs hmy hl).mono (fun e Y hh => ⟨hh.1, hh.2.1, (BK.same hU).trans hh.2.2⟩)
  have cc := HSC.out X.drew (BK.same (Kp.refl _ X).drew)
  have ca := HSC.out (X.drew.alloc (.cells #[.int .i64 ya, .int .i64 ((yn + 1) / 2)] 38)) (BK.same ((Kp.refl _ X).drew.alloc _))
  have KA : Hid (Kp (fun _ => False) X (X.drew.alloc (.cells #[.int .i64 ya, .int .i64 ((yn + 1) / 2)] 38))) := (Kp.refl _ X).drew.alloc _
  have SR : Hid (Srcr (X.drew.alloc (.cells #[.int .i64 ya, .int .i64 ((yn + 1) / 2)] 38)) (some ⟨X.heap.size, 0, none⟩) [hlf ⟨ya, yn⟩]) := srcr_new1 X.drew (hlf ⟨ya, yn⟩)
  obtain ⟨r1, hr1⟩ : ∃ r1, r1 = sz (tog (Rb ++ [hlf ⟨ya, yn⟩])) - sz Rb := ⟨_, rfl⟩
  rw [← hr1] at HPU ⊢
  have hki : (k : Int) < (S.length : Int) := by omega
  obtain ⟨m, hmm⟩ : ∃ m, m = S.length := ⟨_, rfl⟩
  rw [← hmm] at hki hS hk cc ca HSC HPU hc1
  have hw1 : IntKind.i64.wrap (yn + 1) = yn + 1 := by rw [IntKind.wrap_i64]; omega
  have hq : (yn + 1).tdiv 2 = (yn + 1) / 2 := by rw [Int.tdiv_eq_ediv_of_nonneg (by omega)]
  have hw2 : IntKind.i64.wrap ((yn + 1) / 2) = (yn + 1) / 2 := by rw [IntKind.wrap_i64]; omega
  generalize tog (Rb ++ [hlf ⟨ya, yn⟩]) = R1 at *
  unfold maxLen at hc2
  have HMM := hid hmm
  clear h hsr ht hd hmm hr1
  refine wpIn_wide.2 ?_
  unfold c17 eL2
  generalize hQ : postN _ = QQ
  go_region_held3 (fun U : World => U.cell? ⟨T7, 0, none⟩ = some (.slice (some ⟨gb, off, none⟩) m cap) ∧ U.cell? ⟨gb, off + k * 2, none⟩ = some (.int .i64 ya) ∧ U.cell? ⟨gb, off + k * 2 + 1, none⟩ = some (.int .i64 yn)) (first | exact cc | exact ca | exact cd) (first | (go_at_call 22; refine (HPU.out _ _ KA.out SR.out).mono ?_; rintro e w5 ⟨rfl, d5, b5⟩; have cd := HSC.out w5 b5; have D5 := hid d5; have B5 := hid b5; clear d5 b5))
  subst hQ
  exact ⟨act_of (by kernel_rfl) rfl, by have := D5.out; rw [HMM.out] at this; exact this, B5.out⟩
/-- What the second loop holds. -/
def Lp2 (w : World) (bo : Option Addr) (n cb : Nat) (mo : Int) (T5 T6 T7 Qa Qb T13 : Nat) (x : Rn) (v : Value) (S Ra : List Rn) (a' : Act) (Z : World) : Prop :=
  ∃ (k : Nat) (Rb : List Rn), k ≤ S.length ∧ (∃ f, a' = { tmps := eL2 bo n cb mo T5 T6 T7 Qa Qb T13 ((k : Int) - 1) f, defers := [] }) ∧ Ds w T5 T6 T7 x v S Qa Qb Ra Rb Z ∧ St 2 Z T13 #[.int .i64 (sz Rb)] ∧ (∀ p, Bt Rb p ↔ Bt (S.drop k) p) ∧ Rb.length ≤ 2 * (S.length - k)
theorem eL2_14 (bo : Option Addr) (n cb : Nat) (mo : Int) (T5 T6 T7 Qa Qb T13 : Nat) (kk : Int) (f : Nat → Value) : ({ tmps := eL2 bo n cb mo T5 T6 T7 Qa Qb T13 kk f, defers := [] } : Act).tmps.getD 14 undef = .int .i64 kk := rfl
theorem lp2_of {w : World} {bo : Option Addr} {n cb : Nat} {mo : Int} {T5 T6 T7 Qa Qb T13 : Nat} {x : Rn} {v : Value} {S Ra Rb : List Rn} {a' : Act} {Z : World} (k0 : Nat) (hk : k0 ≤ S.length) (ht : a'.tmps = eL2 bo n cb mo T5 T6 T7 Qa Qb T13 ((k0 : Int) - 1) (fun i => a'.tmps.getD i undef)) (hd : a'.defers = []) (h1 : Ds w T5 T6 T7 x v S Qa Qb Ra Rb Z) (h2 : St 2 Z T13 #[.int .i64 (sz Rb)]) (h3 : ∀ p, Bt Rb p ↔ Bt (S.drop k0) p) (h4 : Rb.length ≤ 2 * (S.length - k0)) :
    Lp2 w bo n cb mo T5 T6 T7 Qa Qb T13 x v S Ra a' Z ∧ ((intOf (a'.tmps.getD 14 undef)) + 1).toNat < k0 + 1 := by
  obtain ⟨f, hf⟩ := act_of ht hd
  refine ⟨⟨k0, Rb, hk, ⟨f, hf⟩, h1, h2, h3, h4⟩, ?_⟩
  rw [hf, eL2_14]
  simp [intOf]
set_option maxRecDepth 100000 in
set_option maxHeartbeats 8000000 in
theorem loop2_wp (w X : World) (bo : Option Addr) (n cb : Nat) (mo : Int) (T5 T6 T7 Qa Qb T13 : Nat) (x : Rn) (v : Value) (S Ra : List Rn) (A : Act) (ht : A.tmps = eL2 bo n cb mo T5 T6 T7 Qa Qb T13 ((S.length : Int) - 1) (fun i => A.tmps.getD i undef)) (hd : A.defers = []) (hS : S.length ≤ 60) (hmay : ∀ y ∈ S, Mayr y) (h : Ds w T5 T6 T7 x v S Qa Qb Ra [] X) (s13 : St 2 X T13 #[.int .i64 0]) (h13 : w.heap.size ≤ T13) :
    cL2.wpIn Fence.wide 20 Try.prog (postN (fun a' Z => (∃ f', a' = { tmps := e1 bo n cb mo T5 T6 T7 Qa Qb T13 f', defers := [] }) ∧ ∃ Rb, Ds w T5 T6 T7 x v S Qa Qb Ra Rb Z ∧ St 2 Z T13 #[.int .i64 (sz Rb)] ∧ (∀ p, Bt Rb p ↔ Bt S p))) A X := by
  obtain ⟨f, rfl⟩ := act_of ht hd
  have HMY := hid hmay
  have HNU := hid num_any
  have HL0 : Hid (Lp2 w bo n cb mo T5 T6 T7 Qa Qb T13 x v S Ra { tmps := eL2 bo n cb mo T5 T6 T7 Qa Qb T13 ((S.length : Int) - 1) f, defers := [] } X) := ⟨S.length, [], Nat.le_refl _, ⟨f, rfl⟩, h, s13, fun p => by rw [List.drop_length], by simp⟩
  have HT13 : Hid (w.heap.size ≤ T13) := h13
  clear hmay ht hd h s13 h13
  refine wpIn_wide.2 ?_
  unfold cL2
  generalize hQ : postN _ = QQ
  go_wp2_with fail
  refine wp_loop (Lp2 w bo n cb mo T5 T6 T7 Qa Qb T13 x v S Ra) (fun a' _ => ((intOf (a'.tmps.getD 14 undef)) + 1).toNat) HL0.out ?_
  clear HL0
  rintro a' wr ⟨k, Rb, hk, ⟨f', rfl⟩, ds, s13, bt, ln⟩
  have hmu : ((intOf (({ tmps := eL2 bo n cb mo T5 T6 T7 Qa Qb T13 ((k : Int) - 1) f', defers := [] } : Act).tmps.getD 14 undef)) + 1).toNat = k := by rw [eL2_14]; simp [intOf]
  rw [hmu]
  clear hmu
  have DS := hid ds
  have S13 := hid s13
  have BT := hid bt
  have LN := hid ln
  clear ds s13 bt ln f
  cases k with
  | zero =>
    have hlt : ¬ (0 : Int) ≤ ((0 : Nat) : Int) - 1 := by omega
    unfold eL2
    go_wp2_with fail
    subst hQ
    exact ⟨act_of (by kernel_rfl) rfl, Rb, DS.out, S13.out, BT.out⟩
  | succ k =>
    rw [show ((k + 1 : Nat) : Int) - 1 = (k : Int) by omega]
    have hkS : k < S.length := by omega
    obtain ⟨y, hy⟩ : ∃ y, y = S.getD k zRn := ⟨_, rfl⟩
    have hym : Mayr y := by rw [hy]; exact HMY.out _ (gd_mem hkS)
    have hdr : S.drop k = y :: S.drop (k + 1) := by rw [hy, gd hkS]; exact List.drop_eq_getElem_cons hkS
    obtain ⟨c1, c2, bt2, l1, l2⟩ := two_ok (y := y) DS.out.two.choose_spec.choose_spec.2.1.can hym
    have HC1 := hid c1
    have HC2 := hid c2
    have HB2 := hid bt2
    have HLa : Hid ((tog (Rb ++ [hlf y])).length ≤ Rb.length + 1) := l1
    have HLb : Hid ((two Rb y).length ≤ Rb.length + 2) := l2
    have HY := hid hy
    have HYM := hid hym
    have HDR := hid hdr
    have HLN : Hid (Rb.length ≤ 118) := by have := LN.out; show _ ≤ _; omega
    have HZ0 := hid (ap_sz DS.out.two.choose_spec.choose_spec.2.1.can.ap)
    have HZ1 := hid (ap_sz c1.ap)
    have HZ2 := hid (ap_sz c2.ap)
    have hge : (0 : Int) ≤ (k : Int) := by omega
    clear c1 c2 bt2 l1 l2 hy hym hdr
    unfold eL2
    go_wp2_with fail
    refine wp_mono (wpIn_wide.1 (c17_wp w wr bo n cb mo T5 T6 T7 Qa Qb T13 k x y v S Ra Rb _ ?h1 rfl hkS hS HY.out.symm HYM.out DS.out (by have := HLN.out; omega))) ?_
    case h1 => kernel_rfl
    intro e a1 w2 hh
    cases e with
    | normal =>
      obtain ⟨⟨f1, rfl⟩, d2, b2⟩ := hh
      have D2 := hid d2
      have S132 := hid (b2 2 T13 _ (by unfold bxt; decide) S13.out)
      obtain ⟨ao, cap, hv, hsr, hc1, hc2, _⟩ := d2.own.src
      obtain ⟨gb, off, rfl, hgb, y0, y1⟩ := hsr.at (i := k) hkS
      rw [← HY.out] at y0 y1
      subst hv
      have c7 : w2.cell? ⟨T7, 0, none⟩ = some (.slice (some ⟨gb, off, none⟩) S.length cap) := d2.s7.cell 0
      obtain ⟨ya, yn⟩ := y
      dsimp only at y0 y1
      obtain ⟨m, hm⟩ : ∃ m, m = S.length := ⟨_, rfl⟩
      rw [← hm] at hc1 c7
      have hki : (k : Int) < (m : Int) := by omega
      have HM := hid hm
      have hkm : k < m := by omega
      have hm60 : m ≤ 60 := by omega
      unfold maxLen at hc2
      obtain ⟨r1, hr1⟩ : ∃ r1, r1 = sz (tog (Rb ++ [hlf ⟨ya, yn⟩])) - sz Rb := ⟨_, rfl⟩
      rw [← hr1]
      have HR1 := hid hr1
      clear d2 b2 DS S13 hsr hm hr1 hS hkS hk
      unfold eL3
      go_wp2_with fail
      refine ((D2.out.same ((Kp.refl (fun _ => False) w2).alloc (.cells #[.int .i64 ya, .int .i64 yn] 38))).putB _ _ ⟨ya, yn⟩ (by simp) (srcr_new1 w2 ⟨ya, yn⟩) HYM.out (by have := HLN.out; have := HLa.out; omega)).mono ?_
      rintro e w3 ⟨rfl, d3, b3⟩
      have D3 := hid d3
      have S133 := hid (b3 2 T13 _ (by unfold bxt; decide) (S132.out.kp ((Kp.refl (fun _ => False) w2).alloc _) (fun h => h)))
      have q0 : w3.cell? ⟨T13, 0, none⟩ = some (.int .i64 (sz Rb)) := S133.out.cell 0
      have q1 : w3.frozen? ⟨T13, 0, none⟩ = false := S133.out.frozen 0
      have q2 := S133.out.lt
      obtain ⟨r2, hr2⟩ : ∃ r2, r2 = sz (tog (tog (Rb ++ [hlf ⟨ya, yn⟩]) ++ [⟨ya, yn⟩])) - sz (tog (Rb ++ [hlf ⟨ya, yn⟩])) := ⟨_, rfl⟩
      rw [← hr2]
      have HR2 := hid hr2
      have hw1 : IntKind.i64.wrap (sz Rb + r1) = sz Rb + r1 := by
        have h1 := HZ0.out; have h2 := HZ1.out; have h3 := HR1.out; rw [IntKind.wrap_i64]; omega
      have hw2 : IntKind.i64.wrap (sz Rb + r1 + r2) = sz (two Rb ⟨ya, yn⟩) := by
        have h1 := HZ0.out; have h2 := HZ1.out; have h3 := HR1.out; have h4 := HZ2.out; have h5 := HR2.out; unfold two at *; rw [IntKind.wrap_i64]; omega
      have hw3 : IntKind.i64.wrap ((k : Int) - 1) = (k : Int) - 1 := by rw [IntKind.wrap_i64]; omega
      clear d3 b3 hr2 D2 S132 c7 y0 y1
      go_wp2_with (first | (go_at_call 11; refine (HNU.out _ _).mono ?_; rintro e1 w9 ⟨rfl, rfl⟩))
      have kz := kp_setCell w3 T13 0 (.int .i64 (sz (two Rb ⟨ya, yn⟩))) (fun i => i = T13) rfl
      have d4 : Ds w T5 T6 T7 x (.slice (some ⟨gb, off, none⟩) S.length cap) S Qa Qb Ra (two Rb ⟨ya, yn⟩) (w3.setCell ⟨T13, 0, none⟩ (.int .i64 (sz (two Rb ⟨ya, yn⟩)))) := by
        have hd := D3.out
        obtain ⟨Fa, Fb, a1, a2, a3, a4, a5⟩ := hd.two
        have n13 : ∀ t i cs, t ≠ 2 → St t w3 i cs → i ≠ T13 := fun t i cs ht hs e => by subst e; exact apart_types hs S133.out ht
        have h13 : w.heap.size ≤ T13 := HT13.out
        exact ⟨hd.kp.trans kz (fun i hi e => by omega), hd.s5.kp kz (n13 _ _ _ (by decide) hd.s5), hd.s6.kp kz (n13 _ _ _ (by decide) hd.s6), hd.s7.kp kz (n13 _ _ _ (by decide) hd.s7), hd.own.kp kz (fun g e => by obtain ⟨_, _, cur, hg⟩ := hd.own.blk e; exact n13 38 g cur (by decide) hg), ⟨Fa, Fb, a1.kp kz (fun i hi e => a1.box (t := 2) (by unfold bxt; decide) S133.out (e ▸ hi)), a2.kp kz (fun i hi e => a2.box (t := 2) (by unfold bxt; decide) S133.out (e ▸ hi)), a3, a4, a5⟩, hd.low⟩
      exact lp2_of k (by have := HM.out; omega) (by kernel_rfl) rfl d4 (St.set S133.out 0 _) (fun p => by rw [HB2.out p, BT.out p, HDR.out, bt_cons]; exact Or.comm) (by have := HLb.out; have := LN.out; have := HM.out; omega)
    | _ => exact hh.elim
end Go.Proofs.Ytgfondgejimkkaa

namespace Go.Proofs.Ytgfondgejimkkaa
open Go.RowKit
set_option linter.unusedVariables false
set_option linter.unusedSimpArgs false
set_option maxRecDepth 100000 in
set_option maxHeartbeats 8000000 in
theorem cM_wp (w X : World) (bo : Option Addr) (n cb : Nat) (mo : Int) (T5 T6 T7 Qa Qb T13 : Nat) (x : Rn) (v : Value) (S Ra Rb : List Rn) (A : Act) (ht : A.tmps = e1 bo n cb mo T5 T6 T7 Qa Qb T13 (fun i => A.tmps.getD i undef)) (hd : A.defers = []) (hx : x.i6) (hRa : Ra.length ≤ 60) (h : Ds w T5 T6 T7 x v S Qa Qb Ra Rb X) :
    cM.wpIn Fence.wide 20 Try.prog (postN (fun a' Z => (∃ f', a' = { tmps := e1 bo n cb mo T5 T6 T7 Qa Qb T13 f', defers := [] }) ∧ ∃ Ra', Ds w T5 T6 T7 x v S Qa Qb Ra' Rb Z ∧ BK X Z)) A X := by
  obtain ⟨f, rfl⟩ := act_of ht hd
  have HNU := hid num_any
  have HRM := hid (rmay_any x X hx)
  have D0 := hid h
  have HCN : Hid (Can Ra) := h.two.choose_spec.choose_spec.1.can
  have HLL : Hid ((lss Ra x).length ≤ 4096) := Nat.le_trans (lss_len Ra x) (by omega)
  have S5 := hid h.s5
  clear h ht hd hx
  obtain ⟨xa, xn⟩ := x
  unfold Rn.cs at HRM
  dsimp only at HRM
  refine wpIn_wide.2 ?_
  unfold cM e1
  generalize hQ : postN _ = QQ
  cases hm : mayb ⟨xa, xn⟩ with
  | false =>
    simp only [hm] at HRM
    go_wp2_with (first | (refine wpList_load_r rfl _ rfl _ rfl S5.out ?_) | (go_at_call 21; refine HRM.out.mono ?_; rintro e w2 ⟨rfl, k2⟩; have K2 := hid k2; clear k2))
    subst hQ
    exact ⟨act_of (by kernel_rfl) rfl, Ra, D0.out.same K2.out, BK.same K2.out⟩
  | true =>
    have HMX : Hid (Mayr ⟨xa, xn⟩) := (mayb_iff _).1 hm
    simp only [hm] at HRM
    go_wp2_with (first | (refine wpList_load_r rfl _ rfl _ rfl S5.out ?_) | (go_at_call 21; refine HRM.out.mono ?_; rintro e w2 ⟨rfl, k2⟩; have D2 := hid (D0.out.same k2); have B2 := hid (BK.same k2); have S5 := hid (S5.out.kp k2 (fun h => h)); clear k2))
    refine (D2.out.overA ⟨xa, xn⟩ HMX.out).mono ?_
    rintro e w3 ⟨rfl, k3⟩
    have D3 := hid (D2.out.same k3)
    have B3 := hid (B2.out.trans (BK.same k3))
    have S53 := hid D3.out.s5
    clear k3 D2 B2
    obtain ⟨ro, hro⟩ : ∃ ro, ro = ovl Ra ⟨xa, xn⟩ := ⟨_, rfl⟩
    rw [← hro]
    have HRO := hid hro
    clear hro
    go_wp2_with (first | (refine wpList_load_r rfl _ rfl _ rfl S53.out ?_))
    refine (D3.out.cutA ⟨xa, xn⟩ HMX.out HLL.out).mono ?_
    rintro e w4 ⟨rfl, d4, b4⟩
    rw [← HRO.out]
    have D4 := hid d4
    have B4 := hid (B3.out.trans b4)
    have S54 := hid d4.s5
    clear d4 b4 D3 B3 S53
    go_wp2_with (first | (refine wpList_load_r rfl _ rfl _ rfl S54.out ?_))
    refine (D4.out.overA ⟨xa, xn⟩ HMX.out).mono ?_
    rintro e w5 ⟨rfl, k5⟩
    rw [ovl_gone HMX.out HCN.out]
    have D5 := hid (D4.out.same k5)
    have B5 := hid (B4.out.trans (BK.same k5))
    clear k5 D4 B4 S54
    go_wp2_with (first | (go_at_call 11; refine (HNU.out _ _).mono ?_; rintro e1 w9 ⟨rfl, rfl⟩))
    subst hQ
    exact ⟨act_of (by kernel_rfl) rfl, _, D5.out, B5.out⟩
end Go.Proofs.Ytgfondgejimkkaa

namespace Go.Proofs.Ytgfondgejimkkaa
open Go.RowKit Go.Shelf
attribute [local go_sem] Oper.semAt_some
set_option linter.unusedVariables false
set_option linter.unusedSimpArgs false
/-- What the range holds: its boxes, the row; all that was there is as it was. -/
structure Rg2 (w : World) (T6 T7 T13 T27 T29 : Nat) (v : Value) (S : List Rn) (bound tot at_ : Int) (X : World) : Prop where
  kp : Kp (fun _ => False) w X
  s6 : St 4 X T6 #[.bool false]
  s7 : St 22 X T7 #[v]
  own : Ownr X w.heap.size v S
  s13 : St 2 X T13 #[.int .i64 tot]
  s27 : St 2 X T27 #[.int .i64 bound]
  s29 : St 2 X T29 #[.int .i64 at_]
  ne : T13 ≠ T27 ∧ T13 ≠ T29 ∧ T27 ≠ T29
  low : w.heap.size ≤ T6 ∧ w.heap.size ≤ T7 ∧ w.heap.size ≤ T13 ∧ w.heap.size ≤ T27 ∧ w.heap.size ≤ T29
theorem Rg2.same {w : World} {T6 T7 T13 T27 T29 : Nat} {v : Value} {S : List Rn} {bound tot at_ : Int} {X Y : World} (h : Rg2 w T6 T7 T13 T27 T29 v S bound tot at_ X) (k : Kp (fun _ => False) X Y) : Rg2 w T6 T7 T13 T27 T29 v S bound tot at_ Y :=
  ⟨h.kp.trans k (fun _ _ h => h), h.s6.kp k (fun h => h), h.s7.kp k (fun h => h), h.own.kp k (fun _ _ h => h), h.s13.kp k (fun h => h), h.s27.kp k (fun h => h), h.s29.kp k (fun h => h), h.ne, h.low⟩
theorem Rg2.set {w : World} {T6 T7 T13 T27 T29 : Nat} {v : Value} {S : List Rn} {bound tot at_ t2 a2 : Int} {X : World} (h : Rg2 w T6 T7 T13 T27 T29 v S bound tot at_ X) : Rg2 w T6 T7 T13 T27 T29 v S bound t2 a2 ((X.setCell ⟨T29, 0, none⟩ (.int .i64 a2)).setCell ⟨T13, 0, none⟩ (.int .i64 t2)) := by
  have k1 := kp_setCell X T29 0 (.int .i64 a2) (fun i => i = T29) rfl
  have k2 := kp_setCell (X.setCell ⟨T29, 0, none⟩ (.int .i64 a2)) T13 0 (.int .i64 t2) (fun i => i = T13) rfl
  have hn := h.ne
  have hl := h.low
  have n29 : ∀ t i cs, t ≠ 2 → St t X i cs → i ≠ T29 := fun t i cs ht hs e => by subst e; exact apart_types hs h.s29 ht
  have n13 : ∀ t i cs, t ≠ 2 → St t X i cs → i ≠ T13 := fun t i cs ht hs e => by subst e; exact apart_types hs h.s13 ht
  refine ⟨(h.kp.trans k1 (fun i hi e => by omega)).trans k2 (fun i hi e => by omega), (h.s6.kp k1 (n29 _ _ _ (by decide) h.s6)).kp k2 (n13 _ _ _ (by decide) h.s6), (h.s7.kp k1 (n29 _ _ _ (by decide) h.s7)).kp k2 (n13 _ _ _ (by decide) h.s7), ?_, ?_, (h.s27.kp k1 hn.2.2).kp k2 (Ne.symm hn.1), ?_, hn, hl⟩
  · refine (h.own.kp k1 (fun g e => ?_)).kp k2 (fun g e => ?_)
    · obtain ⟨_, _, cur, hg⟩ := h.own.blk e
      exact n29 38 g cur (by decide) hg
    · obtain ⟨_, _, cur, hg⟩ := h.own.blk e
      exact n13 38 g cur (by decide) hg
  · exact St.set (h.s13.kp k1 hn.2.1) 0 _
  · exact (St.set h.s29 0 _).kp k2 (Ne.symm hn.2.1)
set_option maxRecDepth 100000 in
set_option maxHeartbeats 8000000 in
theorem bodyD_wp (l' : Nat) (w W : World) (bo : Option Addr) (n cb : Nat) (mo : Int) (T5 T6 T7 Qa Qb T13 T27 T29 T30 : Nat) (v : Value) (S : List Rn) (bound tot at_ : Int) (y : Rn) (f : Nat → Value)
    (h : Rg2 w T6 T7 T13 T27 T29 v S bound tot at_ W) (s30 : Rn.B W T30 y) (hy : Mayr y) (hat : at_ < y.a) (hb : y.n ≤ bound) (htot : y.n ≤ tot ∧ tot ≤ 72057594037927936) (hbd : bound ≤ 9223372036854775807) (hat2 : -1 ≤ at_) (hS : S.length ≤ 60) (hmS : ∀ x ∈ S, Mayr x) (hin : ∀ p, Inr y p → Bt S p) :
    cB5.wpIn (Fence.wide.inRound l') 18 Try.prog (postN (fun _ Z => Rg2 w T6 T7 T13 T27 T29 v S bound (tot - y.n) (y.e - 1) Z ∧ Kp (fun i => i = T13 ∨ i = T29) W Z)) { tmps := eB bo n cb mo T5 T6 T7 Qa Qb T13 T27 T29 T30 f, defers := [] } W := by
  have hym := hid hy
  unfold Mayr Rn.e at hy
  obtain ⟨ya, yn⟩ := y
  dsimp only at *
  obtain ⟨hy1, hy2, hy3⟩ := hy
  have HE : Hid ((⟨ya, yn⟩ : Rn).e - 1 = ya + yn - 1) := rfl
  rw [HE.out]
  have hw1 : IntKind.i64.wrap (ya + yn) = ya + yn := by rw [IntKind.wrap_i64]; omega
  have hw2 : IntKind.i64.wrap (ya + yn - 1) = ya + yn - 1 := by rw [IntKind.wrap_i64]; omega
  have hw3 : IntKind.i64.wrap (tot - yn) = tot - yn := by rw [IntKind.wrap_i64]; omega
  have HW := hid h
  have HS30 := hid s30
  have R2 := hid (Rg2.set (t2 := tot - yn) (a2 := ya + yn - 1) h)
  have k1 := kp_setCell W T29 0 (.int .i64 (ya + yn - 1)) (fun i => i = T29) rfl
  have k2 := kp_setCell (W.setCell ⟨T29, 0, none⟩ (.int .i64 (ya + yn - 1))) T13 0 (.int .i64 (tot - yn)) (fun i => i = T13) rfl
  have KK : Hid (Kp (fun i => i = T13 ∨ i = T29) W ((W.setCell ⟨T29, 0, none⟩ (.int .i64 (ya + yn - 1))).setCell ⟨T13, 0, none⟩ (.int .i64 (tot - yn)))) := (k1.mono (fun _ _ e => .inr e)).trans k2 (fun _ _ e => .inl e)
  have n30 : ∀ i cs, St 2 W i cs → i ≠ T30 := fun i cs hs e => by subst e; exact apart_types hs s30 (by decide)
  have e13 := n30 _ _ h.s13
  have e29 := n30 _ _ h.s29
  have e27 := n30 _ _ h.s27
  have z0 : W.cell? ⟨T30, 0, none⟩ = some (.int .i64 ya) := s30.cell 0
  have z1 : W.cell? ⟨T30, 1, none⟩ = some (.int .i64 yn) := s30.cell 1
  have z2 : W.cell? ⟨T29, 0, none⟩ = some (.int .i64 at_) := h.s29.cell 0
  have z3 : W.cell? ⟨T27, 0, none⟩ = some (.int .i64 bound) := h.s27.cell 0
  have z4 : W.frozen? ⟨T29, 0, none⟩ = false := h.s29.frozen 0
  have z5 := h.s29.lt
  have y0 := kp_cell k1 z0 (Ne.symm e29)
  have y1 := kp_cell k1 z1 (Ne.symm e29)
  have y2 : (W.setCell ⟨T29, 0, none⟩ (.int .i64 (ya + yn - 1))).cell? ⟨T13, 0, none⟩ = some (.int .i64 tot) := (h.s13.kp k1 h.ne.2.1).cell 0
  have y3 : (W.setCell ⟨T29, 0, none⟩ (.int .i64 (ya + yn - 1))).frozen? ⟨T13, 0, none⟩ = false := (h.s13.kp k1 h.ne.2.1).frozen 0
  have y4 := (h.s13.kp k1 h.ne.2.1).lt
  obtain ⟨ao, cap, hv, hsr, hc1, hc2, hz0⟩ := h.own.src
  subst hv
  have HHO : Hid (∀ U p, Rg2 w T6 T7 T13 T27 T29 (.slice ao S.length cap) S bound (tot - yn) (ya + yn - 1) U → ya ≤ p → p < ya + yn → Calls Try.prog 26 #[.slice ao S.length cap, .int .i64 p] U fun e w' => e = .returned (.bool true) ∧ Kp (fun _ => False) U w') := fun U p hU h1 h2 => by
    obtain ⟨ao2, cap2, e2, s2, _⟩ := hU.own.src
    cases e2
    exact holds_any U ao S.length cap S p rfl (by omega) hmS s2 (hin p ⟨h1, h2⟩) (by omega)
  have d1 : ¬ ya ≤ at_ := by omega
  have d2 : ¬ yn < 1 := by omega
  have d3 : ¬ bound < yn := by omega
  have hi2 : ya ≤ ya + yn - 1 := by omega
  have x7 : ((W.setCell ⟨T29, 0, none⟩ (.int .i64 (ya + yn - 1))).setCell ⟨T13, 0, none⟩ (.int .i64 (tot - yn))).cell? ⟨T7, 0, none⟩ = some (.slice ao S.length cap) := R2.out.s7.cell 0
  have x0 := kp_cell k2 y0 (Ne.symm e13)
  have HS3 := hid ((s30.kp k1 (Ne.symm e29)).kp k2 (Ne.symm e13))
  clear h s30 hsr hin hmS k1 k2
  unfold cB5 eB
  generalize hQ : postN _ = QQ
  gi_wp2_with fail
  refine ⟨trivial, ((callsIn_wide.2 (HHO.out _ ya R2.out (Int.le_refl _) (by omega))).inRound l').mono ?_⟩
  rintro e w5 ⟨rfl, k5⟩
  have R5 := hid (R2.out.same k5)
  have K5 : Hid (Kp (fun i => i = T13 ∨ i = T29) W w5) := KK.out.trans k5 (fun _ _ h => h.elim)
  have x8 : w5.cell? ⟨T7, 0, none⟩ = some (.slice ao S.length cap) := R5.out.s7.cell 0
  have x9 : w5.cell? ⟨T29, 0, none⟩ = some (.int .i64 (ya + yn - 1)) := R5.out.s29.cell 0
  clear k5 x7 x0 y0 y1 y2 y3 y4 z0 z1 z2 z3 z4 z5
  gi_wp2_with fail
  refine ⟨trivial, ((callsIn_wide.2 (HHO.out _ (ya + yn - 1) R5.out hi2 (by omega))).inRound l').mono ?_⟩
  rintro e w6 ⟨rfl, k6⟩
  have R6 := hid (R5.out.same k6)
  have K6 : Hid (Kp (fun i => i = T13 ∨ i = T29) W w6) := K5.out.trans k6 (fun _ _ h => h.elim)
  clear k6 x8 x9
  gi_wp2_with fail
  subst hQ
  exact ⟨R6.out, K6.out⟩
end Go.Proofs.Ytgfondgejimkkaa

namespace Go.Proofs.Ytgfondgejimkkaa
open Go.RowKit Go.Shelf
attribute [local go_sem] Oper.semAt_some
set_option linter.unusedVariables false
set_option linter.unusedSimpArgs false
theorem kp_putG (W : World) (l : Nat) (o' : Obj) : Kp (fun i => i = l) W (W.putObj l o') := ⟨rfl, rfl, rfl, by simp, fun k _ hk => World.putObj_heap_other hk⟩
def mrk (D : Nat) : Deferred := { target := .collected D, args := #[] }
theorem Lw.noloop {Q : Nat} {R : List Rn} {F : Nat → Prop} {w : World} {i : Nat} {r : Loop} (h : Lw Q R F w) (s : w.heap[i]? = some (.loop r)) : ¬ F i := by
  obtain ⟨B, mb, me, c, v, L, h1, h2, h3⟩ := h
  obtain ⟨eb, kb, m1, m2⟩ := h1.bm
  obtain ⟨ee, ke, n1, n2⟩ := h1.em
  have no : ∀ cs t, ¬ (w.heap[i]? = some (.cells cs t (0, 0))) := fun cs t e => by rw [s] at e; cases e
  intro hf
  rcases (h3 i).1 hf with rfl | rfl | rfl | rfl | e | e
  · exact no _ _ h1.st
  · exact no _ _ h1.ln.st
  · rw [m1.1] at s; cases s
  · rw [n1.1] at s; cases s
  · obtain ⟨cur, hg, _⟩ := ownb h1.ln.own e
    exact no _ _ hg
  · obtain ⟨j, hj⟩ := h1.ln.wt e
    exact no _ _ hj
theorem Lw.putl {Q : Nat} {R : List Rn} {F : Nat → Prop} {w : World} {i : Nat} {r : Loop} (h : Lw Q R F w) (s : w.heap[i]? = some (.loop r)) (o' : Obj) : Lw Q R F (w.putObj i o') := h.kp (kp_putG w i o') (fun k hk e => h.noloop s (e ▸ hk))
/-- What a turn leaves lies behind what was told. -/
theorem nx_behind {most : Int} {y : Rn} {tl : List Rn} (hm : 1 ≤ most) (hc : Can (y :: tl)) : ∀ z ∈ lss (y :: tl) (tkn most y), (tkn most y).e - 1 < z.a := fun z hz => by
  have hy := hc.1 y (by simp)
  have ht := tkn_may hm hy
  have hf := lss_facts ht hc.1
  obtain ⟨y', hy', h1, h2⟩ := hf.1 z hz
  have hzm := (lss_can ht hc).1 z hz
  have hb : Bt (lss (y :: tl) (tkn most y)) z.a := ⟨z, hz, Int.le_refl _, hzm.lt⟩
  have hni := ((hf.2.1 z.a).1 hb).2
  have hya : y.a ≤ y'.a := by
    rcases List.mem_cons.1 hy' with rfl | h3
    · exact Int.le_refl _
    · have := (List.pairwise_cons.1 hc.2).1 y' h3
      have := hy.lt
      omega
  unfold Inr at hni
  have : (tkn most y).a = y.a := rfl
  omega
/-- What holds round by round. -/
structure Ri (w : World) (T6 T7 T13 T27 T29 : Nat) (v : Value) (S Rb : List Rn) (bound : Int) (pre : List Rn) (O : Nat → Prop) (Z : World) : Prop where
  ex : ∃ at_, Rg2 w T6 T7 T13 T27 T29 v S bound (sz (stt Rb pre)) at_ Z ∧ -1 ≤ at_ ∧ ∀ z ∈ stt Rb pre, at_ < z.a
  cn : Can (stt Rb pre)
  bt : ∀ p, Bt (stt Rb pre) p → Bt S p
  ow : ∀ i, O i → w.heap.size ≤ i
  no : ¬ O T6 ∧ ¬ O T7 ∧ ¬ O T13 ∧ ¬ O T27 ∧ ¬ O T29
  nv : ∀ g, v.ownBlock = some g → ¬ O g
theorem Rg2.kpo {w : World} {T6 T7 T13 T27 T29 : Nat} {v : Value} {S : List Rn} {bound tot at_ : Int} {X Y : World} {G : Nat → Prop} (h : Rg2 w T6 T7 T13 T27 T29 v S bound tot at_ X) (k : Kp G X Y) (hw : ∀ i, G i → w.heap.size ≤ i) (hn : ¬ G T6 ∧ ¬ G T7 ∧ ¬ G T13 ∧ ¬ G T27 ∧ ¬ G T29) (hv : ∀ g, v.ownBlock = some g → ¬ G g) : Rg2 w T6 T7 T13 T27 T29 v S bound tot at_ Y :=
  ⟨h.kp.trans k (fun i hi e => by have := hw i e; omega), h.s6.kp k hn.1, h.s7.kp k hn.2.1, h.own.kp k hv, h.s13.kp k hn.2.2.1, h.s27.kp k hn.2.2.2.1, h.s29.kp k hn.2.2.2.2, h.ne, h.low⟩
theorem Ri.abw (w : World) (T6 T7 T13 T27 T29 : Nat) (v : Value) (S Rb : List Rn) (bound : Int) : AbW (Ri w T6 T7 T13 T27 T29 v S Rb bound) := fun s O X Y h k => by
  obtain ⟨at_, r, h1, h2⟩ := h.ex
  have hx := h.no
  have l6 := r.s6.lt
  have l7 := r.s7.lt
  have l13 := r.s13.lt
  have l27 := r.s27.lt
  have l29 := r.s29.lt
  refine ⟨⟨at_, r.kpo k h.ow h.no h.nv, h1, h2⟩, h.cn, h.bt, fun i hi => hi.elim (h.ow i) (fun e => Nat.le_trans r.kp.size e.1), ⟨fun e => e.elim hx.1 (fun e => by omega), fun e => e.elim hx.2.1 (fun e => by omega), fun e => e.elim hx.2.2.1 (fun e => by omega), fun e => e.elim hx.2.2.2.1 (fun e => by omega), fun e => e.elim hx.2.2.2.2 (fun e => by omega)⟩, fun g hg e => e.elim (h.nv g hg) (fun e => by have := (r.own.blk hg).2.1; omega)⟩
set_option maxRecDepth 100000 in
set_option maxHeartbeats 8000000 in
theorem rngD_wp (w X : World) (bo : Option Addr) (n cb : Nat) (mo : Int) (T5 T6 T7 Qa Qb T13 T27 T29 q1 q2 : Nat) (v : Value) (S Rb : List Rn) (bound : Int) (F : Nat → Prop) (A : Act) (ht : A.tmps = eG1 bo n cb mo T5 T6 T7 Qa Qb T13 q1 q2 T27 T29 (fun i => A.tmps.getD i undef)) (hd : A.defers = [])
    (h : Rg2 w T6 T7 T13 T27 T29 v S bound (sz Rb) (-1) X) (hL : Lw Qb Rb F X) (hF : ∀ i, F i → w.heap.size ≤ i) (s1 : St 30 X q1 #[.pointer (some ⟨Qb, 0, none⟩)]) (s2 : St 2 X q2 #[.int .i64 bound]) (hq : w.heap.size ≤ q1 ∧ w.heap.size ≤ q2) (nq : q2 ≠ T13 ∧ q2 ≠ T27 ∧ q2 ≠ T29) (hb1 : 1 ≤ bound) (hb2 : bound ≤ 9223372036854775807) (hS : S.length ≤ 60) (hmS : ∀ x ∈ S, Mayr x) (hbt : ∀ p, Bt Rb p → Bt S p) :
    cRg.wpIn Fence.wide 20 Try.prog (postN (fun a' Z => ∃ D, (∃ f', a' = { tmps := eG2 bo n cb mo T5 T6 T7 Qa Qb T13 T27 T29 f', defers := [mrk D] }) ∧ X.heap.size ≤ D ∧ Z.heap[D]? = some (.deferred (some [])) ∧ (∃ at_, Rg2 w T6 T7 T13 T27 T29 v S bound 0 at_ Z) ∧ ∃ F', Lw Qb [] F' Z)) A X := by
  obtain ⟨f, rfl⟩ := act_of ht hd
  have f1 : ¬ F q1 := hL.box (t := 30) (by unfold bxt; decide) s1
  have f2 : ¬ F q2 := hL.box (t := 2) (by unfold bxt; decide) s2
  have SQ := hid (drain_seq 19 (by omega) q1 q2 Qb Rb F bound X hb1 hb2 hL s1 s2 f1 f2)
  have LO : Hid (∀ i, (F i ∨ i = q1 ∨ i = q2) → i < X.heap.size) := fun i hi => by
    rcases hi with e | e | e
    · exact hL.lt e
    · rw [e]; exact s1.lt
    · rw [e]; exact s2.lt
  have no30 : ∀ t i cs, t ≠ 30 → St t X i cs → i ≠ q1 := fun t i cs h9 hs e => by subst e; exact apart_types hs s1 h9
  have no2 : ∀ t i cs, t ≠ 2 → St t X i cs → i ≠ q2 := fun t i cs h9 hs e => by subst e; exact apart_types hs s2 h9
  have HL6 : Hid (T6 < X.heap.size ∧ T7 < X.heap.size ∧ T13 < X.heap.size ∧ T27 < X.heap.size ∧ T29 < X.heap.size) := ⟨h.s6.lt, h.s7.lt, h.s13.lt, h.s27.lt, h.s29.lt⟩
  have HLV : Hid (∀ g, v.ownBlock = some g → g < X.heap.size) := fun g e => (h.own.blk e).2.1
  have HWX : Hid (w.heap.size ≤ X.heap.size) := h.kp.size
  have HI0 : Hid (Ri w T6 T7 T13 T27 T29 v S Rb bound [] (fun i => F i ∨ i = q1 ∨ i = q2) X) := by
    refine ⟨⟨-1, h, by omega, fun z hz => ?_⟩, hL.can, hbt, fun i hi => ?_, ⟨?_, ?_, ?_, ?_, ?_⟩, fun g hg e => ?_⟩
    · have := hL.can.1 z hz
      unfold Mayr at this
      omega
    · rcases hi with e | e | e
      · exact hF i e
      · omega
      · omega
    · rintro (e | e | e)
      · exact hL.box (t := 4) (by unfold bxt; decide) h.s6 e
      · exact no30 _ _ _ (by decide) h.s6 e
      · exact no2 _ _ _ (by decide) h.s6 e
    · rintro (e | e | e)
      · exact hL.box (t := 22) (by unfold bxt; decide) h.s7 e
      · exact no30 _ _ _ (by decide) h.s7 e
      · exact no2 _ _ _ (by decide) h.s7 e
    · rintro (e | e | e)
      · exact hL.box (t := 2) (by unfold bxt; decide) h.s13 e
      · exact no30 _ _ _ (by decide) h.s13 e
      · omega
    · rintro (e | e | e)
      · exact hL.box (t := 2) (by unfold bxt; decide) h.s27 e
      · exact no30 _ _ _ (by decide) h.s27 e
      · omega
    · rintro (e | e | e)
      · exact hL.box (t := 2) (by unfold bxt; decide) h.s29 e
      · exact no30 _ _ _ (by decide) h.s29 e
      · omega
    · obtain ⟨_, _, cur, hgg⟩ := h.own.blk hg
      rcases e with e | e | e
      · exact hL.box (t := 38) (by unfold bxt; decide) hgg e
      · exact no30 38 g cur (by decide) hgg e
      · exact no2 38 g cur (by decide) hgg e
  have HMS := hid hmS
  clear h hL hF s1 s2 hq nq hmS hbt ht hd f1 f2 no30 no2
  unfold cRg eG1
  generalize hQ : postN _ = QQ
  gi_wp2_with fail
  refine wpIn_rangeFunc_W rfl (by omega) (gf := 50) (pb := #[]) (lb := #[.pointer (some ⟨q1, 0, none⟩), .pointer (some ⟨q2, 0, none⟩)]) rfl trivial (enters_of Try.func50 (by kernel_rfl) rfl) SQ.out (fun xs Z r o' hs hl => ⟨hs.1, hs.2.choose, hs.2.choose_spec.putl hl o'⟩) (fun xs Z r o' hs hl => ⟨hs.choose, hs.choose_spec.putl hl o'⟩) LO.out (Below.refl _ _) (fun _ => rfl)
    (Ri w T6 T7 T13 T27 T29 v S Rb bound)
    (fun _ _ _ _ => False) (Ri.abw w T6 T7 T13 T27 T29 v S Rb bound) (fun _ _ _ _ _ h _ => h.elim) ?hI2 (fun _ _ _ _ _ h _ => h.elim) ?h0
    (fun x a' Z => ∃ T30, X.heap.size + 1 < T30 ∧ Rn.B Z T30 x ∧ ∃ f', a' = { tmps := eB bo n cb mo T5 T6 T7 Qa Qb T13 T27 T29 T30 f', defers := [] }) ?hAx ?assign ?body ?done (fun _ _ _ _ _ _ _ h _ => h.elim)
  case hI2 =>
    rintro s O Z1 o' hi hlt
    obtain ⟨at_, r, h1, h2⟩ := hi.ex
    have h6 := HL6.out
    have h7 := HWX.out
    exact ⟨⟨at_, r.kpo (kp_putG Z1 _ o') (fun i e => by omega) (by omega) (fun g hg e => by have := HLV.out g hg; omega), h1, h2⟩, hi.cn, hi.bt, hi.ow, hi.no, hi.nv⟩
  case h0 =>
    intro r
    have ka : Kp (fun _ => False) X ((X.alloc (.deferred (some []))).alloc (.loop r)) := ((Kp.refl _ _).alloc _).alloc _
    have hi := HI0.out
    obtain ⟨at_, r, h1, h2⟩ := hi.ex
    exact ⟨⟨at_, r.same ka, h1, h2⟩, hi.cn, hi.bt, hi.ow, hi.no, hi.nv⟩
  case hAx =>
    rintro x a' Z o' ⟨T30, h1, h2, h3⟩
    exact ⟨T30, h1, h2.kp (kp_putG Z _ o') (by omega), h3⟩
  case assign =>
    intro l' pre O x Z1 Kk hll hsz hi hK
    have HK := hid hK
    have HI := hid hi
    have HSZ := hid hsz
    clear hK hi hll hsz
    obtain ⟨xa, xn⟩ := x
    gi_wp2_with (first | (refine wpListIn_store_r (by rfl) (.tmp 30) (.tmp 200) rfl Z1.heap.size rfl (e := zRn) (e' := ⟨xa, xn⟩) rfl (Rn.B.new Z1 zRn) ?_; intro w6 b6 j6; have k6 : Kp (fun _ => False) Z1 w6 := ((Kp.refl (fun _ => False) Z1).alloc _).trans j6 (fun i h1 h2 => by omega); have E6 := hid b6; have K6 := hid k6; clear b6 j6 k6))
    have hi := HI.out
    obtain ⟨at_, r, h1, h2⟩ := hi.ex
    exact HK.out _ _ (K6.out.mono (fun _ _ x => x.elim)) ⟨⟨at_, r.same K6.out, h1, h2⟩, hi.cn, hi.bt, hi.ow, hi.no, hi.nv⟩ ⟨_, HSZ.out, E6.out, act_of (by kernel_rfl) rfl⟩
  case body =>
    rintro l' pre O x a' Z hll hsz n1 n2 hi ⟨T30, h30, e30, f', rfl⟩ ⟨pre', x', y, tl, hpx, hst, hx⟩
    obtain ⟨rfl, hxx⟩ := List.append_inj' hpx rfl
    obtain rfl : x = x' := by simpa using hxx
    obtain ⟨at_, r, h1, h2⟩ := hi.ex
    have hcn := hi.cn
    have hbb := hi.bt
    rw [hst] at hcn h2 hbb
    have hym := hcn.1 y (by simp)
    have hnx := nx_less hb1 hcn
    have hbh := nx_behind hb1 hcn
    have hlc := lss_can (tkn_may hb1 hym) hcn
    have hlf := (lss_facts (tkn_may hb1 hym) hcn.1).2.1
    have hxm : Mayr x := by rw [hx]; exact tkn_may hb1 hym
    rw [← hx] at hnx hbh hlc hlf
    have hxa : x.a = y.a := by rw [hx]; rfl
    have hxe : x.e ≤ y.e := by rw [hx]; unfold tkn Rn.e; dsimp only; omega
    have hxn : x.n ≤ bound := by rw [hx]; unfold tkn; dsimp only; omega
    have hzz := ap_sz hcn.ap
    have hzl := ap_sz hlc.ap
    have h6 := HL6.out
    refine wpIn_mono (bodyD_wp l' w Z bo n cb mo T5 T6 T7 Qa Qb T13 T27 T29 T30 v S bound (sz (stt Rb pre)) at_ x f' r e30 hxm (by rw [hxa]; exact h2 y (by simp)) hxn (by rw [hst]; omega) hb2 h1 hS HMS.out (fun p hp => hbb p ⟨y, by simp, by unfold Inr at hp ⊢; omega⟩)) ?_
    intro e a2 Z2 hh
    cases e with
    | normal =>
      obtain ⟨r2, k2⟩ := hh
      have hno := hi.no
      refine ⟨k2.mono (fun i _ e => ?_), ⟨⟨x.e - 1, ?_, by have := hxm.lt; unfold Mayr at hxm; omega, ?_⟩, ?_, ?_, hi.ow, hi.no, hi.nv⟩⟩
      · rcases e with rfl | rfl
        · exact ⟨hno.2.2.1, by omega, by omega⟩
        · exact ⟨hno.2.2.2.2, by omega, by omega⟩
      · rw [stt_snoc, hst, hnx.1]
        rw [hst] at r2
        exact r2
      · rw [stt_snoc, hst]
        exact hbh
      · rw [stt_snoc, hst]
        exact hlc
      · rw [stt_snoc, hst]
        exact fun p hp => hbb p ((hlf p).1 hp).1
    | _ => exact hh.elim
  case done =>
    rintro D xs O Z hD ⟨hS1, F', hS2⟩ hi hdd
    obtain ⟨at_, r, _⟩ := hi.ex
    rw [hS1] at r
    have KD := hid hdd
    have RR := hid r
    have L2 := hid hS2
    have HD : Hid (X.heap.size ≤ D) := Nat.le_of_eq hD.symm
    clear hdd r hD hi hS1 hS2
    gi_wp2
    subst hQ
    exact ⟨D, act_of (by kernel_rfl) rfl, HD.out, KD.out, ⟨at_, RR.out⟩, F', L2.out⟩
end Go.Proofs.Ytgfondgejimkkaa

namespace Go.Proofs.Ytgfondgejimkkaa
open Go.RowKit Go.Shelf
attribute [local go_sem] Oper.semAt_some
set_option linter.unusedVariables false
set_option linter.unusedSimpArgs false
theorem leaves_marks {F : Fence} {n : Nat} {fn : Func} {tmps : Array Value} {R : Ending → World → Prop} (Ds : List Nat) (w : World) (hD : ∀ D ∈ Ds, w.heap[D]? = some (.deferred (some []))) (hn : Ds.Nodup)
    (fin : ∀ w', Kp (fun i => i ∈ Ds) w w' → LeavesInM F n Try.prog fn tmps R [] .returning w') : LeavesInM F n Try.prog fn tmps R (Ds.map mrk) .returning w := by
  induction Ds generalizing w with
  | nil => exact fin w (Kp.refl _ _)
  | cons D Ds ih =>
    have h1 := hD D (by simp)
    have hk := kp_putG w D (.deferred none)
    have hx := ih (w.putObj D (.deferred none)) (fun E hE => by
      have hne : E ≠ D := fun e => (List.nodup_cons.1 hn).1 (e ▸ hE)
      have h2 := hD E (by simp [hE])
      exact (hk.block E (Array.getElem?_eq_some_iff.1 h2).1 hne).trans h2) (List.nodup_cons.1 hn).2
      (fun w' k => fin w' ((hk.mono (G := fun i => i ∈ D :: Ds) (fun i _ e => by rw [e]; simp)).trans k (fun i _ h => by simp [h])))
    exact ⟨by simp, .inl ⟨_, _, rfl, run_takeDeferred h1, hx⟩⟩
theorem load_bool4 {w : World} {g : Nat} {v : Bool} (h : w.cell? ⟨g, 0, none⟩ = some (.bool v)) : (loadVar 4 ⟨g, 0, none⟩).run Try.prog w = .ok (.bool v) w := by
  simp [go_sem, h]
theorem fin_bool4 {F : Fence} {m : Nat} {tmps : Array Value} {T6 : Nat} {w Z : World} (h6 : tmps.getD 6 undef = .pointer (some ⟨T6, 0, none⟩)) (s6 : St 4 Z T6 #[.bool true]) (b : Below w.heap.size w Z) :
    LeavesInM F m Try.prog Try.f4 tmps (fun e w' => e = .returned (.bool true) ∧ Below w.heap.size w w') [] .returning Z := by
  exact ⟨_, results_cell1 Try.results4 _ _ T6 h6 (load_bool4 (s6.cell 0)), rfl, b⟩
set_option maxRecDepth 100000 in
set_option maxHeartbeats 8000000 in
theorem drained_short (bo : Option Addr) (n cb : Nat) (mo : Int) (x : Rn) (w : World) (hn : n ≤ 9223372036854775807) (h : 60 < n ∨ mo < 1) : Calls Try.prog 4 #[.slice bo n cb, .int .i64 mo, .agg x.cs] w fun e w' => e = .returned (.bool true) ∧ Below w.heap.size w w' := by
  refine (callsIn_wide (n := 20)).1 ?_
  obtain ⟨xa, xn⟩ := x
  unfold Rn.cs
  refine callsIn_of_wp_marks (c := cA) Try.func4 (by kernel_rfl) trivial ?_ rfl
  simp only [Try.ntmps4, List.size_toArray, List.length_cons, List.length_nil, Nat.reduceAdd, Nat.reduceSub, Array.replicate_succ, Array.replicate_zero, List.push_toArray, List.append_toArray, List.nil_append, List.cons_append]
  refine wpIn_wide.2 ?_
  unfold cA
  generalize hQ : bodyPostM _ _ _ _ _ = QQ
  have st6 := St.new 4 (w.alloc (.cells #[.int .i64 xa, .int .i64 xn] 38)) #[.bool false]
  rw [World.size_alloc] at st6
  have kb : Kp (fun _ => False) w ((w.alloc (.cells #[.int .i64 xa, .int .i64 xn] 38)).alloc (.cells #[.bool false] 4)) := ((Kp.refl _ _).alloc _).alloc _
  have ST6 := hid st6
  have KB := hid kb
  clear st6 kb
  have FIN : Hid (∀ (w1 : World) (a : Act), Kp (fun _ => False) ((w.alloc (.cells #[.int .i64 xa, .int .i64 xn] 38)).alloc (.cells #[.bool false] 4)) w1 → a.tmps.getD 6 undef = .pointer (some ⟨w.heap.size + 1, 0, none⟩) → a.defers = [] → QQ .ret a (w1.setCell ⟨w.heap.size + 1, 0, none⟩ (.bool true))) := fun w1 a k1 h6 hd => by
    subst hQ
    obtain ⟨tm, df⟩ := a
    simp only at h6 hd
    subst hd
    have kz := kp_setCell w1 (w.heap.size + 1) 0 (.bool true) (fun i => i = w.heap.size + 1) rfl
    exact fin_bool4 h6 (St.set (ST6.out.kp k1 (fun h => h)) 0 _) (((KB.out.trans k1 (fun _ _ h => h)).trans kz (fun i hi e => by omega)).below (Nat.le_refl _) (fun _ h => h.elim))
  have FIN2 : Hid (∀ w1 : World, Kp (fun _ => False) ((w.alloc (.cells #[.int .i64 xa, .int .i64 xn] 38)).alloc (.cells #[.bool false] 4)) w1 → w1.cell? ⟨w.heap.size + 1, 0, none⟩ = some (.bool false) ∧ w1.frozen? ⟨w.heap.size + 1, 0, none⟩ = false ∧ w.heap.size + 1 < w1.heap.size) := fun w1 k1 => by
    have s := ST6.out.kp k1 (fun h => h)
    exact ⟨s.cell 0, s.frozen 0, s.lt⟩
  by_cases h1 : 60 < n
  · have hn0 : (60 : Int) < (n : Int) := by omega
    have d60 : decide ((60 : Int) < (n : Int)) = true := by simpa using hn0
    have d61 : decide (60 < n) = true := by simpa using h1
    go_wp2_with (first | (go_at_call 8; refine (works_any _).mono ?_; rintro e w1 ⟨rfl, b1⟩; obtain ⟨y6, z6, l6⟩ := FIN2.out w1 b1; have B1 := hid b1; clear b1))
    exact FIN.out _ _ B1.out rfl rfl
  · have hmo : mo < 1 := h.resolve_left h1
    have hn0 : ¬ (60 : Int) < (n : Int) := by omega
    have d60 : decide ((60 : Int) < (n : Int)) = false := by simpa using hn0
    have d61 : decide (60 < n) = false := by simpa using h1
    go_wp2_with (first | (go_at_call 8; refine (works_any _).mono ?_; rintro e w1 ⟨rfl, b1⟩; obtain ⟨y6, z6, l6⟩ := FIN2.out w1 b1; have B1 := hid b1; clear b1))
    exact FIN.out _ _ B1.out rfl rfl
set_option maxRecDepth 100000 in
set_option maxHeartbeats 8000000 in
theorem drained_walk (l : List Rn) (bo : Option Addr) (n cb : Nat) (mo : Int) (x : Rn) (w : World) (hn : n = l.length) (hn2 : n ≤ 60) (hi6 : ∀ y ∈ l, y.i6) (hS : Srcr w bo l) (hmo : 1 ≤ mo) (hmo2 : mo ≤ 9223372036854775807) (hx : x.i6) : Calls Try.prog 4 #[.slice bo n cb, .int .i64 mo, .agg x.cs] w fun e w' => e = .returned (.bool true) ∧ Below w.heap.size w w' := by
  have HNU := hid num_any
  have HS := hid hS
  have H6 := hid hi6
  have HN := hid hn
  have HX := hid hx
  have HSL : Hid ((sm l).length ≤ 60) := Nat.le_trans (sm_len l) (by omega)
  clear hS hi6 hn hx
  refine (callsIn_wide (n := 20)).1 ?_
  obtain ⟨xa, xn⟩ := x
  unfold Rn.cs
  refine callsIn_of_wp_marks (c := cA) Try.func4 (by kernel_rfl) trivial ?_ rfl
  simp only [Try.ntmps4, List.size_toArray, List.length_cons, List.length_nil, Nat.reduceAdd, Nat.reduceSub, Array.replicate_succ, Array.replicate_zero, List.push_toArray, List.append_toArray, List.nil_append, List.cons_append]
  refine wpIn_wide.2 ?_
  unfold cA
  generalize hQ : bodyPostM _ _ _ _ _ = QQ
  have hn0 : ¬ (60 : Int) < (n : Int) := by omega
  have d60 : decide ((60 : Int) < (n : Int)) = false := by simpa using hn0
  have d61 : decide (60 < n) = false := by simp; omega
  have d62 : ¬ mo < 1 := by omega
  go_wp2_with fail
  have a5 := ((St.new 38 w #[.int .i64 xa, .int .i64 xn]).kp ((Kp.refl (fun _ => False) _).alloc (.cells #[.bool false] 4)) (fun h => h)).kp ((Kp.refl (fun _ => False) _).alloc (.cells #[.slice none 0 0] 22)) (fun h => h)
  have a6 := (St.new 4 (w.alloc (.cells #[.int .i64 xa, .int .i64 xn] 38)) #[.bool false]).kp ((Kp.refl (fun _ => False) _).alloc (.cells #[.slice none 0 0] 22)) (fun h => h)
  have a7 := St.new 22 ((w.alloc (.cells #[.int .i64 xa, .int .i64 xn] 38)).alloc (.cells #[.bool false] 4)) #[.slice none 0 0]
  have kx : Kp (fun _ => False) w (((w.alloc (.cells #[.int .i64 xa, .int .i64 xn] 38)).alloc (.cells #[.bool false] 4)).alloc (.cells #[.slice none 0 0] 22)) := (((Kp.refl _ _).alloc _).alloc _).alloc _
  rw [World.size_alloc] at a6
  rw [World.size_alloc, World.size_alloc] at a7
  have A5 := hid a5
  have A6 := hid a6
  have A7 := hid a7
  have KX := hid kx
  clear a5 a6 a7 kx
  generalize ((w.alloc (.cells #[.int .i64 xa, .int .i64 xn] 38)).alloc (.cells #[.bool false] 4)).alloc (.cells #[.slice none 0 0] 22) = X0 at *
  refine wp_mono (wpIn_wide.1 (loop1_wp w X0 l bo n cb mo w.heap.size (w.heap.size + 1) (w.heap.size + 1 + 1) _ ?h1 rfl HN.out hn2 H6.out HS.out KX.out (by omega) A7.out)) ?_
  case h1 => kernel_rfl
  intro e a1 X1 hh
  cases e with
  | normal =>
    obtain ⟨⟨f1, rfl⟩, v, s7, own, k1⟩ := hh
    have S7 := hid s7
    have OW : Hid (Ownr X1 w.heap.size v (sm l)) := own.base KX.out.size
    have K1 : Hid (Kp (fun _ => False) w X1) := KX.out.trans k1 (fun i hi e => by omega)
    have S5 : Hid (Rn.B X1 w.heap.size ⟨xa, xn⟩) := A5.out.kp k1 (by omega)
    have S6 := hid (A6.out.kp k1 (by omega))
    clear s7 own k1 A5 A6 A7 KX HS H6 HN
    generalize hT7 : w.heap.size + 1 + 1 = T7 at *
    generalize hT6 : w.heap.size + 1 = T6 at *
    obtain ⟨T5, hT5⟩ : ∃ T5, T5 = w.heap.size := ⟨_, rfl⟩
    have HLOW : Hid (w.heap.size ≤ T5 ∧ w.heap.size ≤ T6 ∧ w.heap.size ≤ T7) := by refine ⟨?_, ?_, ?_⟩ <;> omega
    rw [← hT5] at S5 ⊢
    clear hT7 hT6 hT5
    have HMS : Hid (∀ y ∈ sm l, Mayr y) := fun y hy => (sm_may hy).1
    generalize sm l = S at *
    obtain ⟨ao, cap, hv, hsr, hc1, hc2, hz⟩ := OW.out.src
    subst hv
    have HSR := hid hsr
    have c7 : X1.cell? ⟨T7, 0, none⟩ = some (.slice ao S.length cap) := S7.out.cell 0
    unfold e0
    clear hsr
    obtain ⟨m, hm⟩ : ∃ m, m = S.length := ⟨_, rfl⟩
    rw [← hm] at c7
    have HM := hid hm
    have hm60 : m ≤ 60 := by rw [hm]; exact HSL.out
    clear hm
    go_wp2_with fail
    refine (new_some X1 ao m cap S HM.out.symm (by omega) HMS.out hz HSR.out).mono ?_
    rintro e X2 ⟨Qa, Fa, rfl, l2, f2, k2⟩
    have L2 := hid l2
    have F2 : Hid (∀ i, Fa i → w.heap.size ≤ i) := fun i hi => Nat.le_trans K1.out.size (f2 i hi)
    have K2 : Hid (Kp (fun _ => False) X1 X2) := k2
    clear l2 f2 k2 c7 HSR
    go_wp2_with fail
    refine (new_some X2 none 0 0 [] rfl (by omega) (fun y hy => by simp at hy) (fun _ => rfl) (Srcr.nil _ _)).mono ?_
    rintro e X3 ⟨Qb, Fb, rfl, l3, f3, k3⟩
    rw [tog_nil] at l3
    have L3 := hid l3
    have K3 : Hid (Kp (fun _ => False) X1 X3) := K2.out.trans k3 (fun _ _ h => h)
    have L23 := hid (L2.out.kp0 k3)
    have HAB : Hid (∀ i, Fa i → ¬ Fb i) := fun i ha hb => by have := f3 i hb; have := L2.out.lt ha; omega
    have F3 : Hid (∀ i, Fb i → w.heap.size ≤ i) := fun i hi => Nat.le_trans (Nat.le_trans K1.out.size K2.out.size) (f3 i hi)
    clear l3 k3 f3 L2 K2
    have D3 : Hid (Ds w T5 T6 T7 ⟨xa, xn⟩ (.slice ao S.length cap) S Qa Qb (tog S) [] X3) := ⟨K1.out.trans K3.out (fun _ _ h => h), S5.out.kp K3.out (fun h => h), S6.out.kp K3.out (fun h => h), S7.out.kp K3.out (fun h => h), OW.out.kp K3.out (fun _ _ h => h), ⟨Fa, Fb, L23.out, L3.out, HAB.out, F2.out, F3.out⟩, HLOW.out⟩
    clear L3 L23 HAB F2 F3 S5 S6 S7 OW K3
    have HWX3 : Hid (w.heap.size ≤ X3.heap.size) := D3.out.kp.size
    have ka : Kp (fun _ => False) X3 (X3.alloc (.cells #[.int .i64 0] 2)) := (Kp.refl _ _).alloc _
    have D4 := hid (D3.out.same ka)
    have s13 := St.new 2 X3 #[.int .i64 0]
    have c7 : (X3.alloc (.cells #[.int .i64 0] 2)).cell? ⟨T7, 0, none⟩ = some (.slice ao m cap) := by rw [HM.out]; exact D4.out.s7.cell 0
    have S13 := hid s13
    have hw0 : IntKind.i64.wrap ((m : Int) - 1) = (m : Int) - 1 := by rw [IntKind.wrap_i64]; omega
    unfold maxLen at hc2
    clear ka s13
    obtain ⟨T13, hT13⟩ : ∃ T13, T13 = X3.heap.size := ⟨_, rfl⟩
    have H13 : Hid (w.heap.size ≤ T13) := by rw [Hid, hT13]; exact HWX3.out
    go_wp2_with (first | (go_at_call 11; refine (HNU.out _ _).mono ?_; rintro e1 w9 ⟨rfl, rfl⟩))
    rw [← hT13] at S13 ⊢
    generalize X3.alloc (.cells #[.int .i64 0] 2) = X4 at *
    clear hT13 c7 D3 HWX3
    rw [HM.out]
    refine wp_mono (wpIn_wide.1 (loop2_wp w X4 bo n cb mo T5 T6 T7 Qa Qb T13 ⟨xa, xn⟩ (.slice ao S.length cap) S (tog S) _ ?h2 rfl HSL.out HMS.out D4.out S13.out H13.out)) ?_
    case h2 => kernel_rfl
    intro e a2 X5 hh
    cases e with
    | normal =>
      obtain ⟨⟨f2, rfl⟩, Rb, d5, s135, bt5⟩ := hh
      have hRR : tog S = Rb := tog_is HMS.out d5.two.choose_spec.choose_spec.2.1.can (fun p => (bt5 p).symm)
      subst hRR
      have D5 := hid d5
      have S135 := hid s135
      have HCN : Hid (Can (tog S)) := (tog_ok HMS.out).1
      have HBT : Hid (∀ p, Bt (tog S) p → Bt S p) := fun p hp => ((tog_ok HMS.out).2 p).1 hp
      have HRL : Hid ((tog S).length ≤ 60) := Nat.le_trans (tog_len HMS.out) HSL.out
      have HZZ := hid (ap_sz HCN.out.ap)
      generalize tog S = R at *
      clear d5 s135 bt5 D4 S13 f1
      unfold e1
      go_wp2_with fail
      refine D5.out.sizeA.mono ?_
      rintro e X6 ⟨rfl, k6⟩
      have D6 := hid (D5.out.same k6)
      have S136 := hid (S135.out.kp k6 (fun h => h))
      clear k6 D5 S135
      go_wp2_with fail
      refine (D6.out.sameAB rfl).mono ?_
      rintro e X7 ⟨rfl, k7⟩
      have D7 := hid (D6.out.same k7)
      have S137 := hid (S136.out.kp k7 (fun h => h))
      have q13 : X7.cell? ⟨T13, 0, none⟩ = some (.int .i64 (sz R)) := S137.out.cell 0
      clear k7 D6 S136
      go_wp2_with fail
      clear q13
      refine wp_mono (wpIn_wide.1 (cM_wp w X7 bo n cb mo T5 T6 T7 Qa Qb T13 ⟨xa, xn⟩ (.slice ao S.length cap) S R R _ ?h3 rfl HX.out HRL.out D7.out)) ?_
      case h3 => kernel_rfl
      intro e a3 X8 hh
      cases e with
      | normal =>
        obtain ⟨⟨f3, rfl⟩, Ra', d8, b8⟩ := hh
        have D8 := hid d8
        have S138 := hid (b8 2 T13 _ (by unfold bxt; decide) S137.out)
        clear d8 b8 D7 S137 f2
        unfold e1
        obtain ⟨tot, htot⟩ : ∃ tot, tot = sz R := ⟨_, rfl⟩
        rw [← htot] at S138 HZZ
        have HTO := hid htot
        obtain ⟨hz1, hz2⟩ := HZZ.out
        obtain ⟨bd, hbd⟩ : ∃ bd, bd = max mo (1 + tot / 1000) := ⟨_, rfl⟩
        have HBD := hid hbd
        have hb1 : 1 ≤ bd := by omega
        have hb2 : bd ≤ 9223372036854775807 := by omega
        have HB1 : Hid (1 ≤ bd ∧ bd ≤ 9223372036854775807) := ⟨hb1, hb2⟩
        have q13 : X8.cell? ⟨T13, 0, none⟩ = some (.int .i64 tot) := S138.out.cell 0
        have hq : tot.tdiv 1000 = tot / 1000 := by rw [Int.tdiv_eq_ediv_of_nonneg (by omega)]
        have hw1 : IntKind.i64.wrap (tot / 1000) = tot / 1000 := by rw [IntKind.wrap_i64]; omega
        have hw2 : IntKind.i64.wrap (1 + tot / 1000) = 1 + tot / 1000 := by rw [IntKind.wrap_i64]; omega
        have HDV : Hid (∀ U, Calls Try.prog 25 #[.pointer (some ⟨Qb, 0, none⟩), .int .i64 bd] U fun e w' => e = .returned (.func (.func 50) #[] #[.pointer (some ⟨U.heap.size, 0, none⟩), .pointer (some ⟨U.heap.size + 1, 0, none⟩)]) ∧ w' = (U.alloc (.cells #[.pointer (some ⟨Qb, 0, none⟩)] 30)).alloc (.cells #[.int .i64 bd] 2)) := fun U => drain_val U Qb bd
        clear htot hbd hb1 hb2
        go_wp2_with fail
        rw [← HBD.out]
        have k9 : Kp (fun _ => False) X8 (X8.alloc (.cells #[.int .i64 bd] 2)) := (Kp.refl _ _).alloc _
        have z9 : (X8.alloc (.cells #[.int .i64 bd] 2)).heap.size = X8.heap.size + 1 := World.size_alloc _ _
        have s9 := St.new 2 X8 #[.int .i64 bd]
        have D9 := hid (D8.out.same k9)
        have S139 := hid (S138.out.kp k9 (fun h => h))
        have S9 := hid s9
        have L13 : Hid (T13 < X8.heap.size) := S138.out.lt
        generalize X8.alloc (.cells #[.int .i64 bd] 2) = X9 at *
        obtain ⟨T27, hT27⟩ : ∃ T27, T27 = X8.heap.size := ⟨_, rfl⟩
        rw [← hT27] at S9 z9 ⊢
        have L13' : Hid (T13 < T27) := by rw [Hid, hT27]; exact L13.out
        have HZ9 := hid z9
        clear q13 k9 s9 D8 S138 z9 hT27 L13
        refine (HDV.out X9).mono ?_
        rintro e X10' ⟨rfl, rfl⟩
        have hnf := nf50 X9.heap.size (X9.heap.size + 1)
        have hz9 := HZ9.out
        have k10 : Kp (fun _ => False) X9 ((X9.alloc (.cells #[.pointer (some ⟨Qb, 0, none⟩)] 30)).alloc (.cells #[.int .i64 bd] 2)) := ((Kp.refl _ _).alloc _).alloc _
        have k11 : Kp (fun _ => False) ((X9.alloc (.cells #[.pointer (some ⟨Qb, 0, none⟩)] 30)).alloc (.cells #[.int .i64 bd] 2)) (((X9.alloc (.cells #[.pointer (some ⟨Qb, 0, none⟩)] 30)).alloc (.cells #[.int .i64 bd] 2)).alloc (.cells #[.int .i64 (-1)] 2)) := (Kp.refl _ _).alloc _
        have b1 := ((St.new 30 X9 #[.pointer (some ⟨Qb, 0, none⟩)]).kp ((Kp.refl (fun _ => False) _).alloc (.cells #[.int .i64 bd] 2)) (fun h => h)).kp k11 (fun h => h)
        have b2 := (St.new 2 (X9.alloc (.cells #[.pointer (some ⟨Qb, 0, none⟩)] 30)) #[.int .i64 bd]).kp k11 (fun h => h)
        have b3 := St.new 2 ((X9.alloc (.cells #[.pointer (some ⟨Qb, 0, none⟩)] 30)).alloc (.cells #[.int .i64 bd] 2)) #[.int .i64 (-1)]
        rw [World.size_alloc] at b2
        rw [World.size_alloc, World.size_alloc] at b3
        have k12 := k10.trans k11 (fun _ _ h => h)
        have D11 := hid (D9.out.same k12)
        have RG : Hid (Rg2 w T6 T7 T13 T27 (X9.heap.size + 1 + 1) (.slice ao S.length cap) S bd tot (-1) (((X9.alloc (.cells #[.pointer (some ⟨Qb, 0, none⟩)] 30)).alloc (.cells #[.int .i64 bd] 2)).alloc (.cells #[.int .i64 (-1)] 2))) := by
          have hd := D11.out
          have h13 := L13'.out
          have hl := hd.low
          have hw := D9.out.kp.size
          have hh := H13.out
          exact ⟨hd.kp, hd.s6, hd.s7, hd.own, S139.out.kp k12 (fun h => h), S9.out.kp k12 (fun h => h), b3, by omega, by omega⟩
        have B1 := hid b1
        have B2 := hid b2
        have hw9 : Hid (w.heap.size ≤ X9.heap.size) := D9.out.kp.size
        clear k10 k11 b1 b2 b3 k12 D9 S139 S9 hz9
        go_wp2_with fail
        have hz9 := HZ9.out
        generalize ((X9.alloc (.cells #[.pointer (some ⟨Qb, 0, none⟩)] 30)).alloc (.cells #[.int .i64 bd] 2)).alloc (.cells #[.int .i64 (-1)] 2) = X11 at *
        obtain ⟨Fa, Fb, a1, a2, a3, a4, a5⟩ := D11.out.two
        have h13 := L13'.out
        rw [HTO.out] at RG
        refine wp_mono (wpIn_wide.1 (rngD_wp w X11 bo n cb mo T5 T6 T7 Qa Qb T13 T27 (X9.heap.size + 1 + 1) X9.heap.size (X9.heap.size + 1) (.slice ao S.length cap) S R bd Fb _ ?h4 rfl RG.out a2 a5 B1.out B2.out (by have := hw9.out; omega) (by omega) HB1.out.1 HB1.out.2 HSL.out HMS.out HBT.out)) ?_
        case h4 => kernel_rfl
        intro e a4 X12 hh
        cases e with
        | normal =>
          obtain ⟨D, ⟨f4, rfl⟩, hD, hdd, ⟨at_, r12⟩, F', l12⟩ := hh
          have R12 := hid r12
          have L12 := hid l12
          have HDD := hid hdd
          have HD : Hid (X11.heap.size ≤ D) := hD
          have HT6 : Hid (T6 < X11.heap.size) := RG.out.s6.lt
          have HWS : Hid (w.heap.size ≤ X11.heap.size) := RG.out.kp.size
          clear r12 l12 hdd hD RG a1 a2 a3 a4 a5 B1 B2 D11 f3 hnf
          unfold eG2
          go_wp2_with fail
          refine (size_w L12.out).mono ?_
          rintro e X13 ⟨rfl, k13⟩
          have R13 := hid (R12.out.same k13)
          have q13 : X13.cell? ⟨T13, 0, none⟩ = some (.int .i64 0) := R13.out.s13.cell 0
          have K13 := hid k13
          have HWK := hid works_any
          have HC6 : Hid (∀ U, Kp (fun _ => False) X13 U → U.cell? ⟨T6, 0, none⟩ = some (.bool false) ∧ U.frozen? ⟨T6, 0, none⟩ = false ∧ T6 < U.heap.size) := fun U hU => by
            have := R13.out.s6.kp hU (fun h => h)
            exact ⟨this.cell 0, this.frozen 0, this.lt⟩
          clear k13 L12
          rw [sz_nil]
          go_wp2_with (first | (go_at_call 8; refine (HWK.out _).mono ?_; rintro e1 X14 ⟨rfl, k14⟩; obtain ⟨y6, z6, l6⟩ := HC6.out X14 k14; have K14 := hid k14; clear k14))
          subst hQ
          have kz := kp_setCell X14 T6 0 (.bool true) (fun i => i = T6) rfl
          have hlD : D < X12.heap.size := (Array.getElem?_eq_some_iff.1 HDD.out).1
          have h1 := HT6.out
          have h2 := HD.out
          have h3 := HWS.out
          have hne : D ≠ T6 := by omega
          have k3 := (K13.out.trans K14.out (fun _ _ h => h))
          have m3 : (X14.setCell ⟨T6, 0, none⟩ (.bool true)).heap[D]? = some (.deferred (some [])) := (kz.block D (Nat.lt_of_lt_of_le hlD k3.size) hne).trans ((k3.block D hlD (fun h => h)).trans HDD.out)
          refine leaves_marks [D] (X14.setCell ⟨T6, 0, none⟩ (.bool true)) (fun z hz => ?_) (by simp) (fun w' k => fin_bool4 rfl ((St.set (R13.out.s6.kp K14.out (fun h => h)) 0 (.bool true)).kp k (by simp; omega)) ?_)
          · simp at hz
            subst hz
            exact m3
          · have hl := R13.out.low
            refine ((((R13.out.kp.trans K14.out (fun _ _ h => h)).trans kz (fun i hi e => by omega)).trans k (fun i hi e => ?_)).below (Nat.le_refl _) (fun _ h => h.elim))
            simp at e
            omega
        | _ => exact hh.elim
      | _ => exact hh.elim
    | _ => exact hh.elim
  | _ => exact hh.elim
theorem drained_any (l : List Rn) (bo : Option Addr) (n cb : Nat) (mo : Int) (x : Rn) (w : World) (hn : n = l.length) (hm : n ≤ maxLen) (hi6 : ∀ y ∈ l, y.i6) (hS : Srcr w bo l) (hmo : I6 mo) (hx : x.i6) : Calls Try.prog 4 #[.slice bo n cb, .int .i64 mo, .agg x.cs] w fun e w' => e = .returned (.bool true) ∧ Below w.heap.size w w' := by
  unfold maxLen at hm
  unfold I6 at hmo
  by_cases h : 60 < n ∨ mo < 1
  · exact drained_short bo n cb mo x w (by omega) h
  · exact drained_walk l bo n cb mo x w hn (by omega) hi6 hS (by omega) hmo.2 hx
end Go.Proofs.Ytgfondgejimkkaa
