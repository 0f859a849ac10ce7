/- later: the law's goes, of All's iterator. -/
import Derived.Test.YtgfondgejimkkaaPaX
import Derived.Test.YtgfondgejimkkaaVs
import Derived.Test.YtgfondgejimkkaaDn
import Derived.Test.YtgfondgejimkkaaSa
namespace Go.Proofs.Ytgfondgejimkkaa
open Go.RowKit
set_option linter.unusedVariables false
set_option linter.unusedSimpArgs false
theorem tkn_mayr {most : Int} {x : Rn} (h : Mayr x) (hm : 1 ≤ most) : Mayr (tkn most x) := by
  unfold Mayr tkn Rn.e at *
  dsimp only
  omega
theorem lss_out {t : Rn} {L : List Rn} (ht : Mayr t) (hL : ∀ y ∈ L, Mayr y) (h : ∀ y ∈ L, t.e ≤ y.a) : lss L t = L := by
  induction L with
  | nil => rfl
  | cons y tl ih =>
    rw [lss_cons, ih (fun z hz => hL z (List.mem_cons_of_mem _ hz)) (fun z hz => h z (List.mem_cons_of_mem _ hz)), wo_out ht (hL y (by simp)) ?_]
    · rfl
    · have := h y (by simp)
      unfold ovb
      simp
      omega
theorem lss_head {most : Int} {x : Rn} {tl : List Rn} (h : Can (x :: tl)) (hm : 1 ≤ most) : (lss (x :: tl) (tkn most x)).length ≤ (x :: tl).length := by
  have hx := h.1 x (by simp)
  have h1 : lss tl (tkn most x) = tl := lss_out (tkn_mayr hx hm) (fun y hy => h.1 y (List.mem_cons_of_mem _ hy)) (fun y hy => by
    have h7 : x.e < y.a := (List.pairwise_cons.1 h.2).1 y hy
    unfold tkn Rn.e at *
    dsimp only
    omega)
  rw [lss_cons, h1, List.length_append, List.length_cons]
  have h2 : (wo (tkn most x) x).length ≤ 1 := by
    unfold wo tkn Rn.e
    dsimp only
    rw [if_neg (by omega), List.nil_append]
    split <;> simp
  omega
def q36r7_0 : Oper := { dst := some 28, op := Go.Op.move (Go.Operand.tmp 0), type := 25, pos := "ref.go:124", after := #[], guard := none }
def q36r7_1 : Oper := { dst := some 29, op := Go.Op.move (Go.Operand.tmp 0), type := 25, pos := "ref.go:124", after := #[], guard := none }
def q36r7_2 : Oper := { dst := some 30, op := Go.Op.nilCheck (Go.Operand.tmp 29), type := 0, pos := "ref.go:124", after := #[{ on := 1, ground := Go.Ground.data }], guard := none }
def q36r7_3 : Oper := { dst := some 31, op := Go.Op.fieldAddr 27 (Go.Operand.tmp 30) 0, type := 0, pos := "ref.go:124", after := #[{ on := 2, ground := Go.Ground.data }], guard := none }
def q36r7_4 : Oper := { dst := some 32, op := Go.Op.load 22 (Go.Operand.tmp 31), type := 22, pos := "ref.go:124", after := #[{ on := 3, ground := Go.Ground.data }], guard := none }
def q36r7_5 : Oper := { dst := some 33, op := Go.Op.load 38 (Go.Operand.tmp 6), type := 38, pos := "ref.go:124", after := #[], guard := none }
def q36r7_6 : Oper := { dst := some 34, op := Go.Op.call { callee := Go.Callee.value (Go.Operand.func 55), args := #[Go.Operand.tmp 32, Go.Operand.tmp 33], argTypes := #[22, 38] }, type := 22, pos := "ref.go:124", after := #[{ on := 4, ground := Go.Ground.data }, { on := 5, ground := Go.Ground.data }], guard := none }
def q36r7_7 : Oper := { dst := some 35, op := Go.Op.nilCheck (Go.Operand.tmp 28), type := 0, pos := "ref.go:124", after := #[{ on := 0, ground := Go.Ground.data }, { on := 0, ground := Go.Ground.phase }, { on := 1, ground := Go.Ground.phase }, { on := 2, ground := Go.Ground.phase }, { on := 3, ground := Go.Ground.phase }, { on := 4, ground := Go.Ground.phase }, { on := 5, ground := Go.Ground.phase }, { on := 6, ground := Go.Ground.phase }], guard := none }
def q36r7_8 : Oper := { dst := some 36, op := Go.Op.fieldAddr 27 (Go.Operand.tmp 35) 0, type := 0, pos := "ref.go:124", after := #[{ on := 7, ground := Go.Ground.data }, { on := 0, ground := Go.Ground.phase }, { on := 1, ground := Go.Ground.phase }, { on := 2, ground := Go.Ground.phase }, { on := 3, ground := Go.Ground.phase }, { on := 4, ground := Go.Ground.phase }, { on := 5, ground := Go.Ground.phase }, { on := 6, ground := Go.Ground.phase }], guard := none }
def q36r7_9 : Oper := { dst := none, op := Go.Op.store 22 (Go.Operand.tmp 36) (Go.Operand.tmp 34), type := 0, pos := "ref.go:124", after := #[{ on := 8, ground := Go.Ground.data }, { on := 6, ground := Go.Ground.data }, { on := 6, ground := Go.Ground.chain }, { on := 0, ground := Go.Ground.phase }, { on := 1, ground := Go.Ground.phase }, { on := 2, ground := Go.Ground.phase }, { on := 3, ground := Go.Ground.phase }, { on := 4, ground := Go.Ground.phase }, { on := 5, ground := Go.Ground.phase }, { on := 6, ground := Go.Ground.phase }], guard := none }
def o36r7 : Array Oper := #[q36r7_0, q36r7_1, q36r7_2, q36r7_3, q36r7_4, q36r7_5, q36r7_6, q36r7_7, q36r7_8, q36r7_9]
def p36r7_10 : List (Nat × Oper) := []
def p36r7_9 : List (Nat × Oper) := (2, q36r7_9) :: p36r7_10
def p36r7_8 : List (Nat × Oper) := (0, q36r7_8) :: p36r7_9
def p36r7_7 : List (Nat × Oper) := (0, q36r7_7) :: p36r7_8
def p36r7_6 : List (Nat × Oper) := (1, q36r7_6) :: p36r7_7
def p36r7_5 : List (Nat × Oper) := (0, q36r7_5) :: p36r7_6
def p36r7_4 : List (Nat × Oper) := (0, q36r7_4) :: p36r7_5
def p36r7_3 : List (Nat × Oper) := (0, q36r7_3) :: p36r7_4
def p36r7_2 : List (Nat × Oper) := (0, q36r7_2) :: p36r7_3
def p36r7_1 : List (Nat × Oper) := (0, q36r7_1) :: p36r7_2
def p36r7_0 : List (Nat × Oper) := (0, q36r7_0) :: p36r7_1
def c36r7 : List (Nat × Nat) := [(0, 0), (0, 1), (0, 2), (0, 3), (0, 4), (0, 5), (1, 6), (0, 7), (0, 8), (2, 9)]
theorem b36r7 : (Region.noSelect o36r7 && (c36r7.length == o36r7.size) && planB o36r7 [9] c36r7 (Array.replicate o36r7.size false)) = true := by kernel_rfl
theorem d36r7 : (c36r7.map fun p => (p.1, o36r7[p.2]?)) = (p36r7_0.map fun p => (p.1, some p.2)) := by kernel_rfl

set_option maxRecDepth 100000 in
set_option maxHeartbeats 16000000 in
theorem rnext_any (w : World) (q : Nat) (l : List Rn) (most : Int) (h : RL q w l) :
    Calls Try.prog 36 #[.pointer (some ⟨q, 0, none⟩), .int .i64 most] w fun e w' =>
      (most < 1 ∧ e = .returned (.tuple #[.agg zRn.cs, .int .i64 2]) ∧ Kp (fun _ => False) w w') ∨
      (1 ≤ most ∧ l = [] ∧ e = .returned (.tuple #[.agg zRn.cs, .int .i64 7]) ∧ Kp (fun _ => False) w w') ∨
      (1 ≤ most ∧ ∃ x tl, l = x :: tl ∧ e = .returned (.tuple #[.agg (tkn most x).cs, .int .i64 0]) ∧ RL q w' (lss l (tkn most x)) ∧ Kp (fun i => i = q) w w' ∧ ∀ b off n cap, w'.cell? ⟨q, 0, none⟩ = some (.slice (some ⟨b, off, none⟩) n cap) → w.heap.size ≤ b) := by
  have HR := hid h
  obtain ⟨ao, cap, hq, hs, hb, hz⟩ := h.mem
  have HQ := hid hq
  have HS := hid hs
  have HC := hid h.can
  have HL4 := hid h.len
  clear hq hs h hb hz
  go_enter Try.func36, Try.ntmps36
  generalize hC7 : Code.region 7 _ _ = C7
  generalize hC1 : Code.region 1 _ _ = C1
  go_wp2_with fail
  have k0 : Kp (fun _ => False) w (w.alloc (.cells #[.int .i64 0, .int .i64 0] 38)) := (Kp.refl _ _).alloc _
  have r0 : Rn.B (w.alloc (.cells #[.int .i64 0, .int .i64 0] 38)) w.heap.size zRn := Rn.B.new w zRn
  obtain ⟨V, hV⟩ : ∃ V, V = w.alloc (.cells #[.int .i64 0, .int .i64 0] 38) := ⟨_, rfl⟩
  rw [← hV] at k0 r0 ⊢
  obtain ⟨P, hP⟩ : ∃ P, P = w.heap.size := ⟨_, rfl⟩
  rw [← hP] at r0 ⊢
  have HPw := hid hP
  have R0 := hid r0
  have K0 := hid k0
  clear hP r0 k0 hV
  subst hC1
  by_cases hlt : most < 1
  · go_wp2_with (refine wpList_store_r rfl _ _ rfl _ rfl (e' := zRn) rfl R0.out ?_; intro w3 s3 k3; have KF : Hid (Kp (fun _ => False) w w3) := K0.out.trans k3 (fun i hi e => by have := HPw.out; omega); clear k3)
    refine bodyPost_ret (results_cell_tmp2 Try.results36 _ _ _ rfl rfl (Rn.B.load s3)) rfl ?_
    exact .inl ⟨hlt, rfl, KF.out⟩
  · have hge : 1 ≤ most := by omega
    by_cases hl0 : l.length = 0
    · have HL0 : Hid (l = []) := List.length_eq_zero_iff.1 hl0
      rw [hl0] at HQ
      have zq : V.cell? ⟨q, 0, none⟩ = some (.slice ao 0 cap) := (HQ.out.kp K0.out (fun h => h)).cell 0
      go_wp2_with (refine wpList_store_r rfl _ _ rfl _ rfl (e' := zRn) rfl R0.out ?_; intro w3 s3 k3; have KF : Hid (Kp (fun _ => False) w w3) := K0.out.trans k3 (fun i hi e => by have := HPw.out; omega); clear k3)
      refine bodyPost_ret (results_cell_tmp2 Try.results36 _ _ _ rfl rfl (Rn.B.load s3)) rfl ?_
      first | exact .inr (.inl ⟨hge, HL0.out, rfl, KF.out⟩) | exact .inr (.inl ⟨HL0.out, rfl, KF.out⟩)
    · obtain ⟨x, tl, hl⟩ : ∃ x tl, l = x :: tl := by
        cases l with
        | nil => exact absurd rfl hl0
        | cons x tl => exact ⟨x, tl, rfl⟩
      have HCO := hid hl
      have hxm := HC.out.1 x (by rw [hl]; simp)
      have HTM := hid (tkn_mayr hxm hge)
      have HLH : Hid ((lss l (tkn most x)).length ≤ l.length) := by
        have := HC.out
        rw [Hid, hl] at *
        exact lss_head this hge
      have HCL := hid (lss_can HTM.out HC.out)
      obtain ⟨m, hlm⟩ : ∃ m, l.length = m + 1 := ⟨l.length - 1, by omega⟩
      rw [hlm] at HQ HLH HL4
      have HLS0 : Hid (∀ U, Kp (fun _ => False) V U → Calls Try.prog 55 #[.slice ao (m + 1) cap, .agg #[.int .i64 x.a, .int .i64 (min x.n most)]] U fun e w' => ∃ v, e = .returned v ∧ Ownr w' U.heap.size v (lss l (tkn most x)) ∧ Kp (fun _ => False) U w') := fun U k => rless_any U ao (m + 1) cap l (tkn most x) hlm (by have h9 : m + 1 ≤ 4096 := HL4.out; omega) HTM.out HC.out.1 (HS.out.kp (K0.out.trans k (fun _ _ h => h)) (fun _ _ _ _ h => h))
      have zq : V.cell? ⟨q, 0, none⟩ = some (.slice ao (m + 1) cap) := (HQ.out.kp K0.out (fun h => h)).cell 0
      obtain ⟨gb, off, rfl, hgb, xx0, xx1⟩ := (HS.out.kp K0.out (fun _ _ _ _ h => h)).at (i := 0) (by omega)
      have hg0 : l.getD 0 zRn = x := by rw [hl]; rfl
      rw [hg0] at xx0 xx1
      have x0 : V.cell? ⟨gb, off, none⟩ = some (.int .i64 x.a) := by simpa using xx0
      have x1 : V.cell? ⟨gb, off + 1, none⟩ = some (.int .i64 x.n) := by simpa using xx1
      unfold Mayr Rn.e at hxm
      obtain ⟨hx1, hx2, hx3⟩ := hxm
      clear xx0 xx1 hg0 hl hl0 hlm
      have hne : ((m : Int) + 1 == 0) = false := by rw [beq_eq_false_iff_ne]; omega
      obtain ⟨xa, hxa⟩ : ∃ a, a = x.a := ⟨_, rfl⟩
      obtain ⟨xn, hxn⟩ : ∃ a, a = x.n := ⟨_, rfl⟩
      have HTK : Hid (tkn most x = ⟨xa, min xn most⟩) := by rw [Hid, hxa, hxn]; rfl
      rw [← hxa] at HLS0 x0 hx1 hx3
      rw [← hxn] at HLS0 x1 hx2 hx3
      rw [HTK.out] at HLS0 HLH HCL
      clear hxa hxn
      generalize hLS : lss l ⟨xa, min xn most⟩ = M at *
      have HLM := hid hLS
      clear hLS
      have HQL : Hid (q < V.heap.size) := Nat.lt_of_lt_of_le HR.out.lt K0.out.size
      go_wp2_with fail
      have KX : Hid (Kp (fun _ => False) V (V.alloc (.cells #[.int .i64 xa, .int .i64 (min xn most)] 38))) := (Kp.refl _ _).alloc _
      have SX := hid (St.new 38 V #[.int .i64 xa, .int .i64 (min xn most)])
      obtain ⟨X1, hX1⟩ : ∃ X, X = V.alloc (.cells #[.int .i64 xa, .int .i64 (min xn most)] 38) := ⟨_, rfl⟩
      rw [← hX1] at KX SX ⊢
      obtain ⟨T6, hT6⟩ : ∃ T, T = V.heap.size := ⟨_, rfl⟩
      rw [← hT6] at SX ⊢
      have HT6 := hid hT6
      clear hX1 x0 x1 zq hT6
      have HSC : Hid (∀ U, Kp (fun _ => False) X1 U → U.cell? ⟨q, 0, none⟩ = some (.slice (some ⟨gb, off, none⟩) (m + 1) cap) ∧ U.cell? ⟨T6, 0, none⟩ = some (.int .i64 xa) ∧ U.cell? ⟨T6, 1, none⟩ = some (.int .i64 (min xn most))) := fun U k => ⟨(HQ.out.kp ((K0.out.trans KX.out (fun _ _ h => h)).trans k (fun _ _ h => h)) (fun h => h)).cell 0, (SX.out.kp k (fun h => h)).cell 0, (SX.out.kp k (fun h => h)).cell 1⟩
      have HFR : Hid (∀ U, Kp (fun _ => False) X1 U → U.frozen? ⟨q, 0, none⟩ = false) := fun U k => (HQ.out.kp ((K0.out.trans KX.out (fun _ _ h => h)).trans k (fun _ _ h => h)) (fun h => h)).frozen 0
      have HLS : Hid (∀ U, Kp (fun _ => False) X1 U → Calls Try.prog 55 #[.slice (some ⟨gb, off, none⟩) (m + 1) cap, .agg #[.int .i64 xa, .int .i64 (min xn most)]] U fun e w' => ∃ v, e = .returned v ∧ Ownr w' U.heap.size v M ∧ Kp (fun _ => False) U w') := fun U k => HLS0.out U (KX.out.trans k (fun _ _ h => h))
      have HQX : Hid (q < X1.drew.heap.size) := by have h1 : X1.drew.heap.size = X1.heap.size := rfl; have := KX.out.size; have := HQL.out; show q < X1.drew.heap.size; omega
      have HPX : Hid (P < X1.drew.heap.size) := by have h1 : X1.drew.heap.size = X1.heap.size := rfl; have := KX.out.size; have := R0.out.lt; show P < X1.drew.heap.size; omega
      have H0 : Hid (Kp (fun _ => False) X1 X1.drew) := (Kp.refl (fun _ => False) X1).drew
      clear HLS0
      subst hC7
      change (Code.region 7 o36r7 true).wp _ _ _ _
      refine wp_region_plan (fun U => Kp (fun _ => False) X1 U) [9] c36r7 p36r7_0 hmix b36r7 d36r7 (fun _ _ d _ _ h => by cases d <;> exact h) ?_
      refine plan_take (o := q36r7_0) (r := p36r7_1) ?vn0 H0.out (by rfl) ?hyn0 ?restn0
      case hyn0 => (intro w hSw; (try dsimp only at hSw); simp only [q36r7_0]; go_simp; try with_reducible rfl)
      try simp only [q36r7_0, Act.put, List.setIfInBounds_toArray, List.set_cons_zero, List.set_cons_succ]
      refine plan_take (o := q36r7_1) (r := p36r7_2) ?vn1 H0.out (by rfl) ?hyn1 ?restn1
      case hyn1 => (intro w hSw; (try dsimp only at hSw); simp only [q36r7_1]; go_simp; try with_reducible rfl)
      try simp only [q36r7_1, Act.put, List.setIfInBounds_toArray, List.set_cons_zero, List.set_cons_succ]
      refine plan_take (o := q36r7_2) (r := p36r7_3) ?vn2 H0.out (by rfl) ?hyn2 ?restn2
      case hyn2 => (intro w hSw; (try dsimp only at hSw); simp only [q36r7_2]; go_simp; try with_reducible rfl)
      try simp only [q36r7_2, Act.put, List.setIfInBounds_toArray, List.set_cons_zero, List.set_cons_succ]
      refine plan_take (o := q36r7_3) (r := p36r7_4) ?vn3 H0.out (by rfl) ?hyn3 ?restn3
      case hyn3 => (intro w hSw; (try dsimp only at hSw); simp only [q36r7_3]; go_simp; try with_reducible rfl)
      try simp only [q36r7_3, Act.put, List.setIfInBounds_toArray, List.set_cons_zero, List.set_cons_succ]
      refine plan_take (o := q36r7_4) (r := p36r7_5) ?vn4 H0.out (by rfl) ?hyn4 ?restn4
      case hyn4 => (intro w hSw; (try dsimp only at hSw); have y := HSC.out w hSw; obtain ⟨y, _, _⟩ := y; simp only [q36r7_4]; go_simp; try with_reducible rfl)
      try simp only [q36r7_4, Act.put, List.setIfInBounds_toArray, List.set_cons_zero, List.set_cons_succ]
      refine plan_take (o := q36r7_5) (r := p36r7_6) ?vn5 H0.out (by rfl) ?hyn5 ?restn5
      case hyn5 => (intro w hSw; (try dsimp only at hSw); have y := HSC.out w hSw; obtain ⟨_, y0, y1⟩ := y; simp only [q36r7_5]; go_simp; try with_reducible rfl)
      try simp only [q36r7_5, Act.put, List.setIfInBounds_toArray, List.set_cons_zero, List.set_cons_succ]
      refine plan_act (o := q36r7_6) (r := p36r7_7) (fun K hK => ?_)
      simp only [q36r7_6]
      refine ite_pos2 (by rfl) ?_
      go_simp
      refine (HLS.out _ H0.out).mono ?_
      rintro e w3 ⟨v3, rfl, o3, k3⟩
      have K3 : Hid (Kp (fun _ => False) X1 w3) := H0.out.trans k3 (fun _ _ h => h)
      have V3 := hid (Vr.own (G := fun i => i < w.heap.size) o3 (fun i hi => by have h9 : P = w.heap.size := HPw.out; have := HPX.out; omega))
      have VP := hid (Vr.own (G := fun i => i = P) o3 (fun i e => e ▸ HPX.out))
      clear k3 o3
      obtain ⟨a3, c3, e3, _⟩ := V3.out
      subst e3
      have zq3 := (HSC.out w3 K3.out).1
      have fq3 := HFR.out w3 K3.out
      go_wp2_with fail
      refine hK.out _ _ (fun _ => K3.out) ?_
      clear hK K
      try simp only [q36r7_6, Act.put, List.setIfInBounds_toArray, List.set_cons_zero, List.set_cons_succ]
      refine plan_take (o := q36r7_7) (r := p36r7_8) ?vn7 K3.out (by rfl) ?hyn7 ?restn7
      case hyn7 => (intro w hSw; (try dsimp only at hSw); simp only [q36r7_7]; go_simp; try with_reducible rfl)
      try simp only [q36r7_7, Act.put, List.setIfInBounds_toArray, List.set_cons_zero, List.set_cons_succ]
      refine plan_take (o := q36r7_8) (r := p36r7_9) ?vn8 K3.out (by rfl) ?hyn8 ?restn8
      case hyn8 => (intro w hSw; (try dsimp only at hSw); simp only [q36r7_8]; go_simp; try with_reducible rfl)
      try simp only [q36r7_8, Act.put, List.setIfInBounds_toArray, List.set_cons_zero, List.set_cons_succ]
      refine plan_late (o := q36r7_9) (r := p36r7_10) (fun K hK => ?_)
      simp only [q36r7_9]
      refine ite_pos2 (by rfl) ?_
      go_simp
      refine hK.out _ _ ?_
      clear hK K
      try simp only [q36r7_9, Act.put, List.setIfInBounds_toArray, List.set_cons_zero, List.set_cons_succ]
      refine plan_done ?_
      have KW3 := hid ((K0.out.trans KX.out (fun _ _ h => h)).trans K3.out (fun _ _ h => h))
      have KY : Hid (Kp (fun i => i = q) w3 (w3.setCell ⟨q, 0, none⟩ (.slice a3 M.length c3))) := kp_setCell w3 q 0 _ (fun i => i = q) rfl
      have SQ : Hid (St 27 (w3.setCell ⟨q, 0, none⟩ (.slice a3 M.length c3)) q #[.slice a3 M.length c3]) := (HQ.out.kp KW3.out (fun h => h)).set 0 _
      clear zq3 fq3
      generalize w3.setCell ⟨q, 0, none⟩ (.slice a3 M.length c3) = Y at *
      have hqP : q < P := by have h9 : P = w.heap.size := HPw.out; have := HR.out.lt; omega
      have hqT : q < T6 := by have h9 : T6 = V.heap.size := HT6.out; have := HQL.out; omega
      have HQP := hid hqP
      have SY := hid ((SX.out.kp K3.out (fun h => h)).kp KY.out (fun h => by omega))
      have RY : Hid (Rn.B Y P zRn) := ((R0.out.kp KX.out (fun h => h)).kp K3.out (fun h => h)).kp KY.out (fun h => by omega)
      have t0 : Y.cell? ⟨T6, 0, none⟩ = some (.int .i64 xa) := SY.out.cell 0
      have t1 : Y.cell? ⟨T6, 1, none⟩ = some (.int .i64 (min xn most)) := SY.out.cell 1
      clear hqP hqT
      go_wp2_with (refine wpList_store_r rfl _ _ rfl _ rfl (e' := ⟨xa, min xn most⟩) rfl RY.out ?_; intro w6 s6 k6; have K6 := hid k6; clear k6)
      refine bodyPost_ret (results_cell_tmp2 Try.results36 _ _ _ rfl rfl (Rn.B.load s6)) rfl ?_
      have hR : RL q w6 (lss l (tkn most x)) := by
        rw [HTK.out, HLM.out]
        obtain ⟨a4, c4, e4, sv, bq, zn⟩ := V3.out
        cases e4
        obtain ⟨a5, c5, e5, _, bP, _⟩ := VP.out
        cases e5
        have hn : ∀ b off, a3 = some ⟨b, off, none⟩ → ¬ b = q := fun b off e x => by
          obtain ⟨cur, hc⟩ := (bq b off e).2
          subst x
          exact apart_types hc (HQ.out.kp KW3.out (fun h => h)) (by decide)
        exact ⟨⟨a3, c3, SQ.out.kp K6.out (fun h => by have := HQP.out; omega), (sv.kp KY.out (fun b off e _ => hn b off e)).kp K6.out (fun b off e _ => (bP b off e).1), fun b off e => ⟨_, ((bq b off e).2.choose_spec.kp KY.out (hn b off e)).kp K6.out (bP b off e).1⟩, zn⟩, HCL.out, Nat.le_trans HLH.out HL4.out⟩
      have hK : Kp (fun i => i = q) w w6 := ((KW3.out.mono (fun i _ h => h.elim)).trans KY.out (fun _ _ h => h)).trans K6.out (fun i hi e => by have h9 : P = w.heap.size := HPw.out; omega)
      have hN : ∀ b off n cap, w6.cell? ⟨q, 0, none⟩ = some (.slice (some ⟨b, off, none⟩) n cap) → w.heap.size ≤ b := fun b off n cap hc => by
        have h6 : w6.cell? ⟨q, 0, none⟩ = some (.slice a3 M.length c3) := (SQ.out.kp K6.out (fun h => by have := HQP.out; omega)).cell 0
        rw [h6] at hc
        obtain ⟨a4, c4, e4, sv, bq, zn⟩ := V3.out
        cases e4
        simp only [Option.some.injEq, Value.slice.injEq] at hc
        have := (bq b off hc.1).1
        omega
      have hE : (tkn most x).cs = #[.int .i64 xa, .int .i64 (min xn most)] := by rw [HTK.out]; rfl
      first
        | exact .inr (.inr ⟨hge, x, tl, HCO.out, by rw [hE]; rfl, hR, hK, hN⟩)
        | exact .inr (.inr ⟨x, tl, HCO.out, by rw [hE]; rfl, hR, hK, hN⟩)
end Go.Proofs.Ytgfondgejimkkaa

namespace Go.Proofs.Ytgfondgejimkkaa
open Go.RowKit
set_option linter.unusedVariables false
set_option linter.unusedSimpArgs false
theorem wo_self {x : Rn} (h : Mayr x) : wo x x = [] := by
  have := h.lt
  unfold wo
  rw [if_neg (by omega), if_neg (by omega)]
  rfl
theorem lss_le1 {x : Rn} (hx : Mayr x) : ∀ {L : List Rn}, (∀ y ∈ L, Mayr y) → (∀ y ∈ L, y = x ∨ ovb x y = false) → (lss L x).length ≤ L.length := by
  intro L
  induction L with
  | nil => intro _ _; simp [lss]
  | cons y tl ih =>
    intro hm h
    have h1 := ih (fun z hz => hm z (List.mem_cons_of_mem _ hz)) (fun z hz => h z (List.mem_cons_of_mem _ hz))
    rw [lss_cons, List.length_append, List.length_cons]
    rcases h y (by simp) with e | e
    · subst e
      rw [wo_self hx]
      simp
      omega
    · rw [wo_out hx (hm y (by simp)) e]
      simp
      omega
theorem lss_mem {x : Rn} {L : List Rn} (h : Can L) (hx : x ∈ L) : (lss L x).length ≤ L.length := by
  refine lss_le1 (h.1 x hx) h.1 (fun y hy => ?_)
  by_cases e : x = y
  · exact Or.inl e.symm
  · right
    have h1 : Aprt x y := by
      by_cases ha : Aprt x y
      · exact ha
      · exact absurd (h.ap.mem_eq hx hy ha) e
    unfold Aprt at h1
    unfold ovb
    have := (h.1 x hx).lt
    have := (h.1 y hy).lt
    simp
    omega
/-- x is the first of the longest of the first k. -/
def Gk (l : List Rn) (k : Nat) (x : Rn) : Prop := (∃ j, j < k ∧ j < l.length ∧ l.getD j zRn = x) ∧ ∀ i, i < k → grt (l.getD i zRn) x = false
theorem Gk.one (l : List Rn) (h : 0 < l.length) : Gk l 1 (l.getD 0 zRn) := ⟨⟨0, by omega, h, rfl⟩, fun i hi => by (obtain rfl : i = 0 := by omega); exact grt_irrefl _⟩
theorem Gk.more {l : List Rn} {k : Nat} {x : Rn} (h : Gk l k x) (hk : k < l.length) (hn : x.n < (l.getD k zRn).n) : Gk l (k + 1) (l.getD k zRn) := by
  refine ⟨⟨k, by omega, hk, rfl⟩, fun i hi => ?_⟩
  by_cases e : i = k
  · subst e; exact grt_irrefl _
  · have := h.2 i (by omega)
    simp [grt] at *
    omega
theorem Gk.same {l : List Rn} {k : Nat} {x : Rn} (h : Gk l k x) (hc : Can l) (hk : k < l.length) (hn : ¬ x.n < (l.getD k zRn).n) : Gk l (k + 1) x := by
  obtain ⟨⟨j, hj, hjl, hx⟩, h2⟩ := h
  refine ⟨⟨j, by omega, hjl, hx⟩, fun i hi => ?_⟩
  by_cases e : i = k
  · subst e
    have h7 := hc.lt hj hk
    rw [hx] at h7
    have h8 := (hc.may hjl).lt
    rw [hx] at h8
    generalize l.getD i zRn = z at *
    simp [grt]
    omega
  · exact h2 i (by omega)
theorem Gk.mem {l : List Rn} {x : Rn} {k : Nat} (h : Gk l k x) : x ∈ l := by
  obtain ⟨⟨j, _, hjl, hx⟩, _⟩ := h
  rw [← hx]
  exact gd_mem hjl
theorem Gk.all {l : List Rn} {x : Rn} (h : Gk l l.length x) : ∀ y ∈ l, grt y x = false := fun y hy => by
  obtain ⟨i, hi, e⟩ := List.getElem_of_mem hy
  rw [← e, ← gd hi]
  exact h.2 i hi
def q37r9_0 : Oper := { dst := some 46, op := Go.Op.move (Go.Operand.tmp 0), type := 25, pos := "ref.go:139", after := #[], guard := none }
def q37r9_1 : Oper := { dst := some 47, op := Go.Op.move (Go.Operand.tmp 0), type := 25, pos := "ref.go:139", after := #[], guard := none }
def q37r9_2 : Oper := { dst := some 48, op := Go.Op.nilCheck (Go.Operand.tmp 47), type := 0, pos := "ref.go:139", after := #[{ on := 1, ground := Go.Ground.data }], guard := none }
def q37r9_3 : Oper := { dst := some 49, op := Go.Op.fieldAddr 27 (Go.Operand.tmp 48) 0, type := 0, pos := "ref.go:139", after := #[{ on := 2, ground := Go.Ground.data }], guard := none }
def q37r9_4 : Oper := { dst := some 50, op := Go.Op.load 22 (Go.Operand.tmp 49), type := 22, pos := "ref.go:139", after := #[{ on := 3, ground := Go.Ground.data }], guard := none }
def q37r9_5 : Oper := { dst := some 51, op := Go.Op.load 38 (Go.Operand.tmp 4), type := 38, pos := "ref.go:139", after := #[], guard := none }
def q37r9_6 : Oper := { dst := some 52, op := Go.Op.call { callee := Go.Callee.value (Go.Operand.func 55), args := #[Go.Operand.tmp 50, Go.Operand.tmp 51], argTypes := #[22, 38] }, type := 22, pos := "ref.go:139", after := #[{ on := 4, ground := Go.Ground.data }, { on := 5, ground := Go.Ground.data }], guard := none }
def q37r9_7 : Oper := { dst := some 53, op := Go.Op.nilCheck (Go.Operand.tmp 46), type := 0, pos := "ref.go:139", after := #[{ on := 0, ground := Go.Ground.data }, { on := 0, ground := Go.Ground.phase }, { on := 1, ground := Go.Ground.phase }, { on := 2, ground := Go.Ground.phase }, { on := 3, ground := Go.Ground.phase }, { on := 4, ground := Go.Ground.phase }, { on := 5, ground := Go.Ground.phase }, { on := 6, ground := Go.Ground.phase }], guard := none }
def q37r9_8 : Oper := { dst := some 54, op := Go.Op.fieldAddr 27 (Go.Operand.tmp 53) 0, type := 0, pos := "ref.go:139", after := #[{ on := 7, ground := Go.Ground.data }, { on := 0, ground := Go.Ground.phase }, { on := 1, ground := Go.Ground.phase }, { on := 2, ground := Go.Ground.phase }, { on := 3, ground := Go.Ground.phase }, { on := 4, ground := Go.Ground.phase }, { on := 5, ground := Go.Ground.phase }, { on := 6, ground := Go.Ground.phase }], guard := none }
def q37r9_9 : Oper := { dst := none, op := Go.Op.store 22 (Go.Operand.tmp 54) (Go.Operand.tmp 52), type := 0, pos := "ref.go:139", after := #[{ on := 8, ground := Go.Ground.data }, { on := 6, ground := Go.Ground.data }, { on := 6, ground := Go.Ground.chain }, { on := 0, ground := Go.Ground.phase }, { on := 1, ground := Go.Ground.phase }, { on := 2, ground := Go.Ground.phase }, { on := 3, ground := Go.Ground.phase }, { on := 4, ground := Go.Ground.phase }, { on := 5, ground := Go.Ground.phase }, { on := 6, ground := Go.Ground.phase }], guard := none }
def o37r9 : Array Oper := #[q37r9_0, q37r9_1, q37r9_2, q37r9_3, q37r9_4, q37r9_5, q37r9_6, q37r9_7, q37r9_8, q37r9_9]
def p37r9_10 : List (Nat × Oper) := []
def p37r9_9 : List (Nat × Oper) := (2, q37r9_9) :: p37r9_10
def p37r9_8 : List (Nat × Oper) := (0, q37r9_8) :: p37r9_9
def p37r9_7 : List (Nat × Oper) := (0, q37r9_7) :: p37r9_8
def p37r9_6 : List (Nat × Oper) := (1, q37r9_6) :: p37r9_7
def p37r9_5 : List (Nat × Oper) := (0, q37r9_5) :: p37r9_6
def p37r9_4 : List (Nat × Oper) := (0, q37r9_4) :: p37r9_5
def p37r9_3 : List (Nat × Oper) := (0, q37r9_3) :: p37r9_4
def p37r9_2 : List (Nat × Oper) := (0, q37r9_2) :: p37r9_3
def p37r9_1 : List (Nat × Oper) := (0, q37r9_1) :: p37r9_2
def p37r9_0 : List (Nat × Oper) := (0, q37r9_0) :: p37r9_1
def c37r9 : List (Nat × Nat) := [(0, 0), (0, 1), (0, 2), (0, 3), (0, 4), (0, 5), (1, 6), (0, 7), (0, 8), (2, 9)]
theorem b37r9 : (Region.noSelect o37r9 && (c37r9.length == o37r9.size) && planB o37r9 [9] c37r9 (Array.replicate o37r9.size false)) = true := by kernel_rfl
theorem d37r9 : (c37r9.map fun p => (p.1, o37r9[p.2]?)) = (p37r9_0.map fun p => (p.1, some p.2)) := by kernel_rfl

set_option maxRecDepth 100000 in
set_option maxHeartbeats 16000000 in
theorem rgreatest_any (w : World) (q : Nat) (l : List Rn) (h : RL q w l) :
    Calls Try.prog 37 #[.pointer (some ⟨q, 0, none⟩)] w fun e w' =>
      (l = [] ∧ e = .returned (.tuple #[.agg zRn.cs, .int .i64 7]) ∧ Kp (fun _ => False) w w') ∨
      (∃ x ∈ l, (∀ y ∈ l, grt y x = false) ∧ e = .returned (.tuple #[.agg x.cs, .int .i64 0]) ∧ RL q w' (lss l x) ∧ Kp (fun i => i = q) w w') := by
  have HR := hid h
  obtain ⟨ao, cap, hq, hs, hb, hz⟩ := h.mem
  have HQ := hid hq
  have HS := hid hs
  have HC := hid h.can
  have HL4 := hid h.len
  clear hq hs h hb hz
  go_enter Try.func37, Try.ntmps37
  generalize hC9 : Code.region 9 _ _ = C9
  generalize hC4 : Code.region 4 _ _ = C4
  generalize hC1 : Code.region 1 _ _ = C1
  go_wp2_with fail
  have k0 : Kp (fun _ => False) w (w.alloc (.cells #[.int .i64 0, .int .i64 0] 38)) := (Kp.refl _ _).alloc _
  have r0 : Rn.B (w.alloc (.cells #[.int .i64 0, .int .i64 0] 38)) w.heap.size zRn := Rn.B.new w zRn
  obtain ⟨V, hV⟩ : ∃ V, V = w.alloc (.cells #[.int .i64 0, .int .i64 0] 38) := ⟨_, rfl⟩
  rw [← hV] at k0 r0 ⊢
  obtain ⟨P, hP⟩ : ∃ P, P = w.heap.size := ⟨_, rfl⟩
  rw [← hP] at r0 ⊢
  have HPw := hid hP
  have R0 := hid r0
  have K0 := hid k0
  clear hP r0 k0 hV
  subst hC1
  by_cases hl0 : l.length = 0
  · have HL0 : Hid (l = []) := List.length_eq_zero_iff.1 hl0
    rw [hl0] at HQ
    have zq : V.cell? ⟨q, 0, none⟩ = some (.slice ao 0 cap) := (HQ.out.kp K0.out (fun h => h)).cell 0
    go_wp2_with (refine wpList_store_r rfl _ _ rfl _ rfl (e' := zRn) rfl R0.out ?_; intro w3 s3 k3; have KF : Hid (Kp (fun _ => False) w w3) := K0.out.trans k3 (fun i hi e => by have := HPw.out; omega); clear k3)
    refine bodyPost_ret (results_cell_tmp2 Try.results37 _ _ _ rfl rfl (Rn.B.load s3)) rfl ?_
    exact .inl ⟨HL0.out, rfl, KF.out⟩
  · have HG1 := hid (Gk.one l (by omega))
    obtain ⟨m, hlm⟩ : ∃ m, l.length = m + 1 := ⟨l.length - 1, by omega⟩
    rw [hlm] at HQ HL4
    have HLM := hid hlm
    have hm4 : m + 1 ≤ 4096 := HL4.out
    have zq : V.cell? ⟨q, 0, none⟩ = some (.slice ao (m + 1) cap) := (HQ.out.kp K0.out (fun h => h)).cell 0
    obtain ⟨gb, off, rfl, hgb, xx0, xx1⟩ := (HS.out.kp K0.out (fun _ _ _ _ h => h)).at (i := 0) (by omega)
    have x0 : V.cell? ⟨gb, off, none⟩ = some (.int .i64 (l.getD 0 zRn).a) := by simpa using xx0
    have x1 : V.cell? ⟨gb, off + 1, none⟩ = some (.int .i64 (l.getD 0 zRn).n) := by simpa using xx1
    clear xx0 xx1 hl0 hlm
    have hne : ((m : Int) + 1 == 0) = false := by rw [beq_eq_false_iff_ne]; omega
    generalize l.getD 0 zRn = x at *
    obtain ⟨xa, xn⟩ := x
    dsimp only at x0 x1
    have HQL : Hid (q < V.heap.size) := Nat.lt_of_lt_of_le HR.out.lt K0.out.size
    go_wp2_with (first | (refine wpList_store_r rfl _ _ rfl _ rfl (e := zRn) (e' := ⟨xa, xn⟩) rfl (Rn.B.new V zRn) ?_; intro X0 sU jU; have KU : Hid (Kp (fun _ => False) V X0) := ((Kp.refl (fun _ => False) V).alloc _).trans jU (fun i h1 h2 => by omega); have SU := hid sU; clear sU jU))
    obtain ⟨T4, hT4⟩ : ∃ T, T = V.heap.size := ⟨_, rfl⟩
    rw [← hT4] at SU ⊢
    have HT4 := hid hT4
    have hqT : q < T4 := by have := HQL.out; omega
    have hPT : P < T4 := by have := R0.out.lt; omega
    have HQT := hid hqT
    have HPT := hid hPT
    clear hT4 x0 x1 zq hqT hPT
    subst hC4
    go_wp2_with fail
    go_loopw [5] (fun i wr => ∃ (k : Nat) (ya yn : Int), i = .int .i64 (k : Int) ∧ 1 ≤ k ∧ k ≤ m + 1 ∧ Hid (Gk l k ⟨ya, yn⟩) ∧ Hid (Kp (fun i => i = T4) X0 wr) ∧ Hid (Rn.B wr T4 ⟨ya, yn⟩)) (fun i _ => m + 1 - (intOf i).toNat)
    case atStart => exact ⟨1, xa, xn, rfl, by omega, by omega, HG1, Kp.refl _ _, SU⟩
    case round =>
      obtain ⟨k, ya, yn, rfl, hk1, hk, HG, HK, HB⟩ := hrel
      have KV : Hid (Kp (fun i => i = T4) V wr) := (KU.out.mono (fun i _ h => h.elim)).trans HK.out (fun _ _ h => h)
      have KF : Hid (Kp (fun _ => False) w wr) := K0.out.trans KV.out (fun i hi e => by have h9 : P = w.heap.size := HPw.out; have := HPT.out; omega)
      have zq : wr.cell? ⟨q, 0, none⟩ = some (.slice (some ⟨gb, off, none⟩) (m + 1) cap) := (HQ.out.kp KF.out (fun h => h)).cell 0
      have b0 : wr.cell? ⟨T4, 0, none⟩ = some (.int .i64 ya) := HB.out.cell 0
      have b1 : wr.cell? ⟨T4, 1, none⟩ = some (.int .i64 yn) := HB.out.cell 1
      by_cases hlt : k < m + 1
      · have hkl : k < l.length := by have := HLM.out; omega
        obtain ⟨gb2, off2, e2, _, x0, x1⟩ := (HS.out.kp KF.out (fun _ _ _ _ h => h)).at (i := k) hkl
        cases e2
        have HGM : Hid (yn < (l.getD k zRn).n → Gk l (k + 1) (l.getD k zRn)) := fun h => HG.out.more hkl h
        have HGS : Hid (¬ yn < (l.getD k zRn).n → Gk l (k + 1) ⟨ya, yn⟩) := fun h => HG.out.same HC.out hkl h
        generalize l.getD k zRn = z at *
        obtain ⟨za, zn⟩ := z
        dsimp only at x0 x1 HGM HGS
        by_cases hgt : yn < zn
        · have hg2 : decide (yn < zn) = true := by simpa using hgt
          have HGN := hid (HGM.out hgt)
          go_wp2_with fail
          go_quiet (fail)
          have KQ : Hid (Kp (fun _ => False) wr (wr.drewN nq)) := drewN_kp _ _ _
          have BQ := hid (HB.out.kp KQ.out (fun h => h))
          go_wp2_with (first | (refine wpList_store_r rfl _ _ rfl _ rfl (e := ⟨ya, yn⟩) (e' := ⟨za, zn⟩) rfl BQ.out ?_; intro Z sZ jZ; have SZ := hid sZ; have KZ := hid jZ; clear sZ jZ))
          go_roundw
          case rel => exact ⟨k + 1, za, zn, by go_num, by omega, by omega, HGN, (HK.out.trans KQ.out (fun _ _ h => h.elim)).trans KZ.out (fun _ _ h => h), SZ⟩
          case measure => simp [intOf]; omega
        · have hg2 : decide (yn < zn) = false := by simpa using hgt
          have HGN := hid (HGS.out hgt)
          go_wp2_with fail
          go_quiet (fail)
          have KQ : Hid (Kp (fun _ => False) wr (wr.drewN nq)) := drewN_kp _ _ _
          have BQ := hid (HB.out.kp KQ.out (fun h => h))
          go_wp2_with fail
          go_roundw
          case rel => exact ⟨k + 1, ya, yn, by go_num, by omega, by omega, HGN, HK.out.trans KQ.out (fun _ _ h => h.elim), BQ⟩
          case measure => simp [intOf]; omega
      · obtain rfl : k = m + 1 := by omega
        go_wp2_with fail
        have HG2 := HG.out
        rw [← HLM.out] at HG2
        have HXM := hid HG2.mem
        have HXA := hid HG2.all
        have HMX := hid (HC.out.1 _ HXM.out)
        have HCL := hid (lss_can HMX.out HC.out)
        have HLH := hid (lss_mem HC.out HXM.out)
        clear HG2 zq b0 b1
        obtain ⟨X1, hX1⟩ : ∃ X, X = wr := ⟨_, rfl⟩
        rw [← hX1] at KV KF HB HK ⊢
        clear hX1
        obtain ⟨M, hMl⟩ : ∃ M, M = lss l ⟨ya, yn⟩ := ⟨_, rfl⟩
        rw [← hMl] at HCL HLH
        have HSC : Hid (∀ U, Kp (fun _ => False) X1 U → U.cell? ⟨q, 0, none⟩ = some (.slice (some ⟨gb, off, none⟩) (m + 1) cap) ∧ U.cell? ⟨T4, 0, none⟩ = some (.int .i64 ya) ∧ U.cell? ⟨T4, 1, none⟩ = some (.int .i64 yn)) := fun U k => ⟨(HQ.out.kp (KF.out.trans k (fun _ _ h => h)) (fun h => h)).cell 0, (HB.out.kp k (fun h => h)).cell 0, (HB.out.kp k (fun h => h)).cell 1⟩
        have HFR : Hid (∀ U, Kp (fun _ => False) X1 U → U.frozen? ⟨q, 0, none⟩ = false) := fun U k => (HQ.out.kp (KF.out.trans k (fun _ _ h => h)) (fun h => h)).frozen 0
        have HLS : Hid (∀ U, Kp (fun _ => False) X1 U → Calls Try.prog 55 #[.slice (some ⟨gb, off, none⟩) (m + 1) cap, .agg #[.int .i64 ya, .int .i64 yn]] U fun e w' => ∃ v, e = .returned v ∧ Ownr w' U.heap.size v M ∧ Kp (fun _ => False) U w') := fun U k => by
          rw [hMl]
          exact rless_any U _ (m + 1) cap l ⟨ya, yn⟩ HLM.out (by have h9 : m + 1 ≤ 4096 := HL4.out; omega) HMX.out HC.out.1 (HS.out.kp (KF.out.trans k (fun _ _ h => h)) (fun _ _ _ _ h => h))
        have HML := hid hMl
        clear hMl
        have h1z : X1.drew.heap.size = X1.heap.size := rfl
        have HQX : Hid (q < X1.drew.heap.size) := by have := HB.out.lt; have := HQT.out; show q < X1.drew.heap.size; omega
        have HPX : Hid (P < X1.drew.heap.size) := by have := HB.out.lt; have := HPT.out; show P < X1.drew.heap.size; omega
        clear h1z
        have H0 : Hid (Kp (fun _ => False) X1 X1.drew) := (Kp.refl (fun _ => False) X1).drew
        subst hC9
        change (Code.region 9 o37r9 true).wp _ _ _ _
        refine wp_region_plan (fun U => Kp (fun _ => False) X1 U) [9] c37r9 p37r9_0 hmix b37r9 d37r9 (fun _ _ d _ _ h => by cases d <;> exact h) ?_
        refine plan_take (o := q37r9_0) (r := p37r9_1) ?vg0 H0.out (by rfl) ?hyg0 ?restg0
        case hyg0 => (intro w hSw; (try dsimp only at hSw); simp only [q37r9_0]; go_simp; try with_reducible rfl)
        try simp only [q37r9_0, Act.put, List.setIfInBounds_toArray, List.set_cons_zero, List.set_cons_succ]
        refine plan_take (o := q37r9_1) (r := p37r9_2) ?vg1 H0.out (by rfl) ?hyg1 ?restg1
        case hyg1 => (intro w hSw; (try dsimp only at hSw); simp only [q37r9_1]; go_simp; try with_reducible rfl)
        try simp only [q37r9_1, Act.put, List.setIfInBounds_toArray, List.set_cons_zero, List.set_cons_succ]
        refine plan_take (o := q37r9_2) (r := p37r9_3) ?vg2 H0.out (by rfl) ?hyg2 ?restg2
        case hyg2 => (intro w hSw; (try dsimp only at hSw); simp only [q37r9_2]; go_simp; try with_reducible rfl)
        try simp only [q37r9_2, Act.put, List.setIfInBounds_toArray, List.set_cons_zero, List.set_cons_succ]
        refine plan_take (o := q37r9_3) (r := p37r9_4) ?vg3 H0.out (by rfl) ?hyg3 ?restg3
        case hyg3 => (intro w hSw; (try dsimp only at hSw); simp only [q37r9_3]; go_simp; try with_reducible rfl)
        try simp only [q37r9_3, Act.put, List.setIfInBounds_toArray, List.set_cons_zero, List.set_cons_succ]
        refine plan_take (o := q37r9_4) (r := p37r9_5) ?vg4 H0.out (by rfl) ?hyg4 ?restg4
        case hyg4 => (intro w hSw; (try dsimp only at hSw); have y := HSC.out w hSw; obtain ⟨y, _, _⟩ := y; simp only [q37r9_4]; go_simp; try with_reducible rfl)
        try simp only [q37r9_4, Act.put, List.setIfInBounds_toArray, List.set_cons_zero, List.set_cons_succ]
        refine plan_take (o := q37r9_5) (r := p37r9_6) ?vg5 H0.out (by rfl) ?hyg5 ?restg5
        case hyg5 => (intro w hSw; (try dsimp only at hSw); have y := HSC.out w hSw; obtain ⟨_, y0, y1⟩ := y; simp only [q37r9_5]; go_simp; try with_reducible rfl)
        try simp only [q37r9_5, Act.put, List.setIfInBounds_toArray, List.set_cons_zero, List.set_cons_succ]
        refine plan_act (o := q37r9_6) (r := p37r9_7) (fun K hK => ?_)
        simp only [q37r9_6]
        refine ite_pos2 (by rfl) ?_
        go_simp
        refine (HLS.out _ H0.out).mono ?_
        rintro e w3 ⟨v3, rfl, o3, k3⟩
        have K3 : Hid (Kp (fun _ => False) X1 w3) := H0.out.trans k3 (fun _ _ h => h)
        have V3 := hid (Vr.own (G := fun _ => False) o3 (fun i hi => hi.elim))
        have VP := hid (Vr.own (G := fun i => i = P) o3 (fun i e => e ▸ HPX.out))
        clear k3 o3
        obtain ⟨a3, c3, e3, _⟩ := V3.out
        subst e3
        have zq3 := (HSC.out w3 K3.out).1
        have fq3 := HFR.out w3 K3.out
        go_wp2_with fail
        refine hK.out _ _ (fun _ => K3.out) ?_
        clear hK K
        try simp only [q37r9_6, Act.put, List.setIfInBounds_toArray, List.set_cons_zero, List.set_cons_succ]
        refine plan_take (o := q37r9_7) (r := p37r9_8) ?vg7 K3.out (by rfl) ?hyg7 ?restg7
        case hyg7 => (intro w hSw; (try dsimp only at hSw); simp only [q37r9_7]; go_simp; try with_reducible rfl)
        try simp only [q37r9_7, Act.put, List.setIfInBounds_toArray, List.set_cons_zero, List.set_cons_succ]
        refine plan_take (o := q37r9_8) (r := p37r9_9) ?vg8 K3.out (by rfl) ?hyg8 ?restg8
        case hyg8 => (intro w hSw; (try dsimp only at hSw); simp only [q37r9_8]; go_simp; try with_reducible rfl)
        try simp only [q37r9_8, Act.put, List.setIfInBounds_toArray, List.set_cons_zero, List.set_cons_succ]
        refine plan_late (o := q37r9_9) (r := p37r9_10) (fun K hK => ?_)
        simp only [q37r9_9]
        refine ite_pos2 (by rfl) ?_
        go_simp
        refine hK.out _ _ ?_
        clear hK K
        try simp only [q37r9_9, Act.put, List.setIfInBounds_toArray, List.set_cons_zero, List.set_cons_succ]
        refine plan_done ?_
        have KW3 := hid (KF.out.trans K3.out (fun _ _ h => h))
        have KY : Hid (Kp (fun i => i = q) w3 (w3.setCell ⟨q, 0, none⟩ (.slice a3 M.length c3))) := kp_setCell w3 q 0 _ (fun i => i = q) rfl
        have SQ : Hid (St 27 (w3.setCell ⟨q, 0, none⟩ (.slice a3 M.length c3)) q #[.slice a3 M.length c3]) := (HQ.out.kp KW3.out (fun h => h)).set 0 _
        clear zq3 fq3
        generalize w3.setCell ⟨q, 0, none⟩ (.slice a3 M.length c3) = Y at *
        have hqP : q < P := by have h9 : P = w.heap.size := HPw.out; have := HR.out.lt; omega
        have HQP := hid hqP
        have SY := hid ((HB.out.kp K3.out (fun h => h)).kp KY.out (fun h => by have := HQT.out; omega))
        have RY : Hid (Rn.B Y P zRn) := ((R0.out.kp KV.out (fun h => by have := HPT.out; omega)).kp K3.out (fun h => h)).kp KY.out (fun h => by omega)
        have t0 : Y.cell? ⟨T4, 0, none⟩ = some (.int .i64 ya) := SY.out.cell 0
        have t1 : Y.cell? ⟨T4, 1, none⟩ = some (.int .i64 yn) := SY.out.cell 1
        clear hqP
        go_wp2_with (refine wpList_store_r rfl _ _ rfl _ rfl (e' := ⟨ya, yn⟩) rfl RY.out ?_; intro w6 s6 k6; have K6 := hid k6; clear k6)
        refine bodyPost_ret (results_cell_tmp2 Try.results37 _ _ _ rfl rfl (Rn.B.load s6)) rfl ?_
        have hR : RL q w6 (lss l ⟨ya, yn⟩) := by
          rw [← HML.out]
          obtain ⟨a4, c4, e4, sv, bq, zn⟩ := V3.out
          cases e4
          obtain ⟨a5, c5, e5, _, bP, _⟩ := VP.out
          cases e5
          have hn : ∀ b off, a3 = some ⟨b, off, none⟩ → ¬ b = q := fun b off e x => by
            obtain ⟨cur, hc⟩ := (bq b off e).2
            subst x
            exact apart_types hc (HQ.out.kp KW3.out (fun h => h)) (by decide)
          exact ⟨⟨a3, c3, SQ.out.kp K6.out (fun h => by have := HQP.out; omega), (sv.kp KY.out (fun b off e _ => hn b off e)).kp K6.out (fun b off e _ => (bP b off e).1), fun b off e => ⟨_, ((bq b off e).2.choose_spec.kp KY.out (hn b off e)).kp K6.out (bP b off e).1⟩, zn⟩, HCL.out, by have h9 : m + 1 ≤ 4096 := HL4.out; have := HLH.out; have := HLM.out; omega⟩
        have hK : Kp (fun i => i = q) w w6 := ((KW3.out.mono (fun i _ h => h.elim)).trans KY.out (fun _ _ h => h)).trans K6.out (fun i hi e => by have h9 : P = w.heap.size := HPw.out; omega)
        exact .inr ⟨⟨ya, yn⟩, HXM.out, HXA.out, rfl, hR, hK⟩
end Go.Proofs.Ytgfondgejimkkaa

namespace Go.Proofs.Ytgfondgejimkkaa
open Go.RowKit Go.Shelf
attribute [local go_sem] Oper.semAt_some
set_option linter.unusedVariables false
set_option linter.unusedSimpArgs false
set_option maxRecDepth 100000 in
set_option maxHeartbeats 4000000 in
theorem val_seq3 (n : Nat) (hn : 1 ≤ n) (bt : Nat) (ao : Option Addr) (c : Nat) (L : List Rn) (w : World) (hl : L.length ≤ 65536) (hs : Srcr w ao L) (s1 : St 22 w bt #[.slice ao L.length c]) :
    SeqW Fence.wide n Try.prog 56 #[] #[.pointer (some ⟨bt, 0, none⟩)] (fun x : Rn => #[.agg x.cs]) (fun ys Y => ys = L ∧ KR (RO bt ao L) w Y) (fun pre Y => (∃ j, j ≤ L.length ∧ pre = L.take j) ∧ KR (RO bt ao L) w Y) (fun pre => ∃ j, j ≤ L.length ∧ pre = L.take j) (RO bt ao L) w := by
  intro l J Jx W hW hA hAx hY h0
  have S0 := hid (hs.below hW)
  have T1 := hid (s1.below hW s1.lt)
  have LB : Hid (∀ i, RO bt ao L i → i < W.heap.size) := by
    rintro i (rfl | ⟨hp, off, e⟩)
    · exact Nat.lt_of_lt_of_le s1.lt hW.size
    · obtain ⟨g, of2, e2, hb, _⟩ := S0.out hp
      rw [e] at e2
      cases e2
      exact hb
  have LW : Hid (∀ i, RO bt ao L i → i < w.heap.size) := by
    rintro i (rfl | ⟨hp, off, e⟩)
    · exact s1.lt
    · obtain ⟨g, of2, e2, hb, _⟩ := hs hp
      rw [e] at e2
      cases e2
      exact hb
  have HKW : Hid (∀ Y, KR (RO bt ao L) W Y → KR (RO bt ao L) w Y) := fun Y h i hi => (h i hi).trans (hW.block i (LW.out i hi))
  clear hs s1 hW
  obtain ⟨N, hN⟩ : ∃ N, N = L.length := ⟨_, rfl⟩
  have c0 : W.cell? ⟨bt, 0, none⟩ = some (.slice ao N c) := by rw [hN]; exact T1.out.cell 0
  have HY := hid hY
  rw [← hN] at hl HY
  have HN := hid hN
  clear hN hY
  refine callsIn_of_wp Try.func56 rfl trivial ?_ rfl
  simp only [Try.ntmps56, List.size_toArray, List.length_cons, List.length_nil, Nat.reduceAdd, Nat.reduceSub, Array.replicate_succ, Array.replicate_zero, List.push_toArray, List.append_toArray, List.nil_append, List.cons_append]
  gi_wp2_with fail
  gi_loopw [7] (fun i wr => ∃ (k : Nat) (O : Nat → Prop), i = .int .i64 k ∧ k ≤ N ∧ Hid (J (L.take k) O wr) ∧ Hid (∀ i, RO bt ao L i → O i) ∧ Hid (KR (RO bt ao L) W wr)) (fun i _ => N - (intOf i).toNat)
  case atStart => exact ⟨0, _, rfl, Nat.zero_le _, h0, fun _ h => h, fun _ _ => rfl⟩
  case round =>
    clear c0
    obtain ⟨k, O, rfl, hk, HJ, HOS, HKR⟩ := hrel
    by_cases hlt : k < N
    · have hkl : k < L.length := by have := HN.out; omega
      obtain ⟨gb, off, rfl, hgb, x0, x1⟩ := (srcr_blk S0.out (fun i off hp e => HKR.out i (Or.inr ⟨hp, off, e⟩))).at (i := k) hkl
      have HTS := hid (take_snoc hkl)
      generalize L.getD k zRn = x at *
      obtain ⟨q, hq⟩ : ∃ q, q = wr.heap.size := ⟨_, rfl⟩
      gi_wp2_with (first | (refine wpListIn_store_r (by rfl) (.tmp 4) (.tmp 10) rfl wr.heap.size rfl (e := zRn) (e' := x) rfl (Rn.B.new wr zRn) ?_; intro w2 b2 j2; have k2 : Kp (fun _ => False) wr w2 := ((Kp.refl (fun _ => False) wr).alloc _).trans j2 (fun i h1 h2 => by omega); have E2 := hid b2; have K2 := hid k2; have J2 := hid (hA _ O wr w2 HJ.out (k2.mono (fun _ _ x => x.elim))); obtain ⟨fn, tmps, assign, body, hy, hR⟩ := HY.out _ _ x w2 J2.out ⟨k + 1, by have := HN.out; omega, HTS.out⟩; have HR := hid hR; clear hR k2 j2 b2 x0 x1) | (refine wpListIn_load_r (by rfl) (.tmp 4) rfl wr.heap.size rfl E2.out ?_))
      have KR2 : Hid (KR (RO bt (some ⟨gb, off, none⟩) L) W w2) := fun i hi => (K2.out.block i (kr_lt HKR.out hi (LB.out i hi)) (fun x => x)).trans (HKR.out i hi)
      refine HR.out.mono ?_
      rw [HTS.out]
      rintro ee w3 (⟨rfl, hJ3, hk3⟩ | ⟨rfl, hJx3, hk3⟩)
      · have KR3 : Hid (KR (RO bt (some ⟨gb, off, none⟩) L) W w3) := fun i hi => (hk3.block i (kr_lt KR2.out hi (LB.out i hi)) (fun x => x (Or.inl (HOS.out i hi)))).trans (KR2.out i hi)
        have HJ3 := hid hJ3
        clear hk3 hJ3
        gi_wp2
        go_roundw
        case rel => exact ⟨k + 1, _, by go_num, hlt, HJ3, fun i hi => Or.inl (HOS.out i hi), KR3⟩
        case measure => simp [intOf]; omega
      · have KR3 : Hid (KR (RO bt (some ⟨gb, off, none⟩) L) W w3) := fun i hi => (hk3.block i (kr_lt KR2.out hi (LB.out i hi)) (fun x => x (Or.inl (HOS.out i hi)))).trans (KR2.out i hi)
        have HJx3 := hid hJx3
        clear hk3 hJx3
        gi_wp2
        refine bodyPost_ret (results_none rfl _ _ _) rfl ?_
        exact ⟨⟨_, rfl⟩, .inr ⟨_, _, ⟨⟨k + 1, by have := HN.out; omega, rfl⟩, HKW.out _ KR3.out⟩, HJx3.out⟩⟩
    · obtain rfl : k = N := by omega
      have HT : Hid (L.take k = L) := List.take_of_length_le (by have := HN.out; omega)
      gi_wp2_with fail
      go_end0
      exact ⟨⟨_, rfl⟩, .inl ⟨_, _, ⟨rfl, HKW.out _ HKR.out⟩, by rw [← HT.out]; exact HJ.out⟩⟩
end Go.Proofs.Ytgfondgejimkkaa

namespace Go.Proofs.Ytgfondgejimkkaa
open Go.RowKit Go.Shelf
attribute [local go_sem] Oper.semAt_some
set_option linter.unusedVariables false
set_option linter.unusedSimpArgs false
theorem act_of {E : (Nat → Value) → Array Value} {a : Act} {ds : List Deferred} (ht : a.tmps = E (fun i => a.tmps.getD i undef)) (hd : a.defers = ds) : ∃ f, a = { tmps := E f, defers := ds } :=
  ⟨fun i => a.tmps.getD i undef, by cases a; simp only at ht hd; rw [hd, ← ht]⟩
def bxt (t : TypeId) : Prop := t ≠ 73 ∧ t ≠ 69 ∧ t ≠ 74 ∧ t ≠ 77
theorem Lw.box {Q : Nat} {R : List Rn} {F : Nat → Prop} {w : World} {t : TypeId} {i : Nat} {cs : Array Value} (h : Lw Q R F w) (ht : bxt t) (s : w.heap[i]? = some (.cells cs t (0, 0))) : ¬ F i := by
  obtain ⟨B, mb, me, c, v, L, h1, h2, h3⟩ := h
  obtain ⟨eb, kb, m1, m2⟩ := h1.bm
  obtain ⟨ee, ke, n1, n2⟩ := h1.em
  intro hf
  rcases (h3 i).1 hf with rfl | rfl | rfl | rfl | e | e
  · exact apart_types s h1.st ht.1
  · exact apart_types s h1.ln.st ht.2.1
  · exact map_cells m1.1 s
  · exact map_cells n1.1 s
  · obtain ⟨cur, hg, _⟩ := ownb h1.ln.own e
    exact apart_types s hg ht.2.2.1
  · obtain ⟨j, hj⟩ := h1.ln.wt e
    exact apart_types s hj ht.2.2.2
theorem kp_putC (W : World) (l : Nat) (o' : Obj) : Kp (fun i => i = l) W (W.putObj l o') := ⟨rfl, rfl, rfl, by simp, fun k _ hk => World.putObj_heap_other hk⟩
def mrkc (D : Nat) : Deferred := { target := .collected D, args := #[] }
theorem leaves_marksc {F : Fence} {n : Nat} {fn : Func} {tmps : Array Value} {R : Ending → World → Prop} (D : Nat) (w : World) (hD : w.heap[D]? = some (.deferred (some [])))
    (fin : ∀ w', Kp (fun i => i = D) w w' → LeavesInM F n Try.prog fn tmps R [] .returning w') : LeavesInM F n Try.prog fn tmps R [mrkc D] .returning w :=
  ⟨by simp, .inl ⟨_, _, rfl, run_takeDeferred hD, fin _ (kp_putC w D (.deferred none))⟩⟩
theorem load_bool4c {w : World} {g : Nat} {v : Bool} (h : w.cell? ⟨g, 0, none⟩ = some (.bool v)) : (loadVar 4 ⟨g, 0, none⟩).run Try.prog w = .ok (.bool v) w := by
  simp [go_sem, h]
end Go.Proofs.Ytgfondgejimkkaa

namespace Go.Proofs.Ytgfondgejimkkaa
open Go.RowKit Go.Shelf
attribute [local go_sem] Oper.semAt_some
set_option linter.unusedVariables false
set_option linter.unusedSimpArgs false
/-- Where the boxes lie. -/
structure Gb (w : World) (O0 : Nat → Prop) (T4 T5 T6 T7 B : Nat) (bo : Option Addr) (L : List Rn) : Prop where
  b4 : w.heap.size ≤ T4 ∧ T4 < B
  b5 : w.heap.size ≤ T5 ∧ T5 < B
  b6 : w.heap.size ≤ T6 ∧ T6 < B
  b7 : w.heap.size ≤ T7 ∧ T7 < B
  a4 : T4 ≠ T6 ∧ T4 ≠ T7
  a5 : T5 ≠ T6 ∧ T5 ≠ T7
  a6 : T6 ≠ T7
  o : ∀ i, O0 i → i < w.heap.size
  r : ∀ b off, bo = some ⟨b, off, none⟩ → 0 < L.length → b < w.heap.size ∧ ¬ O0 b
structure Gi8 (w : World) (O0 : Nat → Prop) (T4 T5 T6 T7 B : Nat) (bo : Option Addr) (cb : Nat) (L : List Rn) (leave : Int) (pre : List Rn) (O : Nat → Prop) (Z : World) : Prop where
  k : Kp O0 w Z
  s4 : St 22 Z T4 #[.slice bo L.length cb]
  s5 : St 3 Z T5 #[.int .i64 leave]
  s6 : St 4 Z T6 #[.bool false]
  s7 : St 3 Z T7 #[.int .i64 (pre.length : Int)]
  sb : Srcr Z bo L
  ow : ∀ i, O i → O0 i ∨ B + 1 < i
  lt : B + 1 < Z.heap.size
structure Gx (w : World) (O0 : Nat → Prop) (T6 B : Nat) (O : Nat → Prop) (Z : World) : Prop where
  k : Kp O0 w Z
  s6 : St 4 Z T6 #[.bool true]
  ow : ∀ i, O i → O0 i ∨ B + 1 < i
  lt : B + 1 < Z.heap.size
theorem Gb.wB {w : World} {O0 : Nat → Prop} {T4 T5 T6 T7 B : Nat} {bo : Option Addr} {L : List Rn} (h : Gb w O0 T4 T5 T6 T7 B bo L) : w.heap.size < B := by have := h.b4; omega
theorem srcr_kp2 {F : Nat → Prop} {w w' : World} {ao : Option Addr} {l : List Rn} (h : Srcr w ao l) (k : Kp F w w') (hf : ∀ b off, ao = some ⟨b, off, none⟩ → 0 < l.length → ¬ F b) : Srcr w' ao l := fun hp => h.kp k (fun b off e _ => hf b off e hp) hp
theorem Gi8.kp {w : World} {O0 G O : Nat → Prop} {T4 T5 T6 T7 B cb : Nat} {bo : Option Addr} {L pre : List Rn} {leave : Int} {Z Y : World} (b : Gb w O0 T4 T5 T6 T7 B bo L) (h : Gi8 w O0 T4 T5 T6 T7 B bo cb L leave pre O Z) (k : Kp G Z Y) (hg : ∀ i, i < Z.heap.size → G i → O i ∨ i = B ∨ i = B + 1) : Gi8 w O0 T4 T5 T6 T7 B bo cb L leave pre O Y := by
  have hw := b.wB
  have hz := h.lt
  have ni : ∀ T, w.heap.size ≤ T → T < B → ¬ G T := fun T h1 h2 g => by
    rcases hg T (by omega) g with o | e
    · rcases h.ow T o with a | a
      · have := b.o T a; omega
      · omega
    · omega
  refine ⟨h.k.trans k (fun i hi g => ?_), h.s4.kp k (ni _ b.b4.1 b.b4.2), h.s5.kp k (ni _ b.b5.1 b.b5.2), h.s6.kp k (ni _ b.b6.1 b.b6.2), h.s7.kp k (ni _ b.b7.1 b.b7.2), srcr_kp2 h.sb k (fun c off e hp g => ?_), h.ow, Nat.lt_of_lt_of_le h.lt k.size⟩
  · rcases hg i (by omega) g with o | e
    · rcases h.ow i o with a | a
      · exact a
      · omega
    · omega
  · have hr := b.r c off e hp
    rcases hg c (by omega) g with o | e
    · rcases h.ow c o with a | a
      · exact hr.2 a
      · omega
    · omega
theorem Gx.kp {w : World} {O0 G O : Nat → Prop} {T4 T5 T6 T7 B : Nat} {bo : Option Addr} {L : List Rn} {Z Y : World} (b : Gb w O0 T4 T5 T6 T7 B bo L) (h : Gx w O0 T6 B O Z) (k : Kp G Z Y) (hg : ∀ i, i < Z.heap.size → G i → O i ∨ i = B ∨ i = B + 1) : Gx w O0 T6 B O Y := by
  have hw := b.wB
  have hz := h.lt
  refine ⟨h.k.trans k (fun i hi g => ?_), h.s6.kp k (fun g => ?_), h.ow, Nat.lt_of_lt_of_le h.lt k.size⟩
  · rcases hg i (by omega) g with o | e
    · rcases h.ow i o with a | a
      · exact a
      · omega
    · omega
  · have h6 := b.b6
    rcases hg T6 (by omega) g with o | e
    · rcases h.ow T6 o with a | a
      · have := b.o T6 a; omega
      · omega
    · omega
theorem Gi8.abw {w : World} {O0 : Nat → Prop} {T4 T5 T6 T7 B cb : Nat} {bo : Option Addr} {L : List Rn} {leave : Int} (b : Gb w O0 T4 T5 T6 T7 B bo L) : AbW (Gi8 w O0 T4 T5 T6 T7 B bo cb L leave) := fun s O X Y h k => by
  have h1 := h.kp b k (fun i _ o => Or.inl o)
  exact ⟨h1.k, h1.s4, h1.s5, h1.s6, h1.s7, h1.sb, fun i hi => hi.elim (h.ow i) (fun e => Or.inr (by have := h.lt; omega)), h1.lt⟩
theorem Gx.abw {w : World} {O0 : Nat → Prop} {T4 T5 T6 T7 B : Nat} {bo : Option Addr} {L : List Rn} (b : Gb w O0 T4 T5 T6 T7 B bo L) (c : Code) : AbW (fun (_ : List Rn) O Z => c = .ret ∧ Gx w O0 T6 B O Z) := fun s O X Y h k => by
  have h1 := h.2.kp b k (fun i _ o => Or.inl o)
  exact ⟨h.1, h1.k, h1.s6, fun i hi => hi.elim (h.2.ow i) (fun e => Or.inr (by have := h.2.lt; omega)), h1.lt⟩
def g18 (T4 T5 T6 T7 T8 : Nat) (f : Nat → Value) : Array Value := #[f 0, f 1, f 2, f 3, .pointer (some ⟨T4, 0, none⟩), .pointer (some ⟨T5, 0, none⟩), .pointer (some ⟨T6, 0, none⟩), .pointer (some ⟨T7, 0, none⟩), .pointer (some ⟨T8, 0, none⟩), f 9, f 10, f 11, f 12, f 13, f 14, f 15, f 16, f 17, f 18, f 19, f 20, f 21, f 22, f 23, f 24, f 25, f 26, f 27, f 28, f 29, f 30, f 31, f 32, f 33]
end Go.Proofs.Ytgfondgejimkkaa

namespace Go.Proofs.Ytgfondgejimkkaa
open Go.RowKit Go.Shelf
attribute [local go_sem] Oper.semAt_some
set_option linter.unusedVariables false
set_option linter.unusedSimpArgs false
theorem fin_bool18 {F : Fence} {m : Nat} {tmps : Array Value} {T6 : Nat} {w Z : World} (h4 : tmps.getD 6 undef = .pointer (some ⟨T6, 0, none⟩)) (s4 : St 4 Z T6 #[.bool true]) (b : Kp (fun _ => False) w Z) :
    LeavesInM F m Try.prog Try.f18 tmps (fun e w' => e = .returned (.bool true) ∧ Kp (fun _ => False) w w') [] .returning Z := by
  exact ⟨_, results_cell1 Try.results18 _ _ T6 h4 (load_bool4c (s4.cell 0)), rfl, b⟩
theorem kr_kp {O0 : Nat → Prop} {w Z : World} (k : Kp O0 w Z) (h : KR O0 w Z) : Kp (fun _ => False) w Z := ⟨k.os, k.tape, k.output, k.size, fun i hi _ => by
  by_cases e : O0 i
  · exact h i e
  · exact k.block i hi e⟩
set_option maxRecDepth 100000 in
set_option maxHeartbeats 8000000 in
theorem goes_val (w : World) (bt : Nat) (ao : Option Addr) (c : Nat) (L : List Rn) (hl : L.length ≤ 4096) (hs : Srcr w ao L) (s1 : St 22 w bt #[.slice ao L.length c]) (bo : Option Addr) (cb : Nat) (sb : Srcr w bo L) (hbo : ∀ b off, bo = some ⟨b, off, none⟩ → 0 < L.length → ¬ RO bt ao L b) (leave : Int) :
    Calls Try.prog 18 #[.func (.func 56) #[] #[.pointer (some ⟨bt, 0, none⟩)], .slice bo L.length cb, .int .i64 leave] w fun e w' => e = .returned (.bool true) ∧ Kp (fun _ => False) w w' := by
  have LW : Hid (∀ i, RO bt ao L i → i < w.heap.size) := by
    rintro i (rfl | ⟨hp, off, e⟩)
    · exact s1.lt
    · obtain ⟨g, of2, e2, hb, _⟩ := hs hp
      rw [e] at e2
      cases e2
      exact hb
  have SQ := hid (val_seq3 19 (by omega) bt ao c L w (by omega) hs s1)
  have HSB := hid sb
  have HBO := hid hbo
  have h56 := nf56 bt
  have HNQ := hid neq_r
  clear hs s1 sb hbo
  generalize hO0 : RO bt ao L = O0 at *
  clear hO0
  refine (callsIn_wide (n := 20)).1 ?_
  refine callsIn_of_wp_marks Try.func18 rfl trivial ?_ rfl
  simp only [Try.ntmps18, List.size_toArray, List.length_cons, List.length_nil, Nat.reduceAdd, Nat.reduceSub, Array.replicate_succ, Array.replicate_zero, List.push_toArray, List.append_toArray, List.nil_append, List.cons_append]
  refine wpIn_wide.2 ?_
  generalize hQ : bodyPostM _ _ _ _ _ = QQ
  obtain ⟨N, hN⟩ : ∃ N, N = L.length := ⟨_, rfl⟩
  rw [← hN] at hl ⊢
  have HN := hid hN
  clear hN
  go_wp2_with fail
  have HX : Hid (St 22 ((((w.alloc (.cells #[.slice bo N cb] 22)).alloc (.cells #[.int .i64 leave] 3)).alloc (.cells #[.bool false] 4)).alloc (.cells #[.int .i64 0] 3)) w.heap.size #[.slice bo N cb] ∧ St 3 ((((w.alloc (.cells #[.slice bo N cb] 22)).alloc (.cells #[.int .i64 leave] 3)).alloc (.cells #[.bool false] 4)).alloc (.cells #[.int .i64 0] 3)) (w.heap.size + 1) #[.int .i64 leave] ∧ St 4 ((((w.alloc (.cells #[.slice bo N cb] 22)).alloc (.cells #[.int .i64 leave] 3)).alloc (.cells #[.bool false] 4)).alloc (.cells #[.int .i64 0] 3)) (w.heap.size + 2) #[.bool false] ∧ St 3 ((((w.alloc (.cells #[.slice bo N cb] 22)).alloc (.cells #[.int .i64 leave] 3)).alloc (.cells #[.bool false] 4)).alloc (.cells #[.int .i64 0] 3)) (w.heap.size + 3) #[.int .i64 0] ∧ Below w.heap.size w ((((w.alloc (.cells #[.slice bo N cb] 22)).alloc (.cells #[.int .i64 leave] 3)).alloc (.cells #[.bool false] 4)).alloc (.cells #[.int .i64 0] 3)) ∧ ((((w.alloc (.cells #[.slice bo N cb] 22)).alloc (.cells #[.int .i64 leave] 3)).alloc (.cells #[.bool false] 4)).alloc (.cells #[.int .i64 0] 3)).heap.size = w.heap.size + 4) := by
    have al : ∀ (U : World) (o : Obj), Kp (fun _ => False) U (U.alloc o) := fun U o => (Kp.refl _ _).alloc _
    have n4 := St.new 22 w #[.slice bo N cb]
    have n5 := St.new 3 (w.alloc (.cells #[.slice bo N cb] 22)) #[.int .i64 leave]
    have n6 := St.new 4 ((w.alloc (.cells #[.slice bo N cb] 22)).alloc (.cells #[.int .i64 leave] 3)) #[.bool false]
    have n7 := St.new 3 (((w.alloc (.cells #[.slice bo N cb] 22)).alloc (.cells #[.int .i64 leave] 3)).alloc (.cells #[.bool false] 4)) #[.int .i64 0]
    simp only [World.size_alloc, Nat.add_assoc, Nat.reduceAdd] at n5 n6 n7
    refine ⟨((n4.kp (al _ _) (fun h => h)).kp (al _ _) (fun h => h)).kp (al _ _) (fun h => h), (n5.kp (al _ _) (fun h => h)).kp (al _ _) (fun h => h), n6.kp (al _ _) (fun h => h), n7, ?_, by simp only [World.size_alloc]⟩
    exact ((((Kp.refl (fun _ => False) w).alloc _).alloc _).alloc _).alloc _ |>.below (Nat.le_refl _) (fun _ h => h.elim)
  simp only [World.size_alloc, Nat.add_assoc, Nat.reduceAdd]
  generalize (((w.alloc (.cells #[.slice bo N cb] 22)).alloc (.cells #[.int .i64 leave] 3)).alloc (.cells #[.bool false] 4)).alloc (.cells #[.int .i64 0] 3) = X at *
  obtain ⟨T, hT⟩ : ∃ T, T = w.heap.size := ⟨_, rfl⟩
  rw [← hT] at HX ⊢
  obtain ⟨x4, x5, x6, x7, xb, xs⟩ := HX.out
  have GB : Gb w O0 T (T + 1) (T + 2) (T + 3) X.heap.size bo L := ⟨by omega, by omega, by omega, by omega, by omega, by omega, by omega, LW.out, fun b off e hp => ⟨by
    obtain ⟨g, of2, e2, hb, _⟩ := HSB.out hp
    rw [e] at e2
    cases e2
    exact hb, HBO.out b off e hp⟩⟩
  rw [HN.out] at x4
  have HXB : Hid (Below w.heap.size w X) := by rw [hT] at xb; exact xb
  have HWX : Hid (w.heap.size < X.heap.size) := by show w.heap.size < X.heap.size; omega
  clear hT xs xb HX
  refine (wpIn_wide (n := 20)).1 ?_
  refine wpIn_rangeFunc_W rfl (by omega) (gf := 56) (pb := #[]) (lb := #[.pointer (some ⟨bt, 0, none⟩)]) rfl trivial (enters_of Try.func56 (by kernel_rfl) rfl) SQ.out ?hS ?hSx (fun i hi => by have := LW.out i hi; have := HWX.out; omega) HXB.out (fun _ => rfl)
    (Gi8 w O0 T (T + 1) (T + 2) (T + 3) X.heap.size bo cb L leave) (fun c _ O Z => c = .ret ∧ Gx w O0 (T + 2) X.heap.size O Z) (Gi8.abw GB) (Gx.abw GB) ?hI2 ?hIx2 ?h0
    (fun x a' Z => ∃ T8, X.heap.size + 1 < T8 ∧ Rn.B Z T8 x ∧ ∃ f', a' = { tmps := g18 T (T + 1) (T + 2) (T + 3) T8 f', defers := [] }) ?hAx ?assign ?body ?done ?stop
  case hS =>
    intro xs Z r o' hs hl
    exact ⟨hs.1, fun i hi => ((kp_putC Z (X.heap.size + 1) o').block i (kr_lt hs.2 hi (LW.out i hi)) (by have := LW.out i hi; have := HWX.out; omega)).trans (hs.2 i hi)⟩
  case hSx =>
    intro xs Z r o' hs hl
    exact ⟨hs.1, fun i hi => ((kp_putC Z (X.heap.size + 1) o').block i (kr_lt hs.2 hi (LW.out i hi)) (by have := LW.out i hi; have := HWX.out; omega)).trans (hs.2 i hi)⟩
  case hI2 => exact fun s O Z o' hi hlt => hi.kp GB (kp_putC Z _ o') (fun i _ e => Or.inr (Or.inr e))
  case hIx2 => exact fun c s O Z o' h hlt => ⟨h.1, h.2.kp GB (kp_putC Z _ o') (fun i _ e => Or.inr (Or.inr e))⟩
  case h0 =>
    intro r
    have ka : Kp (fun _ => False) X ((X.alloc (.deferred (some []))).alloc (.loop r)) := ((Kp.refl _ _).alloc _).alloc _
    have xb2 : Kp O0 w X := Kp.of_below HXB.out
    exact ⟨xb2.trans ka (fun _ _ h => h.elim), x4.kp ka (fun h => h), x5.kp ka (fun h => h), x6.kp ka (fun h => h), x7.kp ka (fun h => h), (HSB.out.kp (F := fun _ => False) (Kp.of_below HXB.out) (fun _ _ _ _ h => h)).kp ka (fun _ _ _ _ h => h), fun i hi => Or.inl hi, by simp only [World.size_alloc]; omega⟩
  case hAx =>
    rintro x a' Z o' ⟨T8, h1, h2, h3⟩
    exact ⟨T8, h1, h2.kp (kp_putC Z _ o') (by omega), h3⟩
  case assign =>
    intro l' pre O x Z1 Kk hll hsz hi hK
    have HK := hid hK
    have HI := hid hi
    have HSZ := hid hsz
    clear hK hi hll hsz
    obtain ⟨xa, xn⟩ := x
    gi_wp2_with (first | (refine wpListIn_store_r (by rfl) (.tmp 8) (.tmp 12) rfl Z1.heap.size rfl (e := zRn) (e' := ⟨xa, xn⟩) rfl (Rn.B.new Z1 zRn) ?_; intro w6 b6 j6; have k6 : Kp (fun _ => False) Z1 w6 := ((Kp.refl (fun _ => False) Z1).alloc _).trans j6 (fun i h1 h2 => by omega); have E6 := hid b6; have K6 := hid k6; clear b6 j6 k6))
    exact HK.out _ _ (K6.out.mono (fun _ _ x => x.elim)) (HI.out.kp GB K6.out (fun _ _ h => h.elim)) ⟨_, HSZ.out, E6.out, act_of (by kernel_rfl) rfl⟩
  case body =>
    rintro l' pre O x a' Z hll hsz n1 n2 hi ⟨T8, h8, e8, f', rfl⟩ ⟨j, hj, hsp⟩
    have hpl := congrArg List.length hsp
    rw [List.length_append, List.length_take] at hpl
    simp only [List.length_singleton] at hpl
    have hkl : pre.length < L.length := by omega
    have hx : L.getD pre.length zRn = x := by
      have h1 : (pre ++ [x])[pre.length]? = some x := by simp
      rw [hsp, List.getElem?_take] at h1
      split at h1
      · simp [List.getD, h1]
      · cases h1
    obtain ⟨gb, off, hbe, _, y0, y1⟩ := hi.sb.at hkl
    rw [hx] at y0 y1
    have HI := hid hi
    have c4 : Z.cell? ⟨T, 0, none⟩ = some (.slice (some ⟨gb, off, none⟩) L.length cb) := by rw [← hbe]; exact hi.s4.cell 0
    have c5 : Z.cell? ⟨T + 1, 0, none⟩ = some (.int .i64 leave) := hi.s5.cell 0
    have c7 : Z.cell? ⟨T + 3, 0, none⟩ = some (.int .i64 (pre.length : Int)) := hi.s7.cell 0
    have c8 : Z.cell? ⟨T8, 0, none⟩ = some (.int .i64 x.a) := e8.cell 0
    have c9 : Z.cell? ⟨T8, 1, none⟩ = some (.int .i64 x.n) := e8.cell 1
    have hnq : ∀ U : World, (binOp .neq 38 (.agg #[.int .i64 x.a, .int .i64 x.n]) (.agg #[.int .i64 x.a, .int .i64 x.n])).run Try.prog U = .ok (.bool false) U := fun U => by
      have := HNQ.out x x U
      rw [Rn.eq_self] at this
      exact this
    have HPL : Hid ((pre ++ [x]).length = pre.length + 1) := by show (pre ++ [x]).length = _; simp
    have HN1 := hid n1
    have HN2 := hid n2
    have HL4 : Hid (L.length ≤ 4096) := by rw [Hid, ← HN.out]; exact hl
    clear hpl hx hsp hi e8 hbe n1 n2 HNQ
    obtain ⟨k, hk⟩ : ∃ k, k = pre.length := ⟨_, rfl⟩
    rw [← hk] at hkl y0 y1 c7 HPL
    have HKP := hid hk
    clear hk
    have hk4 : k < 4096 := by have := HL4.out; omega
    generalize x.a = xa at *
    generalize x.n = xn at *
    obtain ⟨M, hM⟩ : ∃ M, M = L.length := ⟨_, rfl⟩
    rw [← hM] at c4 hkl
    clear hM
    have d1 : decide ((M : Int) ≤ (k : Int)) = false := by simp; omega
    have d2 : decide (M ≤ k) = false := by simp; omega
    unfold g18
    gi_wp2_with fail
    refine wpIn_region_quietR hmix (by kernel_rfl) (by kernel_rfl) ?_
    repeat (gi_big_quiet_step (fail))
    refine wpQuietIn_nil ?_
    intro _ hw'
    obtain ⟨nq, hw2⟩ := hw'
    subst hw2
    have KX : Hid (Kp (fun _ => False) Z (Z.drewN nq)) := drewN_kp _ _ _
    generalize Z.drewN nq = Y at *
    have IY := hid (HI.out.kp GB KX.out (fun _ _ h => h.elim))
    have c5' : Y.cell? ⟨T + 1, 0, none⟩ = some (.int .i64 leave) := IY.out.s5.cell 0
    have c7' : Y.cell? ⟨T + 3, 0, none⟩ = some (.int .i64 (k : Int)) := by rw [HKP.out]; exact IY.out.s7.cell 0
    have f7' := IY.out.s7.frozen 0
    have c6' : Y.cell? ⟨T + 2, 0, none⟩ = some (.bool false) := IY.out.s6.cell 0
    have f6' := IY.out.s6.frozen 0
    clear c4 c5 c7 c8 c9 y0 y1
    have kz := kp_setCell Y (T + 3) 0 (.int .i64 ((k : Int) + 1)) (fun i => i = T + 3) rfl
    have KZ := hid kz
    have S7 : Hid (St 3 (Y.setCell ⟨T + 3, 0, none⟩ (.int .i64 ((k : Int) + 1))) (T + 3) #[.int .i64 ((k : Int) + 1)]) := IY.out.s7.set 0 _
    have S5 : Hid (St 3 (Y.setCell ⟨T + 3, 0, none⟩ (.int .i64 ((k : Int) + 1))) (T + 1) #[.int .i64 leave]) := IY.out.s5.kp kz (by omega)
    have S6 : Hid (St 4 (Y.setCell ⟨T + 3, 0, none⟩ (.int .i64 ((k : Int) + 1))) (T + 2) #[.bool false]) := IY.out.s6.kp kz (by omega)
    have S4 : Hid (St 22 (Y.setCell ⟨T + 3, 0, none⟩ (.int .i64 ((k : Int) + 1))) T #[.slice bo L.length cb]) := IY.out.s4.kp kz (by omega)
    clear kz
    have n7 : Hid (¬ O (T + 3)) := fun o => (HI.out.ow _ o).elim (fun a => by have := GB.o _ a; have := GB.b7; omega) (fun a => by have := GB.b7; omega)
    have n6 : Hid (¬ O (T + 2)) := fun o => (HI.out.ow _ o).elim (fun a => by have := GB.o _ a; have := GB.b6; omega) (fun a => by have := GB.b6; omega)
    have KW : Hid (Kp (fun i => ¬ O i ∧ i ≠ X.heap.size ∧ i ≠ X.heap.size + 1) Z (Y.setCell ⟨T + 3, 0, none⟩ (.int .i64 ((k : Int) + 1)))) := (KX.out.mono (fun _ _ h => h.elim)).trans KZ.out (fun i _ e => by subst e; exact ⟨n7.out, by have := GB.b7; omega, by have := GB.b7; omega⟩)
    by_cases hle : (k : Int) + 1 = leave
    · have e1 : ((k : Int) + 1 == leave) = true := by simpa using hle
      clear hle
      gi_wp2_with fail
      have kz := kp_setCell (Y.setCell ⟨T + 3, 0, none⟩ (.int .i64 ((k : Int) + 1))) (T + 2) 0 (.bool true) (fun i => i = T + 2) rfl
      refine ⟨KW.out.trans kz (fun i _ e => by subst e; exact ⟨n6.out, by have := GB.b6; omega, by have := GB.b6; omega⟩), rfl, ((IY.out.k.trans KZ.out (fun i hi e => by have := GB.b7; omega)).trans kz (fun i hi e => by have := GB.b6; omega)), S6.out.set 0 _, IY.out.ow, Nat.lt_of_lt_of_le IY.out.lt (Nat.le_trans KZ.out.size kz.size)⟩
    · have e1 : ((k : Int) + 1 == leave) = false := by simpa using hle
      clear hle
      gi_wp2_with fail
      refine ⟨KW.out, IY.out.k.trans KZ.out (fun i hi e => by have := GB.b7; omega), S4.out, S5.out, S6.out, ?_, srcr_kp2 IY.out.sb KZ.out (fun c off e hp g => by have := GB.r c off e hp; have := GB.b7; omega), IY.out.ow, Nat.lt_of_lt_of_le IY.out.lt KZ.out.size⟩
      rw [HPL.out]
      exact S7.out
  case done =>
    rintro D xs O Z hD ⟨hS1, hKR⟩ hi hdd
    have c4 : Z.cell? ⟨T, 0, none⟩ = some (.slice bo N cb) := by rw [HN.out]; exact hi.s4.cell 0
    have c7 : Z.cell? ⟨T + 3, 0, none⟩ = some (.int .i64 (N : Int)) := by rw [HN.out, ← hS1]; exact hi.s7.cell 0
    have c6 : Z.cell? ⟨T + 2, 0, none⟩ = some (.bool false) := hi.s6.cell 0
    have f6 := hi.s6.frozen 0
    have HI := hid hi
    have HD := hid hD
    have HDD := hid hdd
    have HKR := hid hKR
    clear hi hD hdd hS1 hKR
    gi_wp2_with fail
    go_wp2_with fail
    subst hQ
    have hz := kp_setCell Z (T + 2) 0 (.bool true) (fun i => i = T + 2) rfl
    refine leaves_marksc D _ ?_ (fun w' k => fin_bool18 rfl ((HI.out.s6.set 0 _).kp k ?_) ?_)
    · rw [← HDD.out]; exact heap_setCell_other Z ⟨T + 2, 0, none⟩ D _ (by have := GB.b6; have := HD.out; show ¬ D = T + 2; omega)
    · have := GB.b6; have := HD.out; omega
    · exact ((kr_kp HI.out.k HKR.out).trans hz (fun i hi e => by have := GB.b6; omega)).trans k (fun i hi e => by have := HWX.out; have := HD.out; omega)
  case stop =>
    rintro D c pre O Z hD ⟨hS1, hKR⟩ ⟨hc, hx⟩ hdd
    subst hc
    gi_wp2
    subst hQ
    refine leaves_marksc D Z hdd (fun w' k => fin_bool18 rfl (hx.s6.kp k ?_) ?_)
    · have := GB.b6; omega
    · exact (kr_kp hx.k hKR).trans k (fun i hi e => by have := HWX.out; omega)
end Go.Proofs.Ytgfondgejimkkaa
