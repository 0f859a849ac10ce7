/- later: Cut. -/
import Derived.Test.YtgfondgejimkkaaNw
namespace Go.Proofs.Ytgfondgejimkkaa
open Go.RowKit
set_option linter.unusedVariables false
set_option linter.unusedSimpArgs false
/-- append of a row that is read, as an equation. -/
theorem own_appr {w : World} {base : Nat} {v : Value} {l M : List Rn} {ao : Option Addr} {m c : Nat} {ty : TypeId} (h : Ownr w base v l) (hm : m = M.length) (hz : ao = none → c = 0) (hS : Srcr w ao M) (hl : l.length + m ≤ 1000000) (hbase : base ≤ w.heap.size) :
    ∃ v' w', (Builtin.append_ #[22, 22] ty #[v, .slice ao m c]).run Try.prog w = .ok v' w' ∧ Ownr w' base v' (l ++ M) ∧ Kp (fun i => base ≤ i) w w' := by
  obtain ⟨i0, hi, hz0, hz1, hz2⟩ := info_parts Try.inf38
  cases ao with
  | none =>
    have hc := hz rfl
    have h0 : M.length = 0 := by
      by_cases h0 : M.length = 0
      · exact h0
      · obtain ⟨b, off, e, _⟩ := hS (by omega)
        cases e
    obtain rfl : M = [] := List.length_eq_zero_iff.1 h0
    rw [h0] at hm
    subst hm hc
    exact ⟨v, w, run_append_owned_none (P := Try.prog) (w := w) base 22 ty 38 i0 2 Try.underlying22 hi v l.length (flr l) h, by rw [List.append_nil]; exact h, Kp.refl _ _⟩
  | some ad =>
    obtain ⟨v', w', h1, h2, h3, h4, h5⟩ := run_append_own_at (P := Try.prog) w base 22 ty 38 i0 _ 2 16 Try.underlying22 hi hz0 hz1 hz2 rfl (by decide) v l.length (flr l) h ad m c (flr M) (by rw [flr_len, hm]) (hS.news ad rfl) (flr_one M) (by unfold maxLen; omega) (by omega) hbase
    refine ⟨v', w', h1, ?_, Kp.of_grown h3 (fun i e => (h.blk e).1)⟩
    unfold Ownr
    rw [flr_append, List.length_append, ← hm]
    exact h2
theorem ovb_comm (x y : Rn) : ovb x y = ovb y x := by unfold ovb; rw [Bool.and_comm]
theorem shr_one (x y : Rn) : shr [x] y = ovb x y := by unfold shr; simp [ovb_comm]
theorem wow_len (x y : Rn) : (wow x y).length ≤ 2 := by unfold wow; split <;> split <;> simp
/-- What Cut tells and leaves. -/
def CtR (w : World) (Q B mb me : Nat) (c : Nat → Rn) (v : Value) (L : List Nat) (x : Rn) (e : Ending) (w' : World) : Prop :=
  (¬ Mayr x ∧ e = .returned (.tuple #[.int .i64 0, .int .i64 2]) ∧ Kp (fun _ => False) w w') ∨
  (Mayr x ∧ 4096 < (lss (srt (L.map c)) x).length ∧ e = .returned (.tuple #[.int .i64 0, .int .i64 6]) ∧ Kp (fun _ => False) w w') ∨
  (Mayr x ∧ (lss (srt (L.map c)) x).length ≤ 4096 ∧ e = .returned (.tuple #[.int .i64 (ovl (srt (L.map c)) x), .int .i64 0]) ∧ ∃ c' v' L', Tr w (Fp Q B mb me v L) Q B mb me c' v' L' w' ∧ srt (L'.map c') = lss (srt (L.map c)) x)
theorem ovl_pos (L : List Rn) (x : Rn) : 0 ≤ ovl L x := by
  induction L with
  | nil => exact Int.le_refl _
  | cons y L ih => rw [ovl_cons]; have : 0 ≤ ov x y := by unfold ov; omega
                   omega
def q24r10_0 : Oper := { dst := some 27, op := Go.Op.move (Go.Operand.tmp 7), type := 22, pos := "later.go:58", after := #[], guard := none }
def q24r10_1 : Oper := { dst := some 28, op := Go.Op.move (Go.Operand.tmp 9), type := 74, pos := "later.go:58", after := #[], guard := none }
def q24r10_2 : Oper := { dst := some 29, op := Go.Op.nilCheck (Go.Operand.tmp 28), type := 0, pos := "later.go:58", after := #[{ on := 1, ground := Go.Ground.data }], guard := none }
def q24r10_3 : Oper := { dst := some 30, op := Go.Op.fieldAddr 77 (Go.Operand.tmp 29) 0, type := 0, pos := "later.go:58", after := #[{ on := 2, ground := Go.Ground.data }], guard := none }
def q24r10_4 : Oper := { dst := some 31, op := Go.Op.load 38 (Go.Operand.tmp 30), type := 38, pos := "later.go:58", after := #[{ on := 3, ground := Go.Ground.data }], guard := none }
def q24r10_5 : Oper := { dst := some 32, op := Go.Op.load 38 (Go.Operand.tmp 3), type := 38, pos := "later.go:58", after := #[], guard := none }
def q24r10_6 : Oper := { dst := some 33, op := Go.Op.call { callee := Go.Callee.value (Go.Operand.func 49), args := #[Go.Operand.tmp 31, Go.Operand.tmp 32], argTypes := #[38, 38] }, type := 22, pos := "later.go:58", after := #[{ on := 4, ground := Go.Ground.data }, { on := 5, ground := Go.Ground.data }], guard := none }
def q24r10_7 : Oper := { dst := some 34, op := Go.Op.call { callee := Go.Callee.builtin Go.Builtin.append, args := #[Go.Operand.tmp 27, Go.Operand.tmp 33], argTypes := #[22, 22] }, type := 22, pos := "later.go:58", after := #[{ on := 0, ground := Go.Ground.data }, { on := 6, ground := Go.Ground.data }, { on := 6, ground := Go.Ground.chain }], guard := none }
def q24r10_8 : Oper := { dst := some 7, op := Go.Op.assign (Go.Operand.tmp 34), type := 22, pos := "later.go:58", after := #[{ on := 7, ground := Go.Ground.data }, { on := 7, ground := Go.Ground.chain }, { on := 0, ground := Go.Ground.phase }, { on := 1, ground := Go.Ground.phase }, { on := 2, ground := Go.Ground.phase }, { on := 3, ground := Go.Ground.phase }, { on := 4, ground := Go.Ground.phase }, { on := 5, ground := Go.Ground.phase }, { on := 6, ground := Go.Ground.phase }, { on := 7, ground := Go.Ground.phase }], guard := none }
def o24r10 : Array Oper := #[q24r10_0, q24r10_1, q24r10_2, q24r10_3, q24r10_4, q24r10_5, q24r10_6, q24r10_7, q24r10_8]
def p24r10_9 : List (Nat × Oper) := []
def p24r10_8 : List (Nat × Oper) := (0, q24r10_8) :: p24r10_9
def p24r10_7 : List (Nat × Oper) := (1, q24r10_7) :: p24r10_8
def p24r10_6 : List (Nat × Oper) := (1, q24r10_6) :: p24r10_7
def p24r10_5 : List (Nat × Oper) := (0, q24r10_5) :: p24r10_6
def p24r10_4 : List (Nat × Oper) := (0, q24r10_4) :: p24r10_5
def p24r10_3 : List (Nat × Oper) := (0, q24r10_3) :: p24r10_4
def p24r10_2 : List (Nat × Oper) := (0, q24r10_2) :: p24r10_3
def p24r10_1 : List (Nat × Oper) := (0, q24r10_1) :: p24r10_2
def p24r10_0 : List (Nat × Oper) := (0, q24r10_0) :: p24r10_1
def c24r10 : List (Nat × Nat) := [(0, 0), (0, 1), (0, 2), (0, 3), (0, 4), (0, 5), (1, 6), (1, 7), (0, 8)]
theorem b24r10 : (Region.noSelect o24r10 && (c24r10.length == o24r10.size) && planB o24r10 [] c24r10 (Array.replicate o24r10.size false)) = true := by kernel_rfl
theorem d24r10 : (c24r10.map fun p => (p.1, o24r10[p.2]?)) = (p24r10_0.map fun p => (p.1, some p.2)) := by kernel_rfl

set_option maxRecDepth 100000 in
set_option maxHeartbeats 16000000 in
theorem cut_any (c : Nat → Rn) (w : World) (Q B mb me : Nat) (v : Value) (L : List Nat) (h : Lc c w Q B mb me v L) (x : Rn) (hx : x.i6) :
    Calls Try.prog 24 #[ptr Q, .agg x.cs] w (CtR w Q B mb me c v L x) := by
  have HH := hid h
  have HNO : Hid (∀ U, Kp (fun _ => False) w U → Calls Try.prog 32 #[.pointer (some ⟨Q, 0, none⟩)] U fun e w' => e = .returned (.bool false) ∧ U = w') := fun U hU => none_yes Q B _ _ _ U (h.st.kp hU (fun h => h))
  have HMA := hid (fun U => may_any x U hx)
  obtain ⟨bl, hbl⟩ : ∃ bl, mayb x = bl := ⟨_, rfl⟩
  rw [hbl] at HMA
  have HBL := hid hbl
  have s0 := St.new 38 w x.cs
  have k0 : Kp (fun _ => False) w (w.alloc (.cells x.cs 38)) := (Kp.refl _ _).alloc _
  obtain ⟨xa, xn⟩ := x
  unfold Rn.cs at *
  dsimp only at *
  clear h hbl hx
  unfold ptr
  go_enter Try.func24, Try.ntmps24
  generalize hC5 : Code.region 5 _ _ = C5
  go_wp2_with fail
  generalize (w.alloc (.cells #[.int .i64 xa, .int .i64 xn] 38)) = V at *
  refine (HNO.out V k0).mono ?_
  rintro e V0 ⟨rfl, rfl⟩
  obtain ⟨P, hP⟩ : ∃ P, P = w.heap.size := ⟨_, rfl⟩
  rw [← hP] at s0 ⊢
  have c0 : V.cell? ⟨P, 0, none⟩ = some (.int .i64 xa) := s0.cell 0
  have c1 : V.cell? ⟨P, 1, none⟩ = some (.int .i64 xn) := s0.cell 1
  have K0 := hid k0
  have S0 := hid s0
  have HPw := hid hP
  clear k0 s0 HNO hP
  cases bl with
  | false =>
    go_wp2_with (go_at_call 44; refine (HMA.out _).mono ?_; rintro e V1 ⟨rfl, b1⟩; have K1 : Hid (Kp (fun _ => False) w V1) := K0.out.trans (Kp.of_below (F := fun _ => False) b1) (fun _ _ h => h); clear b1)
    go_ret2
    exact .inl ⟨mayb_false HBL.out, rfl, K1.out⟩
  | true =>
    have HMX : Hid (Mayr ⟨xa, xn⟩) := (mayb_iff _).1 HBL.out
    go_wp2_with (go_at_call 44; refine (HMA.out _).mono ?_; rintro e V1 ⟨rfl, b1⟩; have KV1 : Hid (Kp (fun _ => False) V V1) := Kp.of_below (F := fun _ => False) b1; clear b1)
    subst hC5
    have K1 : Hid (Kp (fun _ => False) w V1) := K0.out.trans KV1.out (fun _ _ h => h)
    have S1 := hid (S0.out.kp KV1.out (fun h => h))
    have d0 : V1.cell? ⟨P, 0, none⟩ = some (.int .i64 xa) := S1.out.cell 0
    have d1 : V1.cell? ⟨P, 1, none⟩ = some (.int .i64 xn) := S1.out.cell 1
    have KA : Hid (Kp (fun _ => False) w (V1.alloc (.cells #[.int .i64 xa, .int .i64 xn] 38))) := K1.out.alloc _
    have HWI : Hid (Calls Try.prog 45 #[.pointer (some ⟨Q, 0, none⟩), .slice (some ⟨V1.heap.size, 0, none⟩) 1 1] (V1.alloc (.cells #[.int .i64 xa, .int .i64 xn] 38)) fun e w' => ∃ v', e = .returned v' ∧ Ownp w' (V1.alloc (.cells #[.int .i64 xa, .int .i64 xn] 38)).heap.size v' (L.filter (fun b => shr [⟨xa, xn⟩] (c b))) ∧ Kp (fun _ => False) (V1.alloc (.cells #[.int .i64 xa, .int .i64 xn] 38)) w') := within_any c _ Q B mb me v L (HH.out.kp0 KA.out) (some ⟨V1.heap.size, 0, none⟩) 1 1 [⟨xa, xn⟩] rfl (by omega) ⟨fun y hy => by simp at hy; subst hy; exact HMX.out, by simp⟩ (fun _ => ⟨V1.heap.size, 0, rfl, by simp, fun j u hu => by rw [Nat.zero_add]; exact ((St.new 38 V1 (⟨xa, xn⟩ : Rn).cs).cell j).trans (by simpa [flr, Rn.cl, Rn.cs] using hu)⟩)
    have SA := hid (S1.out.kp ((Kp.refl (fun _ => False) _).alloc (.cells #[.int .i64 xa, .int .i64 xn] 38)) (fun h => h))
    clear c0 c1 KV1 S1 S0 HMA
    go_wp2_with fail
    refine HWI.out.mono ?_
    rintro e w2 ⟨v2, rfl, o2, k2⟩
    clear d0 d1 HWI
    obtain ⟨R, hR⟩ : ∃ R, R = L.map c := ⟨_, rfl⟩
    have HR := hid hR
    obtain ⟨W, hW⟩ : ∃ W, W = L.filter (fun b => shr [⟨xa, xn⟩] (c b)) := ⟨_, rfl⟩
    rw [← hW] at o2
    have HW := hid hW
    have HWL : Hid (W.length ≤ 4096) := by show _ ≤ _; rw [hW]; exact Nat.le_trans (List.length_filter_le _ _) HH.out.len
    have HWIN : Hid (∀ b ∈ W, b ∈ L) := fun b hb => by rw [HW.out] at hb; exact (List.mem_filter.1 hb).1
    have HAP : Hid (Ap R) := by have := HH.out.ap; rw [← HR.out] at this; exact this
    obtain ⟨ao2, cap2, rfl, s2, _, _, z2, b2⟩ := o2.src
    have K2 : Hid (Kp (fun _ => False) w w2) := KA.out.trans k2 (fun _ _ h => h)
    have SX : Hid (St 38 w2 P #[.int .i64 xa, .int .i64 xn]) := SA.out.kp k2 (fun h => h)
    have B2 : Hid (∀ b off, ao2 = some ⟨b, off, none⟩ → w.heap.size ≤ b) := fun b off e => Nat.le_trans KA.out.size (b2 b off e).1
    have S2 := hid s2
    have L2 := hid (HH.out.kp0 K2.out)
    obtain ⟨m, hm⟩ : ∃ m, m = W.length := ⟨_, rfl⟩
    have HM := hid hm
    rw [← hm] at HWL ⊢
    have hmL := HWL.out
    clear o2 k2 s2 b2 z2 SA K0 K1 KA hR hW hm
    go_wp2_with fail
    go_loopw [7, 23] (fun o i wr => ∃ k : Nat, i = .int .i64 (k : Int) ∧ k ≤ m ∧ Hid (Ownr wr w2.heap.size o ((W.take k).flatMap (fun b => wow ⟨xa, xn⟩ (c b)))) ∧ Hid (((W.take k).flatMap (fun b => wow ⟨xa, xn⟩ (c b))).length ≤ 2 * k) ∧ Hid (Kp (fun _ => False) w2 wr)) (fun _ i _ => m - (intOf i).toNat)
    case atStart => exact ⟨0, rfl, Nat.zero_le _, Ownr.nil _ _, Nat.le_refl _, Kp.refl _ _⟩
    case round =>
    obtain ⟨k, rfl, hk, HO, HLN, HK⟩ := hrel
    by_cases hlt : k < m
    · have hkW : k < W.length := by have := HM.out; omega
      have hki : (k : Int) < (m : Int) := by omega
      obtain ⟨gb, off, rfl, hgb, hrow⟩ := (S2.out.kp HK.out (fun _ _ _ _ h => h)) (by omega)
      have x0 := hrow k hkW
      have HTK := hid (take_snoc' hkW)
      have hbL := HWIN.out _ (gn_mem hkW)
      obtain ⟨i9, hwt⟩ := L2.out.ln.wt hbL
      have hmb := HH.out.ln.may _ hbL
      generalize W.getD k 0 = b at *
      unfold ptr at x0
      have HWO0 := hid (fun U => without_any U (c b) ⟨xa, xn⟩ hmb HMX.out)
      have HC0 : Hid (∀ U, Kp (fun _ => False) w2 U → U.cell? ⟨b, 0, none⟩ = some (.int .i64 (c b).a) ∧ U.cell? ⟨b, 1, none⟩ = some (.int .i64 (c b).n) ∧ U.cell? ⟨P, 0, none⟩ = some (.int .i64 xa) ∧ U.cell? ⟨P, 1, none⟩ = some (.int .i64 xn)) := fun U hU => ⟨(St.kp hwt hU (fun h => h)).cell 0, (St.kp hwt hU (fun h => h)).cell 1, (SX.out.kp hU (fun h => h)).cell 0, (SX.out.kp hU (fun h => h)).cell 1⟩
      have HNX : Hid ((W.take (k + 1)).flatMap (fun b => wow ⟨xa, xn⟩ (c b)) = (W.take k).flatMap (fun b => wow ⟨xa, xn⟩ (c b)) ++ wow ⟨xa, xn⟩ (c b)) := by show _ = _; rw [HTK.out, List.flatMap_append]; simp
      have HL5 := hid (wow_len ⟨xa, xn⟩ (c b))
      obtain ⟨Y, hY⟩ : ∃ Y, Y = wow ⟨xa, xn⟩ (c b) := ⟨_, rfl⟩
      rw [← hY] at HNX HL5
      have HWO : Hid (∀ U, Calls Try.prog 49 #[.agg #[.int .i64 (c b).a, .int .i64 (c b).n], .agg #[.int .i64 xa, .int .i64 xn]] U fun e w' => ∃ v, e = .returned v ∧ Ownr w' U.heap.size v Y ∧ Kp (fun _ => False) U w') := by rw [hY]; exact HWO0.out
      have HC := HC0
      generalize (c b).a = ba at HC HWO
      generalize (c b).n = bn at HC HWO
      have H0 : Hid (Kp (fun _ => False) w2 wr.drew) := HK.out.drew
      clear hrow hbL hwt hmb HWO0 HC0 hY
      generalize hC10 : Code.region 10 _ _ = C10
      go_wp2_with fail
      subst hC10
      clear x0
      change (Code.region 10 o24r10 true).wp _ _ _ _
      refine wp_region_plan (fun w' => Kp (fun _ => False) w2 w') [] c24r10 p24r10_0 hmix b24r10 d24r10 (fun _ _ d _ _ h => by cases d <;> exact h) ?_
      refine plan_take (o := q24r10_0) (r := p24r10_1) ?vc0 H0.out (by rfl) ?hyc0 ?restc0
      case hyc0 => (intro w hSw; (try dsimp only at hSw); simp only [q24r10_0]; go_simp; try with_reducible rfl)
      try simp only [q24r10_0, Act.put, List.setIfInBounds_toArray, List.set_cons_zero, List.set_cons_succ]
      refine plan_take (o := q24r10_1) (r := p24r10_2) ?vc1 H0.out (by rfl) ?hyc1 ?restc1
      case hyc1 => (intro w hSw; (try dsimp only at hSw); simp only [q24r10_1]; go_simp; try with_reducible rfl)
      try simp only [q24r10_1, Act.put, List.setIfInBounds_toArray, List.set_cons_zero, List.set_cons_succ]
      refine plan_take (o := q24r10_2) (r := p24r10_3) ?vc2 H0.out (by rfl) ?hyc2 ?restc2
      case hyc2 => (intro w hSw; (try dsimp only at hSw); simp only [q24r10_2]; go_simp; try with_reducible rfl)
      try simp only [q24r10_2, Act.put, List.setIfInBounds_toArray, List.set_cons_zero, List.set_cons_succ]
      refine plan_take (o := q24r10_3) (r := p24r10_4) ?vc3 H0.out (by rfl) ?hyc3 ?restc3
      case hyc3 => (intro w hSw; (try dsimp only at hSw); simp only [q24r10_3]; go_simp; try with_reducible rfl)
      try simp only [q24r10_3, Act.put, List.setIfInBounds_toArray, List.set_cons_zero, List.set_cons_succ]
      refine plan_take (o := q24r10_4) (r := p24r10_5) (.agg #[.int .i64 ba, .int .i64 bn]) H0.out (by rfl) ?hyc4 ?restc4
      case hyc4 => (intro w hSw; (try dsimp only at hSw); obtain ⟨y1, y2, _, _⟩ := HC.out _ hSw; simp only [q24r10_4]; go_simp; try with_reducible rfl)
      try simp only [q24r10_4, Act.put, List.setIfInBounds_toArray, List.set_cons_zero, List.set_cons_succ]
      refine plan_take (o := q24r10_5) (r := p24r10_6) (.agg #[.int .i64 xa, .int .i64 xn]) H0.out (by rfl) ?hyc5 ?restc5
      case hyc5 => (intro w hSw; (try dsimp only at hSw); obtain ⟨_, _, y1, y2⟩ := HC.out _ hSw; simp only [q24r10_5]; go_simp; try with_reducible rfl)
      try simp only [q24r10_5, Act.put, List.setIfInBounds_toArray, List.set_cons_zero, List.set_cons_succ]
      refine plan_act (o := q24r10_6) (r := p24r10_7) (fun K hK => ?_)
      simp only [q24r10_6]
      refine ite_pos2 (by rfl) ?_
      go_simp
      refine (HWO.out _).mono ?_
      rintro e w5 ⟨v5, rfl, o5, k5⟩
      obtain ⟨ao5, cap5, rfl, s5, _, _, z5⟩ := o5.src
      have K5 : Hid (Kp (fun _ => False) wr w5) := (Kp.refl (fun _ => False) wr).drew.trans k5 (fun _ _ h => h)
      have S5 := hid s5
      have Z5 := hid z5
      have K25 : Hid (Kp (fun _ => False) w2 w5) := HK.out.trans K5.out (fun _ _ h => h)
      clear s5 z5 o5 k5
      go_wp2_with fail
      refine hK.out _ _ (fun _ => K25.out) ?_
      clear hK K
      try simp only [q24r10_6, Act.put, List.setIfInBounds_toArray, List.set_cons_zero, List.set_cons_succ]
      obtain ⟨v9, w9, rr, o9, k9⟩ := own_appr (ty := 22) (HO.out.kp K5.out (fun _ _ h => h)) rfl Z5.out S5.out (by have := HLN.out; have := HL5.out; omega) K25.out.size
      refine plan_act (o := q24r10_7) (r := p24r10_8) (fun K hK => ?_)
      simp only [q24r10_7]
      refine ite_pos2 (by rfl) ?_
      refine Lib.wp_append_run _ _ _ _ _ rfl _ _ rfl rfl _ _ rr ?_
      have K9 : Hid (Kp (fun _ => False) w2 w9) := K25.out.trans k9 (fun i hi h => by omega)
      have O9 := hid o9
      refine hK.out _ _ (fun _ => K9.out) ?_
      clear hK K rr o9 k9
      try simp only [q24r10_7, Act.put, List.setIfInBounds_toArray, List.set_cons_zero, List.set_cons_succ]
      refine plan_take (o := q24r10_8) (r := p24r10_9) ?vc8 K9.out (by rfl) ?hyc8 ?restc8
      case hyc8 => (intro w hSw; (try dsimp only at hSw); simp only [q24r10_8]; go_simp; try with_reducible rfl)
      try simp only [q24r10_8, Act.put, List.setIfInBounds_toArray, List.set_cons_zero, List.set_cons_succ]
      refine plan_done ?_
      clear HC HWO
      go_wp2_with fail
      go_roundw
      case rel => exact ⟨k + 1, by go_num, hlt, (by rw [HNX.out]; exact O9), (by show _ ≤ _; rw [HNX.out, List.length_append]; have := HLN.out; have := HL5.out; omega), K9⟩
      case measure => simp [intOf]; omega
    · obtain rfl : k = m := by omega
      have hki : ¬ (k : Int) < (k : Int) := by omega
      obtain ⟨F, hF⟩ : ∃ F, F = W.flatMap (fun b => wow ⟨xa, xn⟩ (c b)) := ⟨_, rfl⟩
      rw [List.take_of_length_le (by have := HM.out; omega), ← hF] at HO HLN
      obtain ⟨ao3, cap3, hv3, s3, _, _, _⟩ := HO.out.src
      have HB3 : Hid (∀ b off, ao3 = some ⟨b, off, none⟩ → w2.heap.size ≤ b) := fun b off e => by
        rw [hv3, e] at HO
        rcases HO.out.2 with ⟨e0, _⟩ | ⟨g, cp, cur, e0, hb, _⟩
        · cases e0
        · cases e0; exact hb
      subst hv3
      have KW : Hid (Kp (fun _ => False) w wr) := K2.out.trans HK.out (fun _ _ h => h)
      have HLT : Hid (∀ i, Fp Q B mb me v L i → i < w.heap.size) := fun i hi => HH.out.lt hi
      have HFR : Hid (F = (R.filter (ovb ⟨xa, xn⟩)).flatMap (wow ⟨xa, xn⟩)) := by
        show _ = _
        have h1 : R.filter (ovb ⟨xa, xn⟩) = W.map c := by
          rw [HR.out, map_filter, HW.out]
          congr 1
          exact List.filter_congr (fun b _ => (shr_one _ _).symm)
        rw [hF, h1, List.flatMap_map]
      have HRS : Hid ((rst L W).map c = R.filter (fun y => !ovb ⟨xa, xn⟩ y)) := by
        show _ = _
        have := map_filter (c := c) (L := L) (f := fun y => !ovb ⟨xa, xn⟩ y)
        rw [← HR.out] at this
        rw [this]
        congr 1
        unfold rst
        refine List.filter_congr (fun b hb => ?_)
        congr 1
        rw [Bool.eq_iff_iff, List.contains_iff_mem, HW.out, List.mem_filter, shr_one]
        exact ⟨fun h => h.2, fun h => ⟨hb, h⟩⟩
      have HPM : Hid (((rst L W).map c ++ F).Perm (lss R ⟨xa, xn⟩)) := by
        show List.Perm _ _
        rw [HRS.out, HFR.out]
        exact cut_perm HMX.out HAP.out.1
      obtain ⟨A1, A2⟩ := lss_ap HMX.out HAP.out
      have HA1 := hid A1
      have HA2 := hid A2
      have HAN : Hid (Ap ((rst L W).map c ++ F)) := A1.perm HPM.out.symm
      have TU := hid (turn_any c wr Q B mb me v L W F ao2 ao3 k cap2 _ cap3 (HH.out.kp0 KW.out) HM.out rfl (by have := HLN.out; omega) (by rw [HW.out]; exact HH.out.ln.nodup.filter _) HWIN.out (S2.out.kp HK.out (fun _ _ _ _ h => h)) s3 (fun _ b off e hf => by have := B2.out b off e; have := HLT.out b hf; omega) (fun _ b off e hf => by have := HB3.out b off e; have := HLT.out b hf; have := K2.out.size; omega) HAN.out)
      unfold ptr at TU
      have HSZ : Hid (sz ((rst L W).map c ++ F) = sz (srt R) - ovl (srt R) ⟨xa, xn⟩ ∧ ((rst L W).map c ++ F).length = (lss (srt R) ⟨xa, xn⟩).length ∧ sz (L.map c) = sz (srt R)) := by
        have h1 := (lss_facts HMX.out (srt_can HAP.out).1).2.2
        refine ⟨?_, ?_, ?_⟩
        · rw [sz_perm HPM.out, ← sz_perm (srt_perm (lss R _)), A2, h1]
        · rw [HPM.out.length_eq, ← (srt_perm (lss R _)).length_eq, A2]
        · rw [← HR.out, sz_perm (srt_perm _)]
      clear s3 A1 A2 hF
      go_wp2_with fail
      refine TU.out.mono ?_
      intro e w9 ht
      clear TU
      rcases ht with ⟨h1, rfl, h3⟩ | ⟨h1, rfl, c', v', L', h3, h4⟩
      · have H1 := hid h1
        have H3 := hid h3
        clear h1 h3
        go_wp2_with fail
        go_ret2
        exact .inr (.inl ⟨HMX.out, by have := HSZ.out.2.1; have := H1.out; rw [← HR.out]; omega, by simp, KW.out.trans H3.out (fun _ _ h => h)⟩)
      · have H1 := hid h1
        have H3 := hid h3
        have H4 := hid h4
        obtain ⟨q1, q2, q3⟩ := HSZ.out
        rw [q1, q3, show sz (srt R) - ovl (srt R) ⟨xa, xn⟩ - sz (srt R) = - ovl (srt R) ⟨xa, xn⟩ by omega]
        have hov : 0 ≤ ovl (srt R) ⟨xa, xn⟩ ∧ ovl (srt R) ⟨xa, xn⟩ ≤ 72057594037927936 := by
          have h5 := ap_sz HAN.out
          have h6 := ap_sz (srt_can HAP.out).ap
          rw [q1] at h5
          have h7 := ovl_pos (srt R) ⟨xa, xn⟩
          omega
        clear h1 h3 h4 q1 q2 q3
        generalize hov2 : ovl (srt R) ⟨xa, xn⟩ = ov9 at *
        have HOV := hid hov2
        clear hov2
        go_wp2_with fail
        go_ret2
        refine .inr (.inr ⟨HMX.out, by have := HSZ.out.2.1; have := H1.out; rw [← HR.out]; omega, ?_, c', v', L', ⟨H3.out.lc, (KW.out.mono (fun _ _ h => h.elim)).trans H3.out.kp (fun _ _ h => h), fun k hk => ?_⟩, ?_⟩)
        · rw [← HR.out, HOV.out]; simp
        · rcases H3.out.fp k hk with h | h
          · exact .inl h
          · exact .inr (Nat.le_trans KW.out.size h)
        · rw [srt_of_perm (HAN.out.perm H4.out.symm) (H4.out.trans HPM.out), HA2.out, HR.out]
end Go.Proofs.Ytgfondgejimkkaa
