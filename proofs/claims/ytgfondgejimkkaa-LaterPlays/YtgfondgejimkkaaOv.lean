/- later: Over. -/
import Derived.Test.YtgfondgejimkkaaCt
namespace Go.Proofs.Ytgfondgejimkkaa
open Go.RowKit
set_option linter.unusedVariables false
set_option linter.unusedSimpArgs false
theorem ovl_perm {A B : List Rn} {x : Rn} (h : A.Perm B) : ovl A x = ovl B x := by
  induction h with
  | nil => rfl
  | cons y _ ih => rw [ovl_cons, ovl_cons, ih]
  | swap y z l => rw [ovl_cons, ovl_cons, ovl_cons, ovl_cons]; omega
  | trans _ _ h1 h2 => rw [h1, h2]
theorem ovl_append (A B : List Rn) (x : Rn) : ovl (A ++ B) x = ovl A x + ovl B x := by
  induction A with
  | nil => simp [ovl]
  | cons y A ih => rw [List.cons_append, ovl_cons, ovl_cons, ih]; omega
theorem ov_in {x y : Rn} (h : ovb x y = true) : ov x y = min x.e y.e - max x.a y.a ∨ ¬ (Mayr x ∧ Mayr y) := by
  by_cases hm : Mayr x ∧ Mayr y
  · left
    have h1 := hm.1.lt
    have h2 := hm.2.lt
    unfold ovb at h
    simp only [Bool.and_eq_true, decide_eq_true_eq] at h
    unfold ov
    omega
  · exact .inr hm
theorem ov_out {x y : Rn} (h : ovb x y = false) : ov x y = 0 := by
  unfold ovb at h
  simp only [Bool.and_eq_false_iff, decide_eq_false_iff_not] at h
  unfold ov
  omega
theorem ovl_filter (R : List Rn) (x : Rn) : ovl (R.filter (ovb x)) x = ovl R x := by
  induction R with
  | nil => rfl
  | cons y R ih =>
    rw [List.filter_cons, ovl_cons]
    split
    · rw [ovl_cons, ih]
    · rename_i h
      rw [ih, ov_out (by simpa using h)]
      omega
theorem ovl_le {R : List Rn} {x : Rn} (hx : Mayr x) (h : Ap R) : 0 ≤ ovl R x ∧ ovl R x ≤ 72057594037927936 := by
  have h1 := (lss_facts hx h.1).2.2
  have h2 := ap_sz (lss_ap hx h).1
  have h3 := ap_sz h
  have := ovl_pos R x
  omega
/-- What Over tells. -/
def OvR (w : World) (R : List Rn) (x : Rn) (e : Ending) (w' : World) : Prop :=
  Kp (fun _ => False) w w' ∧ ((¬ Mayr x ∧ e = .returned (.tuple #[.int .i64 0, .int .i64 2])) ∨ (Mayr x ∧ e = .returned (.tuple #[.int .i64 (ovl R x), .int .i64 0])))
def q23r9_0 : Oper := { dst := some 23, op := Go.Op.move (Go.Operand.tmp 6), type := 2, pos := "later.go:115", after := #[], guard := none }
def q23r9_1 : Oper := { dst := some 24, op := Go.Op.move (Go.Operand.tmp 8), type := 74, pos := "later.go:115", after := #[], guard := none }
def q23r9_2 : Oper := { dst := some 25, op := Go.Op.nilCheck (Go.Operand.tmp 24), type := 0, pos := "later.go:115", after := #[{ on := 1, ground := Go.Ground.data }], guard := none }
def q23r9_3 : Oper := { dst := some 26, op := Go.Op.fieldAddr 77 (Go.Operand.tmp 25) 0, type := 0, pos := "later.go:115", after := #[{ on := 2, ground := Go.Ground.data }], guard := none }
def q23r9_4 : Oper := { dst := some 27, op := Go.Op.load 38 (Go.Operand.tmp 26), type := 38, pos := "later.go:115", after := #[{ on := 3, ground := Go.Ground.data }], guard := none }
def q23r9_5 : Oper := { dst := some 28, op := Go.Op.call { callee := Go.Callee.value (Go.Operand.func 48), args := #[Go.Operand.tmp 27], argTypes := #[38] }, type := 2, pos := "later.go:115", after := #[{ on := 4, ground := Go.Ground.data }], guard := none }
def q23r9_6 : Oper := { dst := some 29, op := Go.Op.load 38 (Go.Operand.tmp 3), type := 38, pos := "later.go:115", after := #[], guard := none }
def q23r9_7 : Oper := { dst := some 30, op := Go.Op.call { callee := Go.Callee.value (Go.Operand.func 48), args := #[Go.Operand.tmp 29], argTypes := #[38] }, type := 2, pos := "later.go:115", after := #[{ on := 6, ground := Go.Ground.data }, { on := 5, ground := Go.Ground.chain }], guard := none }
def q23r9_8 : Oper := { dst := some 31, op := Go.Op.call { callee := Go.Callee.builtin Go.Builtin.min, args := #[Go.Operand.tmp 28, Go.Operand.tmp 30], argTypes := #[2, 2] }, type := 2, pos := "later.go:115", after := #[{ on := 5, ground := Go.Ground.data }, { on := 7, ground := Go.Ground.data }], guard := none }
def q23r9_9 : Oper := { dst := some 32, op := Go.Op.move (Go.Operand.tmp 8), type := 74, pos := "later.go:115", after := #[], guard := none }
def q23r9_10 : Oper := { dst := some 33, op := Go.Op.nilCheck (Go.Operand.tmp 32), type := 0, pos := "later.go:115", after := #[{ on := 9, ground := Go.Ground.data }], guard := none }
def q23r9_11 : Oper := { dst := some 34, op := Go.Op.fieldAddr 77 (Go.Operand.tmp 33) 0, type := 0, pos := "later.go:115", after := #[{ on := 10, ground := Go.Ground.data }], guard := none }
def q23r9_12 : Oper := { dst := some 35, op := Go.Op.fieldAddr 38 (Go.Operand.tmp 34) 0, type := 0, pos := "later.go:115", after := #[{ on := 11, ground := Go.Ground.data }], guard := none }
def q23r9_13 : Oper := { dst := some 36, op := Go.Op.load 2 (Go.Operand.tmp 35), type := 2, pos := "later.go:115", after := #[{ on := 12, ground := Go.Ground.data }], guard := none }
def q23r9_14 : Oper := { dst := some 37, op := Go.Op.fieldAddr 38 (Go.Operand.tmp 3) 0, type := 0, pos := "later.go:115", after := #[], guard := none }
def q23r9_15 : Oper := { dst := some 38, op := Go.Op.load 2 (Go.Operand.tmp 37), type := 2, pos := "later.go:115", after := #[{ on := 14, ground := Go.Ground.data }], guard := none }
def q23r9_16 : Oper := { dst := some 39, op := Go.Op.call { callee := Go.Callee.builtin Go.Builtin.max, args := #[Go.Operand.tmp 36, Go.Operand.tmp 38], argTypes := #[2, 2] }, type := 2, pos := "later.go:115", after := #[{ on := 13, ground := Go.Ground.data }, { on := 15, ground := Go.Ground.data }], guard := none }
def q23r9_17 : Oper := { dst := some 40, op := Go.Op.binOp Go.BinOp.sub 2 (Go.Operand.tmp 31) (Go.Operand.tmp 39) 2, type := 2, pos := "later.go:115", after := #[{ on := 8, ground := Go.Ground.data }, { on := 16, ground := Go.Ground.data }], guard := none }
def q23r9_18 : Oper := { dst := some 41, op := Go.Op.binOp Go.BinOp.add 2 (Go.Operand.tmp 23) (Go.Operand.tmp 40) 2, type := 2, pos := "later.go:115", after := #[{ on := 0, ground := Go.Ground.data }, { on := 17, ground := Go.Ground.data }], guard := none }
def q23r9_19 : Oper := { dst := some 6, op := Go.Op.assign (Go.Operand.tmp 41), type := 2, pos := "later.go:115", after := #[{ on := 18, ground := Go.Ground.data }, { on := 7, ground := Go.Ground.chain }, { on := 0, ground := Go.Ground.phase }, { on := 1, ground := Go.Ground.phase }, { on := 2, ground := Go.Ground.phase }, { on := 3, ground := Go.Ground.phase }, { on := 4, ground := Go.Ground.phase }, { on := 5, ground := Go.Ground.phase }, { on := 6, ground := Go.Ground.phase }, { on := 7, ground := Go.Ground.phase }, { on := 8, ground := Go.Ground.phase }, { on := 9, ground := Go.Ground.phase }, { on := 10, ground := Go.Ground.phase }, { on := 11, ground := Go.Ground.phase }, { on := 12, ground := Go.Ground.phase }, { on := 13, ground := Go.Ground.phase }, { on := 14, ground := Go.Ground.phase }, { on := 15, ground := Go.Ground.phase }, { on := 16, ground := Go.Ground.phase }, { on := 17, ground := Go.Ground.phase }, { on := 18, ground := Go.Ground.phase }], guard := none }
def o23r9 : Array Oper := #[q23r9_0, q23r9_1, q23r9_2, q23r9_3, q23r9_4, q23r9_5, q23r9_6, q23r9_7, q23r9_8, q23r9_9, q23r9_10, q23r9_11, q23r9_12, q23r9_13, q23r9_14, q23r9_15, q23r9_16, q23r9_17, q23r9_18, q23r9_19]
def p23r9_20 : List (Nat × Oper) := []
def p23r9_19 : List (Nat × Oper) := (0, q23r9_19) :: p23r9_20
def p23r9_18 : List (Nat × Oper) := (0, q23r9_18) :: p23r9_19
def p23r9_17 : List (Nat × Oper) := (0, q23r9_17) :: p23r9_18
def p23r9_16 : List (Nat × Oper) := (0, q23r9_8) :: p23r9_17
def p23r9_15 : List (Nat × Oper) := (1, q23r9_7) :: p23r9_16
def p23r9_14 : List (Nat × Oper) := (1, q23r9_5) :: p23r9_15
def p23r9_13 : List (Nat × Oper) := (0, q23r9_16) :: p23r9_14
def p23r9_12 : List (Nat × Oper) := (0, q23r9_15) :: p23r9_13
def p23r9_11 : List (Nat × Oper) := (0, q23r9_14) :: p23r9_12
def p23r9_10 : List (Nat × Oper) := (0, q23r9_13) :: p23r9_11
def p23r9_9 : List (Nat × Oper) := (0, q23r9_12) :: p23r9_10
def p23r9_8 : List (Nat × Oper) := (0, q23r9_11) :: p23r9_9
def p23r9_7 : List (Nat × Oper) := (0, q23r9_10) :: p23r9_8
def p23r9_6 : List (Nat × Oper) := (0, q23r9_9) :: p23r9_7
def p23r9_5 : List (Nat × Oper) := (0, q23r9_6) :: p23r9_6
def p23r9_4 : List (Nat × Oper) := (0, q23r9_4) :: p23r9_5
def p23r9_3 : List (Nat × Oper) := (0, q23r9_3) :: p23r9_4
def p23r9_2 : List (Nat × Oper) := (0, q23r9_2) :: p23r9_3
def p23r9_1 : List (Nat × Oper) := (0, q23r9_1) :: p23r9_2
def p23r9_0 : List (Nat × Oper) := (0, q23r9_0) :: p23r9_1
def c23r9 : List (Nat × Nat) := [(0, 0), (0, 1), (0, 2), (0, 3), (0, 4), (0, 6), (0, 9), (0, 10), (0, 11), (0, 12), (0, 13), (0, 14), (0, 15), (0, 16), (1, 5), (1, 7), (0, 8), (0, 17), (0, 18), (0, 19)]
theorem b23r9 : (Region.noSelect o23r9 && (c23r9.length == o23r9.size) && planB o23r9 [] c23r9 (Array.replicate o23r9.size false)) = true := by kernel_rfl
theorem d23r9 : (c23r9.map fun p => (p.1, o23r9[p.2]?)) = (p23r9_0.map fun p => (p.1, some p.2)) := by kernel_rfl
set_option maxRecDepth 100000 in
set_option maxHeartbeats 16000000 in
theorem over_any (c : Nat → Rn) (w : World) (Q B mb me : Nat) (v : Value) (L : List Nat) (h : Lc c w Q B mb me v L) (x : Rn) (hx : x.i6) :
    Calls Try.prog 23 #[ptr Q, .agg x.cs] w (OvR w (srt (L.map c)) x) := by
  have HH := hid h
  have HNO : Hid (∀ U, Kp (fun _ => False) w U → Calls Try.prog 32 #[.pointer (some ⟨Q, 0, none⟩)] U fun e w' => e = .returned (.bool false) ∧ U = w') := fun U hU => none_yes Q B _ _ _ U (h.st.kp hU (fun h => h))
  have HMA := hid (fun U => may_any x U hx)
  obtain ⟨bl, hbl⟩ : ∃ bl, mayb x = bl := ⟨_, rfl⟩
  rw [hbl] at HMA
  have HBL := hid hbl
  have s0 := St.new 38 w x.cs
  have k0 : Kp (fun _ => False) w (w.alloc (.cells x.cs 38)) := (Kp.refl _ _).alloc _
  obtain ⟨xa, xn⟩ := x
  unfold Rn.cs at *
  dsimp only at *
  clear h hbl hx
  unfold ptr
  go_enter Try.func23, Try.ntmps23
  generalize hC5 : Code.region 6 _ _ = C5
  go_wp2_with fail
  generalize (w.alloc (.cells #[.int .i64 xa, .int .i64 xn] 38)) = V at *
  refine (HNO.out V k0).mono ?_
  rintro e V0 ⟨rfl, rfl⟩
  obtain ⟨P, hP⟩ : ∃ P, P = w.heap.size := ⟨_, rfl⟩
  rw [← hP] at s0 ⊢
  have c0 : V.cell? ⟨P, 0, none⟩ = some (.int .i64 xa) := s0.cell 0
  have c1 : V.cell? ⟨P, 1, none⟩ = some (.int .i64 xn) := s0.cell 1
  have K0 := hid k0
  have S0 := hid s0
  have HPw := hid hP
  clear k0 s0 HNO hP
  cases bl with
  | false =>
    go_wp2_with (go_at_call 44; refine (HMA.out _).mono ?_; rintro e V1 ⟨rfl, b1⟩; have K1 : Hid (Kp (fun _ => False) w V1) := K0.out.trans (Kp.of_below (F := fun _ => False) b1) (fun _ _ h => h); clear b1)
    go_ret2
    exact ⟨K1.out, .inl ⟨mayb_false HBL.out, rfl⟩⟩
  | true =>
    have HMX : Hid (Mayr ⟨xa, xn⟩) := (mayb_iff _).1 HBL.out
    go_wp2_with (go_at_call 44; refine (HMA.out _).mono ?_; rintro e V1 ⟨rfl, b1⟩; have KV1 : Hid (Kp (fun _ => False) V V1) := Kp.of_below (F := fun _ => False) b1; clear b1)
    subst hC5
    have K1 : Hid (Kp (fun _ => False) w V1) := K0.out.trans KV1.out (fun _ _ h => h)
    have S1 := hid (S0.out.kp KV1.out (fun h => h))
    have d0 : V1.cell? ⟨P, 0, none⟩ = some (.int .i64 xa) := S1.out.cell 0
    have d1 : V1.cell? ⟨P, 1, none⟩ = some (.int .i64 xn) := S1.out.cell 1
    have KA : Hid (Kp (fun _ => False) w (V1.alloc (.cells #[.int .i64 xa, .int .i64 xn] 38))) := K1.out.alloc _
    have HWI : Hid (Calls Try.prog 45 #[.pointer (some ⟨Q, 0, none⟩), .slice (some ⟨V1.heap.size, 0, none⟩) 1 1] (V1.alloc (.cells #[.int .i64 xa, .int .i64 xn] 38)) fun e w' => ∃ v', e = .returned v' ∧ Ownp w' (V1.alloc (.cells #[.int .i64 xa, .int .i64 xn] 38)).heap.size v' (L.filter (fun b => shr [⟨xa, xn⟩] (c b))) ∧ Kp (fun _ => False) (V1.alloc (.cells #[.int .i64 xa, .int .i64 xn] 38)) w') := within_any c _ Q B mb me v L (HH.out.kp0 KA.out) (some ⟨V1.heap.size, 0, none⟩) 1 1 [⟨xa, xn⟩] rfl (by omega) ⟨fun y hy => by simp at hy; subst hy; exact HMX.out, by simp⟩ (fun _ => ⟨V1.heap.size, 0, rfl, by simp, fun j u hu => by rw [Nat.zero_add]; exact ((St.new 38 V1 (⟨xa, xn⟩ : Rn).cs).cell j).trans (by simpa [flr, Rn.cl, Rn.cs] using hu)⟩)
    have SA := hid (S1.out.kp ((Kp.refl (fun _ => False) _).alloc (.cells #[.int .i64 xa, .int .i64 xn] 38)) (fun h => h))
    clear c0 c1 KV1 S1 S0 HMA
    go_wp2_with fail
    refine HWI.out.mono ?_
    rintro e w2 ⟨v2, rfl, o2, k2⟩
    clear d0 d1 HWI
    obtain ⟨R, hR⟩ : ∃ R, R = L.map c := ⟨_, rfl⟩
    have HR := hid hR
    obtain ⟨W, hW⟩ : ∃ W, W = L.filter (fun b => shr [⟨xa, xn⟩] (c b)) := ⟨_, rfl⟩
    rw [← hW] at o2
    have HW := hid hW
    have HWL : Hid (W.length ≤ 4096) := by show _ ≤ _; rw [hW]; exact Nat.le_trans (List.length_filter_le _ _) HH.out.len
    have HWIN : Hid (∀ b ∈ W, b ∈ L) := fun b hb => by rw [HW.out] at hb; exact (List.mem_filter.1 hb).1
    have HAP : Hid (Ap R) := by have := HH.out.ap; rw [← HR.out] at this; exact this
    obtain ⟨ao2, cap2, rfl, s2, _, _, z2, b2⟩ := o2.src
    have K2 : Hid (Kp (fun _ => False) w w2) := KA.out.trans k2 (fun _ _ h => h)
    have SX : Hid (St 38 w2 P #[.int .i64 xa, .int .i64 xn]) := SA.out.kp k2 (fun h => h)
    have B2 : Hid (∀ b off, ao2 = some ⟨b, off, none⟩ → w.heap.size ≤ b) := fun b off e => Nat.le_trans KA.out.size (b2 b off e).1
    have S2 := hid s2
    have L2 := hid (HH.out.kp0 K2.out)
    obtain ⟨m, hm⟩ : ∃ m, m = W.length := ⟨_, rfl⟩
    have HM := hid hm
    rw [← hm] at HWL ⊢
    have hmL := HWL.out
    clear o2 k2 s2 b2 z2 SA K0 K1 KA hR hW hm
    have HWR : Hid (W.map c = R.filter (ovb ⟨xa, xn⟩)) := by
      show _ = _
      rw [HR.out, map_filter, HW.out]
      congr 1
      exact List.filter_congr (fun b _ => shr_one _ _)
    have HAW : Hid (∀ k, Ap ((W.take k).map c)) := fun k => HAP.out.sub (by
      have h1 : ((W.take k).map c).Sublist (W.map c) := (List.take_sublist k W).map c
      rw [HWR.out] at h1
      exact h1.trans List.filter_sublist)
    have HEX : Hid (∀ U, Calls Try.prog 48 #[.agg #[.int .i64 xa, .int .i64 xn]] U fun e w' => e = .returned (.int .i64 (⟨xa, xn⟩ : Rn).e) ∧ Below U.heap.size U w') := fun U => end_any ⟨xa, xn⟩ U HMX.out
    go_wp2_with fail
    go_loopw [6, 19] (fun o i wr => ∃ k : Nat, i = .int .i64 (k : Int) ∧ o = .int .i64 (ovl ((W.take k).map c) ⟨xa, xn⟩) ∧ k ≤ m ∧ Hid (Kp (fun _ => False) w2 wr)) (fun _ i _ => m - (intOf i).toNat)
    case atStart => exact ⟨0, rfl, rfl, Nat.zero_le _, Kp.refl _ _⟩
    case round =>
    obtain ⟨k, rfl, rfl, hk, HK⟩ := hrel
    by_cases hlt : k < m
    · have hkW : k < W.length := by have := HM.out; omega
      have hki : (k : Int) < (m : Int) := by omega
      obtain ⟨gb, off, rfl, hgb, hrow⟩ := (S2.out.kp HK.out (fun _ _ _ _ h => h)) (by omega)
      have x0 := hrow k hkW
      have htk := take_snoc' hkW
      have hbW := gn_mem hkW
      have hbL := HWIN.out _ hbW
      obtain ⟨i9, hwt⟩ := L2.out.ln.wt hbL
      have hmb := HH.out.ln.may _ hbL
      have hle := ovl_le HMX.out (HAW.out k)
      have hle2 := ovl_le HMX.out (HAW.out (k + 1))
      have hsh : ovb ⟨xa, xn⟩ (c (W.getD k 0)) = true := by
        rw [← shr_one]
        have := hbW
        generalize W.getD k 0 = b at this ⊢
        rw [HW.out] at this
        exact (List.mem_filter.1 this).2
      generalize W.getD k 0 = b at *
      unfold ptr at x0
      have hst : ovl ((W.take (k + 1)).map c) ⟨xa, xn⟩ = ovl ((W.take k).map c) ⟨xa, xn⟩ + ov ⟨xa, xn⟩ (c b) := by
        rw [htk, List.map_append, ovl_append]
        simp [ovl]
      have hov : ov ⟨xa, xn⟩ (c b) = min (⟨xa, xn⟩ : Rn).e (c b).e - max xa (c b).a := by
        rcases ov_in hsh with h | h
        · exact h
        · exact absurd ⟨HMX.out, hmb⟩ h
      have HEB : Hid (∀ U, Calls Try.prog 48 #[.agg #[.int .i64 (c b).a, .int .i64 (c b).n]] U fun e w' => e = .returned (.int .i64 (c b).e) ∧ Below U.heap.size U w') := fun U => end_any (c b) U hmb
      have HC : Hid (∀ U, Kp (fun _ => False) w2 U → U.cell? ⟨b, 0, none⟩ = some (.int .i64 (c b).a) ∧ U.cell? ⟨b, 1, none⟩ = some (.int .i64 (c b).n) ∧ U.cell? ⟨P, 0, none⟩ = some (.int .i64 xa) ∧ U.cell? ⟨P, 1, none⟩ = some (.int .i64 xn)) := fun U hU => ⟨(St.kp hwt hU (fun h => h)).cell 0, (St.kp hwt hU (fun h => h)).cell 1, (SX.out.kp hU (fun h => h)).cell 0, (SX.out.kp hU (fun h => h)).cell 1⟩
      obtain ⟨ov1, ho1⟩ : ∃ o, o = ov ⟨xa, xn⟩ (c b) := ⟨_, rfl⟩
      rw [← ho1] at hst hov
      rw [hst] at hle2
      have hmx := HMX.out
      unfold Mayr at hmb hmx
      have HST := hid hst
      generalize ovl ((W.take k).map c) ⟨xa, xn⟩ = s at *
      generalize (c b).a = ba at *
      generalize (c b).n = bn at *
      generalize (c b).e = be at *
      dsimp only at hmx
      generalize (⟨xa, xn⟩ : Rn).e = xe at *
      have HO1 : Hid (IntKind.i64.wrap (min be xe - max ba xa) = ov1) := by show _ = _; rw [IntKind.wrap_i64]; omega
      have HO2 : Hid (IntKind.i64.wrap (s + ov1) = s + ov1) := by show _ = _; rw [IntKind.wrap_i64]; omega
      have H0 : Hid (Kp (fun _ => False) w2 wr.drew) := HK.out.drew
      clear hrow hbL hbW hwt hmb hmx hle hle2 hst hov ho1 htk hsh
      generalize hC9 : Code.region 9 _ _ = C9
      go_wp2_with fail
      subst hC9
      clear x0
      change (Code.region 9 o23r9 true).wp _ _ _ _
      refine wp_region_plan (fun w' => Kp (fun _ => False) w2 w') [] c23r9 p23r9_0 hmix b23r9 d23r9 (fun _ _ d _ _ h => by cases d <;> exact h) ?_
      refine plan_take (o := q23r9_0) (r := p23r9_1) ?vo0 H0.out (by rfl) ?hyo0 ?resto0
      case hyo0 => (intro w hSw; (try dsimp only at hSw); simp only [q23r9_0]; go_simp; try with_reducible rfl)
      try simp only [q23r9_0, Act.put, List.setIfInBounds_toArray, List.set_cons_zero, List.set_cons_succ]
      refine plan_take (o := q23r9_1) (r := p23r9_2) ?vo1 H0.out (by rfl) ?hyo1 ?resto1
      case hyo1 => (intro w hSw; (try dsimp only at hSw); simp only [q23r9_1]; go_simp; try with_reducible rfl)
      try simp only [q23r9_1, Act.put, List.setIfInBounds_toArray, List.set_cons_zero, List.set_cons_succ]
      refine plan_take (o := q23r9_2) (r := p23r9_3) ?vo2 H0.out (by rfl) ?hyo2 ?resto2
      case hyo2 => (intro w hSw; (try dsimp only at hSw); simp only [q23r9_2]; go_simp; try with_reducible rfl)
      try simp only [q23r9_2, Act.put, List.setIfInBounds_toArray, List.set_cons_zero, List.set_cons_succ]
      refine plan_take (o := q23r9_3) (r := p23r9_4) ?vo3 H0.out (by rfl) ?hyo3 ?resto3
      case hyo3 => (intro w hSw; (try dsimp only at hSw); simp only [q23r9_3]; go_simp; try with_reducible rfl)
      try simp only [q23r9_3, Act.put, List.setIfInBounds_toArray, List.set_cons_zero, List.set_cons_succ]
      refine plan_take (o := q23r9_4) (r := p23r9_5) (.agg #[.int .i64 ba, .int .i64 bn]) H0.out (by rfl) ?hyo4 ?resto4
      case hyo4 => (intro w hSw; (try dsimp only at hSw); obtain ⟨y1, y2, _, _⟩ := HC.out _ hSw; simp only [q23r9_4]; go_simp; try with_reducible rfl)
      try simp only [q23r9_4, Act.put, List.setIfInBounds_toArray, List.set_cons_zero, List.set_cons_succ]
      refine plan_take (o := q23r9_6) (r := p23r9_6) (.agg #[.int .i64 xa, .int .i64 xn]) H0.out (by rfl) ?hyo6 ?resto6
      case hyo6 => (intro w hSw; (try dsimp only at hSw); obtain ⟨_, _, y1, y2⟩ := HC.out _ hSw; simp only [q23r9_6]; go_simp; try with_reducible rfl)
      try simp only [q23r9_6, Act.put, List.setIfInBounds_toArray, List.set_cons_zero, List.set_cons_succ]
      refine plan_take (o := q23r9_9) (r := p23r9_7) ?vo9 H0.out (by rfl) ?hyo9 ?resto9
      case hyo9 => (intro w hSw; (try dsimp only at hSw); simp only [q23r9_9]; go_simp; try with_reducible rfl)
      try simp only [q23r9_9, Act.put, List.setIfInBounds_toArray, List.set_cons_zero, List.set_cons_succ]
      refine plan_take (o := q23r9_10) (r := p23r9_8) ?vo10 H0.out (by rfl) ?hyo10 ?resto10
      case hyo10 => (intro w hSw; (try dsimp only at hSw); simp only [q23r9_10]; go_simp; try with_reducible rfl)
      try simp only [q23r9_10, Act.put, List.setIfInBounds_toArray, List.set_cons_zero, List.set_cons_succ]
      refine plan_take (o := q23r9_11) (r := p23r9_9) ?vo11 H0.out (by rfl) ?hyo11 ?resto11
      case hyo11 => (intro w hSw; (try dsimp only at hSw); simp only [q23r9_11]; go_simp; try with_reducible rfl)
      try simp only [q23r9_11, Act.put, List.setIfInBounds_toArray, List.set_cons_zero, List.set_cons_succ]
      refine plan_take (o := q23r9_12) (r := p23r9_10) ?vo12 H0.out (by rfl) ?hyo12 ?resto12
      case hyo12 => (intro w hSw; (try dsimp only at hSw); simp only [q23r9_12]; go_simp; try with_reducible rfl)
      try simp only [q23r9_12, Act.put, List.setIfInBounds_toArray, List.set_cons_zero, List.set_cons_succ]
      refine plan_take (o := q23r9_13) (r := p23r9_11) ?vo13 H0.out (by rfl) ?hyo13 ?resto13
      case hyo13 => (intro w hSw; (try dsimp only at hSw); obtain ⟨y1, y2, _, _⟩ := HC.out _ hSw; simp only [q23r9_13]; go_simp; try with_reducible rfl)
      try simp only [q23r9_13, Act.put, List.setIfInBounds_toArray, List.set_cons_zero, List.set_cons_succ]
      refine plan_take (o := q23r9_14) (r := p23r9_12) ?vo14 H0.out (by rfl) ?hyo14 ?resto14
      case hyo14 => (intro w hSw; (try dsimp only at hSw); simp only [q23r9_14]; go_simp; try with_reducible rfl)
      try simp only [q23r9_14, Act.put, List.setIfInBounds_toArray, List.set_cons_zero, List.set_cons_succ]
      refine plan_take (o := q23r9_15) (r := p23r9_13) ?vo15 H0.out (by rfl) ?hyo15 ?resto15
      case hyo15 => (intro w hSw; (try dsimp only at hSw); obtain ⟨_, _, y1, y2⟩ := HC.out _ hSw; simp only [q23r9_15]; go_simp; try with_reducible rfl)
      try simp only [q23r9_15, Act.put, List.setIfInBounds_toArray, List.set_cons_zero, List.set_cons_succ]
      refine plan_take (o := q23r9_16) (r := p23r9_14) ?vo16 H0.out (by rfl) ?hyo16 ?resto16
      case hyo16 => (intro w hSw; (try dsimp only at hSw); simp only [q23r9_16]; go_simp; try with_reducible rfl)
      try simp only [q23r9_16, Act.put, List.setIfInBounds_toArray, List.set_cons_zero, List.set_cons_succ]
      refine plan_act (o := q23r9_5) (r := p23r9_15) (fun K hK => ?_)
      simp only [q23r9_5]
      refine ite_pos2 (by rfl) ?_
      go_simp
      refine (HEB.out _).mono ?_
      rintro e w3 ⟨rfl, b3⟩
      have K3 : Hid (Kp (fun _ => False) w2 w3) := H0.out.trans (Kp.of_below (F := fun _ => False) b3) (fun _ _ h => h)
      clear b3
      go_wp2_with fail
      refine hK.out _ _ (fun _ => K3.out) ?_
      clear hK K
      try simp only [q23r9_5, Act.put, List.setIfInBounds_toArray, List.set_cons_zero, List.set_cons_succ]
      refine plan_act (o := q23r9_7) (r := p23r9_16) (fun K hK => ?_)
      simp only [q23r9_7]
      refine ite_pos2 (by rfl) ?_
      go_simp
      refine (HEX.out _).mono ?_
      rintro e w4 ⟨rfl, b3⟩
      have K4 : Hid (Kp (fun _ => False) w2 w4) := K3.out.trans (Kp.of_below (F := fun _ => False) b3) (fun _ _ h => h)
      clear b3
      go_wp2_with fail
      refine hK.out _ _ (fun _ => K4.out) ?_
      clear hK K
      try simp only [q23r9_7, Act.put, List.setIfInBounds_toArray, List.set_cons_zero, List.set_cons_succ]
      refine plan_take (o := q23r9_8) (r := p23r9_17) ?vo8 K4.out (by rfl) ?hyo8 ?resto8
      case hyo8 => (intro w hSw; (try dsimp only at hSw); simp only [q23r9_8]; go_simp; try with_reducible rfl)
      try simp only [q23r9_8, Act.put, List.setIfInBounds_toArray, List.set_cons_zero, List.set_cons_succ]
      refine plan_take (o := q23r9_17) (r := p23r9_18) (.int .i64 ov1) K4.out (by rfl) ?hyo17 ?resto17
      case hyo17 => (intro w hSw; simp only [q23r9_17]; go_simp; exact HO1.out)
      try simp only [q23r9_17, Act.put, List.setIfInBounds_toArray, List.set_cons_zero, List.set_cons_succ]
      refine plan_take (o := q23r9_18) (r := p23r9_19) (.int .i64 (s + ov1)) K4.out (by rfl) ?hyo18 ?resto18
      case hyo18 => (intro w hSw; simp only [q23r9_18]; go_simp; exact HO2.out)
      try simp only [q23r9_18, Act.put, List.setIfInBounds_toArray, List.set_cons_zero, List.set_cons_succ]
      refine plan_take (o := q23r9_19) (r := p23r9_20) ?vo19 K4.out (by rfl) ?hyo19 ?resto19
      case hyo19 => (intro w hSw; (try dsimp only at hSw); simp only [q23r9_19]; go_simp; try with_reducible rfl)
      try simp only [q23r9_19, Act.put, List.setIfInBounds_toArray, List.set_cons_zero, List.set_cons_succ]
      refine plan_done ?_
      clear HC HEB
      go_wp2_with fail
      go_roundw
      case rel => exact ⟨k + 1, by go_num, by rw [HST.out], hlt, K4⟩
      case measure => simp [intOf]; omega
    · obtain rfl : k = m := by omega
      have hki : ¬ (k : Int) < (k : Int) := by omega
      have KW : Hid (Kp (fun _ => False) w wr) := K2.out.trans HK.out (fun _ _ h => h)
      have HFI : Hid (ovl ((W.take k).map c) ⟨xa, xn⟩ = ovl (srt (L.map c)) ⟨xa, xn⟩) := by
        show _ = _
        rw [List.take_of_length_le (by have := HM.out; omega), HWR.out, ovl_filter, HR.out, ovl_perm (srt_perm _)]
      rw [HFI.out]
      go_wp2_with fail
      go_ret2
      exact ⟨KW.out, .inr ⟨HMX.out, rfl⟩⟩
end Go.Proofs.Ytgfondgejimkkaa
