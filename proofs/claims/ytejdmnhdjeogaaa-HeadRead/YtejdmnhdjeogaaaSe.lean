/- head: the sector of a head. -/
import Derived.Test.YtejdmnhdjeogaaaFl
import Derived.OwnWalk
namespace Go.Proofs.Ytejdmnhdjeogaaa
open Go.RowKit
set_option linter.unusedVariables false
theorem made_cells (n : Nat) : madeCells #[.int .u8 0] n = ((List.replicate n (0 : Int)).map (Value.int .u8)).toArray := by
  apply Array.ext'
  apply List.ext_getElem?
  intro i
  by_cases hi : i < n
  · simp [madeCells, hi, Nat.mod_one]
  · simp [madeCells, hi]
theorem wpList_make_rw {P : Program} {w : World} {ops : Array Oper} {rest : List Oper} {o : Oper} {a : Act} {Q : Exit → Act → World → Prop} (T ε : TypeId) (bytes : Nat) (hT : P.underlying T = some (.slice ε)) (hinfo : (P.info? ε).map (fun i => (i.zero, i.size, i.bytes)) = some (some (.int .u8 0), 1, bytes)) (hb8 : bytes ≤ 8) (hgd : o.guard = none) (l c : Operand) (ho : o.op = Op.makeSlice T l c)
    (n : Nat) (hl : a.eval l = .int .i64 n) (hc : a.eval c = .int .i64 n) (hn : n ≤ 17592186044416)
    (h : ∀ w', Rw ε w' w.heap.size (List.replicate n 0) → Below w.heap.size w w' → wpList P ops Q rest (a.put o.dst (.slice (some ⟨w.heap.size, 0, none⟩) n n)) w') : wpList P ops Q (o :: rest) a w := by
  obtain ⟨i0, hi, hz0, hz1, hz2⟩ := info_parts hinfo
  refine wpList_plain hgd fun K hK => ?_
  have hmul : bytes * n ≤ 140737488355328 := by
    have : bytes * n ≤ 8 * 17592186044416 := Nat.mul_le_mul hb8 hn
    omega
  have hmul2 : (bytes : Int) * (n : Int) ≤ 140737488355328 := by rw [← Int.natCast_mul]; exact Int.ofNat_le.2 hmul
  have hr := run_make (P := P) w T ε i0 (.int .u8 0) hT hi hz0 .i64 .i64 n n (by omega) (Int.le_refl _) (by rw [hz2]; omega) (by omega)
  rw [hz1, Int.toNat_natCast, Nat.mul_one, show (Value.int .u8 0).cells = #[.int .u8 0] from rfl, made_cells] at hr
  unfold Oper.wp
  simp only [execOp, ho, hl, hc, hr, Sem.run_bind, Sem.run_pure, Result.andThen_ok]
  exact hK _ _ (h _ (Rw.new ε w _) ((Below.refl _ _).alloc (Nat.le_refl _) _))


theorem pre_z_len (h : Hd) {k : Nat} (hk : k ≤ 14) : (pre h k ++ List.replicate (512 - pos k) 0).length = 512 := by
  have h1 := pre_len h hk
  have h2 : pos k ≤ 84 := by
    by_cases e : k = 14
    · subst e; decide
    · have := pos_le (show k < 14 by omega); omega
  simp [h1]; omega
theorem set_fld (h : Hd) {k : Nat} (hk : k < 14) (m : May h) (hf : 0 ≤ h.flags) (G : Nat) (w : World) (hr : Rw 5 w G (pre h k ++ List.replicate (512 - pos k) 0)) :
    Calls Try.prog 37 #[.slice (some ⟨G, 0, none⟩) 512 512, .int .i64 (pos k : Int), .int .i64 (wid k : Int), .int .u64 (xk h k)] w fun e w' => e = .returned (.int .i64 0) ∧ Rw 5 w' G (pre h (k + 1) ++ List.replicate (512 - pos (k + 1)) 0) ∧ Kp (fun i => i = G) w w' := by
  have hl := pre_z_len h (show k ≤ 14 by omega)
  have hx := xk_small m hf hk
  have hp := pos_le hk
  have hw := wid_cases hk
  have c := set_ok G 512 (pre h k ++ List.replicate (512 - pos k) 0) [] (pos k) (wid k) (xk h k) w (by omega) hx.1 (by omega) (by omega) (by omega) (by omega) (by omega) (by
    apply decide_eq_true
    rcases hw with e | e <;> rw [e] <;> exact Int.lt_of_le_of_lt hx.2 (by decide)) (by rw [List.append_nil]; exact hr)
  rw [hl, pre_splice h hk, List.append_nil] at c
  refine c.mono ?_
  rintro e w' ⟨rfl, r, g⟩
  exact ⟨rfl, r, Kp.of_grown g (fun i e => by cases e; rfl)⟩
theorem stx_fld (h : Hd) (m : May h) (G : Nat) (w : World) (hr : Rw 5 w G (pre h 14 ++ List.replicate (512 - pos 14) 0)) :
    Calls Try.prog 38 #[.slice (some ⟨G, 0, none⟩) 512 512, .int .i64 84, .int .i64 64, .string h.name] w fun e w' => e = .returned (.int .i64 0) ∧ Rw 5 w' G (secL h) ∧ Kp (fun i => i = G) w w' := by
  have hl := pre_z_len h (Nat.le_refl 14)
  have hm := m.long
  have hbl := byts_length h.name
  have c := stext_any G 512 (pre h 14 ++ List.replicate (512 - pos 14) 0) [] 84 64 h.name w (by omega) (by omega) (by rw [List.append_nil]; exact hr)
  have e1 : txtE 512 84 64 = 0 := by unfold txtE; rw [if_neg (by omega)]; exact inE_mk (by omega) (by omega)
  have e2 : stxE 512 84 64 (byts h.name).length = 0 := by unfold stxE; rw [if_pos e1, if_neg (by omega)]
  unfold stxR at c
  rw [hl, e2, if_pos rfl, show (84 : Int).toNat = 84 from rfl, show (64 : Int).toNat = 64 from rfl, pre_text h hm, List.append_nil] at c
  refine c.mono ?_
  rintro e w' ⟨rfl, r, g⟩
  exact ⟨rfl, r, Kp.of_grown g (fun i e => by cases e; rfl)⟩
theorem wu64 {x : Int} (h : 0 ≤ x ∧ x ≤ 268435456) : IntKind.u64.wrap x = x := by rw [IntKind.wrap_u64]; omega
theorem tell_fld (h : Hd) {k : Nat} (hk : k < 14) (m : May h) (hf : 0 ≤ h.flags) (B : Nat) (w : World) (hb : Hb w B h) :
    Calls Try.prog (tfn k) #[.agg #[.pointer (some ⟨B, k, none⟩)]] w fun e w' => e = .returned (.int .u64 (xk h k)) ∧ Kp (fun _ => False) w w' := by
  have hx := xk_small m hf hk
  rcases lt14 hk with rfl | rfl | rfl | rfl | rfl | rfl | rfl | rfl | rfl | rfl | rfl | rfl | rfl | rfl
  · have c := tell_55 B 0 (xk h 0) w (hb.cell 0)
    rw [wu64 hx] at c
    exact c
  · exact tell_57 B 1 (xk h 1) w (hb.cell 1)
  · have c := tell_59 B 2 (xk h 2) w (hb.cell 2)
    rw [wu64 hx] at c
    exact c
  · have c := tell_59 B 3 (xk h 3) w (hb.cell 3)
    rw [wu64 hx] at c
    exact c
  · have c := tell_55 B 4 (xk h 4) w (hb.cell 4)
    rw [wu64 hx] at c
    exact c
  · have c := tell_55 B 5 (xk h 5) w (hb.cell 5)
    rw [wu64 hx] at c
    exact c
  · have c := tell_59 B 6 (xk h 6) w (hb.cell 6)
    rw [wu64 hx] at c
    exact c
  · have c := tell_55 B 7 (xk h 7) w (hb.cell 7)
    rw [wu64 hx] at c
    exact c
  · have c := tell_55 B 8 (xk h 8) w (hb.cell 8)
    rw [wu64 hx] at c
    exact c
  · have c := tell_59 B 9 (xk h 9) w (hb.cell 9)
    rw [wu64 hx] at c
    exact c
  · have c := tell_55 B 10 (xk h 10) w (hb.cell 10)
    rw [wu64 hx] at c
    exact c
  · have c := tell_55 B 11 (xk h 11) w (hb.cell 11)
    rw [wu64 hx] at c
    exact c
  · have c := tell_59 B 12 (xk h 12) w (hb.cell 12)
    rw [wu64 hx] at c
    exact c
  · have c := tell_55 B 13 (xk h 13) w (hb.cell 13)
    rw [wu64 hx] at c
    exact c
theorem fcs_get (g : Nat) {k : Nat} (hk : k < 14) : (fcs g)[k * 4]? = some (.int .i64 (pos k : Int)) ∧ (fcs g)[k * 4 + 1]? = some (.int .i64 (wid k : Int)) ∧ (fcs g)[k * 4 + 2]? = some (mv (tfn k) g k) ∧ (fcs g)[k * 4 + 3]? = some (mv (tfn k + 1) g k) := by
  rcases lt14 hk with rfl | rfl | rfl | rfl | rfl | rfl | rfl | rfl | rfl | rfl | rfl | rfl | rfl | rfl <;> exact ⟨rfl, rfl, rfl, rfl⟩
theorem tfn_cases {k : Nat} (hk : k < 14) : tfn k = 55 ∨ tfn k = 57 ∨ tfn k = 59 := by
  rcases lt14 hk with rfl | rfl | rfl | rfl | rfl | rfl | rfl | rfl | rfl | rfl | rfl | rfl | rfl | rfl <;> decide
def q22r6_0 : Oper := { dst := some 15, op := Go.Op.move (Go.Operand.tmp 3), type := 26, pos := "sector.go:60", after := #[], guard := none }
def q22r6_1 : Oper := { dst := some 16, op := Go.Op.fieldAddr 60 (Go.Operand.tmp 5) 0, type := 0, pos := "sector.go:60", after := #[], guard := none }
def q22r6_2 : Oper := { dst := some 17, op := Go.Op.load 3 (Go.Operand.tmp 16), type := 3, pos := "sector.go:60", after := #[{ on := 1, ground := Go.Ground.data }], guard := none }
def q22r6_3 : Oper := { dst := some 18, op := Go.Op.fieldAddr 60 (Go.Operand.tmp 5) 1, type := 0, pos := "sector.go:60", after := #[], guard := none }
def q22r6_4 : Oper := { dst := some 19, op := Go.Op.load 3 (Go.Operand.tmp 18), type := 3, pos := "sector.go:60", after := #[{ on := 3, ground := Go.Ground.data }], guard := none }
def q22r6_5 : Oper := { dst := some 20, op := Go.Op.fieldAddr 60 (Go.Operand.tmp 5) 2, type := 0, pos := "sector.go:60", after := #[], guard := none }
def q22r6_6 : Oper := { dst := some 21, op := Go.Op.load 57 (Go.Operand.tmp 20), type := 57, pos := "sector.go:60", after := #[{ on := 5, ground := Go.Ground.data }], guard := none }
def q22r6_7 : Oper := { dst := some 22, op := Go.Op.call { callee := Go.Callee.value (Go.Operand.tmp 21), args := #[], argTypes := #[] }, type := 22, pos := "sector.go:60", after := #[{ on := 6, ground := Go.Ground.data }], guard := none }
def q22r6_8 : Oper := { dst := some 23, op := Go.Op.call { callee := Go.Callee.value (Go.Operand.func 37), args := #[Go.Operand.tmp 15, Go.Operand.tmp 17, Go.Operand.tmp 19, Go.Operand.tmp 22], argTypes := #[26, 3, 3, 22] }, type := 27, pos := "sector.go:60", after := #[{ on := 0, ground := Go.Ground.data }, { on := 2, ground := Go.Ground.data }, { on := 4, ground := Go.Ground.data }, { on := 7, ground := Go.Ground.data }, { on := 7, ground := Go.Ground.chain }], guard := none }
def o22r6 : Array Oper := #[q22r6_0, q22r6_1, q22r6_2, q22r6_3, q22r6_4, q22r6_5, q22r6_6, q22r6_7, q22r6_8]
def p22r6_9 : List (Nat × Oper) := []
def p22r6_8 : List (Nat × Oper) := (2, q22r6_8) :: p22r6_9
def p22r6_7 : List (Nat × Oper) := (1, q22r6_7) :: p22r6_8
def p22r6_6 : List (Nat × Oper) := (0, q22r6_6) :: p22r6_7
def p22r6_5 : List (Nat × Oper) := (0, q22r6_5) :: p22r6_6
def p22r6_4 : List (Nat × Oper) := (0, q22r6_4) :: p22r6_5
def p22r6_3 : List (Nat × Oper) := (0, q22r6_3) :: p22r6_4
def p22r6_2 : List (Nat × Oper) := (0, q22r6_2) :: p22r6_3
def p22r6_1 : List (Nat × Oper) := (0, q22r6_1) :: p22r6_2
def p22r6_0 : List (Nat × Oper) := (0, q22r6_0) :: p22r6_1
def c22r6 : List (Nat × Nat) := [(0, 0), (0, 1), (0, 2), (0, 3), (0, 4), (0, 5), (0, 6), (1, 7), (2, 8)]
theorem b22r6 : (Region.noSelect o22r6 && (c22r6.length == o22r6.size) && planB o22r6 [8] c22r6 (Array.replicate o22r6.size false)) = true := by kernel_rfl
theorem d22r6 : (c22r6.map fun p => (p.1, o22r6[p.2]?)) = (p22r6_0.map fun p => (p.1, some p.2)) := by kernel_rfl
theorem mk_str : byts ⟨#[80, 65, 76, 49]⟩ = mk := by rfl
set_option maxRecDepth 100000 in
set_option maxHeartbeats 8000000 in
theorem sector_any (h : Hd) (w : World) (m : May h) (hf : 0 ≤ h.flags) : Calls Try.prog 22 #[.agg h.cs] w fun e w' => ∃ G, e = .returned (.slice (some ⟨G, 0, none⟩) 512 512) ∧ w.heap.size ≤ G ∧ Rw 5 w' G (secL h) ∧ Kp (fun _ => False) w w' := by
  have HB := hid (Hb.new w h)
  have HK : Hid (Kp (fun _ => False) w (w.alloc (.cells h.cs 24))) := (Kp.refl _ _).alloc _
  have hz : (w.alloc (.cells h.cs 24)).heap.size = w.heap.size + 1 := by simp
  have MM := hid m
  clear m
  go_enter Try.func22, Try.ntmps22
  go_wp2_with (first | (at_make; refine wpList_make_rw 26 5 1 Try.underlying26 Try.info5 (by decide) rfl _ _ rfl 512 rfl rfl (by omega) ?_; intro w1 r1 b1; rw [hz] at r1 b1 ⊢; have K1 : Hid (Kp (fun _ => False) (w.alloc (.cells h.cs 24)) w1) := Kp.of_below (by rw [hz]; exact b1); have R1 := hid r1; clear r1 b1) | (refine wpList_copy_str rfl (.tmp 7) (.const (.string ⟨#[80, 65, 76, 49]⟩)) 26 9 rfl 5 Try.underlying26 info5 _ _ _ ⟨#[80, 65, 76, 49]⟩ rfl rfl (w.heap.size + 1) 0 5 _ R1.out (by decide) (fun _ => rfl) (by rw [List.length_replicate]; decide) ?_; intro w2 r2 g2; rw [mk_str] at r2; have K2 : Hid (Kp (fun i => i = w.heap.size + 1) w1 w2) := Kp.of_grown g2 (fun i e => by cases e; rfl); have R2 := hid r2; clear r2 g2) | (go_at_call 36; refine (fields_any w.heap.size _).mono ?_; rintro e w3 ⟨G, rfl, hG, s3, k3⟩; have S3 := hid s3; have K3 := hid k3; clear s3 k3))
  have r0 : Rw 5 w3 (w.heap.size + 1) (pre h 0 ++ List.replicate (512 - pos 0) 0) := by
    have e := splice_fill [] mk 512 (by decide)
    have e2 : splice (List.replicate 512 0) 0 mk = pre h 0 ++ List.replicate (512 - pos 0) 0 := e
    have := R2.out.kp K3.out (fun x => x)
    rw [e2] at this
    exact this
  have hGl : w.heap.size + 1 < G := by have h1 := R2.out.lt; omega
  have b0 : Hb w3 w.heap.size h := ((HB.out.kp K1.out (fun x => x)).kp K2.out (by omega)).kp K3.out (fun x => x)
  have k0 : Kp (fun _ => False) w w3 := ((HK.out.trans K1.out (fun _ _ x => x)).trans K2.out (fun i h1 h2 => by omega)).trans K3.out (fun _ _ x => x)
  have R0 := hid r0
  have B0 := hid b0
  have K0 := hid k0
  clear HB HK K1 R1 K2 R2 K3 r0 b0 k0 hz hG
  generalize hB : w.heap.size = B at *
  go_loopw [11] (fun iv wr => ∃ k : Nat, k ≤ 14 ∧ iv = .int .i64 k ∧ Rw 5 wr (B + 1) (pre h k ++ List.replicate (512 - pos k) 0) ∧ Hb wr B h ∧ St 60 wr G (fcs B).toArray ∧ Kp (fun _ => False) w wr) (fun iv _ => 14 - (intOf iv).toNat)
  case atStart => exact ⟨0, Nat.zero_le _, rfl, R0.out, B0.out, S3.out, K0.out⟩
  case round =>
    obtain ⟨k, hk14, rfl, hr, hb, hs, hkp⟩ := hrel
    have HR := hid hr; have HB := hid hb; have HS := hid hs; have HKP := hid hkp
    clear hr hb hs hkp R0 B0 K0 S3
    by_cases hk : k < 14
    · have gg := fcs_get B hk
      have y0 := HS.out.cell (k * 4); have y1 := HS.out.cell (k * 4 + 1); have y2 := HS.out.cell (k * 4 + 2); have y3 := HS.out.cell (k * 4 + 3)
      rw [List.getElem?_toArray, gg.1] at y0; rw [List.getElem?_toArray, gg.2.1] at y1; rw [List.getElem?_toArray, gg.2.2.1] at y2; rw [List.getElem?_toArray, gg.2.2.2] at y3
      unfold mv at y2 y3
      clear gg
      have TF : Hid (∀ w, Hb w B h → Calls Try.prog (tfn k) #[.agg #[.pointer (some ⟨B, k, none⟩)]] w fun e w' => e = .returned (.int .u64 (xk h k)) ∧ Kp (fun _ => False) w w') := fun w hb => tell_fld h hk MM.out hf B w hb
      have ht := tfn_cases hk
      generalize tfn k = f at *
      rcases ht with rfl | rfl | rfl
      · go_wp2_with fail
        have sN := St.new 60 wr #[.int .i64 (pos k : Int), .int .i64 (wid k : Int), .func (.func 55) #[.agg #[.pointer (some ⟨B, k, none⟩)]] #[], .func (.func 56) #[.agg #[.pointer (some ⟨B, k, none⟩)]] #[]]
        have kN : Kp (fun _ => False) wr (wr.alloc (.cells #[.int .i64 (pos k : Int), .int .i64 (wid k : Int), .func (.func 55) #[.agg #[.pointer (some ⟨B, k, none⟩)]] #[], .func (.func 56) #[.agg #[.pointer (some ⟨B, k, none⟩)]] #[]] 60)) := (Kp.refl _ _).alloc _
        generalize wr.alloc (.cells #[.int .i64 (pos k : Int), .int .i64 (wid k : Int), .func (.func 55) #[.agg #[.pointer (some ⟨B, k, none⟩)]] #[], .func (.func 56) #[.agg #[.pointer (some ⟨B, k, none⟩)]] #[]] 60) = W at *
        generalize hN : wr.heap.size = N at *
        have E0 : Hid (W.cell? ⟨N, 0, none⟩ = some (.int .i64 (pos k : Int))) := sN.cell 0
        have E1 : Hid (W.cell? ⟨N, 1, none⟩ = some (.int .i64 (wid k : Int))) := sN.cell 1
        have E2 : Hid (W.cell? ⟨N, 2, none⟩ = some (.func (.func 55) #[.agg #[.pointer (some ⟨B, k, none⟩)]] #[])) := sN.cell 2
        have KN := hid kN
        clear sN kN y0 y1 y2 y3
        have h0 : Kp (fun _ => False) W W.drew := (Kp.refl _ _).drew
        change (Code.region 6 o22r6 true).wp _ _ _ _
        refine wp_region_plan (fun w' => Kp (fun _ => False) W w') [8] c22r6 p22r6_0 hmix b22r6 d22r6 (fun _ _ d _ _ h => by cases d <;> exact h) ?_
        refine plan_take (o := q22r6_0) (r := p22r6_1) ?vf550 h0 (by rfl) ?hyf550 ?restf550
        case hyf550 => (intro w _; simp only [q22r6_0]; go_simp; try with_reducible rfl)
        try simp only [q22r6_0, Act.put, List.setIfInBounds_toArray, List.set_cons_zero, List.set_cons_succ]
        refine plan_take (o := q22r6_1) (r := p22r6_2) ?vf551 h0 (by rfl) ?hyf551 ?restf551
        case hyf551 => (intro w _; simp only [q22r6_1]; go_simp; try with_reducible rfl)
        try simp only [q22r6_1, Act.put, List.setIfInBounds_toArray, List.set_cons_zero, List.set_cons_succ]
        refine plan_take (o := q22r6_2) (r := p22r6_3) ?vf552 h0 (by rfl) ?hyf552 ?restf552
        case hyf552 => (intro w hSw; (try dsimp only at hSw); have c0 := hSw.cell E0.out; simp only [q22r6_2]; go_simp; try with_reducible rfl)
        try simp only [q22r6_2, Act.put, List.setIfInBounds_toArray, List.set_cons_zero, List.set_cons_succ]
        refine plan_take (o := q22r6_3) (r := p22r6_4) ?vf553 h0 (by rfl) ?hyf553 ?restf553
        case hyf553 => (intro w _; simp only [q22r6_3]; go_simp; try with_reducible rfl)
        try simp only [q22r6_3, Act.put, List.setIfInBounds_toArray, List.set_cons_zero, List.set_cons_succ]
        refine plan_take (o := q22r6_4) (r := p22r6_5) ?vf554 h0 (by rfl) ?hyf554 ?restf554
        case hyf554 => (intro w hSw; (try dsimp only at hSw); have c0 := hSw.cell E1.out; simp only [q22r6_4]; go_simp; try with_reducible rfl)
        try simp only [q22r6_4, Act.put, List.setIfInBounds_toArray, List.set_cons_zero, List.set_cons_succ]
        refine plan_take (o := q22r6_5) (r := p22r6_6) ?vf555 h0 (by rfl) ?hyf555 ?restf555
        case hyf555 => (intro w _; simp only [q22r6_5]; go_simp; try with_reducible rfl)
        try simp only [q22r6_5, Act.put, List.setIfInBounds_toArray, List.set_cons_zero, List.set_cons_succ]
        refine plan_take (o := q22r6_6) (r := p22r6_7) ?vf556 h0 (by rfl) ?hyf556 ?restf556
        case hyf556 => (intro w hSw; (try dsimp only at hSw); have c0 := hSw.cell E2.out; simp only [q22r6_6]; go_simp; try with_reducible rfl)
        try simp only [q22r6_6, Act.put, List.setIfInBounds_toArray, List.set_cons_zero, List.set_cons_succ]
        refine plan_act (o := q22r6_7) (r := p22r6_8) (fun K hK => ?_)
        simp only [q22r6_7]
        go_simp
        refine (TF.out _ ((HB.out.kp KN.out (fun x => x)).kp h0 (fun x => x))).mono ?_
        rintro _ w4 ⟨rfl, k4⟩
        go_wp2_with fail
        refine hK.out _ _ (fun h => h.trans k4 (fun _ _ x => x)) ?_
        have s4 : Kp (fun _ => False) wr w4 := KN.out.trans (h0.trans k4 (fun _ _ x => x)) (fun _ _ x => x)
        clear hK K
        refine plan_late (o := q22r6_8) (r := p22r6_9) (fun K hK => ?_)
        simp only [q22r6_8]
        go_simp
        refine (set_fld h hk MM.out hf (B + 1) _ (HR.out.kp s4 (fun x => x))).mono ?_
        rintro _ w5 ⟨rfl, r5, k5⟩
        go_wp2_with fail
        refine hK.out _ _ ?_
        clear hK K
        refine plan_done ?_
        have KA : Kp (fun i => i = B + 1) wr w5 := (s4.mono (G := fun i => i = B + 1) (fun _ _ h => h.elim)).trans k5 (fun _ _ h => h)
        have HR5 := hid r5
        have HB5 := hid (HB.out.kp KA (by omega))
        have HS5 := hid (HS.out.kp KA (by omega))
        have HK5 := hid (HKP.out.trans KA (fun i h1 h2 => by omega))
        clear KA r5 k5 k4 s4 h0
        go_wp2_with fail
        exact ⟨⟨k + 1, by omega, by simp, HR5.out, HB5.out, HS5.out, HK5.out⟩, by simp only [intOf]; omega⟩
      · go_wp2_with fail
        have sN := St.new 60 wr #[.int .i64 (pos k : Int), .int .i64 (wid k : Int), .func (.func 57) #[.agg #[.pointer (some ⟨B, k, none⟩)]] #[], .func (.func 58) #[.agg #[.pointer (some ⟨B, k, none⟩)]] #[]]
        have kN : Kp (fun _ => False) wr (wr.alloc (.cells #[.int .i64 (pos k : Int), .int .i64 (wid k : Int), .func (.func 57) #[.agg #[.pointer (some ⟨B, k, none⟩)]] #[], .func (.func 58) #[.agg #[.pointer (some ⟨B, k, none⟩)]] #[]] 60)) := (Kp.refl _ _).alloc _
        generalize wr.alloc (.cells #[.int .i64 (pos k : Int), .int .i64 (wid k : Int), .func (.func 57) #[.agg #[.pointer (some ⟨B, k, none⟩)]] #[], .func (.func 58) #[.agg #[.pointer (some ⟨B, k, none⟩)]] #[]] 60) = W at *
        generalize hN : wr.heap.size = N at *
        have E0 : Hid (W.cell? ⟨N, 0, none⟩ = some (.int .i64 (pos k : Int))) := sN.cell 0
        have E1 : Hid (W.cell? ⟨N, 1, none⟩ = some (.int .i64 (wid k : Int))) := sN.cell 1
        have E2 : Hid (W.cell? ⟨N, 2, none⟩ = some (.func (.func 57) #[.agg #[.pointer (some ⟨B, k, none⟩)]] #[])) := sN.cell 2
        have KN := hid kN
        clear sN kN y0 y1 y2 y3
        have h0 : Kp (fun _ => False) W W.drew := (Kp.refl _ _).drew
        change (Code.region 6 o22r6 true).wp _ _ _ _
        refine wp_region_plan (fun w' => Kp (fun _ => False) W w') [8] c22r6 p22r6_0 hmix b22r6 d22r6 (fun _ _ d _ _ h => by cases d <;> exact h) ?_
        refine plan_take (o := q22r6_0) (r := p22r6_1) ?vf570 h0 (by rfl) ?hyf570 ?restf570
        case hyf570 => (intro w _; simp only [q22r6_0]; go_simp; try with_reducible rfl)
        try simp only [q22r6_0, Act.put, List.setIfInBounds_toArray, List.set_cons_zero, List.set_cons_succ]
        refine plan_take (o := q22r6_1) (r := p22r6_2) ?vf571 h0 (by rfl) ?hyf571 ?restf571
        case hyf571 => (intro w _; simp only [q22r6_1]; go_simp; try with_reducible rfl)
        try simp only [q22r6_1, Act.put, List.setIfInBounds_toArray, List.set_cons_zero, List.set_cons_succ]
        refine plan_take (o := q22r6_2) (r := p22r6_3) ?vf572 h0 (by rfl) ?hyf572 ?restf572
        case hyf572 => (intro w hSw; (try dsimp only at hSw); have c0 := hSw.cell E0.out; simp only [q22r6_2]; go_simp; try with_reducible rfl)
        try simp only [q22r6_2, Act.put, List.setIfInBounds_toArray, List.set_cons_zero, List.set_cons_succ]
        refine plan_take (o := q22r6_3) (r := p22r6_4) ?vf573 h0 (by rfl) ?hyf573 ?restf573
        case hyf573 => (intro w _; simp only [q22r6_3]; go_simp; try with_reducible rfl)
        try simp only [q22r6_3, Act.put, List.setIfInBounds_toArray, List.set_cons_zero, List.set_cons_succ]
        refine plan_take (o := q22r6_4) (r := p22r6_5) ?vf574 h0 (by rfl) ?hyf574 ?restf574
        case hyf574 => (intro w hSw; (try dsimp only at hSw); have c0 := hSw.cell E1.out; simp only [q22r6_4]; go_simp; try with_reducible rfl)
        try simp only [q22r6_4, Act.put, List.setIfInBounds_toArray, List.set_cons_zero, List.set_cons_succ]
        refine plan_take (o := q22r6_5) (r := p22r6_6) ?vf575 h0 (by rfl) ?hyf575 ?restf575
        case hyf575 => (intro w _; simp only [q22r6_5]; go_simp; try with_reducible rfl)
        try simp only [q22r6_5, Act.put, List.setIfInBounds_toArray, List.set_cons_zero, List.set_cons_succ]
        refine plan_take (o := q22r6_6) (r := p22r6_7) ?vf576 h0 (by rfl) ?hyf576 ?restf576
        case hyf576 => (intro w hSw; (try dsimp only at hSw); have c0 := hSw.cell E2.out; simp only [q22r6_6]; go_simp; try with_reducible rfl)
        try simp only [q22r6_6, Act.put, List.setIfInBounds_toArray, List.set_cons_zero, List.set_cons_succ]
        refine plan_act (o := q22r6_7) (r := p22r6_8) (fun K hK => ?_)
        simp only [q22r6_7]
        go_simp
        refine (TF.out _ ((HB.out.kp KN.out (fun x => x)).kp h0 (fun x => x))).mono ?_
        rintro _ w4 ⟨rfl, k4⟩
        go_wp2_with fail
        refine hK.out _ _ (fun h => h.trans k4 (fun _ _ x => x)) ?_
        have s4 : Kp (fun _ => False) wr w4 := KN.out.trans (h0.trans k4 (fun _ _ x => x)) (fun _ _ x => x)
        clear hK K
        refine plan_late (o := q22r6_8) (r := p22r6_9) (fun K hK => ?_)
        simp only [q22r6_8]
        go_simp
        refine (set_fld h hk MM.out hf (B + 1) _ (HR.out.kp s4 (fun x => x))).mono ?_
        rintro _ w5 ⟨rfl, r5, k5⟩
        go_wp2_with fail
        refine hK.out _ _ ?_
        clear hK K
        refine plan_done ?_
        have KA : Kp (fun i => i = B + 1) wr w5 := (s4.mono (G := fun i => i = B + 1) (fun _ _ h => h.elim)).trans k5 (fun _ _ h => h)
        have HR5 := hid r5
        have HB5 := hid (HB.out.kp KA (by omega))
        have HS5 := hid (HS.out.kp KA (by omega))
        have HK5 := hid (HKP.out.trans KA (fun i h1 h2 => by omega))
        clear KA r5 k5 k4 s4 h0
        go_wp2_with fail
        exact ⟨⟨k + 1, by omega, by simp, HR5.out, HB5.out, HS5.out, HK5.out⟩, by simp only [intOf]; omega⟩
      · go_wp2_with fail
        have sN := St.new 60 wr #[.int .i64 (pos k : Int), .int .i64 (wid k : Int), .func (.func 59) #[.agg #[.pointer (some ⟨B, k, none⟩)]] #[], .func (.func 60) #[.agg #[.pointer (some ⟨B, k, none⟩)]] #[]]
        have kN : Kp (fun _ => False) wr (wr.alloc (.cells #[.int .i64 (pos k : Int), .int .i64 (wid k : Int), .func (.func 59) #[.agg #[.pointer (some ⟨B, k, none⟩)]] #[], .func (.func 60) #[.agg #[.pointer (some ⟨B, k, none⟩)]] #[]] 60)) := (Kp.refl _ _).alloc _
        generalize wr.alloc (.cells #[.int .i64 (pos k : Int), .int .i64 (wid k : Int), .func (.func 59) #[.agg #[.pointer (some ⟨B, k, none⟩)]] #[], .func (.func 60) #[.agg #[.pointer (some ⟨B, k, none⟩)]] #[]] 60) = W at *
        generalize hN : wr.heap.size = N at *
        have E0 : Hid (W.cell? ⟨N, 0, none⟩ = some (.int .i64 (pos k : Int))) := sN.cell 0
        have E1 : Hid (W.cell? ⟨N, 1, none⟩ = some (.int .i64 (wid k : Int))) := sN.cell 1
        have E2 : Hid (W.cell? ⟨N, 2, none⟩ = some (.func (.func 59) #[.agg #[.pointer (some ⟨B, k, none⟩)]] #[])) := sN.cell 2
        have KN := hid kN
        clear sN kN y0 y1 y2 y3
        have h0 : Kp (fun _ => False) W W.drew := (Kp.refl _ _).drew
        change (Code.region 6 o22r6 true).wp _ _ _ _
        refine wp_region_plan (fun w' => Kp (fun _ => False) W w') [8] c22r6 p22r6_0 hmix b22r6 d22r6 (fun _ _ d _ _ h => by cases d <;> exact h) ?_
        refine plan_take (o := q22r6_0) (r := p22r6_1) ?vf590 h0 (by rfl) ?hyf590 ?restf590
        case hyf590 => (intro w _; simp only [q22r6_0]; go_simp; try with_reducible rfl)
        try simp only [q22r6_0, Act.put, List.setIfInBounds_toArray, List.set_cons_zero, List.set_cons_succ]
        refine plan_take (o := q22r6_1) (r := p22r6_2) ?vf591 h0 (by rfl) ?hyf591 ?restf591
        case hyf591 => (intro w _; simp only [q22r6_1]; go_simp; try with_reducible rfl)
        try simp only [q22r6_1, Act.put, List.setIfInBounds_toArray, List.set_cons_zero, List.set_cons_succ]
        refine plan_take (o := q22r6_2) (r := p22r6_3) ?vf592 h0 (by rfl) ?hyf592 ?restf592
        case hyf592 => (intro w hSw; (try dsimp only at hSw); have c0 := hSw.cell E0.out; simp only [q22r6_2]; go_simp; try with_reducible rfl)
        try simp only [q22r6_2, Act.put, List.setIfInBounds_toArray, List.set_cons_zero, List.set_cons_succ]
        refine plan_take (o := q22r6_3) (r := p22r6_4) ?vf593 h0 (by rfl) ?hyf593 ?restf593
        case hyf593 => (intro w _; simp only [q22r6_3]; go_simp; try with_reducible rfl)
        try simp only [q22r6_3, Act.put, List.setIfInBounds_toArray, List.set_cons_zero, List.set_cons_succ]
        refine plan_take (o := q22r6_4) (r := p22r6_5) ?vf594 h0 (by rfl) ?hyf594 ?restf594
        case hyf594 => (intro w hSw; (try dsimp only at hSw); have c0 := hSw.cell E1.out; simp only [q22r6_4]; go_simp; try with_reducible rfl)
        try simp only [q22r6_4, Act.put, List.setIfInBounds_toArray, List.set_cons_zero, List.set_cons_succ]
        refine plan_take (o := q22r6_5) (r := p22r6_6) ?vf595 h0 (by rfl) ?hyf595 ?restf595
        case hyf595 => (intro w _; simp only [q22r6_5]; go_simp; try with_reducible rfl)
        try simp only [q22r6_5, Act.put, List.setIfInBounds_toArray, List.set_cons_zero, List.set_cons_succ]
        refine plan_take (o := q22r6_6) (r := p22r6_7) ?vf596 h0 (by rfl) ?hyf596 ?restf596
        case hyf596 => (intro w hSw; (try dsimp only at hSw); have c0 := hSw.cell E2.out; simp only [q22r6_6]; go_simp; try with_reducible rfl)
        try simp only [q22r6_6, Act.put, List.setIfInBounds_toArray, List.set_cons_zero, List.set_cons_succ]
        refine plan_act (o := q22r6_7) (r := p22r6_8) (fun K hK => ?_)
        simp only [q22r6_7]
        go_simp
        refine (TF.out _ ((HB.out.kp KN.out (fun x => x)).kp h0 (fun x => x))).mono ?_
        rintro _ w4 ⟨rfl, k4⟩
        go_wp2_with fail
        refine hK.out _ _ (fun h => h.trans k4 (fun _ _ x => x)) ?_
        have s4 : Kp (fun _ => False) wr w4 := KN.out.trans (h0.trans k4 (fun _ _ x => x)) (fun _ _ x => x)
        clear hK K
        refine plan_late (o := q22r6_8) (r := p22r6_9) (fun K hK => ?_)
        simp only [q22r6_8]
        go_simp
        refine (set_fld h hk MM.out hf (B + 1) _ (HR.out.kp s4 (fun x => x))).mono ?_
        rintro _ w5 ⟨rfl, r5, k5⟩
        go_wp2_with fail
        refine hK.out _ _ ?_
        clear hK K
        refine plan_done ?_
        have KA : Kp (fun i => i = B + 1) wr w5 := (s4.mono (G := fun i => i = B + 1) (fun _ _ h => h.elim)).trans k5 (fun _ _ h => h)
        have HR5 := hid r5
        have HB5 := hid (HB.out.kp KA (by omega))
        have HS5 := hid (HS.out.kp KA (by omega))
        have HK5 := hid (HKP.out.trans KA (fun i h1 h2 => by omega))
        clear KA r5 k5 k4 s4 h0
        go_wp2_with fail
        exact ⟨⟨k + 1, by omega, by simp, HR5.out, HB5.out, HS5.out, HK5.out⟩, by simp only [intOf]; omega⟩
    · obtain rfl : k = 14 := by omega
      have y14 : wr.cell? ⟨B, 14, none⟩ = some (.string h.name) := HB.out.cell 14
      go_wp2_with (go_at_call 38; refine (stx_fld h MM.out (B + 1) _ HR.out).mono ?_; rintro e w6 ⟨rfl, r6, k6⟩)
      go_ret
      exact ⟨B + 1, rfl, by omega, r6, HKP.out.trans k6 (fun i h1 h2 => by omega)⟩
end Go.Proofs.Ytejdmnhdjeogaaa
