/- later: Same. -/
import Derived.Test.YtgfondgejimkkaaLw
namespace Go.Proofs.Ytgfondgejimkkaa
open Go.RowKit
set_option linter.unusedVariables false
set_option linter.unusedSimpArgs false
theorem sub_perm : ∀ (R R2 : List Rn), R.Nodup → (∀ x ∈ R, x ∈ R2) → R2.length ≤ R.length → R2.Perm R
  | [], R2, _, _, hl => by
    have : R2 = [] := List.length_eq_zero_iff.1 (by simpa using hl)
    rw [this]
  | x :: R, R2, hn, hs, hl => by
    obtain ⟨s, t, rfl⟩ := List.append_of_mem (hs x (by simp))
    have hp : (s ++ x :: t).Perm (x :: (s ++ t)) := List.perm_middle
    refine hp.trans ((sub_perm R (s ++ t) (List.nodup_cons.1 hn).2 (fun y hy => ?_) ?_).cons x)
    · have h1 := hp.mem_iff.1 (hs y (by simp [hy]))
      rcases List.mem_cons.1 h1 with e | e
      · exact absurd (e ▸ hy) (List.nodup_cons.1 hn).1
      · exact e
    · simp at hl ⊢
      omega
set_option maxHeartbeats 1000000 in
theorem neq_r (h k : Rn) (w : World) : (binOp .neq 38 (.agg #[.int .i64 h.a, .int .i64 h.n]) (.agg #[.int .i64 k.a, .int .i64 k.n])).run Try.prog w = .ok (.bool (!Rn.eq h k)) w := by
  obtain ⟨b0, b1⟩ := h
  obtain ⟨c0, c1⟩ := k
  go_simp
  unfold Rn.eq
  dsimp only
  by_cases e0 : b0 = c0
  case neg => simp [e0]
  subst e0
  by_cases e1 : b1 = c1
  case neg => simp [e1]
  subst e1
  simp
def q13r6_0 : Oper := { dst := some 32, op := Go.Op.move (Go.Operand.tmp 1), type := 30, pos := "later.go:142", after := #[], guard := none }
def q13r6_1 : Oper := { dst := some 33, op := Go.Op.nilCheck (Go.Operand.tmp 32), type := 0, pos := "later.go:142", after := #[{ on := 0, ground := Go.Ground.data }], guard := none }
def q13r6_2 : Oper := { dst := some 34, op := Go.Op.fieldAddr 73 (Go.Operand.tmp 33) 1, type := 0, pos := "later.go:142", after := #[{ on := 1, ground := Go.Ground.data }], guard := none }
def q13r6_3 : Oper := { dst := some 35, op := Go.Op.load 71 (Go.Operand.tmp 34), type := 71, pos := "later.go:142", after := #[{ on := 2, ground := Go.Ground.data }], guard := none }
def q13r6_4 : Oper := { dst := some 36, op := Go.Op.move (Go.Operand.tmp 6), type := 74, pos := "later.go:142", after := #[], guard := none }
def q13r6_5 : Oper := { dst := some 37, op := Go.Op.nilCheck (Go.Operand.tmp 36), type := 0, pos := "later.go:142", after := #[{ on := 4, ground := Go.Ground.data }], guard := none }
def q13r6_6 : Oper := { dst := some 38, op := Go.Op.fieldAddr 77 (Go.Operand.tmp 37) 0, type := 0, pos := "later.go:142", after := #[{ on := 5, ground := Go.Ground.data }], guard := none }
def q13r6_7 : Oper := { dst := some 39, op := Go.Op.fieldAddr 38 (Go.Operand.tmp 38) 0, type := 0, pos := "later.go:142", after := #[{ on := 6, ground := Go.Ground.data }], guard := none }
def q13r6_8 : Oper := { dst := some 40, op := Go.Op.load 2 (Go.Operand.tmp 39), type := 2, pos := "later.go:142", after := #[{ on := 7, ground := Go.Ground.data }], guard := none }
def q13r6_9 : Oper := { dst := some 41, op := Go.Op.lookup 71 (Go.Operand.tmp 35) (Go.Operand.tmp 40) false, type := 74, pos := "later.go:142", after := #[{ on := 3, ground := Go.Ground.data }, { on := 8, ground := Go.Ground.data }], guard := none }
def q13r6_10 : Oper := { dst := some 7, op := Go.Op.assign (Go.Operand.tmp 41), type := 74, pos := "later.go:142", after := #[{ on := 9, ground := Go.Ground.data }, { on := 0, ground := Go.Ground.phase }, { on := 1, ground := Go.Ground.phase }, { on := 2, ground := Go.Ground.phase }, { on := 3, ground := Go.Ground.phase }, { on := 4, ground := Go.Ground.phase }, { on := 5, ground := Go.Ground.phase }, { on := 6, ground := Go.Ground.phase }, { on := 7, ground := Go.Ground.phase }, { on := 8, ground := Go.Ground.phase }, { on := 9, ground := Go.Ground.phase }], guard := none }
def o13r6 : Array Oper := #[q13r6_0, q13r6_1, q13r6_2, q13r6_3, q13r6_4, q13r6_5, q13r6_6, q13r6_7, q13r6_8, q13r6_9, q13r6_10]
def p13r6_11 : List (Nat × Oper) := []
def p13r6_10 : List (Nat × Oper) := (0, q13r6_10) :: p13r6_11
def p13r6_9 : List (Nat × Oper) := (1, q13r6_9) :: p13r6_10
def p13r6_8 : List (Nat × Oper) := (0, q13r6_8) :: p13r6_9
def p13r6_7 : List (Nat × Oper) := (0, q13r6_7) :: p13r6_8
def p13r6_6 : List (Nat × Oper) := (0, q13r6_6) :: p13r6_7
def p13r6_5 : List (Nat × Oper) := (0, q13r6_5) :: p13r6_6
def p13r6_4 : List (Nat × Oper) := (0, q13r6_4) :: p13r6_5
def p13r6_3 : List (Nat × Oper) := (0, q13r6_3) :: p13r6_4
def p13r6_2 : List (Nat × Oper) := (0, q13r6_2) :: p13r6_3
def p13r6_1 : List (Nat × Oper) := (0, q13r6_1) :: p13r6_2
def p13r6_0 : List (Nat × Oper) := (0, q13r6_0) :: p13r6_1
def c13r6 : List (Nat × Nat) := [(0, 0), (0, 1), (0, 2), (0, 3), (0, 4), (0, 5), (0, 6), (0, 7), (0, 8), (1, 9), (0, 10)]
theorem b13r6 : (Region.noSelect o13r6 && (c13r6.length == o13r6.size) && planB o13r6 [] c13r6 (Array.replicate o13r6.size false)) = true := by kernel_rfl
theorem d13r6 : (c13r6.map fun p => (p.1, o13r6[p.2]?)) = (p13r6_0.map fun p => (p.1, some p.2)) := by kernel_rfl
def q13r10_0 : Oper := { dst := some 56, op := Go.Op.move (Go.Operand.tmp 0), type := 30, pos := "later.go:146", after := #[], guard := none }
def q13r10_1 : Oper := { dst := some 57, op := Go.Op.nilCheck (Go.Operand.tmp 56), type := 0, pos := "later.go:146", after := #[{ on := 0, ground := Go.Ground.data }], guard := none }
def q13r10_2 : Oper := { dst := some 58, op := Go.Op.fieldAddr 73 (Go.Operand.tmp 57) 0, type := 0, pos := "later.go:146", after := #[{ on := 1, ground := Go.Ground.data }], guard := none }
def q13r10_3 : Oper := { dst := some 59, op := Go.Op.load 70 (Go.Operand.tmp 58), type := 70, pos := "later.go:146", after := #[{ on := 2, ground := Go.Ground.data }], guard := none }
def q13r10_4 : Oper := { dst := some 60, op := Go.Op.call { callee := Go.Callee.value (Go.Operand.func 34), args := #[Go.Operand.tmp 59], argTypes := #[70] }, type := 3, pos := "later.go:146", after := #[{ on := 3, ground := Go.Ground.data }], guard := none }
def q13r10_5 : Oper := { dst := some 61, op := Go.Op.move (Go.Operand.tmp 1), type := 30, pos := "later.go:146", after := #[], guard := none }
def q13r10_6 : Oper := { dst := some 62, op := Go.Op.nilCheck (Go.Operand.tmp 61), type := 0, pos := "later.go:146", after := #[{ on := 5, ground := Go.Ground.data }], guard := none }
def q13r10_7 : Oper := { dst := some 63, op := Go.Op.fieldAddr 73 (Go.Operand.tmp 62) 0, type := 0, pos := "later.go:146", after := #[{ on := 6, ground := Go.Ground.data }], guard := none }
def q13r10_8 : Oper := { dst := some 64, op := Go.Op.load 70 (Go.Operand.tmp 63), type := 70, pos := "later.go:146", after := #[{ on := 7, ground := Go.Ground.data }], guard := none }
def q13r10_9 : Oper := { dst := some 65, op := Go.Op.call { callee := Go.Callee.value (Go.Operand.func 34), args := #[Go.Operand.tmp 64], argTypes := #[70] }, type := 3, pos := "later.go:146", after := #[{ on := 8, ground := Go.Ground.data }, { on := 4, ground := Go.Ground.chain }], guard := none }
def q13r10_10 : Oper := { dst := some 66, op := Go.Op.binOp Go.BinOp.eql 3 (Go.Operand.tmp 60) (Go.Operand.tmp 65) 3, type := 4, pos := "later.go:146", after := #[{ on := 4, ground := Go.Ground.data }, { on := 9, ground := Go.Ground.data }], guard := none }
def q13r10_11 : Oper := { dst := some 4, op := Go.Op.assign (Go.Operand.tmp 66), type := 4, pos := "later.go:146", after := #[{ on := 10, ground := Go.Ground.data }, { on := 9, ground := Go.Ground.chain }, { on := 0, ground := Go.Ground.phase }, { on := 1, ground := Go.Ground.phase }, { on := 2, ground := Go.Ground.phase }, { on := 3, ground := Go.Ground.phase }, { on := 4, ground := Go.Ground.phase }, { on := 5, ground := Go.Ground.phase }, { on := 6, ground := Go.Ground.phase }, { on := 7, ground := Go.Ground.phase }, { on := 8, ground := Go.Ground.phase }, { on := 9, ground := Go.Ground.phase }, { on := 10, ground := Go.Ground.phase }], guard := none }
def o13r10 : Array Oper := #[q13r10_0, q13r10_1, q13r10_2, q13r10_3, q13r10_4, q13r10_5, q13r10_6, q13r10_7, q13r10_8, q13r10_9, q13r10_10, q13r10_11]
def p13r10_12 : List (Nat × Oper) := []
def p13r10_11 : List (Nat × Oper) := (0, q13r10_11) :: p13r10_12
def p13r10_10 : List (Nat × Oper) := (0, q13r10_10) :: p13r10_11
def p13r10_9 : List (Nat × Oper) := (0, q13r10_9) :: p13r10_10
def p13r10_8 : List (Nat × Oper) := (0, q13r10_8) :: p13r10_9
def p13r10_7 : List (Nat × Oper) := (0, q13r10_7) :: p13r10_8
def p13r10_6 : List (Nat × Oper) := (0, q13r10_6) :: p13r10_7
def p13r10_5 : List (Nat × Oper) := (0, q13r10_5) :: p13r10_6
def p13r10_4 : List (Nat × Oper) := (0, q13r10_4) :: p13r10_5
def p13r10_3 : List (Nat × Oper) := (0, q13r10_3) :: p13r10_4
def p13r10_2 : List (Nat × Oper) := (0, q13r10_2) :: p13r10_3
def p13r10_1 : List (Nat × Oper) := (0, q13r10_1) :: p13r10_2
def p13r10_0 : List (Nat × Oper) := (0, q13r10_0) :: p13r10_1
def c13r10 : List (Nat × Nat) := [(0, 0), (0, 1), (0, 2), (0, 3), (0, 4), (0, 5), (0, 6), (0, 7), (0, 8), (0, 9), (0, 10), (0, 11)]
theorem b13r10 : (Region.noSelect o13r10 && (c13r10.length == o13r10.size) && planB o13r10 [] c13r10 (Array.replicate o13r10.size false)) = true := by kernel_rfl
theorem d13r10 : (c13r10.map fun p => (p.1, o13r10[p.2]?)) = (p13r10_0.map fun p => (p.1, some p.2)) := by kernel_rfl

/-- What Same tells. -/
def SmR (R R2 : List Rn) (e : Ending) : Prop := ∃ bl, e = .returned (.bool bl) ∧ (bl = true ↔ R = R2)
set_option maxRecDepth 100000 in
set_option maxHeartbeats 16000000 in
theorem same_any (w : World) (c : Nat → Rn) (Q B mb me : Nat) (v : Value) (L : List Nat) (h : Lc c w Q B mb me v L) (c2 : Nat → Rn) (Q2 B2 mb2 me2 : Nat) (v2 : Value) (L2 : List Nat) (h2 : Lc c2 w Q2 B2 mb2 me2 v2 L2) :
    Calls Try.prog 13 #[ptr Q, ptr Q2] w fun e w' => SmR (srt (L.map c)) (srt (L2.map c2)) e ∧ Kp (fun _ => False) w w' := by
  have HN1 : Hid (∀ U, Kp (fun _ => False) w U → Calls Try.prog 32 #[.pointer (some ⟨Q, 0, none⟩)] U fun e w' => e = .returned (.bool false) ∧ U = w') := fun U hU => none_yes Q B _ _ _ U (h.st.kp hU (fun h => h))
  have HN2 : Hid (∀ U, Kp (fun _ => False) w U → Calls Try.prog 32 #[.pointer (some ⟨Q2, 0, none⟩)] U fun e w' => e = .returned (.bool false) ∧ U = w') := fun U hU => none_yes Q2 B2 _ _ _ U (h2.st.kp hU (fun h => h))
  have HL1 : Hid (∀ U, Kp (fun _ => False) w U → Calls Try.prog 34 #[.pointer (some ⟨B, 0, none⟩)] U fun e w' => e = .returned (.int .i64 L.length) ∧ U = w') := fun U hU => (len_any c U 0 B v L (h.ln.kp0 hU)).mono fun e w' ⟨h1, h2⟩ => ⟨h1, h2.symm⟩
  have HL2 : Hid (∀ U, Kp (fun _ => False) w U → Calls Try.prog 34 #[.pointer (some ⟨B2, 0, none⟩)] U fun e w' => e = .returned (.int .i64 L2.length) ∧ U = w') := fun U hU => (len_any c2 U 0 B2 v2 L2 (h2.ln.kp0 hU)).mono fun e w' ⟨h1, h2⟩ => ⟨h1, h2.symm⟩
  have HQ1 : Hid (∀ U, Kp (fun _ => False) w U → U.cell? ⟨Q, 0, none⟩ = some (.pointer (some ⟨B, 0, none⟩))) := fun U hU => (h.st.kp hU (fun h => h)).cell 0
  have HQ0 : Hid (∀ U, Kp (fun _ => False) w U → U.cell? ⟨Q2, 0, none⟩ = some (.pointer (some ⟨B2, 0, none⟩))) := fun U hU => (h2.st.kp hU (fun h => h)).cell 0
  have HQ2 : Hid (∀ U, Kp (fun _ => False) w U → U.cell? ⟨Q2, 1, none⟩ = some (.map (some mb2))) := fun U hU => (h2.st.kp hU (fun h => h)).cell 1
  obtain ⟨lo, lcap, hv, hsp⟩ : ∃ lo lcap, v = .slice lo L.length lcap ∧ Srcp w lo L := by
    obtain ⟨lo, lcap, hv, hsp, _⟩ := (show Ownp w 0 v L from h.ln.own).src
    exact ⟨lo, lcap, hv, hsp⟩
  have HB1 : w.cell? ⟨B, 0, none⟩ = some (.slice lo L.length lcap) := by have := h.ln.st.cell 0; rw [hv] at this; exact this
  obtain ⟨eb2, kb2, mp2, ky2'⟩ := h2.bm
  have HMB : Hid (∀ U, Kp (fun _ => False) w U → Mp mki U mb2 eb2 kb2) := fun U hU => mp2.kp hU (fun h => h)
  have HKY := hid ky2'
  have HH := hid h
  have HH2 := hid h2
  have HSP := hid hsp
  have q1 := HQ1.out w (Kp.refl _ _)
  have hL4 : L.length ≤ 4096 := h.len
  have hL5 : L2.length ≤ 4096 := h2.len
  have HFN : Hid (∀ x ∈ L.map c, x ∉ L2.map c2 → ∀ bl, bl = false → SmR (srt (L.map c)) (srt (L2.map c2)) (.returned (.bool bl))) := fun x hx hn bl hb => ⟨bl, rfl, by
    subst hb
    simp only [Bool.false_eq_true, false_iff]
    intro e
    exact hn ((srt_perm _).mem_iff.1 (e ▸ (srt_perm _).mem_iff.2 hx))⟩
  have HFY : Hid ((∀ x ∈ L.map c, x ∈ L2.map c2) → SmR (srt (L.map c)) (srt (L2.map c2)) (.returned (.bool (decide (L.length = L2.length))))) := fun hs => ⟨_, rfl, by
    rw [decide_eq_true_eq]
    constructor
    · intro hl
      have := sub_perm (L.map c) (L2.map c2) h.ap.nodup hs (by simp [hl])
      exact srt_of_perm h.ap this.symm
    · intro e
      have h1 := (srt_perm (L.map c)).length_eq
      have h2 := (srt_perm (L2.map c2)).length_eq
      rw [e, h2] at h1
      simpa using h1.symm⟩
  obtain ⟨n, hn⟩ : ∃ n, n = L.length := ⟨_, rfl⟩
  have HN := hid hn
  rw [← hn] at HB1 hL4 HL1 HFY
  clear h h2 hv hsp mp2 ky2' hn
  unfold ptr
  go_enter Try.func13, Try.ntmps13
  generalize hC7 : Code.region 7 _ _ = C7
  generalize hC6 : Code.region 6 _ _ = C6
  go_wp2_with fail
  refine (HN1.out w (Kp.refl _ _)).mono ?_
  rintro e w1 ⟨rfl, rfl⟩
  go_wp2_with fail
  refine (HN2.out w (Kp.refl _ _)).mono ?_
  rintro e w1 ⟨rfl, rfl⟩
  go_wp2_with fail
  clear q1 HB1
  subst hC6 hC7
  go_loopw [28] (fun i wr => ∃ (k : Nat), i = .int .i64 (k : Int) ∧ k ≤ n ∧ Hid (Kp (fun _ => False) w wr) ∧ Hid (∀ x ∈ (L.take k).map c, x ∈ L2.map c2)) (fun i _ => n - (intOf i).toNat)
  case atStart => exact ⟨0, rfl, Nat.zero_le _, Kp.refl _ _, fun x hx => by simp at hx⟩
  case round =>
    obtain ⟨k, rfl, hk, HK, HI⟩ := hrel
    by_cases hlt : k < n
    · have hkL : k < L.length := by have := HN.out; omega
      obtain ⟨gb, off, rfl, hgb, hc⟩ := (HSP.out.kp HK.out (fun _ _ _ _ h => h)) (by omega)
      have x0 := hc k hkL
      unfold ptr at x0
      have HBL := hid (gn_mem hkL)
      have HTS : Hid ((L.take (k + 1)).map c = (L.take k).map c ++ [c (L.getD k 0)]) := by
        show _ = _
        rw [take_snoc' hkL, List.map_append]
        rfl
      generalize L.getD k 0 = b at *
      obtain ⟨s, hs⟩ := HH.out.ln.wt HBL.out
      have HWb := hid hs
      obtain ⟨xa, hxa⟩ : ∃ xa, xa = (c b).a := ⟨_, rfl⟩
      obtain ⟨xn, hxn⟩ : ∃ xn, xn = (c b).n := ⟨_, rfl⟩
      have HCB : Hid (c b = ⟨xa, xn⟩) := Rn.ext' hxa.symm hxn.symm
      have HBC : Hid (∀ U, Kp (fun _ => False) w U → U.cell? ⟨b, 0, none⟩ = some (.int .i64 xa) ∧ U.cell? ⟨b, 1, none⟩ = some (.int .i64 xn)) := fun U hU => ⟨by rw [hxa]; exact (St.kp HWb.out hU (fun h => h)).cell 0, by rw [hxn]; exact (St.kp HWb.out hU (fun h => h)).cell 1⟩
      have HWT : Hid (∀ U, Kp (fun _ => False) wr U → Kp (fun _ => False) w U) := fun U hU => HK.out.trans hU (fun _ _ h => h)
      clear hc hs hxa hxn
      obtain ⟨W1, hW1⟩ : ∃ W1, W1 = wr := ⟨_, rfl⟩
      subst hW1
      have H0 : Hid (Kp (fun _ => False) W1 W1.drew) := (Kp.refl _ _).drew
      have HKN : Hid (Kp (fun _ => False) w W1.drew) := HWT.out _ H0.out
      obtain ⟨gv, hgv⟩ : ∃ gv, gv = mget eb2 xa := ⟨_, rfl⟩
      cases gv with
      | none =>
        have HGG : Hid ((mget eb2 xa).getD (.pointer none) = .pointer none) := by rw [Hid, ← hgv]; rfl
        have HNO : Hid (c b ∉ L2.map c2) := fun hm => by
          obtain ⟨b2, hb2, e2⟩ := List.mem_map.1 hm
          have := (HKY.out xa (ptr b2)).2 ⟨b2, hb2, by rw [e2, HCB.out], rfl⟩
          rw [← hgv] at this
          cases this
        clear hgv
        generalize hC7 : Code.region 7 _ _ = C7
        go_wp2_with fail
        change (Code.region 6 o13r6 true).wp _ _ _ _
        refine wp_region_plan (fun w' => Kp (fun _ => False) W1 w') [] c13r6 p13r6_0 hmix b13r6 d13r6 (fun _ _ d _ _ h => by cases d <;> exact h) ?_
        refine plan_take (o := q13r6_0) (r := p13r6_1) ?vfa0 H0.out (by rfl) ?hyfa0 ?restfa0
        case hyfa0 => (intro w hSw; (try dsimp only at hSw); simp only [q13r6_0]; go_simp; try with_reducible rfl)
        try simp only [q13r6_0, Act.put, List.setIfInBounds_toArray, List.set_cons_zero, List.set_cons_succ]
        refine plan_take (o := q13r6_1) (r := p13r6_2) ?vfa1 H0.out (by rfl) ?hyfa1 ?restfa1
        case hyfa1 => (intro w hSw; (try dsimp only at hSw); simp only [q13r6_1]; go_simp; try with_reducible rfl)
        try simp only [q13r6_1, Act.put, List.setIfInBounds_toArray, List.set_cons_zero, List.set_cons_succ]
        refine plan_take (o := q13r6_2) (r := p13r6_3) ?vfa2 H0.out (by rfl) ?hyfa2 ?restfa2
        case hyfa2 => (intro w hSw; (try dsimp only at hSw); simp only [q13r6_2]; go_simp; try with_reducible rfl)
        try simp only [q13r6_2, Act.put, List.setIfInBounds_toArray, List.set_cons_zero, List.set_cons_succ]
        refine plan_take (o := q13r6_3) (r := p13r6_4) ?vfa3 H0.out (by rfl) ?hyfa3 ?restfa3
        case hyfa3 => (intro w hSw; (try dsimp only at hSw); have y := HQ2.out _ (HWT.out _ hSw); simp only [q13r6_3]; go_simp; try with_reducible rfl)
        try simp only [q13r6_3, Act.put, List.setIfInBounds_toArray, List.set_cons_zero, List.set_cons_succ]
        refine plan_take (o := q13r6_4) (r := p13r6_5) ?vfa4 H0.out (by rfl) ?hyfa4 ?restfa4
        case hyfa4 => (intro w hSw; (try dsimp only at hSw); simp only [q13r6_4]; go_simp; try with_reducible rfl)
        try simp only [q13r6_4, Act.put, List.setIfInBounds_toArray, List.set_cons_zero, List.set_cons_succ]
        refine plan_take (o := q13r6_5) (r := p13r6_6) ?vfa5 H0.out (by rfl) ?hyfa5 ?restfa5
        case hyfa5 => (intro w hSw; (try dsimp only at hSw); simp only [q13r6_5]; go_simp; try with_reducible rfl)
        try simp only [q13r6_5, Act.put, List.setIfInBounds_toArray, List.set_cons_zero, List.set_cons_succ]
        refine plan_take (o := q13r6_6) (r := p13r6_7) ?vfa6 H0.out (by rfl) ?hyfa6 ?restfa6
        case hyfa6 => (intro w hSw; (try dsimp only at hSw); simp only [q13r6_6]; go_simp; try with_reducible rfl)
        try simp only [q13r6_6, Act.put, List.setIfInBounds_toArray, List.set_cons_zero, List.set_cons_succ]
        refine plan_take (o := q13r6_7) (r := p13r6_8) ?vfa7 H0.out (by rfl) ?hyfa7 ?restfa7
        case hyfa7 => (intro w hSw; (try dsimp only at hSw); simp only [q13r6_7]; go_simp; try with_reducible rfl)
        try simp only [q13r6_7, Act.put, List.setIfInBounds_toArray, List.set_cons_zero, List.set_cons_succ]
        refine plan_take (o := q13r6_8) (r := p13r6_9) ?vfa8 H0.out (by rfl) ?hyfa8 ?restfa8
        case hyfa8 => (intro w hSw; (try dsimp only at hSw); have y := (HBC.out _ (HWT.out _ hSw)).1; simp only [q13r6_8]; go_simp; try with_reducible rfl)
        try simp only [q13r6_8, Act.put, List.setIfInBounds_toArray, List.set_cons_zero, List.set_cons_succ]
        refine plan_act (o := q13r6_9) (r := p13r6_10) (fun K hK => ?_)
        simp only [q13r6_9]
        refine ite_pos2 (by rfl) ?_
        refine wp_lookup_mp _ _ rfl ky2 Try.underlying71 (.pointer none) (by kernel_rfl) mb2 kb2 eb2 rfl (HMB.out _ (HWT.out _ H0.out)) xa rfl (.pointer none) HGG.out ?_
        refine hK.out _ _ (fun _ => H0.out) ?_
        clear hK K
        try simp only [q13r6_9, Act.put, List.setIfInBounds_toArray, List.set_cons_zero, List.set_cons_succ]
        refine plan_take (o := q13r6_10) (r := p13r6_11) ?vfa10 H0.out (by rfl) ?hyfa10 ?restfa10
        case hyfa10 => (intro w hSw; (try dsimp only at hSw); simp only [q13r6_10]; go_simp; try with_reducible rfl)
        try simp only [q13r6_10, Act.put, List.setIfInBounds_toArray, List.set_cons_zero, List.set_cons_succ]
        refine plan_done ?_
        clear HGG
        subst hC7
        generalize W1.drew = W2 at *
        go_wp2_with fail
        go_quiet (fail)
        go_wp2_with fail
        go_ret
        exact ⟨HFN.out _ (List.mem_map_of_mem HBL.out) HNO.out _ rfl, HKN.out.trans (drewN_kp _ _ _) (fun _ _ h => h)⟩
      | some uu =>
        obtain ⟨b2, hb2, e2, rfl⟩ := (HKY.out xa uu).1 hgv.symm
        have HGG : Hid ((mget eb2 xa).getD (.pointer none) = .pointer (some ⟨b2, 0, none⟩)) := by rw [Hid, ← hgv]; rfl
        have HB2 := hid hb2
        obtain ⟨s2, hs2⟩ := HH2.out.ln.wt hb2
        have HWb2 := hid hs2
        obtain ⟨ya, hya⟩ : ∃ ya, ya = (c2 b2).a := ⟨_, rfl⟩
        obtain ⟨yn, hyn⟩ : ∃ yn, yn = (c2 b2).n := ⟨_, rfl⟩
        have HCB2 : Hid (c2 b2 = ⟨ya, yn⟩) := Rn.ext' hya.symm hyn.symm
        have HBC2 : Hid (∀ U, Kp (fun _ => False) w U → U.cell? ⟨b2, 0, none⟩ = some (.int .i64 ya) ∧ U.cell? ⟨b2, 1, none⟩ = some (.int .i64 yn)) := fun U hU => ⟨by rw [hya]; exact (St.kp HWb2.out hU (fun h => h)).cell 0, by rw [hyn]; exact (St.kp HWb2.out hU (fun h => h)).cell 1⟩
        have HE2 : Hid (ya = xa) := by rw [Hid, hya]; exact e2
        clear hgv hb2 e2 hs2 hya hyn
        generalize hC7 : Code.region 7 _ _ = C7
        go_wp2_with fail
        change (Code.region 6 o13r6 true).wp _ _ _ _
        refine wp_region_plan (fun w' => Kp (fun _ => False) W1 w') [] c13r6 p13r6_0 hmix b13r6 d13r6 (fun _ _ d _ _ h => by cases d <;> exact h) ?_
        refine plan_take (o := q13r6_0) (r := p13r6_1) ?vfb0 H0.out (by rfl) ?hyfb0 ?restfb0
        case hyfb0 => (intro w hSw; (try dsimp only at hSw); simp only [q13r6_0]; go_simp; try with_reducible rfl)
        try simp only [q13r6_0, Act.put, List.setIfInBounds_toArray, List.set_cons_zero, List.set_cons_succ]
        refine plan_take (o := q13r6_1) (r := p13r6_2) ?vfb1 H0.out (by rfl) ?hyfb1 ?restfb1
        case hyfb1 => (intro w hSw; (try dsimp only at hSw); simp only [q13r6_1]; go_simp; try with_reducible rfl)
        try simp only [q13r6_1, Act.put, List.setIfInBounds_toArray, List.set_cons_zero, List.set_cons_succ]
        refine plan_take (o := q13r6_2) (r := p13r6_3) ?vfb2 H0.out (by rfl) ?hyfb2 ?restfb2
        case hyfb2 => (intro w hSw; (try dsimp only at hSw); simp only [q13r6_2]; go_simp; try with_reducible rfl)
        try simp only [q13r6_2, Act.put, List.setIfInBounds_toArray, List.set_cons_zero, List.set_cons_succ]
        refine plan_take (o := q13r6_3) (r := p13r6_4) ?vfb3 H0.out (by rfl) ?hyfb3 ?restfb3
        case hyfb3 => (intro w hSw; (try dsimp only at hSw); have y := HQ2.out _ (HWT.out _ hSw); simp only [q13r6_3]; go_simp; try with_reducible rfl)
        try simp only [q13r6_3, Act.put, List.setIfInBounds_toArray, List.set_cons_zero, List.set_cons_succ]
        refine plan_take (o := q13r6_4) (r := p13r6_5) ?vfb4 H0.out (by rfl) ?hyfb4 ?restfb4
        case hyfb4 => (intro w hSw; (try dsimp only at hSw); simp only [q13r6_4]; go_simp; try with_reducible rfl)
        try simp only [q13r6_4, Act.put, List.setIfInBounds_toArray, List.set_cons_zero, List.set_cons_succ]
        refine plan_take (o := q13r6_5) (r := p13r6_6) ?vfb5 H0.out (by rfl) ?hyfb5 ?restfb5
        case hyfb5 => (intro w hSw; (try dsimp only at hSw); simp only [q13r6_5]; go_simp; try with_reducible rfl)
        try simp only [q13r6_5, Act.put, List.setIfInBounds_toArray, List.set_cons_zero, List.set_cons_succ]
        refine plan_take (o := q13r6_6) (r := p13r6_7) ?vfb6 H0.out (by rfl) ?hyfb6 ?restfb6
        case hyfb6 => (intro w hSw; (try dsimp only at hSw); simp only [q13r6_6]; go_simp; try with_reducible rfl)
        try simp only [q13r6_6, Act.put, List.setIfInBounds_toArray, List.set_cons_zero, List.set_cons_succ]
        refine plan_take (o := q13r6_7) (r := p13r6_8) ?vfb7 H0.out (by rfl) ?hyfb7 ?restfb7
        case hyfb7 => (intro w hSw; (try dsimp only at hSw); simp only [q13r6_7]; go_simp; try with_reducible rfl)
        try simp only [q13r6_7, Act.put, List.setIfInBounds_toArray, List.set_cons_zero, List.set_cons_succ]
        refine plan_take (o := q13r6_8) (r := p13r6_9) ?vfb8 H0.out (by rfl) ?hyfb8 ?restfb8
        case hyfb8 => (intro w hSw; (try dsimp only at hSw); have y := (HBC.out _ (HWT.out _ hSw)).1; simp only [q13r6_8]; go_simp; try with_reducible rfl)
        try simp only [q13r6_8, Act.put, List.setIfInBounds_toArray, List.set_cons_zero, List.set_cons_succ]
        refine plan_act (o := q13r6_9) (r := p13r6_10) (fun K hK => ?_)
        simp only [q13r6_9]
        refine ite_pos2 (by rfl) ?_
        refine wp_lookup_mp _ _ rfl ky2 Try.underlying71 (.pointer none) (by kernel_rfl) mb2 kb2 eb2 rfl (HMB.out _ (HWT.out _ H0.out)) xa rfl (.pointer (some ⟨b2, 0, none⟩)) HGG.out ?_
        refine hK.out _ _ (fun _ => H0.out) ?_
        clear hK K
        try simp only [q13r6_9, Act.put, List.setIfInBounds_toArray, List.set_cons_zero, List.set_cons_succ]
        refine plan_take (o := q13r6_10) (r := p13r6_11) ?vfb10 H0.out (by rfl) ?hyfb10 ?restfb10
        case hyfb10 => (intro w hSw; (try dsimp only at hSw); simp only [q13r6_10]; go_simp; try with_reducible rfl)
        try simp only [q13r6_10, Act.put, List.setIfInBounds_toArray, List.set_cons_zero, List.set_cons_succ]
        refine plan_done ?_
        clear HGG
        subst hC7
        generalize W1.drew = W2 at *
        obtain ⟨z0, z1⟩ := HBC.out W2 HKN.out
        obtain ⟨z2, z3⟩ := HBC2.out W2 HKN.out
        have hnq := fun U : World => neq_r ⟨ya, yn⟩ ⟨xa, xn⟩ U
        dsimp only at hnq
        by_cases hq : yn = xn
        · have hqq : Rn.eq ⟨ya, yn⟩ ⟨xa, xn⟩ = true := by rw [HE2.out, hq]; exact Rn.eq_self _
          have HIN : Hid (c b ∈ L2.map c2) := List.mem_map.2 ⟨b2, HB2.out, by rw [HCB2.out, HCB.out, HE2.out, hq]⟩
          rw [hqq] at hnq
          clear hq hqq
          go_wp2_with fail
          go_quiet (fail)
          go_wp2_with fail
          go_roundw
          case rel => exact ⟨k + 1, by go_num, hlt, HKN.out.trans (drewN_kp _ _ _) (fun _ _ h => h), by
            rw [HTS.out]
            intro x hx
            rcases List.mem_append.1 hx with hx | hx
            · exact HI.out x hx
            · rw [List.mem_singleton.1 hx]; exact HIN.out⟩
          case measure => simp [intOf]; omega
        · have hqq : Rn.eq ⟨ya, yn⟩ ⟨xa, xn⟩ = false := Rn.eq_ne (fun e => hq (by cases e; rfl))
          have HNO : Hid (c b ∉ L2.map c2) := fun hm => by
            obtain ⟨b3, hb3, e3⟩ := List.mem_map.1 hm
            have h4 : b3 = b2 := lc_inj HH2.out.ap hb3 HB2.out (by
              rw [e3, HCB.out, HCB2.out]
              have h5 := HH2.out.ln.may b2 HB2.out
              have h6 := HH2.out.ln.may b3 hb3
              rw [HCB2.out] at h5
              rw [e3, HCB.out] at h6
              have h7 : ya = xa := HE2.out
              unfold Mayr Rn.e at h5 h6
              unfold Aprt Rn.e
              dsimp only at *
              omega)
            rw [h4, HCB2.out, HCB.out] at e3
            injection e3 with e4 e5
            exact hq e5
          rw [hqq] at hnq
          clear hq hqq
          go_wp2_with fail
          go_quiet (fail)
          go_wp2_with fail
          go_ret
          exact ⟨HFN.out _ (List.mem_map_of_mem HBL.out) HNO.out _ rfl, HKN.out.trans (drewN_kp _ _ _) (fun _ _ h => h)⟩
    · obtain rfl : k = n := by omega
      have HA : Hid (∀ x ∈ L.map c, x ∈ L2.map c2) := by
        have := HI.out
        rw [List.take_of_length_le (by have := HN.out; omega)] at this
        exact this
      have H9 : Hid (Kp (fun _ => False) wr wr.drew) := (Kp.refl _ _).drew
      generalize hC10 : Code.region 10 _ _ = C10
      go_wp2_with fail
      subst hC10
      change (Code.region 10 o13r10 true).wp _ _ _ _
      refine wp_region_planP (fun w' => Kp (fun _ => False) wr w') [] c13r10 p13r10_0 hmix b13r10 d13r10 (fun _ _ d _ _ h => by cases d <;> exact h) ?_
      refine planP_take (o := q13r10_0) (r := p13r10_1) ?vhz0 H9.out (by rfl) ?hyhz0 ?resthz0
      case hyhz0 => (intro w hSw; (try dsimp only at hSw); simp only [q13r10_0]; go_simp; try with_reducible rfl)
      try simp only [q13r10_0, Act.put, List.setIfInBounds_toArray, List.set_cons_zero, List.set_cons_succ]
      refine planP_take (o := q13r10_1) (r := p13r10_2) ?vhz1 H9.out (by rfl) ?hyhz1 ?resthz1
      case hyhz1 => (intro w hSw; (try dsimp only at hSw); simp only [q13r10_1]; go_simp; try with_reducible rfl)
      try simp only [q13r10_1, Act.put, List.setIfInBounds_toArray, List.set_cons_zero, List.set_cons_succ]
      refine planP_take (o := q13r10_2) (r := p13r10_3) ?vhz2 H9.out (by rfl) ?hyhz2 ?resthz2
      case hyhz2 => (intro w hSw; (try dsimp only at hSw); simp only [q13r10_2]; go_simp; try with_reducible rfl)
      try simp only [q13r10_2, Act.put, List.setIfInBounds_toArray, List.set_cons_zero, List.set_cons_succ]
      refine planP_take (o := q13r10_3) (r := p13r10_4) ?vhz3 H9.out (by rfl) ?hyhz3 ?resthz3
      case hyhz3 => (intro w hSw; (try dsimp only at hSw); have y := (HQ1.out _ (HK.out.trans hSw (fun _ _ h => h))); simp only [q13r10_3]; go_simp; try with_reducible rfl)
      try simp only [q13r10_3, Act.put, List.setIfInBounds_toArray, List.set_cons_zero, List.set_cons_succ]
      refine planP_call (o := q13r10_4) (r := p13r10_5) (.int .i64 (k : Int)) H9.out (by rfl) 34 (#[.pointer (some ⟨B, 0, none⟩)]) (fun w => by simp only [q13r10_4]; go_simp; try with_reducible rfl) (fun w hSw => HL1.out w (HK.out.trans hSw (fun _ _ h => h))) ?_
      try simp only [q13r10_4, Act.put, List.setIfInBounds_toArray, List.set_cons_zero, List.set_cons_succ]
      refine planP_take (o := q13r10_5) (r := p13r10_6) ?vhz5 H9.out (by rfl) ?hyhz5 ?resthz5
      case hyhz5 => (intro w hSw; (try dsimp only at hSw); simp only [q13r10_5]; go_simp; try with_reducible rfl)
      try simp only [q13r10_5, Act.put, List.setIfInBounds_toArray, List.set_cons_zero, List.set_cons_succ]
      refine planP_take (o := q13r10_6) (r := p13r10_7) ?vhz6 H9.out (by rfl) ?hyhz6 ?resthz6
      case hyhz6 => (intro w hSw; (try dsimp only at hSw); simp only [q13r10_6]; go_simp; try with_reducible rfl)
      try simp only [q13r10_6, Act.put, List.setIfInBounds_toArray, List.set_cons_zero, List.set_cons_succ]
      refine planP_take (o := q13r10_7) (r := p13r10_8) ?vhz7 H9.out (by rfl) ?hyhz7 ?resthz7
      case hyhz7 => (intro w hSw; (try dsimp only at hSw); simp only [q13r10_7]; go_simp; try with_reducible rfl)
      try simp only [q13r10_7, Act.put, List.setIfInBounds_toArray, List.set_cons_zero, List.set_cons_succ]
      refine planP_take (o := q13r10_8) (r := p13r10_9) ?vhz8 H9.out (by rfl) ?hyhz8 ?resthz8
      case hyhz8 => (intro w hSw; (try dsimp only at hSw); have y := (HQ0.out _ (HK.out.trans hSw (fun _ _ h => h))); simp only [q13r10_8]; go_simp; try with_reducible rfl)
      try simp only [q13r10_8, Act.put, List.setIfInBounds_toArray, List.set_cons_zero, List.set_cons_succ]
      refine planP_call (o := q13r10_9) (r := p13r10_10) (.int .i64 (L2.length : Int)) H9.out (by rfl) 34 (#[.pointer (some ⟨B2, 0, none⟩)]) (fun w => by simp only [q13r10_9]; go_simp; try with_reducible rfl) (fun w hSw => HL2.out w (HK.out.trans hSw (fun _ _ h => h))) ?_
      try simp only [q13r10_9, Act.put, List.setIfInBounds_toArray, List.set_cons_zero, List.set_cons_succ]
      refine planP_take (o := q13r10_10) (r := p13r10_11) ?vhz10 H9.out (by rfl) ?hyhz10 ?resthz10
      case hyhz10 => (intro w hSw; (try dsimp only at hSw); simp only [q13r10_10]; go_simp; try with_reducible rfl)
      try simp only [q13r10_10, Act.put, List.setIfInBounds_toArray, List.set_cons_zero, List.set_cons_succ]
      refine planP_take (o := q13r10_11) (r := p13r10_12) ?vhz11 H9.out (by rfl) ?hyhz11 ?resthz11
      case hyhz11 => (intro w hSw; (try dsimp only at hSw); simp only [q13r10_11]; go_simp; try with_reducible rfl)
      try simp only [q13r10_11, Act.put, List.setIfInBounds_toArray, List.set_cons_zero, List.set_cons_succ]
      refine planP_done ?_
      go_wp2_with fail
      go_ret
      refine ⟨?_, HK.out.trans H9.out (fun _ _ h => h)⟩
      have h9 := HFY.out HA.out
      rw [show ((k : Int) == (L2.length : Int)) = decide (k = L2.length) by rw [Bool.eq_iff_iff, beq_iff_eq, decide_eq_true_eq]; omega]
      exact h9
theorem same_w {w : World} {Q Q2 : Nat} {R R2 : List Rn} {F F2 : Nat → Prop} (h : Lw Q R F w) (h2 : Lw Q2 R2 F2 w) :
    Calls Try.prog 13 #[.pointer (some ⟨Q, 0, none⟩), .pointer (some ⟨Q2, 0, none⟩)] w fun e w' => SmR R R2 e ∧ Kp (fun _ => False) w w' := by
  obtain ⟨B, mb, me, c, v, L, h1, e1, _⟩ := h
  obtain ⟨B2, mb2, me2, c2, v2, L2, h3, e2, _⟩ := h2
  subst e1 e2
  exact same_any w c Q B mb me v L h1 c2 Q2 B2 mb2 me2 v2 L2 h3
end Go.Proofs.Ytgfondgejimkkaa
