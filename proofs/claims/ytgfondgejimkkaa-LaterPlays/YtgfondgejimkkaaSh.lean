/- later: sort.Search, shares. -/
import Derived.Test.YtgfondgejimkkaaTg
import Derived.Test.YtgfondgejimkkaaRn
namespace Go.Proofs.Ytgfondgejimkkaa
open Go.RowKit
set_option linter.unusedVariables false
set_option linter.unusedSimpArgs false
set_option maxRecDepth 100000 in
set_option maxHeartbeats 4000000 in
theorem sh1_any (w : World) (p2 p3 gb off n cap i : Nat) (l : List Rn) (x : Rn) (s2 : St 22 w p2 #[.slice (some ⟨gb, off, none⟩) n cap]) (s3 : St 38 w p3 x.cs) (hl : l.length = n) (hn : n ≤ 1000000) (hi : i < n) (hm : Mayr (l.getD i zRn)) (hs : Srcr w (some ⟨gb, off, none⟩) l) :
    Calls Try.prog 72 #[.int .i64 (i : Int), ptr p2, ptr p3] w fun e w' => e = .returned (.bool (decide (x.a < (l.getD i zRn).e))) ∧ Below w.heap.size w w' := by
  obtain ⟨g2, o2, e2, hgb, x0, x1⟩ := hs.at (i := i) (by omega)
  cases e2
  have c2 : w.cell? ⟨p2, 0, none⟩ = some (.slice (some ⟨gb, off, none⟩) n cap) := s2.cell 0
  have c3 : w.cell? ⟨p3, 0, none⟩ = some (.int .i64 x.a) := s3.cell 0
  have HEN := hid (fun U => end_any (l.getD i zRn) U hm)
  generalize l.getD i zRn = y at *
  obtain ⟨ya, yn⟩ := y
  unfold Rn.cs at HEN
  dsimp only at x0 x1 HEN
  have HC : Hid (∀ U, Below w.heap.size w U → (fun U : World => U.cell? ⟨p2, 0, none⟩ = some (.slice (some ⟨gb, off, none⟩) n cap) ∧ U.cell? ⟨p3, 0, none⟩ = some (.int .i64 x.a) ∧ U.cell? ⟨gb, off + i * 2, none⟩ = some (.int .i64 ya) ∧ U.cell? ⟨gb, off + i * 2 + 1, none⟩ = some (.int .i64 yn)) U) := fun U hU => ⟨(hU.cell (p := ⟨p2, 0, none⟩) s2.lt).trans c2, (hU.cell (p := ⟨p3, 0, none⟩) s3.lt).trans c3, (hU.cell (p := ⟨gb, off + i * 2, none⟩) hgb).trans x0, (hU.cell (p := ⟨gb, off + i * 2 + 1, none⟩) hgb).trans x1⟩
  have H0 : Hid (Below w.heap.size w w.drew) := ⟨rfl, rfl, rfl, Nat.le_refl _, fun _ _ => rfl⟩
  have cc := HC.out _ H0.out
  have HTR : Hid (∀ U V : World, Below w.heap.size w U → Below U.heap.size U V → Below w.heap.size w V) := fun U V h k => h.trans (k.mono h.size)
  have hii : (i : Int) < (n : Int) := by omega
  clear s2 s3 hs hm c2 c3 x0 x1
  generalize (⟨ya, yn⟩ : Rn).e = ye at *
  unfold ptr
  go_enter Try.func72, Try.ntmps72
  go_wp2_with fail
  go_region_held3 (fun U : World => U.cell? ⟨p2, 0, none⟩ = some (.slice (some ⟨gb, off, none⟩) n cap) ∧ U.cell? ⟨p3, 0, none⟩ = some (.int .i64 x.a) ∧ U.cell? ⟨gb, off + i * 2, none⟩ = some (.int .i64 ya) ∧ U.cell? ⟨gb, off + i * 2 + 1, none⟩ = some (.int .i64 yn)) (first | exact cc | exact cd) (first | (go_at_call 48; refine (HEN.out _).mono ?_; rintro e w5 ⟨rfl, b5⟩; have B5 := hid (HTR.out _ _ H0.out b5); have cd := HC.out w5 B5.out; clear b5))
  go_wp2_with fail
  go_ret
  exact ⟨by simp, B5.out⟩
/-- What Search finds. -/
def IsF (p : Nat → Bool) (n i : Nat) : Prop := i ≤ n ∧ (∀ j, j < i → p j = false) ∧ (i < n → p i = true)
set_option maxRecDepth 100000 in
set_option maxHeartbeats 4000000 in
theorem search_any (w : World) (p2 p3 n : Nat) (p : Nat → Bool) (hn : n ≤ 1000000) (hp : ∀ i j, i ≤ j → j < n → p i = true → p j = true) (hc : ∀ U i, Below w.heap.size w U → i < n → Calls Try.prog 72 #[.int .i64 (i : Int), ptr p2, ptr p3] U fun e w' => e = .returned (.bool (p i)) ∧ Below U.heap.size U w') :
    Calls Try.prog 71 #[.int .i64 (n : Int), .func (.func 72) #[] #[ptr p2, ptr p3]] w fun e w' => ∃ i, e = .returned (.int .i64 ((i : Nat) : Int)) ∧ IsF p n i ∧ Below w.heap.size w w' := by
  have HC := hid hc
  have HP := hid hp
  clear hc hp
  unfold ptr at *
  go_enter Try.func71, Try.ntmps71
  go_wp2_with fail
  go_loopw [5, 6] (fun a b wr => ∃ i j : Nat, a = .int .i64 (i : Int) ∧ b = .int .i64 (j : Int) ∧ i ≤ j ∧ j ≤ n ∧ Hid ((∀ k, k < i → p k = false) ∧ (j < n → p j = true)) ∧ Hid (Below w.heap.size w wr)) (fun a b _ => (intOf b).toNat - (intOf a).toNat)
  case atStart => exact ⟨0, n, rfl, rfl, Nat.zero_le _, Nat.le_refl _, ⟨fun k hk => by omega, fun h => by omega⟩, Below.refl _ _⟩
  case round =>
    obtain ⟨i, j, rfl, rfl, hij, hjn, HI, HB⟩ := hrel
    by_cases hlt : i < j
    · have hd : (i : Int) < (j : Int) := by omega
      obtain ⟨h, hh⟩ : ∃ h : Nat, h = (i + j) / 2 := ⟨_, rfl⟩
      have hhi : ((i : Int) + (j : Int)) / 2 = (h : Int) := by omega
      have hih : i ≤ h ∧ h < j := by omega
      have HCH := hid (HC.out wr h HB.out (by omega))
      clear hh
      cases hph : p h with
      | true =>
        rw [hph] at HCH
        have HN : Hid ((∀ k, k < i → p k = false) ∧ (h < n → p h = true)) := ⟨HI.out.1, fun _ => hph⟩
        clear hph
        go_wp2_with (first | (go_at_call 72; refine HCH.out.mono ?_; rintro e w1 ⟨rfl, b1⟩; have B1 := hid (HB.out.trans (b1.mono HB.out.size)); clear b1))
        go_roundw
        case rel => exact ⟨i, h, rfl, rfl, hih.1, by omega, HN, B1⟩
        case measure => simp [intOf]; omega
      | false =>
        rw [hph] at HCH
        have HN : Hid ((∀ k, k < h + 1 → p k = false) ∧ (j < n → p j = true)) := ⟨fun k hk => by
          cases hpk : p k with
          | false => rfl
          | true => exact absurd (HP.out k h (by omega) (by omega) hpk) (by rw [hph]; simp), HI.out.2⟩
        clear hph
        go_wp2_with (first | (go_at_call 72; refine HCH.out.mono ?_; rintro e w1 ⟨rfl, b1⟩; have B1 := hid (HB.out.trans (b1.mono HB.out.size)); clear b1))
        go_roundw
        case rel => exact ⟨h + 1, j, by go_num, rfl, by omega, hjn, HN, B1⟩
        case measure => simp [intOf]; omega
    · obtain rfl : i = j := by omega
      go_wp2_with fail
      go_ret
      exact ⟨i, rfl, ⟨hjn, HI.out.1, HI.out.2⟩, HB.out⟩
def q61r2_0 : Oper := { dst := some 10, op := Go.Op.move (Go.Operand.tmp 5), type := 3, pos := "run.go:37", after := #[], guard := none }
def q61r2_1 : Oper := { dst := some 11, op := Go.Op.load 22 (Go.Operand.tmp 2), type := 22, pos := "run.go:37", after := #[], guard := none }
def q61r2_2 : Oper := { dst := some 12, op := Go.Op.call { callee := Go.Callee.builtin Go.Builtin.len, args := #[Go.Operand.tmp 11], argTypes := #[22] }, type := 3, pos := "run.go:37", after := #[{ on := 1, ground := Go.Ground.data }], guard := none }
def q61r2_3 : Oper := { dst := some 13, op := Go.Op.binOp Go.BinOp.lss 3 (Go.Operand.tmp 10) (Go.Operand.tmp 12) 3, type := 4, pos := "run.go:37", after := #[{ on := 0, ground := Go.Ground.data }, { on := 2, ground := Go.Ground.data }], guard := none }
def q61r2_4 : Oper := { dst := some 14, op := Go.Op.move (Go.Operand.tmp 13), type := 4, pos := "run.go:37", after := #[{ on := 3, ground := Go.Ground.data }], guard := none }
def q61r2_5 : Oper := { dst := some 15, op := Go.Op.load 22 (Go.Operand.tmp 2), type := 22, pos := "run.go:37", after := #[{ on := 4, ground := Go.Ground.guard }], guard := some (4, true) }
def q61r2_6 : Oper := { dst := some 16, op := Go.Op.move (Go.Operand.tmp 5), type := 3, pos := "run.go:37", after := #[{ on := 4, ground := Go.Ground.guard }], guard := some (4, true) }
def q61r2_7 : Oper := { dst := some 17, op := Go.Op.indexAddr 22 (Go.Operand.tmp 15) (Go.Operand.tmp 16), type := 0, pos := "run.go:37", after := #[{ on := 5, ground := Go.Ground.data }, { on := 6, ground := Go.Ground.data }, { on := 4, ground := Go.Ground.guard }], guard := some (4, true) }
def q61r2_8 : Oper := { dst := some 18, op := Go.Op.fieldAddr 38 (Go.Operand.tmp 17) 0, type := 0, pos := "run.go:37", after := #[{ on := 7, ground := Go.Ground.data }, { on := 4, ground := Go.Ground.guard }], guard := some (4, true) }
def q61r2_9 : Oper := { dst := some 19, op := Go.Op.load 2 (Go.Operand.tmp 18), type := 2, pos := "run.go:37", after := #[{ on := 8, ground := Go.Ground.data }, { on := 4, ground := Go.Ground.guard }], guard := some (4, true) }
def q61r2_10 : Oper := { dst := some 20, op := Go.Op.load 38 (Go.Operand.tmp 3), type := 38, pos := "run.go:37", after := #[{ on := 4, ground := Go.Ground.guard }], guard := some (4, true) }
def q61r2_11 : Oper := { dst := some 21, op := Go.Op.call { callee := Go.Callee.value (Go.Operand.func 48), args := #[Go.Operand.tmp 20], argTypes := #[38] }, type := 2, pos := "run.go:37", after := #[{ on := 10, ground := Go.Ground.data }, { on := 4, ground := Go.Ground.chain }, { on := 4, ground := Go.Ground.guard }], guard := some (4, true) }
def q61r2_12 : Oper := { dst := some 22, op := Go.Op.binOp Go.BinOp.lss 2 (Go.Operand.tmp 19) (Go.Operand.tmp 21) 2, type := 4, pos := "run.go:37", after := #[{ on := 9, ground := Go.Ground.data }, { on := 11, ground := Go.Ground.data }, { on := 4, ground := Go.Ground.guard }], guard := some (4, true) }
def q61r2_13 : Oper := { dst := some 23, op := Go.Op.pick (Go.Operand.tmp 14) (Go.Operand.tmp 22) (Go.Operand.const (Go.Value.bool false)), type := 4, pos := "run.go:37", after := #[{ on := 4, ground := Go.Ground.data }, { on := 12, ground := Go.Ground.data }], guard := none }
def q61r2_14 : Oper := { dst := some 4, op := Go.Op.assign (Go.Operand.tmp 23), type := 4, pos := "run.go:37", after := #[{ on := 13, ground := Go.Ground.data }, { on := 11, ground := Go.Ground.chain }, { on := 0, ground := Go.Ground.phase }, { on := 1, ground := Go.Ground.phase }, { on := 2, ground := Go.Ground.phase }, { on := 3, ground := Go.Ground.phase }, { on := 4, ground := Go.Ground.phase }, { on := 5, ground := Go.Ground.phase }, { on := 6, ground := Go.Ground.phase }, { on := 7, ground := Go.Ground.phase }, { on := 8, ground := Go.Ground.phase }, { on := 9, ground := Go.Ground.phase }, { on := 10, ground := Go.Ground.phase }, { on := 11, ground := Go.Ground.phase }, { on := 12, ground := Go.Ground.phase }, { on := 13, ground := Go.Ground.phase }], guard := none }
def o61r2 : Array Oper := #[q61r2_0, q61r2_1, q61r2_2, q61r2_3, q61r2_4, q61r2_5, q61r2_6, q61r2_7, q61r2_8, q61r2_9, q61r2_10, q61r2_11, q61r2_12, q61r2_13, q61r2_14]
def p61r2_15 : List (Nat × Oper) := []
def p61r2_14 : List (Nat × Oper) := (0, q61r2_14) :: p61r2_15
def p61r2_13 : List (Nat × Oper) := (0, q61r2_13) :: p61r2_14
def p61r2_12 : List (Nat × Oper) := (0, q61r2_12) :: p61r2_13
def p61r2_11 : List (Nat × Oper) := (1, q61r2_11) :: p61r2_12
def p61r2_10 : List (Nat × Oper) := (0, q61r2_10) :: p61r2_11
def p61r2_9 : List (Nat × Oper) := (0, q61r2_9) :: p61r2_10
def p61r2_8 : List (Nat × Oper) := (0, q61r2_8) :: p61r2_9
def p61r2_7 : List (Nat × Oper) := (0, q61r2_7) :: p61r2_8
def p61r2_6 : List (Nat × Oper) := (0, q61r2_6) :: p61r2_7
def p61r2_5 : List (Nat × Oper) := (0, q61r2_5) :: p61r2_6
def p61r2_4 : List (Nat × Oper) := (0, q61r2_4) :: p61r2_5
def p61r2_3 : List (Nat × Oper) := (0, q61r2_3) :: p61r2_4
def p61r2_2 : List (Nat × Oper) := (0, q61r2_2) :: p61r2_3
def p61r2_1 : List (Nat × Oper) := (0, q61r2_1) :: p61r2_2
def p61r2_0 : List (Nat × Oper) := (0, q61r2_0) :: p61r2_1
def c61r2 : List (Nat × Nat) := [(0, 0), (0, 1), (0, 2), (0, 3), (0, 4), (0, 5), (0, 6), (0, 7), (0, 8), (0, 9), (0, 10), (1, 11), (0, 12), (0, 13), (0, 14)]
theorem b61r2 : (Region.noSelect o61r2 && (c61r2.length == o61r2.size) && planB o61r2 [] c61r2 (Array.replicate o61r2.size false)) = true := by kernel_rfl
theorem d61r2 : (c61r2.map fun p => (p.1, o61r2[p.2]?)) = (p61r2_0.map fun p => (p.1, some p.2)) := by kernel_rfl

set_option maxRecDepth 100000 in
set_option maxHeartbeats 8000000 in
theorem shares_any (w : World) (ao : Option Addr) (n cap : Nat) (l : List Rn) (x : Rn) (hl : l.length = n) (hn : n ≤ 1000000) (hcan : Can l) (hx : Mayr x) (hs : Srcr w ao l) :
    Calls Try.prog 61 #[.slice ao n cap, .agg x.cs] w fun e w' => e = .returned (.bool (shr l x)) ∧ Below w.heap.size w w' := by
  have HS := hid hs
  have HL := hid hl
  have HCAN := hid hcan
  have HX := hid hx
  have b0 : Below w.heap.size w ((w.alloc (.cells #[.slice ao n cap] 22)).alloc (.cells x.cs 38)) := ((Below.refl _ _).alloc (Nat.le_refl _) _).alloc (by rw [World.size_alloc]; omega) _
  have s2 := (St.new 22 w #[.slice ao n cap]).kp ((Kp.refl (fun _ => False) _).alloc (.cells x.cs 38)) (fun h => h)
  have s3 := St.new 38 (w.alloc (.cells #[.slice ao n cap] 22)) x.cs
  rw [World.size_alloc] at s3
  have hsz : ((w.alloc (.cells #[.slice ao n cap] 22)).alloc (.cells x.cs 38)).heap.size = w.heap.size + 1 + 1 := by simp
  obtain ⟨xa, xn⟩ := x
  unfold Rn.cs at *
  dsimp only at *
  have HSE : Hid (∀ V p2 p3, St 22 V p2 #[.slice ao n cap] → St 38 V p3 #[.int .i64 xa, .int .i64 xn] → Below w.heap.size w V → Calls Try.prog 71 #[.int .i64 (n : Int), .func (.func 72) #[] #[.pointer (some ⟨p2, 0, none⟩), .pointer (some ⟨p3, 0, none⟩)]] V fun e w' => ∃ i, e = .returned (.int .i64 ((i : Nat) : Int)) ∧ IsF (fun i => decide (xa < (l.getD i zRn).e)) n i ∧ Below V.heap.size V w') := fun V p2 p3 h2 h3 hV => by
    refine search_any V p2 p3 n (fun i => decide (xa < (l.getD i zRn).e)) hn (fun i j hij hj h => ?_) (fun U i hU hi => ?_)
    · by_cases e : i = j
      · rw [← e]; exact h
      · have h1 := HCAN.out.lt (i := i) (j := j) (by omega) (by have := HL.out; omega)
        have h2 := (HCAN.out.may (i := j) (by have := HL.out; omega)).lt
        simp only [decide_eq_true_eq] at h ⊢
        omega
    · have hS : Srcr U ao l := (HS.out.below hV).below hU
      obtain ⟨gb, off, rfl, _⟩ := hS (by have := HL.out; omega)
      exact sh1_any U p2 p3 gb off n cap i l ⟨xa, xn⟩ (h2.below hU h2.lt) (h3.below hU h3.lt) HL.out hn hi (HCAN.out.may (by have := HL.out; omega)) hS
  clear hs hl hcan hx
  go_enter Try.func61, Try.ntmps61
  generalize hC2 : Code.region 2 _ _ = C2
  generalize hC1 : Code.region 1 _ _ = C1
  go_wp2_with fail
  subst hC1
  generalize (w.alloc (.cells #[.slice ao n cap] 22)).alloc (.cells #[.int .i64 xa, .int .i64 xn] 38) = V at *
  obtain ⟨P, hP⟩ : ∃ P, P = w.heap.size := ⟨_, rfl⟩
  rw [← hP] at s2 s3 hsz ⊢
  have c2 : V.cell? ⟨P, 0, none⟩ = some (.slice ao n cap) := s2.cell 0
  have S2 := hid s2
  have S3 := hid s3
  have B0 := hid b0
  have HP := hid hP
  clear s2 s3 b0 hP hsz
  go_wp2_with (first | (go_at_call 71; refine (HSE.out V P (P + 1) S2.out S3.out B0.out).mono ?_; rintro e W1 ⟨i, rfl, hf, b1⟩; have HF := hid hf; have B1 := hid (B0.out.trans (b1.mono B0.out.size)); have S21 := hid (S2.out.below b1 S2.out.lt); have S31 := hid (S3.out.below b1 S3.out.lt); clear hf b1 c2))
  subst hC2
  have HR : Hid (shr l ⟨xa, xn⟩ = (decide (i < n) && decide ((l.getD i zRn).a < (⟨xa, xn⟩ : Rn).e))) := by
    have := shr_search (x := ⟨xa, xn⟩) HCAN.out (i := i) (by have := HF.out.1; have := HL.out; omega) (fun j hj => by have := HF.out.2.1 j hj; simp at this; exact this) (fun hi => by have := HF.out.2.2 (by have := HL.out; omega); simpa using this)
    rw [HL.out] at this
    exact this
  have hin := HF.out.1
  have H0 : Hid (Below W1.heap.size W1 W1.drew) := ⟨rfl, rfl, rfl, Nat.le_refl _, fun _ _ => rfl⟩
  have HTR : Hid (∀ U V : World, Below W1.heap.size W1 U → Below U.heap.size U V → Below W1.heap.size W1 V) := fun U V h k => h.trans (k.mono h.size)
  have HC : Hid (∀ U, Below W1.heap.size W1 U → U.cell? ⟨P, 0, none⟩ = some (.slice ao n cap) ∧ U.cell? ⟨P + 1, 0, none⟩ = some (.int .i64 xa) ∧ U.cell? ⟨P + 1, 1, none⟩ = some (.int .i64 xn)) := fun U hU => ⟨(S21.out.below hU S21.out.lt).cell 0, (S31.out.below hU S31.out.lt).cell 0, (S31.out.below hU S31.out.lt).cell 1⟩
  have HFIN : Hid (∀ U, Below W1.heap.size W1 U → Below w.heap.size w U) := fun U hU => B1.out.trans (hU.mono B1.out.size)
  have HEX : Hid (∀ U, Calls Try.prog 48 #[.agg #[.int .i64 xa, .int .i64 xn]] U fun e w' => e = .returned (.int .i64 (⟨xa, xn⟩ : Rn).e) ∧ Below U.heap.size U w') := fun U => end_any ⟨xa, xn⟩ U HX.out
  by_cases hlt : i < n
  · obtain ⟨gb, off, rfl, hgb, x0, x1⟩ := (HS.out.below B1.out).at (i := i) (by have := HL.out; omega)
    have hIn : (i : Int) < (n : Int) := by omega
    have HD : Hid (∀ U, Below W1.heap.size W1 U → U.cell? ⟨gb, off + i * 2, none⟩ = some (.int .i64 (l.getD i zRn).a) ∧ True) := fun U hU => ⟨(hU.cell (p := ⟨gb, off + i * 2, none⟩) hgb).trans x0, trivial⟩
    obtain ⟨bl, hbl⟩ : ∃ bl, decide ((l.getD i zRn).a < (⟨xa, xn⟩ : Rn).e) = bl := ⟨_, rfl⟩
    rw [hbl, show decide (i < n) = true by simpa using hlt, Bool.true_and] at HR
    generalize (⟨xa, xn⟩ : Rn).e = xe at *
    generalize l.getD i zRn = yy at *
    clear x0 x1
    change (Code.region 2 o61r2 true).wp _ _ _ _
    refine wp_region_plan (fun w' => Below W1.heap.size W1 w') [] c61r2 p61r2_0 hmix b61r2 d61r2 (fun _ _ d _ _ h => by cases d <;> exact h) ?_
    refine plan_take (o := q61r2_0) (r := p61r2_1) ?vsb0 H0.out (by rfl) ?hysb0 ?restsb0
    case hysb0 => (intro w hSw; (try dsimp only at hSw); simp only [q61r2_0]; go_simp; try with_reducible rfl)
    try simp only [q61r2_0, Act.put, List.setIfInBounds_toArray, List.set_cons_zero, List.set_cons_succ]
    refine plan_take (o := q61r2_1) (r := p61r2_2) ?vsb1 H0.out (by rfl) ?hysb1 ?restsb1
    case hysb1 => (intro w hSw; (try dsimp only at hSw); obtain ⟨y1, _, _⟩ := HC.out _ hSw; simp only [q61r2_1]; go_simp; try with_reducible rfl)
    try simp only [q61r2_1, Act.put, List.setIfInBounds_toArray, List.set_cons_zero, List.set_cons_succ]
    refine plan_take (o := q61r2_2) (r := p61r2_3) ?vsb2 H0.out (by rfl) ?hysb2 ?restsb2
    case hysb2 => (intro w hSw; (try dsimp only at hSw); simp only [q61r2_2]; go_simp; try with_reducible rfl)
    try simp only [q61r2_2, Act.put, List.setIfInBounds_toArray, List.set_cons_zero, List.set_cons_succ]
    refine plan_take (o := q61r2_3) (r := p61r2_4) (.bool true) H0.out (by rfl) ?hysb3 ?restsb3
    case hysb3 => (intro w hSw; (try dsimp only at hSw); have hq := hIn; simp only [q61r2_3]; go_simp; try with_reducible rfl)
    try simp only [q61r2_3, Act.put, List.setIfInBounds_toArray, List.set_cons_zero, List.set_cons_succ]
    refine plan_take (o := q61r2_4) (r := p61r2_5) ?vsb4 H0.out (by rfl) ?hysb4 ?restsb4
    case hysb4 => (intro w hSw; (try dsimp only at hSw); simp only [q61r2_4]; go_simp; try with_reducible rfl)
    try simp only [q61r2_4, Act.put, List.setIfInBounds_toArray, List.set_cons_zero, List.set_cons_succ]
    refine plan_take (o := q61r2_5) (r := p61r2_6) ?vsb5 H0.out (by rfl) ?hysb5 ?restsb5
    case hysb5 => (intro w hSw; (try dsimp only at hSw); obtain ⟨y1, _, _⟩ := HC.out _ hSw; simp only [q61r2_5]; go_simp; try with_reducible rfl)
    try simp only [q61r2_5, Act.put, List.setIfInBounds_toArray, List.set_cons_zero, List.set_cons_succ]
    refine plan_take (o := q61r2_6) (r := p61r2_7) ?vsb6 H0.out (by rfl) ?hysb6 ?restsb6
    case hysb6 => (intro w hSw; (try dsimp only at hSw); simp only [q61r2_6]; go_simp; try with_reducible rfl)
    try simp only [q61r2_6, Act.put, List.setIfInBounds_toArray, List.set_cons_zero, List.set_cons_succ]
    refine plan_take (o := q61r2_7) (r := p61r2_8) ?vsb7 H0.out (by rfl) ?hysb7 ?restsb7
    case hysb7 => (intro w hSw; (try dsimp only at hSw); have hq := hIn; simp only [q61r2_7]; go_simp; try with_reducible rfl)
    try simp only [q61r2_7, Act.put, List.setIfInBounds_toArray, List.set_cons_zero, List.set_cons_succ]
    refine plan_take (o := q61r2_8) (r := p61r2_9) ?vsb8 H0.out (by rfl) ?hysb8 ?restsb8
    case hysb8 => (intro w hSw; (try dsimp only at hSw); simp only [q61r2_8]; go_simp; try with_reducible rfl)
    try simp only [q61r2_8, Act.put, List.setIfInBounds_toArray, List.set_cons_zero, List.set_cons_succ]
    refine plan_take (o := q61r2_9) (r := p61r2_10) ?vsb9 H0.out (by rfl) ?hysb9 ?restsb9
    case hysb9 => (intro w hSw; (try dsimp only at hSw); obtain ⟨y1, _⟩ := HD.out _ hSw; simp only [q61r2_9]; go_simp; try with_reducible rfl)
    try simp only [q61r2_9, Act.put, List.setIfInBounds_toArray, List.set_cons_zero, List.set_cons_succ]
    refine plan_take (o := q61r2_10) (r := p61r2_11) ?vsb10 H0.out (by rfl) ?hysb10 ?restsb10
    case hysb10 => (intro w hSw; (try dsimp only at hSw); obtain ⟨_, y1, y2⟩ := HC.out _ hSw; simp only [q61r2_10]; go_simp; try with_reducible rfl)
    try simp only [q61r2_10, Act.put, List.setIfInBounds_toArray, List.set_cons_zero, List.set_cons_succ]
    refine plan_act (o := q61r2_11) (r := p61r2_12) (fun K hK => ?_)
    simp only [q61r2_11]
    refine ite_pos2 (by rfl) ?_
    go_simp
    refine (HEX.out _).mono ?_
    rintro e w3 ⟨rfl, b3⟩
    have B3 := hid (HTR.out _ _ H0.out b3)
    clear b3
    go_wp2_with fail
    refine hK.out _ _ (fun _ => B3.out) ?_
    clear hK K
    try simp only [q61r2_11, Act.put, List.setIfInBounds_toArray, List.set_cons_zero, List.set_cons_succ]
    refine plan_take (o := q61r2_12) (r := p61r2_13) (.bool bl) B3.out (by rfl) ?hysb12 ?restsb12
    case hysb12 => (intro w hSw; (try dsimp only at hSw); simp only [q61r2_12]; go_simp; try with_reducible rfl)
    try simp only [q61r2_12, Act.put, List.setIfInBounds_toArray, List.set_cons_zero, List.set_cons_succ]
    refine plan_take (o := q61r2_13) (r := p61r2_14) (.bool bl) B3.out (by rfl) ?hysb13 ?restsb13
    case hysb13 => (intro w hSw; (try dsimp only at hSw); simp only [q61r2_13]; go_simp; try with_reducible rfl)
    try simp only [q61r2_13, Act.put, List.setIfInBounds_toArray, List.set_cons_zero, List.set_cons_succ]
    refine plan_take (o := q61r2_14) (r := p61r2_15) ?vsb14 B3.out (by rfl) ?hysb14 ?restsb14
    case hysb14 => (intro w hSw; (try dsimp only at hSw); simp only [q61r2_14]; go_simp; try with_reducible rfl)
    try simp only [q61r2_14, Act.put, List.setIfInBounds_toArray, List.set_cons_zero, List.set_cons_succ]
    refine plan_done ?_
    go_wp2_with fail
    go_ret
    exact ⟨by rw [HR.out]; rfl, HFIN.out _ B3.out⟩
  · have hIn : ¬ (i : Int) < (n : Int) := by omega
    rw [show decide (i < n) = false by simpa using hlt, Bool.false_and] at HR
    change (Code.region 2 o61r2 true).wp _ _ _ _
    refine wp_region_plan (fun w' => Below W1.heap.size W1 w') [] c61r2 p61r2_0 hmix b61r2 d61r2 (fun _ _ d _ _ h => by cases d <;> exact h) ?_
    refine plan_take (o := q61r2_0) (r := p61r2_1) ?vsa0 H0.out (by rfl) ?hysa0 ?restsa0
    case hysa0 => (intro w hSw; (try dsimp only at hSw); simp only [q61r2_0]; go_simp; try with_reducible rfl)
    try simp only [q61r2_0, Act.put, List.setIfInBounds_toArray, List.set_cons_zero, List.set_cons_succ]
    refine plan_take (o := q61r2_1) (r := p61r2_2) ?vsa1 H0.out (by rfl) ?hysa1 ?restsa1
    case hysa1 => (intro w hSw; (try dsimp only at hSw); obtain ⟨y1, _, _⟩ := HC.out _ hSw; simp only [q61r2_1]; go_simp; try with_reducible rfl)
    try simp only [q61r2_1, Act.put, List.setIfInBounds_toArray, List.set_cons_zero, List.set_cons_succ]
    refine plan_take (o := q61r2_2) (r := p61r2_3) ?vsa2 H0.out (by rfl) ?hysa2 ?restsa2
    case hysa2 => (intro w hSw; (try dsimp only at hSw); simp only [q61r2_2]; go_simp; try with_reducible rfl)
    try simp only [q61r2_2, Act.put, List.setIfInBounds_toArray, List.set_cons_zero, List.set_cons_succ]
    refine plan_take (o := q61r2_3) (r := p61r2_4) (.bool false) H0.out (by rfl) ?hysa3 ?restsa3
    case hysa3 => (intro w hSw; (try dsimp only at hSw); have hq := hIn; simp only [q61r2_3]; go_simp; try with_reducible rfl)
    try simp only [q61r2_3, Act.put, List.setIfInBounds_toArray, List.set_cons_zero, List.set_cons_succ]
    refine plan_take (o := q61r2_4) (r := p61r2_5) ?vsa4 H0.out (by rfl) ?hysa4 ?restsa4
    case hysa4 => (intro w hSw; (try dsimp only at hSw); simp only [q61r2_4]; go_simp; try with_reducible rfl)
    try simp only [q61r2_4, Act.put, List.setIfInBounds_toArray, List.set_cons_zero, List.set_cons_succ]
    refine plan_skip (o := q61r2_5) (r := p61r2_6) H0.out (by rfl) ?_
    try simp only [q61r2_5, Act.put, List.setIfInBounds_toArray, List.set_cons_zero, List.set_cons_succ]
    refine plan_skip (o := q61r2_6) (r := p61r2_7) H0.out (by rfl) ?_
    try simp only [q61r2_6, Act.put, List.setIfInBounds_toArray, List.set_cons_zero, List.set_cons_succ]
    refine plan_skip (o := q61r2_7) (r := p61r2_8) H0.out (by rfl) ?_
    try simp only [q61r2_7, Act.put, List.setIfInBounds_toArray, List.set_cons_zero, List.set_cons_succ]
    refine plan_skip (o := q61r2_8) (r := p61r2_9) H0.out (by rfl) ?_
    try simp only [q61r2_8, Act.put, List.setIfInBounds_toArray, List.set_cons_zero, List.set_cons_succ]
    refine plan_skip (o := q61r2_9) (r := p61r2_10) H0.out (by rfl) ?_
    try simp only [q61r2_9, Act.put, List.setIfInBounds_toArray, List.set_cons_zero, List.set_cons_succ]
    refine plan_skip (o := q61r2_10) (r := p61r2_11) H0.out (by rfl) ?_
    try simp only [q61r2_10, Act.put, List.setIfInBounds_toArray, List.set_cons_zero, List.set_cons_succ]
    refine plan_act (o := q61r2_11) (r := p61r2_12) (fun K hK => ?_)
    simp only [q61r2_11]
    refine ite_neg3 (by rfl) ?_
    refine hK.out _ _ (fun h => h) ?_
    clear hK K
    try simp only [q61r2_11, Act.put, List.setIfInBounds_toArray, List.set_cons_zero, List.set_cons_succ]
    refine plan_skip (o := q61r2_12) (r := p61r2_13) H0.out (by rfl) ?_
    try simp only [q61r2_12, Act.put, List.setIfInBounds_toArray, List.set_cons_zero, List.set_cons_succ]
    refine plan_take (o := q61r2_13) (r := p61r2_14) (.bool false) H0.out (by rfl) ?hysa13 ?restsa13
    case hysa13 => (intro w hSw; (try dsimp only at hSw); simp only [q61r2_13]; go_simp; try with_reducible rfl)
    try simp only [q61r2_13, Act.put, List.setIfInBounds_toArray, List.set_cons_zero, List.set_cons_succ]
    refine plan_take (o := q61r2_14) (r := p61r2_15) ?vsa14 H0.out (by rfl) ?hysa14 ?restsa14
    case hysa14 => (intro w hSw; (try dsimp only at hSw); simp only [q61r2_14]; go_simp; try with_reducible rfl)
    try simp only [q61r2_14, Act.put, List.setIfInBounds_toArray, List.set_cons_zero, List.set_cons_succ]
    refine plan_done ?_
    go_wp2_with fail
    go_ret
    exact ⟨by rw [HR.out]; rfl, HFIN.out _ H0.out⟩
end Go.Proofs.Ytgfondgejimkkaa
