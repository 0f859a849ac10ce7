/- later: beside. -/
import Derived.Test.YtgfondgejimkkaaCp
namespace Go.Proofs.Ytgfondgejimkkaa
open Go.RowKit
set_option linter.unusedVariables false
set_option linter.unusedSimpArgs false
theorem wp_lookup_mp {κ : Type} {P : Program} {T K E : TypeId} {d : TypeDesc} {mk : κ → Value} [DecidableEq κ] {o : Oper} {a : Act} {w : World} {K' : Act → World → Prop} {Q : Exit → Act → World → Prop} (m x : Operand) (hop : o.op = Op.lookup T m x false) (ky : Ky P K d mk) (ht : P.underlying T = some (.map K E)) (z : Value) (hz : (zeroValue E).run P w = .ok z w) (b c : Nat) (es : List (κ × Value × Nat))
    (hm : a.eval m = .map (some b)) (h : Mp mk w b es c) (k : κ) (hx : a.eval x = mk k) (v : Value) (hv : (mget es k).getD z = v) (hK : K' (a.put o.dst v) w) : o.wp P a w K' Q := by
  have hrun := run_lookup_mp ky ht h hz k
  rw [hv] at hrun
  unfold Oper.wp
  simp [execOp, hop, hm, hx, hrun]
  exact hK
/-- One run, one block. -/
theorem lc_inj {c : Nat → Rn} {L : List Nat} (h : Ap (L.map c)) {a b : Nat} (ha : a ∈ L) (hb : b ∈ L) (hn : ¬ Aprt (c a) (c b)) : a = b := by
  obtain ⟨i, hi, rfl⟩ := gn_of ha
  obtain ⟨j, hj, rfl⟩ := gn_of hb
  have := h.eq (i := i) (j := j) (by simpa using hi) (by simpa using hj) (by rw [List.getElem_map, List.getElem_map, ← gn hi, ← gn hj]; exact hn)
  rw [this]
/-- What is gathered by k runs. -/
structure Bq (c : Nat → Rn) (L : List Nat) (l : List Rn) (k : Nat) (D : List Nat) : Prop where
  mem : ∀ b, b ∈ D ↔ b ∈ L ∧ tch (l.take k) (c b) = true
  srt : D.Pairwise (fun a b => (c a).a ≤ (c b).a)
  top : ∀ b ∈ D, ∃ j, j < k ∧ (c b).a ≤ (l.getD j zRn).e
  len : D.length ≤ 2 * k
theorem Bq.start (c : Nat → Rn) (L : List Nat) (l : List Rn) : Bq c L l 0 [] := ⟨fun b => by simp [tch], List.Pairwise.nil, fun b h => by simp at h, by simp⟩
theorem Bq.step {c : Nat → Rn} {L : List Nat} {l : List Rn} {k : Nat} {D E G : List Nat} (h : Bq c L l k D) (hcan : Can l) (hap : Ap (L.map c)) (hno : ∀ b ∈ L, tch l (c b) = true → shr l (c b) = false) (hk : k < l.length)
    (hE : (E = [] ∧ ∀ b ∈ L, (c b).e ≠ (l.getD k zRn).a) ∨ ∃ b ∈ L, (c b).e = (l.getD k zRn).a ∧ E = [b]) (hG : (G = [] ∧ ∀ b ∈ L, (c b).a ≠ (l.getD k zRn).e) ∨ ∃ b ∈ L, (c b).a = (l.getD k zRn).e ∧ G = [b]) : Bq c L l (k + 1) (D ++ E ++ G) := by
  have hmay : ∀ b ∈ L, Mayr (c b) := fun b hb => hap.1 _ (List.mem_map_of_mem hb)
  have hx := hcan.may hk
  have hxl := hx.lt
  have hE1 : ∀ b, b ∈ E ↔ b ∈ L ∧ (c b).e = (l.getD k zRn).a := fun b => by
    rcases hE with ⟨rfl, h1⟩ | ⟨a, ha, h1, rfl⟩
    · simp; exact fun hb => h1 b hb
    · constructor
      · intro hb; simp at hb; subst hb; exact ⟨ha, h1⟩
      · rintro ⟨hb, h2⟩
        have := lc_inj hap hb ha (by rintro (h3 | h3) <;> have := (hmay b hb).lt <;> have := (hmay a ha).lt <;> omega)
        simp [this]
  have hG1 : ∀ b, b ∈ G ↔ b ∈ L ∧ (c b).a = (l.getD k zRn).e := fun b => by
    rcases hG with ⟨rfl, h1⟩ | ⟨a, ha, h1, rfl⟩
    · simp; exact fun hb => h1 b hb
    · constructor
      · intro hb; simp at hb; subst hb; exact ⟨ha, h1⟩
      · rintro ⟨hb, h2⟩
        have := lc_inj hap hb ha (by rintro (h3 | h3) <;> have := (hmay b hb).lt <;> have := (hmay a ha).lt <;> omega)
        simp [this]
  have hmem : l.getD k zRn ∈ l := gd_mem hk
  have hns : ∀ b ∈ E, ∀ j, j < k → (l.getD j zRn).e ≤ (c b).a := fun b hb j hj => by
    obtain ⟨hbL, he⟩ := (hE1 b).1 hb
    have ht : tch l (c b) = true := tch_iff.2 ⟨_, hmem, .inl he⟩
    have hs := hno b hbL ht
    have hj2 := hcan.lt hj hk
    have hjm : l.getD j zRn ∈ l := gd_mem (by omega)
    have hjl := (hcan.may (i := j) (by omega)).lt
    have := hmay b hbL
    by_cases hq : (l.getD j zRn).e ≤ (c b).a
    · exact hq
    · have : shr l (c b) = true := by
        unfold shr
        rw [List.any_eq_true]
        refine ⟨_, hjm, ?_⟩
        unfold ovb
        simp only [Bool.and_eq_true, decide_eq_true_eq]
        omega
      rw [this] at hs
      cases hs
  refine ⟨fun b => ?_, ?_, ?_, ?_⟩
  · rw [List.mem_append, List.mem_append, h.mem b, hE1 b, hG1 b, take_snocr hk]
    unfold tch
    rw [List.any_append, Bool.or_eq_true]
    simp
    constructor
    · rintro ((⟨h1, h2⟩ | ⟨h1, h2⟩) | ⟨h1, h2⟩)
      · exact ⟨h1, .inl h2⟩
      · exact ⟨h1, .inr (.inl h2)⟩
      · exact ⟨h1, .inr (.inr h2)⟩
    · rintro ⟨h1, h2 | h2 | h2⟩
      · exact .inl (.inl ⟨h1, h2⟩)
      · exact .inl (.inr ⟨h1, h2⟩)
      · exact .inr ⟨h1, h2⟩
  · rw [List.pairwise_append, List.pairwise_append]
    refine ⟨⟨h.srt, ?_, fun a ha b hb => ?_⟩, ?_, fun a ha b hb => ?_⟩
    · rcases hE with ⟨rfl, _⟩ | ⟨a, _, _, rfl⟩ <;> simp
    · obtain ⟨j, hj, h1⟩ := h.top a ha
      have := hns b hb j hj
      omega
    · rcases hG with ⟨rfl, _⟩ | ⟨a, _, _, rfl⟩ <;> simp
    · obtain ⟨hbL, hbe⟩ := (hG1 b).1 hb
      rcases List.mem_append.1 ha with ha | ha
      · obtain ⟨j, hj, h1⟩ := h.top a ha
        have := hcan.lt hj hk
        omega
      · obtain ⟨haL, hae⟩ := (hE1 a).1 ha
        have := (hmay a haL).lt
        omega
  · intro b hb
    rcases List.mem_append.1 hb with hb | hb
    · rcases List.mem_append.1 hb with hb | hb
      · obtain ⟨j, hj, h1⟩ := h.top b hb
        exact ⟨j, by omega, h1⟩
      · obtain ⟨hbL, hbe⟩ := (hE1 b).1 hb
        have := (hmay b hbL).lt
        exact ⟨k, by omega, by omega⟩
    · obtain ⟨hbL, hbe⟩ := (hG1 b).1 hb
      exact ⟨k, by omega, by omega⟩
  · have := h.len
    have h1 : E.length ≤ 1 := by rcases hE with ⟨rfl, _⟩ | ⟨a, _, _, rfl⟩ <;> simp
    have h2 : G.length ≤ 1 := by rcases hG with ⟨rfl, _⟩ | ⟨a, _, _, rfl⟩ <;> simp
    simp
    omega
theorem Kys.none {es : List (Int × Value × Nat)} {L : List Nat} {c : Nat → Rn} {f : Rn → Int} (h : Kys es L c f) {x : Int} (hn : mget es x = none) : ∀ b ∈ L, f (c b) ≠ x := fun b hb e => by
  have := (h x (ptr b)).2 ⟨b, hb, e, rfl⟩
  rw [hn] at this
  cases this
set_option maxHeartbeats 2000000 in
theorem compact_nil (w : World) : Calls Try.prog 62 #[.slice none 0 0] w fun e w' => e = .returned (.slice none 0 0) ∧ w = w' := by
  go_enter Try.func62, Try.ntmps62
  go_wp2_with fail
  go_ret
  exact ⟨rfl, rfl⟩
def q46r5_0 : Oper := { dst := some 16, op := Go.Op.move (Go.Operand.tmp 0), type := 30, pos := "later.go:184", after := #[], guard := none }
def q46r5_1 : Oper := { dst := some 17, op := Go.Op.nilCheck (Go.Operand.tmp 16), type := 0, pos := "later.go:184", after := #[{ on := 0, ground := Go.Ground.data }], guard := none }
def q46r5_2 : Oper := { dst := some 18, op := Go.Op.fieldAddr 73 (Go.Operand.tmp 17) 2, type := 0, pos := "later.go:184", after := #[{ on := 1, ground := Go.Ground.data }], guard := none }
def q46r5_3 : Oper := { dst := some 19, op := Go.Op.load 71 (Go.Operand.tmp 18), type := 71, pos := "later.go:184", after := #[{ on := 2, ground := Go.Ground.data }], guard := none }
def q46r5_4 : Oper := { dst := some 20, op := Go.Op.fieldAddr 38 (Go.Operand.tmp 7) 0, type := 0, pos := "later.go:184", after := #[], guard := none }
def q46r5_5 : Oper := { dst := some 21, op := Go.Op.load 2 (Go.Operand.tmp 20), type := 2, pos := "later.go:184", after := #[{ on := 4, ground := Go.Ground.data }], guard := none }
def q46r5_6 : Oper := { dst := some 22, op := Go.Op.lookup 71 (Go.Operand.tmp 19) (Go.Operand.tmp 21) false, type := 74, pos := "later.go:184", after := #[{ on := 3, ground := Go.Ground.data }, { on := 5, ground := Go.Ground.data }], guard := none }
def q46r5_7 : Oper := { dst := some 8, op := Go.Op.assign (Go.Operand.tmp 22), type := 74, pos := "later.go:184", after := #[{ on := 6, ground := Go.Ground.data }, { on := 0, ground := Go.Ground.phase }, { on := 1, ground := Go.Ground.phase }, { on := 2, ground := Go.Ground.phase }, { on := 3, ground := Go.Ground.phase }, { on := 4, ground := Go.Ground.phase }, { on := 5, ground := Go.Ground.phase }, { on := 6, ground := Go.Ground.phase }], guard := none }
def o46r5 : Array Oper := #[q46r5_0, q46r5_1, q46r5_2, q46r5_3, q46r5_4, q46r5_5, q46r5_6, q46r5_7]
def p46r5_8 : List (Nat × Oper) := []
def p46r5_7 : List (Nat × Oper) := (0, q46r5_7) :: p46r5_8
def p46r5_6 : List (Nat × Oper) := (1, q46r5_6) :: p46r5_7
def p46r5_5 : List (Nat × Oper) := (0, q46r5_5) :: p46r5_6
def p46r5_4 : List (Nat × Oper) := (0, q46r5_4) :: p46r5_5
def p46r5_3 : List (Nat × Oper) := (0, q46r5_3) :: p46r5_4
def p46r5_2 : List (Nat × Oper) := (0, q46r5_2) :: p46r5_3
def p46r5_1 : List (Nat × Oper) := (0, q46r5_1) :: p46r5_2
def p46r5_0 : List (Nat × Oper) := (0, q46r5_0) :: p46r5_1
def c46r5 : List (Nat × Nat) := [(0, 0), (0, 1), (0, 2), (0, 3), (0, 4), (0, 5), (1, 6), (0, 7)]
theorem b46r5 : (Region.noSelect o46r5 && (c46r5.length == o46r5.size) && planB o46r5 [] c46r5 (Array.replicate o46r5.size false)) = true := by kernel_rfl
theorem d46r5 : (c46r5.map fun p => (p.1, o46r5[p.2]?)) = (p46r5_0.map fun p => (p.1, some p.2)) := by kernel_rfl
def q46r8_0 : Oper := { dst := some 29, op := Go.Op.move (Go.Operand.tmp 0), type := 30, pos := "later.go:187", after := #[], guard := none }
def q46r8_1 : Oper := { dst := some 30, op := Go.Op.nilCheck (Go.Operand.tmp 29), type := 0, pos := "later.go:187", after := #[{ on := 0, ground := Go.Ground.data }], guard := none }
def q46r8_2 : Oper := { dst := some 31, op := Go.Op.fieldAddr 73 (Go.Operand.tmp 30) 1, type := 0, pos := "later.go:187", after := #[{ on := 1, ground := Go.Ground.data }], guard := none }
def q46r8_3 : Oper := { dst := some 32, op := Go.Op.load 71 (Go.Operand.tmp 31), type := 71, pos := "later.go:187", after := #[{ on := 2, ground := Go.Ground.data }], guard := none }
def q46r8_4 : Oper := { dst := some 33, op := Go.Op.load 38 (Go.Operand.tmp 7), type := 38, pos := "later.go:187", after := #[], guard := none }
def q46r8_5 : Oper := { dst := some 34, op := Go.Op.call { callee := Go.Callee.value (Go.Operand.func 48), args := #[Go.Operand.tmp 33], argTypes := #[38] }, type := 2, pos := "later.go:187", after := #[{ on := 4, ground := Go.Ground.data }], guard := none }
def q46r8_6 : Oper := { dst := some 35, op := Go.Op.lookup 71 (Go.Operand.tmp 32) (Go.Operand.tmp 34) false, type := 74, pos := "later.go:187", after := #[{ on := 3, ground := Go.Ground.data }, { on := 5, ground := Go.Ground.data }], guard := none }
def q46r8_7 : Oper := { dst := some 9, op := Go.Op.assign (Go.Operand.tmp 35), type := 74, pos := "later.go:187", after := #[{ on := 6, ground := Go.Ground.data }, { on := 5, ground := Go.Ground.chain }, { on := 0, ground := Go.Ground.phase }, { on := 1, ground := Go.Ground.phase }, { on := 2, ground := Go.Ground.phase }, { on := 3, ground := Go.Ground.phase }, { on := 4, ground := Go.Ground.phase }, { on := 5, ground := Go.Ground.phase }, { on := 6, ground := Go.Ground.phase }], guard := none }
def o46r8 : Array Oper := #[q46r8_0, q46r8_1, q46r8_2, q46r8_3, q46r8_4, q46r8_5, q46r8_6, q46r8_7]
def p46r8_8 : List (Nat × Oper) := []
def p46r8_7 : List (Nat × Oper) := (0, q46r8_7) :: p46r8_8
def p46r8_6 : List (Nat × Oper) := (1, q46r8_6) :: p46r8_7
def p46r8_5 : List (Nat × Oper) := (1, q46r8_5) :: p46r8_6
def p46r8_4 : List (Nat × Oper) := (0, q46r8_4) :: p46r8_5
def p46r8_3 : List (Nat × Oper) := (0, q46r8_3) :: p46r8_4
def p46r8_2 : List (Nat × Oper) := (0, q46r8_2) :: p46r8_3
def p46r8_1 : List (Nat × Oper) := (0, q46r8_1) :: p46r8_2
def p46r8_0 : List (Nat × Oper) := (0, q46r8_0) :: p46r8_1
def c46r8 : List (Nat × Nat) := [(0, 0), (0, 1), (0, 2), (0, 3), (0, 4), (1, 5), (1, 6), (0, 7)]
theorem b46r8 : (Region.noSelect o46r8 && (c46r8.length == o46r8.size) && planB o46r8 [] c46r8 (Array.replicate o46r8.size false)) = true := by kernel_rfl
theorem d46r8 : (c46r8.map fun p => (p.1, o46r8[p.2]?)) = (p46r8_0.map fun p => (p.1, some p.2)) := by kernel_rfl

set_option maxRecDepth 100000 in
set_option maxHeartbeats 16000000 in
theorem beside_any (c : Nat → Rn) (w : World) (Q B mb me : Nat) (v : Value) (L : List Nat) (h : Lc c w Q B mb me v L) (ao : Option Addr) (n cap : Nat) (l : List Rn) (hl : l.length = n) (hn : n ≤ 100000) (hcan : Can l) (hs : Srcr w ao l) (hno : ∀ b ∈ L, tch l (c b) = true → shr l (c b) = false) :
    Calls Try.prog 46 #[ptr Q, .slice ao n cap] w fun e w' => ∃ ao' cap' D, e = .returned (.slice ao' (D.length) cap') ∧ Srcp w' ao' D ∧ D.Nodup ∧ (∀ b, b ∈ D ↔ b ∈ L ∧ tch l (c b) = true) ∧ (ao' = none → cap' = 0) ∧ (∀ b off, ao' = some ⟨b, off, none⟩ → w.heap.size ≤ b) ∧ Kp (fun _ => False) w w' := by
  obtain ⟨eb, kb, mp1, ky1⟩ := h.bm
  obtain ⟨ee, ke, mp2, ky2'⟩ := h.em
  have HQ : Hid (∀ U, Kp (fun _ => False) w U → U.cell? ⟨Q, 1, none⟩ = some (.map (some mb)) ∧ U.cell? ⟨Q, 2, none⟩ = some (.map (some me))) := fun U hU => ⟨(h.st.kp hU (fun h => h)).cell 1, (h.st.kp hU (fun h => h)).cell 2⟩
  have HMB : Hid (∀ U, Kp (fun _ => False) w U → Mp mki U mb eb kb) := fun U hU => mp1.kp hU (fun h => h)
  have HME : Hid (∀ U, Kp (fun _ => False) w U → Mp mki U me ee ke) := fun U hU => mp2.kp hU (fun h => h)
  have KB := hid ky1
  have KE := hid ky2'
  have HH := hid h
  have HS := hid hs
  have HCAN := hid hcan
  have HNO := hid hno
  have HL := hid hl
  clear mp1 mp2 ky1 ky2' h hs hcan hno hl
  unfold ptr
  go_enter Try.func46, Try.ntmps46
  go_wp2_with fail
  go_loopw [5, 12] (fun o i wr => ∃ (k : Nat) (D0 : List Nat), i = .int .i64 (k : Int) ∧ k ≤ n ∧ Hid (Bq c L l k D0) ∧ Hid (Ownp wr w.heap.size o D0) ∧ Hid (Kp (fun _ => False) w wr)) (fun _ i _ => n - (intOf i).toNat)
  case atStart => exact ⟨0, [], rfl, Nat.zero_le _, Bq.start c L l, Ownp.nil _ _, Kp.refl _ _⟩
  case round =>
    obtain ⟨k, D0, rfl, hk, HBQ, HO, HK⟩ := hrel
    by_cases hlt : k < n
    · have hkl : k < l.length := by have := HL.out; omega
      obtain ⟨gb, off, rfl, hgb, x0, x1⟩ := (HS.out.kp HK.out (fun _ _ _ _ h => h)).at (i := k) hkl
      have hki : (k : Int) < (n : Int) := by omega
      have HST0 : Hid (∀ E G, ((E = [] ∧ ∀ b ∈ L, (c b).e ≠ (l.getD k zRn).a) ∨ ∃ b ∈ L, (c b).e = (l.getD k zRn).a ∧ E = [b]) → ((G = [] ∧ ∀ b ∈ L, (c b).a ≠ (l.getD k zRn).e) ∨ ∃ b ∈ L, (c b).a = (l.getD k zRn).e ∧ G = [b]) → Bq c L l (k + 1) (D0 ++ E ++ G)) := fun E G hE hG => HBQ.out.step HCAN.out HH.out.ap HNO.out hkl hE hG
      have HEN := hid (fun U => end_any (l.getD k zRn) U (HCAN.out.may hkl))
      have HLN : Hid (D0.length ≤ 2 * k) := HBQ.out.len
      generalize l.getD k zRn = x at *
      obtain ⟨xa, xn⟩ := x
      unfold Rn.cs at HEN
      dsimp only at x0 x1 HEN HST0
      generalize (⟨xa, xn⟩ : Rn).e = xe at *
      have HOG : Hid (∀ i, u5.ownBlock = some i → w.heap.size ≤ i) := fun i hi => HO.out.blk hi
      obtain ⟨T, hT⟩ : ∃ T, T = wr.heap.size := ⟨_, rfl⟩
      have HNT : Hid (¬ u5.ownBlock = some T) := fun h => by
        obtain ⟨cur, h1, _⟩ := ownb HO.out h
        have := (Array.getElem?_eq_some_iff.1 h1).1
        omega
      generalize hC5 : Code.region 5 _ _ = C5
      generalize hC8 : Code.region 8 _ _ = C8
      go_wp2_with (first | (refine wpList_store_r rfl _ _ rfl _ rfl (e' := ⟨xa, xn⟩) rfl (Rn.B.new wr zRn) ?_; intro W1 s1 k1; have KW : Hid (Kp (fun _ => False) wr W1) := ((Kp.refl (fun _ => False) wr).alloc _).trans k1 (fun i h1 h2 => by omega); have S1 := hid s1; clear s1 k1 x0 x1))
      rw [← hT] at S1 ⊢
      have H0 : Hid (Kp (fun _ => False) W1 W1.drew) := (Kp.refl _ _).drew
      have HWT : Hid (∀ U, Kp (fun _ => False) W1 U → Kp (fun _ => False) w U) := fun U hU => (HK.out.trans KW.out (fun _ _ h => h)).trans hU (fun _ _ h => h)
      have HOA : Hid (∀ U, Kp (fun _ => False) W1 U → Ownp U w.heap.size u5 D0) := fun U hU => (HO.out.kp KW.out (fun _ _ h => h)).kp hU (fun _ _ h => h)
      subst hC5
      clear HO HK KW hT
      cases hge : mget ee xa with
      | none =>
        have HGE : Hid ((mget ee xa).getD (.pointer none) = .pointer none) := by show _ = _; rw [hge]; rfl
        have HE0 := hid (KE.out.none hge)
        clear hge
        cases hgg : mget eb xe with
        | none =>
          have HGG : Hid ((mget eb xe).getD (.pointer none) = .pointer none) := by show _ = _; rw [hgg]; rfl
          have HG0 := hid (KB.out.none hgg)
          clear hgg
          have HST := hid (HST0.out [] [] (.inl ⟨rfl, HE0.out⟩) (.inl ⟨rfl, HG0.out⟩))
          clear HST0
          change (Code.region 5 o46r5 true).wp _ _ _ _
          refine wp_region_plan (fun w' => Kp (fun _ => False) W1 w') [] c46r5 p46r5_0 hmix b46r5 d46r5 (fun _ _ d _ _ h => by cases d <;> exact h) ?_
          refine plan_take (o := q46r5_0) (r := p46r5_1) ?vf000 H0.out (by rfl) ?hyf000 ?restf000
          case hyf000 => (intro w hSw; (try dsimp only at hSw); simp only [q46r5_0]; go_simp; try with_reducible rfl)
          try simp only [q46r5_0, Act.put, List.setIfInBounds_toArray, List.set_cons_zero, List.set_cons_succ]
          refine plan_take (o := q46r5_1) (r := p46r5_2) ?vf001 H0.out (by rfl) ?hyf001 ?restf001
          case hyf001 => (intro w hSw; (try dsimp only at hSw); simp only [q46r5_1]; go_simp; try with_reducible rfl)
          try simp only [q46r5_1, Act.put, List.setIfInBounds_toArray, List.set_cons_zero, List.set_cons_succ]
          refine plan_take (o := q46r5_2) (r := p46r5_3) ?vf002 H0.out (by rfl) ?hyf002 ?restf002
          case hyf002 => (intro w hSw; (try dsimp only at hSw); simp only [q46r5_2]; go_simp; try with_reducible rfl)
          try simp only [q46r5_2, Act.put, List.setIfInBounds_toArray, List.set_cons_zero, List.set_cons_succ]
          refine plan_take (o := q46r5_3) (r := p46r5_4) ?vf003 H0.out (by rfl) ?hyf003 ?restf003
          case hyf003 => (intro w hSw; (try dsimp only at hSw); have y := (HQ.out _ (HWT.out _ hSw)).2; simp only [q46r5_3]; go_simp; try with_reducible rfl)
          try simp only [q46r5_3, Act.put, List.setIfInBounds_toArray, List.set_cons_zero, List.set_cons_succ]
          refine plan_take (o := q46r5_4) (r := p46r5_5) ?vf004 H0.out (by rfl) ?hyf004 ?restf004
          case hyf004 => (intro w hSw; (try dsimp only at hSw); simp only [q46r5_4]; go_simp; try with_reducible rfl)
          try simp only [q46r5_4, Act.put, List.setIfInBounds_toArray, List.set_cons_zero, List.set_cons_succ]
          refine plan_take (o := q46r5_5) (r := p46r5_6) ?vf005 H0.out (by rfl) ?hyf005 ?restf005
          case hyf005 => (intro w hSw; (try dsimp only at hSw); have y : w.cell? ⟨T, 0, none⟩ = some (.int .i64 xa) := (S1.out.kp hSw (fun h => h)).cell 0; simp only [q46r5_5]; go_simp; try with_reducible rfl)
          try simp only [q46r5_5, Act.put, List.setIfInBounds_toArray, List.set_cons_zero, List.set_cons_succ]
          refine plan_act (o := q46r5_6) (r := p46r5_7) (fun K hK => ?_)
          simp only [q46r5_6]
          refine ite_pos2 (by rfl) ?_
          refine wp_lookup_mp _ _ rfl ky2 Try.underlying71 (.pointer none) (by kernel_rfl) me ke ee rfl (HME.out _ (HWT.out _ H0.out)) xa rfl (.pointer none) HGE.out ?_
          refine hK.out _ _ (fun _ => H0.out) ?_
          clear hK K
          try simp only [q46r5_6, Act.put, List.setIfInBounds_toArray, List.set_cons_zero, List.set_cons_succ]
          refine plan_take (o := q46r5_7) (r := p46r5_8) ?vf007 H0.out (by rfl) ?hyf007 ?restf007
          case hyf007 => (intro w hSw; (try dsimp only at hSw); simp only [q46r5_7]; go_simp; try with_reducible rfl)
          try simp only [q46r5_7, Act.put, List.setIfInBounds_toArray, List.set_cons_zero, List.set_cons_succ]
          refine plan_done ?_
          clear HGE
          generalize W1.drew = W2 at H0 ⊢
          go_wp2_with fail
          have S3 : Hid (Rn.B W2 T ⟨xa, xn⟩) := S1.out.kp H0.out (fun h => h)
          have HW3 : Hid (∀ U, Kp (fun _ => False) W2 U → Kp (fun _ => False) w U) := fun U hU => (HWT.out _ H0.out).trans hU (fun _ _ h => h)
          have O3 : Hid (Ownp W2 w.heap.size u5 (D0 ++ [])) := by rw [List.append_nil]; exact HOA.out _ H0.out
          have HB3 := HOG
          have H3 : Hid (Kp (fun _ => False) W2 W2.drew) := (Kp.refl _ _).drew
          clear H0 HWT HOA S1
          subst hC8
          change (Code.region 8 o46r8 true).wp _ _ _ _
          refine wp_region_plan (fun w' => Kp (fun _ => False) W2 w') [] c46r8 p46r8_0 hmix b46r8 d46r8 (fun _ _ d _ _ h => by cases d <;> exact h) ?_
          refine plan_take (o := q46r8_0) (r := p46r8_1) ?vg000 H3.out (by rfl) ?hyg000 ?restg000
          case hyg000 => (intro w hSw; (try dsimp only at hSw); simp only [q46r8_0]; go_simp; try with_reducible rfl)
          try simp only [q46r8_0, Act.put, List.setIfInBounds_toArray, List.set_cons_zero, List.set_cons_succ]
          refine plan_take (o := q46r8_1) (r := p46r8_2) ?vg001 H3.out (by rfl) ?hyg001 ?restg001
          case hyg001 => (intro w hSw; (try dsimp only at hSw); simp only [q46r8_1]; go_simp; try with_reducible rfl)
          try simp only [q46r8_1, Act.put, List.setIfInBounds_toArray, List.set_cons_zero, List.set_cons_succ]
          refine plan_take (o := q46r8_2) (r := p46r8_3) ?vg002 H3.out (by rfl) ?hyg002 ?restg002
          case hyg002 => (intro w hSw; (try dsimp only at hSw); simp only [q46r8_2]; go_simp; try with_reducible rfl)
          try simp only [q46r8_2, Act.put, List.setIfInBounds_toArray, List.set_cons_zero, List.set_cons_succ]
          refine plan_take (o := q46r8_3) (r := p46r8_4) ?vg003 H3.out (by rfl) ?hyg003 ?restg003
          case hyg003 => (intro w hSw; (try dsimp only at hSw); have y := (HQ.out _ (HW3.out _ hSw)).1; simp only [q46r8_3]; go_simp; try with_reducible rfl)
          try simp only [q46r8_3, Act.put, List.setIfInBounds_toArray, List.set_cons_zero, List.set_cons_succ]
          refine plan_take (o := q46r8_4) (r := p46r8_5) (.agg #[.int .i64 xa, .int .i64 xn]) H3.out (by rfl) ?hyg004 ?restg004
          case hyg004 => (intro w hSw; (try dsimp only at hSw); have y : w.cell? ⟨T, 0, none⟩ = some (.int .i64 xa) := (S3.out.kp hSw (fun h => h)).cell 0; have y2 : w.cell? ⟨T, 1, none⟩ = some (.int .i64 xn) := (S3.out.kp hSw (fun h => h)).cell 1; simp only [q46r8_4]; go_simp; try with_reducible rfl)
          try simp only [q46r8_4, Act.put, List.setIfInBounds_toArray, List.set_cons_zero, List.set_cons_succ]
          refine plan_act (o := q46r8_5) (r := p46r8_6) (fun K hK => ?_)
          simp only [q46r8_5]
          refine ite_pos2 (by rfl) ?_
          go_simp
          refine (HEN.out _).mono ?_
          rintro e w5 ⟨rfl, b5⟩
          have K5 : Hid (Kp (fun _ => False) W2 w5) := H3.out.trans (Kp.of_below (F := fun _ => False) b5) (fun _ _ h => h)
          clear b5
          go_wp2_with fail
          refine hK.out _ _ (fun _ => K5.out) ?_
          clear hK K
          try simp only [q46r8_5, Act.put, List.setIfInBounds_toArray, List.set_cons_zero, List.set_cons_succ]
          refine plan_act (o := q46r8_6) (r := p46r8_7) (fun K hK => ?_)
          simp only [q46r8_6]
          refine ite_pos2 (by rfl) ?_
          refine wp_lookup_mp _ _ rfl ky2 Try.underlying71 (.pointer none) (by kernel_rfl) mb kb eb rfl (HMB.out _ (HW3.out _ K5.out)) xe rfl (.pointer none) HGG.out ?_
          refine hK.out _ _ (fun _ => K5.out) ?_
          clear hK K
          try simp only [q46r8_6, Act.put, List.setIfInBounds_toArray, List.set_cons_zero, List.set_cons_succ]
          refine plan_take (o := q46r8_7) (r := p46r8_8) ?vg007 K5.out (by rfl) ?hyg007 ?restg007
          case hyg007 => (intro w hSw; (try dsimp only at hSw); simp only [q46r8_7]; go_simp; try with_reducible rfl)
          try simp only [q46r8_7, Act.put, List.setIfInBounds_toArray, List.set_cons_zero, List.set_cons_succ]
          refine plan_done ?_
          clear HGG
          go_wp2_with fail
          go_roundw
          case rel => exact ⟨k + 1, D0 ++ [] ++ [], by go_num, hlt, HST.out, (by rw [List.append_nil]; exact O3.out.kp K5.out (fun _ _ h => h)), HW3.out _ K5.out⟩
          case measure => simp [intOf]; omega
        | some ug =>
          obtain ⟨bg, hbg, hbx, rfl⟩ := (KB.out xe ug).1 hgg
          have HGG : Hid ((mget eb xe).getD (.pointer none) = .pointer (some ⟨bg, 0, none⟩)) := by show _ = _; rw [hgg]; rfl
          have HG1 : Hid (bg ∈ L ∧ (c bg).a = xe) := ⟨hbg, hbx⟩
          clear hbg hbx
          clear hgg
          have HST := hid (HST0.out [] [bg] (.inl ⟨rfl, HE0.out⟩) (.inr ⟨bg, HG1.out.1, HG1.out.2, rfl⟩))
          clear HST0
          change (Code.region 5 o46r5 true).wp _ _ _ _
          refine wp_region_plan (fun w' => Kp (fun _ => False) W1 w') [] c46r5 p46r5_0 hmix b46r5 d46r5 (fun _ _ d _ _ h => by cases d <;> exact h) ?_
          refine plan_take (o := q46r5_0) (r := p46r5_1) ?vf010 H0.out (by rfl) ?hyf010 ?restf010
          case hyf010 => (intro w hSw; (try dsimp only at hSw); simp only [q46r5_0]; go_simp; try with_reducible rfl)
          try simp only [q46r5_0, Act.put, List.setIfInBounds_toArray, List.set_cons_zero, List.set_cons_succ]
          refine plan_take (o := q46r5_1) (r := p46r5_2) ?vf011 H0.out (by rfl) ?hyf011 ?restf011
          case hyf011 => (intro w hSw; (try dsimp only at hSw); simp only [q46r5_1]; go_simp; try with_reducible rfl)
          try simp only [q46r5_1, Act.put, List.setIfInBounds_toArray, List.set_cons_zero, List.set_cons_succ]
          refine plan_take (o := q46r5_2) (r := p46r5_3) ?vf012 H0.out (by rfl) ?hyf012 ?restf012
          case hyf012 => (intro w hSw; (try dsimp only at hSw); simp only [q46r5_2]; go_simp; try with_reducible rfl)
          try simp only [q46r5_2, Act.put, List.setIfInBounds_toArray, List.set_cons_zero, List.set_cons_succ]
          refine plan_take (o := q46r5_3) (r := p46r5_4) ?vf013 H0.out (by rfl) ?hyf013 ?restf013
          case hyf013 => (intro w hSw; (try dsimp only at hSw); have y := (HQ.out _ (HWT.out _ hSw)).2; simp only [q46r5_3]; go_simp; try with_reducible rfl)
          try simp only [q46r5_3, Act.put, List.setIfInBounds_toArray, List.set_cons_zero, List.set_cons_succ]
          refine plan_take (o := q46r5_4) (r := p46r5_5) ?vf014 H0.out (by rfl) ?hyf014 ?restf014
          case hyf014 => (intro w hSw; (try dsimp only at hSw); simp only [q46r5_4]; go_simp; try with_reducible rfl)
          try simp only [q46r5_4, Act.put, List.setIfInBounds_toArray, List.set_cons_zero, List.set_cons_succ]
          refine plan_take (o := q46r5_5) (r := p46r5_6) ?vf015 H0.out (by rfl) ?hyf015 ?restf015
          case hyf015 => (intro w hSw; (try dsimp only at hSw); have y : w.cell? ⟨T, 0, none⟩ = some (.int .i64 xa) := (S1.out.kp hSw (fun h => h)).cell 0; simp only [q46r5_5]; go_simp; try with_reducible rfl)
          try simp only [q46r5_5, Act.put, List.setIfInBounds_toArray, List.set_cons_zero, List.set_cons_succ]
          refine plan_act (o := q46r5_6) (r := p46r5_7) (fun K hK => ?_)
          simp only [q46r5_6]
          refine ite_pos2 (by rfl) ?_
          refine wp_lookup_mp _ _ rfl ky2 Try.underlying71 (.pointer none) (by kernel_rfl) me ke ee rfl (HME.out _ (HWT.out _ H0.out)) xa rfl (.pointer none) HGE.out ?_
          refine hK.out _ _ (fun _ => H0.out) ?_
          clear hK K
          try simp only [q46r5_6, Act.put, List.setIfInBounds_toArray, List.set_cons_zero, List.set_cons_succ]
          refine plan_take (o := q46r5_7) (r := p46r5_8) ?vf017 H0.out (by rfl) ?hyf017 ?restf017
          case hyf017 => (intro w hSw; (try dsimp only at hSw); simp only [q46r5_7]; go_simp; try with_reducible rfl)
          try simp only [q46r5_7, Act.put, List.setIfInBounds_toArray, List.set_cons_zero, List.set_cons_succ]
          refine plan_done ?_
          clear HGE
          generalize W1.drew = W2 at H0 ⊢
          go_wp2_with fail
          have S3 : Hid (Rn.B W2 T ⟨xa, xn⟩) := S1.out.kp H0.out (fun h => h)
          have HW3 : Hid (∀ U, Kp (fun _ => False) W2 U → Kp (fun _ => False) w U) := fun U hU => (HWT.out _ H0.out).trans hU (fun _ _ h => h)
          have O3 : Hid (Ownp W2 w.heap.size u5 (D0 ++ [])) := by rw [List.append_nil]; exact HOA.out _ H0.out
          have HB3 := HOG
          have H3 : Hid (Kp (fun _ => False) W2 W2.drew) := (Kp.refl _ _).drew
          clear H0 HWT HOA S1
          subst hC8
          change (Code.region 8 o46r8 true).wp _ _ _ _
          refine wp_region_plan (fun w' => Kp (fun _ => False) W2 w') [] c46r8 p46r8_0 hmix b46r8 d46r8 (fun _ _ d _ _ h => by cases d <;> exact h) ?_
          refine plan_take (o := q46r8_0) (r := p46r8_1) ?vg010 H3.out (by rfl) ?hyg010 ?restg010
          case hyg010 => (intro w hSw; (try dsimp only at hSw); simp only [q46r8_0]; go_simp; try with_reducible rfl)
          try simp only [q46r8_0, Act.put, List.setIfInBounds_toArray, List.set_cons_zero, List.set_cons_succ]
          refine plan_take (o := q46r8_1) (r := p46r8_2) ?vg011 H3.out (by rfl) ?hyg011 ?restg011
          case hyg011 => (intro w hSw; (try dsimp only at hSw); simp only [q46r8_1]; go_simp; try with_reducible rfl)
          try simp only [q46r8_1, Act.put, List.setIfInBounds_toArray, List.set_cons_zero, List.set_cons_succ]
          refine plan_take (o := q46r8_2) (r := p46r8_3) ?vg012 H3.out (by rfl) ?hyg012 ?restg012
          case hyg012 => (intro w hSw; (try dsimp only at hSw); simp only [q46r8_2]; go_simp; try with_reducible rfl)
          try simp only [q46r8_2, Act.put, List.setIfInBounds_toArray, List.set_cons_zero, List.set_cons_succ]
          refine plan_take (o := q46r8_3) (r := p46r8_4) ?vg013 H3.out (by rfl) ?hyg013 ?restg013
          case hyg013 => (intro w hSw; (try dsimp only at hSw); have y := (HQ.out _ (HW3.out _ hSw)).1; simp only [q46r8_3]; go_simp; try with_reducible rfl)
          try simp only [q46r8_3, Act.put, List.setIfInBounds_toArray, List.set_cons_zero, List.set_cons_succ]
          refine plan_take (o := q46r8_4) (r := p46r8_5) (.agg #[.int .i64 xa, .int .i64 xn]) H3.out (by rfl) ?hyg014 ?restg014
          case hyg014 => (intro w hSw; (try dsimp only at hSw); have y : w.cell? ⟨T, 0, none⟩ = some (.int .i64 xa) := (S3.out.kp hSw (fun h => h)).cell 0; have y2 : w.cell? ⟨T, 1, none⟩ = some (.int .i64 xn) := (S3.out.kp hSw (fun h => h)).cell 1; simp only [q46r8_4]; go_simp; try with_reducible rfl)
          try simp only [q46r8_4, Act.put, List.setIfInBounds_toArray, List.set_cons_zero, List.set_cons_succ]
          refine plan_act (o := q46r8_5) (r := p46r8_6) (fun K hK => ?_)
          simp only [q46r8_5]
          refine ite_pos2 (by rfl) ?_
          go_simp
          refine (HEN.out _).mono ?_
          rintro e w5 ⟨rfl, b5⟩
          have K5 : Hid (Kp (fun _ => False) W2 w5) := H3.out.trans (Kp.of_below (F := fun _ => False) b5) (fun _ _ h => h)
          clear b5
          go_wp2_with fail
          refine hK.out _ _ (fun _ => K5.out) ?_
          clear hK K
          try simp only [q46r8_5, Act.put, List.setIfInBounds_toArray, List.set_cons_zero, List.set_cons_succ]
          refine plan_act (o := q46r8_6) (r := p46r8_7) (fun K hK => ?_)
          simp only [q46r8_6]
          refine ite_pos2 (by rfl) ?_
          refine wp_lookup_mp _ _ rfl ky2 Try.underlying71 (.pointer none) (by kernel_rfl) mb kb eb rfl (HMB.out _ (HW3.out _ K5.out)) xe rfl (.pointer (some ⟨bg, 0, none⟩)) HGG.out ?_
          refine hK.out _ _ (fun _ => K5.out) ?_
          clear hK K
          try simp only [q46r8_6, Act.put, List.setIfInBounds_toArray, List.set_cons_zero, List.set_cons_succ]
          refine plan_take (o := q46r8_7) (r := p46r8_8) ?vg017 K5.out (by rfl) ?hyg017 ?restg017
          case hyg017 => (intro w hSw; (try dsimp only at hSw); simp only [q46r8_7]; go_simp; try with_reducible rfl)
          try simp only [q46r8_7, Act.put, List.setIfInBounds_toArray, List.set_cons_zero, List.set_cons_succ]
          refine plan_done ?_
          clear HGG
          go_wp2_with (at_builtin; refine wpList_append_p1 rfl _ _ rfl w.heap.size u5 (D0 ++ []) bg w5.heap.size rfl ((O3.out.kp K5.out (fun _ _ h => h)).kp ((Kp.refl (fun _ => False) _).alloc _) (fun _ _ h => h)) rfl (St.new 74 w5 #[ptr bg]) (by have := HLN.out; (try simp only [List.length_append, List.length_cons, List.length_nil]); omega) (by rw [World.size_alloc]; have := (HW3.out _ K5.out).size; omega) ?_; intro v6 w6 o6 k6 _; have O6 := hid o6; have A6 : Hid (Kp (fun i => u5.ownBlock = some i) w5 w6) := ((Kp.refl _ _).alloc _).trans k6 (fun _ _ h => h); clear o6 k6)
          have KF : Hid (Kp (fun _ => False) w w6) := (HW3.out _ K5.out).trans A6.out (fun i hi h => by have := HB3.out i h; omega)
          go_roundw
          case rel => exact ⟨k + 1, D0 ++ [] ++ [bg], by go_num, hlt, HST.out, O6, KF⟩
          case measure => simp [intOf]; omega
      | some ue =>
        obtain ⟨be, hbe, hbx, rfl⟩ := (KE.out xa ue).1 hge
        have HGE : Hid ((mget ee xa).getD (.pointer none) = .pointer (some ⟨be, 0, none⟩)) := by show _ = _; rw [hge]; rfl
        have HE1 : Hid (be ∈ L ∧ (c be).e = xa) := ⟨hbe, hbx⟩
        clear hbe hbx
        clear hge
        cases hgg : mget eb xe with
        | none =>
          have HGG : Hid ((mget eb xe).getD (.pointer none) = .pointer none) := by show _ = _; rw [hgg]; rfl
          have HG0 := hid (KB.out.none hgg)
          clear hgg
          have HST := hid (HST0.out [be] [] (.inr ⟨be, HE1.out.1, HE1.out.2, rfl⟩) (.inl ⟨rfl, HG0.out⟩))
          clear HST0
          change (Code.region 5 o46r5 true).wp _ _ _ _
          refine wp_region_plan (fun w' => Kp (fun _ => False) W1 w') [] c46r5 p46r5_0 hmix b46r5 d46r5 (fun _ _ d _ _ h => by cases d <;> exact h) ?_
          refine plan_take (o := q46r5_0) (r := p46r5_1) ?vf100 H0.out (by rfl) ?hyf100 ?restf100
          case hyf100 => (intro w hSw; (try dsimp only at hSw); simp only [q46r5_0]; go_simp; try with_reducible rfl)
          try simp only [q46r5_0, Act.put, List.setIfInBounds_toArray, List.set_cons_zero, List.set_cons_succ]
          refine plan_take (o := q46r5_1) (r := p46r5_2) ?vf101 H0.out (by rfl) ?hyf101 ?restf101
          case hyf101 => (intro w hSw; (try dsimp only at hSw); simp only [q46r5_1]; go_simp; try with_reducible rfl)
          try simp only [q46r5_1, Act.put, List.setIfInBounds_toArray, List.set_cons_zero, List.set_cons_succ]
          refine plan_take (o := q46r5_2) (r := p46r5_3) ?vf102 H0.out (by rfl) ?hyf102 ?restf102
          case hyf102 => (intro w hSw; (try dsimp only at hSw); simp only [q46r5_2]; go_simp; try with_reducible rfl)
          try simp only [q46r5_2, Act.put, List.setIfInBounds_toArray, List.set_cons_zero, List.set_cons_succ]
          refine plan_take (o := q46r5_3) (r := p46r5_4) ?vf103 H0.out (by rfl) ?hyf103 ?restf103
          case hyf103 => (intro w hSw; (try dsimp only at hSw); have y := (HQ.out _ (HWT.out _ hSw)).2; simp only [q46r5_3]; go_simp; try with_reducible rfl)
          try simp only [q46r5_3, Act.put, List.setIfInBounds_toArray, List.set_cons_zero, List.set_cons_succ]
          refine plan_take (o := q46r5_4) (r := p46r5_5) ?vf104 H0.out (by rfl) ?hyf104 ?restf104
          case hyf104 => (intro w hSw; (try dsimp only at hSw); simp only [q46r5_4]; go_simp; try with_reducible rfl)
          try simp only [q46r5_4, Act.put, List.setIfInBounds_toArray, List.set_cons_zero, List.set_cons_succ]
          refine plan_take (o := q46r5_5) (r := p46r5_6) ?vf105 H0.out (by rfl) ?hyf105 ?restf105
          case hyf105 => (intro w hSw; (try dsimp only at hSw); have y : w.cell? ⟨T, 0, none⟩ = some (.int .i64 xa) := (S1.out.kp hSw (fun h => h)).cell 0; simp only [q46r5_5]; go_simp; try with_reducible rfl)
          try simp only [q46r5_5, Act.put, List.setIfInBounds_toArray, List.set_cons_zero, List.set_cons_succ]
          refine plan_act (o := q46r5_6) (r := p46r5_7) (fun K hK => ?_)
          simp only [q46r5_6]
          refine ite_pos2 (by rfl) ?_
          refine wp_lookup_mp _ _ rfl ky2 Try.underlying71 (.pointer none) (by kernel_rfl) me ke ee rfl (HME.out _ (HWT.out _ H0.out)) xa rfl (.pointer (some ⟨be, 0, none⟩)) HGE.out ?_
          refine hK.out _ _ (fun _ => H0.out) ?_
          clear hK K
          try simp only [q46r5_6, Act.put, List.setIfInBounds_toArray, List.set_cons_zero, List.set_cons_succ]
          refine plan_take (o := q46r5_7) (r := p46r5_8) ?vf107 H0.out (by rfl) ?hyf107 ?restf107
          case hyf107 => (intro w hSw; (try dsimp only at hSw); simp only [q46r5_7]; go_simp; try with_reducible rfl)
          try simp only [q46r5_7, Act.put, List.setIfInBounds_toArray, List.set_cons_zero, List.set_cons_succ]
          refine plan_done ?_
          clear HGE
          generalize W1.drew = W2 at H0 ⊢
          go_wp2_with (at_builtin; refine wpList_append_p1 rfl _ _ rfl w.heap.size u5 (D0) be W2.heap.size rfl ((HOA.out _ H0.out).kp ((Kp.refl (fun _ => False) _).alloc _) (fun _ _ h => h)) rfl (St.new 74 W2 #[ptr be]) (by have := HLN.out; (try simp only [List.length_append, List.length_cons, List.length_nil]); omega) (by rw [World.size_alloc]; have := (HWT.out _ H0.out).size; omega) ?_; intro v3 w3 o3 k3 _; have O3 := hid o3; have A3 : Hid (Kp (fun i => u5.ownBlock = some i) W2 w3) := ((Kp.refl _ _).alloc _).trans k3 (fun _ _ h => h); clear o3 k3)
          have S3 : Hid (Rn.B w3 T ⟨xa, xn⟩) := (S1.out.kp H0.out (fun h => h)).kp A3.out (fun h => HNT.out h)
          have HW3 : Hid (∀ U, Kp (fun _ => False) w3 U → Kp (fun _ => False) w U) := fun U hU => ((HWT.out _ H0.out).trans A3.out (fun i hi h => by have := HOG.out i h; omega)).trans hU (fun _ _ h => h)
          have HB3 : Hid (∀ i, v3.ownBlock = some i → w.heap.size ≤ i) := fun i h => O3.out.blk h
          have H3 : Hid (Kp (fun _ => False) w3 w3.drew) := (Kp.refl _ _).drew
          clear H0 HWT HOA S1
          subst hC8
          change (Code.region 8 o46r8 true).wp _ _ _ _
          refine wp_region_plan (fun w' => Kp (fun _ => False) w3 w') [] c46r8 p46r8_0 hmix b46r8 d46r8 (fun _ _ d _ _ h => by cases d <;> exact h) ?_
          refine plan_take (o := q46r8_0) (r := p46r8_1) ?vg100 H3.out (by rfl) ?hyg100 ?restg100
          case hyg100 => (intro w hSw; (try dsimp only at hSw); simp only [q46r8_0]; go_simp; try with_reducible rfl)
          try simp only [q46r8_0, Act.put, List.setIfInBounds_toArray, List.set_cons_zero, List.set_cons_succ]
          refine plan_take (o := q46r8_1) (r := p46r8_2) ?vg101 H3.out (by rfl) ?hyg101 ?restg101
          case hyg101 => (intro w hSw; (try dsimp only at hSw); simp only [q46r8_1]; go_simp; try with_reducible rfl)
          try simp only [q46r8_1, Act.put, List.setIfInBounds_toArray, List.set_cons_zero, List.set_cons_succ]
          refine plan_take (o := q46r8_2) (r := p46r8_3) ?vg102 H3.out (by rfl) ?hyg102 ?restg102
          case hyg102 => (intro w hSw; (try dsimp only at hSw); simp only [q46r8_2]; go_simp; try with_reducible rfl)
          try simp only [q46r8_2, Act.put, List.setIfInBounds_toArray, List.set_cons_zero, List.set_cons_succ]
          refine plan_take (o := q46r8_3) (r := p46r8_4) ?vg103 H3.out (by rfl) ?hyg103 ?restg103
          case hyg103 => (intro w hSw; (try dsimp only at hSw); have y := (HQ.out _ (HW3.out _ hSw)).1; simp only [q46r8_3]; go_simp; try with_reducible rfl)
          try simp only [q46r8_3, Act.put, List.setIfInBounds_toArray, List.set_cons_zero, List.set_cons_succ]
          refine plan_take (o := q46r8_4) (r := p46r8_5) (.agg #[.int .i64 xa, .int .i64 xn]) H3.out (by rfl) ?hyg104 ?restg104
          case hyg104 => (intro w hSw; (try dsimp only at hSw); have y : w.cell? ⟨T, 0, none⟩ = some (.int .i64 xa) := (S3.out.kp hSw (fun h => h)).cell 0; have y2 : w.cell? ⟨T, 1, none⟩ = some (.int .i64 xn) := (S3.out.kp hSw (fun h => h)).cell 1; simp only [q46r8_4]; go_simp; try with_reducible rfl)
          try simp only [q46r8_4, Act.put, List.setIfInBounds_toArray, List.set_cons_zero, List.set_cons_succ]
          refine plan_act (o := q46r8_5) (r := p46r8_6) (fun K hK => ?_)
          simp only [q46r8_5]
          refine ite_pos2 (by rfl) ?_
          go_simp
          refine (HEN.out _).mono ?_
          rintro e w5 ⟨rfl, b5⟩
          have K5 : Hid (Kp (fun _ => False) w3 w5) := H3.out.trans (Kp.of_below (F := fun _ => False) b5) (fun _ _ h => h)
          clear b5
          go_wp2_with fail
          refine hK.out _ _ (fun _ => K5.out) ?_
          clear hK K
          try simp only [q46r8_5, Act.put, List.setIfInBounds_toArray, List.set_cons_zero, List.set_cons_succ]
          refine plan_act (o := q46r8_6) (r := p46r8_7) (fun K hK => ?_)
          simp only [q46r8_6]
          refine ite_pos2 (by rfl) ?_
          refine wp_lookup_mp _ _ rfl ky2 Try.underlying71 (.pointer none) (by kernel_rfl) mb kb eb rfl (HMB.out _ (HW3.out _ K5.out)) xe rfl (.pointer none) HGG.out ?_
          refine hK.out _ _ (fun _ => K5.out) ?_
          clear hK K
          try simp only [q46r8_6, Act.put, List.setIfInBounds_toArray, List.set_cons_zero, List.set_cons_succ]
          refine plan_take (o := q46r8_7) (r := p46r8_8) ?vg107 K5.out (by rfl) ?hyg107 ?restg107
          case hyg107 => (intro w hSw; (try dsimp only at hSw); simp only [q46r8_7]; go_simp; try with_reducible rfl)
          try simp only [q46r8_7, Act.put, List.setIfInBounds_toArray, List.set_cons_zero, List.set_cons_succ]
          refine plan_done ?_
          clear HGG
          go_wp2_with fail
          go_roundw
          case rel => exact ⟨k + 1, D0 ++ [be] ++ [], by go_num, hlt, HST.out, (by rw [List.append_nil]; exact O3.out.kp K5.out (fun _ _ h => h)), HW3.out _ K5.out⟩
          case measure => simp [intOf]; omega
        | some ug =>
          obtain ⟨bg, hbg, hbx, rfl⟩ := (KB.out xe ug).1 hgg
          have HGG : Hid ((mget eb xe).getD (.pointer none) = .pointer (some ⟨bg, 0, none⟩)) := by show _ = _; rw [hgg]; rfl
          have HG1 : Hid (bg ∈ L ∧ (c bg).a = xe) := ⟨hbg, hbx⟩
          clear hbg hbx
          clear hgg
          have HST := hid (HST0.out [be] [bg] (.inr ⟨be, HE1.out.1, HE1.out.2, rfl⟩) (.inr ⟨bg, HG1.out.1, HG1.out.2, rfl⟩))
          clear HST0
          change (Code.region 5 o46r5 true).wp _ _ _ _
          refine wp_region_plan (fun w' => Kp (fun _ => False) W1 w') [] c46r5 p46r5_0 hmix b46r5 d46r5 (fun _ _ d _ _ h => by cases d <;> exact h) ?_
          refine plan_take (o := q46r5_0) (r := p46r5_1) ?vf110 H0.out (by rfl) ?hyf110 ?restf110
          case hyf110 => (intro w hSw; (try dsimp only at hSw); simp only [q46r5_0]; go_simp; try with_reducible rfl)
          try simp only [q46r5_0, Act.put, List.setIfInBounds_toArray, List.set_cons_zero, List.set_cons_succ]
          refine plan_take (o := q46r5_1) (r := p46r5_2) ?vf111 H0.out (by rfl) ?hyf111 ?restf111
          case hyf111 => (intro w hSw; (try dsimp only at hSw); simp only [q46r5_1]; go_simp; try with_reducible rfl)
          try simp only [q46r5_1, Act.put, List.setIfInBounds_toArray, List.set_cons_zero, List.set_cons_succ]
          refine plan_take (o := q46r5_2) (r := p46r5_3) ?vf112 H0.out (by rfl) ?hyf112 ?restf112
          case hyf112 => (intro w hSw; (try dsimp only at hSw); simp only [q46r5_2]; go_simp; try with_reducible rfl)
          try simp only [q46r5_2, Act.put, List.setIfInBounds_toArray, List.set_cons_zero, List.set_cons_succ]
          refine plan_take (o := q46r5_3) (r := p46r5_4) ?vf113 H0.out (by rfl) ?hyf113 ?restf113
          case hyf113 => (intro w hSw; (try dsimp only at hSw); have y := (HQ.out _ (HWT.out _ hSw)).2; simp only [q46r5_3]; go_simp; try with_reducible rfl)
          try simp only [q46r5_3, Act.put, List.setIfInBounds_toArray, List.set_cons_zero, List.set_cons_succ]
          refine plan_take (o := q46r5_4) (r := p46r5_5) ?vf114 H0.out (by rfl) ?hyf114 ?restf114
          case hyf114 => (intro w hSw; (try dsimp only at hSw); simp only [q46r5_4]; go_simp; try with_reducible rfl)
          try simp only [q46r5_4, Act.put, List.setIfInBounds_toArray, List.set_cons_zero, List.set_cons_succ]
          refine plan_take (o := q46r5_5) (r := p46r5_6) ?vf115 H0.out (by rfl) ?hyf115 ?restf115
          case hyf115 => (intro w hSw; (try dsimp only at hSw); have y : w.cell? ⟨T, 0, none⟩ = some (.int .i64 xa) := (S1.out.kp hSw (fun h => h)).cell 0; simp only [q46r5_5]; go_simp; try with_reducible rfl)
          try simp only [q46r5_5, Act.put, List.setIfInBounds_toArray, List.set_cons_zero, List.set_cons_succ]
          refine plan_act (o := q46r5_6) (r := p46r5_7) (fun K hK => ?_)
          simp only [q46r5_6]
          refine ite_pos2 (by rfl) ?_
          refine wp_lookup_mp _ _ rfl ky2 Try.underlying71 (.pointer none) (by kernel_rfl) me ke ee rfl (HME.out _ (HWT.out _ H0.out)) xa rfl (.pointer (some ⟨be, 0, none⟩)) HGE.out ?_
          refine hK.out _ _ (fun _ => H0.out) ?_
          clear hK K
          try simp only [q46r5_6, Act.put, List.setIfInBounds_toArray, List.set_cons_zero, List.set_cons_succ]
          refine plan_take (o := q46r5_7) (r := p46r5_8) ?vf117 H0.out (by rfl) ?hyf117 ?restf117
          case hyf117 => (intro w hSw; (try dsimp only at hSw); simp only [q46r5_7]; go_simp; try with_reducible rfl)
          try simp only [q46r5_7, Act.put, List.setIfInBounds_toArray, List.set_cons_zero, List.set_cons_succ]
          refine plan_done ?_
          clear HGE
          generalize W1.drew = W2 at H0 ⊢
          go_wp2_with (at_builtin; refine wpList_append_p1 rfl _ _ rfl w.heap.size u5 (D0) be W2.heap.size rfl ((HOA.out _ H0.out).kp ((Kp.refl (fun _ => False) _).alloc _) (fun _ _ h => h)) rfl (St.new 74 W2 #[ptr be]) (by have := HLN.out; (try simp only [List.length_append, List.length_cons, List.length_nil]); omega) (by rw [World.size_alloc]; have := (HWT.out _ H0.out).size; omega) ?_; intro v3 w3 o3 k3 _; have O3 := hid o3; have A3 : Hid (Kp (fun i => u5.ownBlock = some i) W2 w3) := ((Kp.refl _ _).alloc _).trans k3 (fun _ _ h => h); clear o3 k3)
          have S3 : Hid (Rn.B w3 T ⟨xa, xn⟩) := (S1.out.kp H0.out (fun h => h)).kp A3.out (fun h => HNT.out h)
          have HW3 : Hid (∀ U, Kp (fun _ => False) w3 U → Kp (fun _ => False) w U) := fun U hU => ((HWT.out _ H0.out).trans A3.out (fun i hi h => by have := HOG.out i h; omega)).trans hU (fun _ _ h => h)
          have HB3 : Hid (∀ i, v3.ownBlock = some i → w.heap.size ≤ i) := fun i h => O3.out.blk h
          have H3 : Hid (Kp (fun _ => False) w3 w3.drew) := (Kp.refl _ _).drew
          clear H0 HWT HOA S1
          subst hC8
          change (Code.region 8 o46r8 true).wp _ _ _ _
          refine wp_region_plan (fun w' => Kp (fun _ => False) w3 w') [] c46r8 p46r8_0 hmix b46r8 d46r8 (fun _ _ d _ _ h => by cases d <;> exact h) ?_
          refine plan_take (o := q46r8_0) (r := p46r8_1) ?vg110 H3.out (by rfl) ?hyg110 ?restg110
          case hyg110 => (intro w hSw; (try dsimp only at hSw); simp only [q46r8_0]; go_simp; try with_reducible rfl)
          try simp only [q46r8_0, Act.put, List.setIfInBounds_toArray, List.set_cons_zero, List.set_cons_succ]
          refine plan_take (o := q46r8_1) (r := p46r8_2) ?vg111 H3.out (by rfl) ?hyg111 ?restg111
          case hyg111 => (intro w hSw; (try dsimp only at hSw); simp only [q46r8_1]; go_simp; try with_reducible rfl)
          try simp only [q46r8_1, Act.put, List.setIfInBounds_toArray, List.set_cons_zero, List.set_cons_succ]
          refine plan_take (o := q46r8_2) (r := p46r8_3) ?vg112 H3.out (by rfl) ?hyg112 ?restg112
          case hyg112 => (intro w hSw; (try dsimp only at hSw); simp only [q46r8_2]; go_simp; try with_reducible rfl)
          try simp only [q46r8_2, Act.put, List.setIfInBounds_toArray, List.set_cons_zero, List.set_cons_succ]
          refine plan_take (o := q46r8_3) (r := p46r8_4) ?vg113 H3.out (by rfl) ?hyg113 ?restg113
          case hyg113 => (intro w hSw; (try dsimp only at hSw); have y := (HQ.out _ (HW3.out _ hSw)).1; simp only [q46r8_3]; go_simp; try with_reducible rfl)
          try simp only [q46r8_3, Act.put, List.setIfInBounds_toArray, List.set_cons_zero, List.set_cons_succ]
          refine plan_take (o := q46r8_4) (r := p46r8_5) (.agg #[.int .i64 xa, .int .i64 xn]) H3.out (by rfl) ?hyg114 ?restg114
          case hyg114 => (intro w hSw; (try dsimp only at hSw); have y : w.cell? ⟨T, 0, none⟩ = some (.int .i64 xa) := (S3.out.kp hSw (fun h => h)).cell 0; have y2 : w.cell? ⟨T, 1, none⟩ = some (.int .i64 xn) := (S3.out.kp hSw (fun h => h)).cell 1; simp only [q46r8_4]; go_simp; try with_reducible rfl)
          try simp only [q46r8_4, Act.put, List.setIfInBounds_toArray, List.set_cons_zero, List.set_cons_succ]
          refine plan_act (o := q46r8_5) (r := p46r8_6) (fun K hK => ?_)
          simp only [q46r8_5]
          refine ite_pos2 (by rfl) ?_
          go_simp
          refine (HEN.out _).mono ?_
          rintro e w5 ⟨rfl, b5⟩
          have K5 : Hid (Kp (fun _ => False) w3 w5) := H3.out.trans (Kp.of_below (F := fun _ => False) b5) (fun _ _ h => h)
          clear b5
          go_wp2_with fail
          refine hK.out _ _ (fun _ => K5.out) ?_
          clear hK K
          try simp only [q46r8_5, Act.put, List.setIfInBounds_toArray, List.set_cons_zero, List.set_cons_succ]
          refine plan_act (o := q46r8_6) (r := p46r8_7) (fun K hK => ?_)
          simp only [q46r8_6]
          refine ite_pos2 (by rfl) ?_
          refine wp_lookup_mp _ _ rfl ky2 Try.underlying71 (.pointer none) (by kernel_rfl) mb kb eb rfl (HMB.out _ (HW3.out _ K5.out)) xe rfl (.pointer (some ⟨bg, 0, none⟩)) HGG.out ?_
          refine hK.out _ _ (fun _ => K5.out) ?_
          clear hK K
          try simp only [q46r8_6, Act.put, List.setIfInBounds_toArray, List.set_cons_zero, List.set_cons_succ]
          refine plan_take (o := q46r8_7) (r := p46r8_8) ?vg117 K5.out (by rfl) ?hyg117 ?restg117
          case hyg117 => (intro w hSw; (try dsimp only at hSw); simp only [q46r8_7]; go_simp; try with_reducible rfl)
          try simp only [q46r8_7, Act.put, List.setIfInBounds_toArray, List.set_cons_zero, List.set_cons_succ]
          refine plan_done ?_
          clear HGG
          go_wp2_with (at_builtin; refine wpList_append_p1 rfl _ _ rfl w.heap.size v3 (D0 ++ [be]) bg w5.heap.size rfl ((O3.out.kp K5.out (fun _ _ h => h)).kp ((Kp.refl (fun _ => False) _).alloc _) (fun _ _ h => h)) rfl (St.new 74 w5 #[ptr bg]) (by have := HLN.out; (try simp only [List.length_append, List.length_cons, List.length_nil]); omega) (by rw [World.size_alloc]; have := (HW3.out _ K5.out).size; omega) ?_; intro v6 w6 o6 k6 _; have O6 := hid o6; have A6 : Hid (Kp (fun i => v3.ownBlock = some i) w5 w6) := ((Kp.refl _ _).alloc _).trans k6 (fun _ _ h => h); clear o6 k6)
          have KF : Hid (Kp (fun _ => False) w w6) := (HW3.out _ K5.out).trans A6.out (fun i hi h => by have := HB3.out i h; omega)
          go_roundw
          case rel => exact ⟨k + 1, D0 ++ [be] ++ [bg], by go_num, hlt, HST.out, O6, KF⟩
          case measure => simp [intOf]; omega
    · obtain rfl : k = n := by omega
      have hki : ¬ (k : Int) < (k : Int) := by omega
      obtain ⟨ao2, cap2, hv2, hsp, hc1, hc2, hc3, hc4⟩ := HO.out.src
      subst hv2
      have HMEM : Hid (∀ b, b ∈ D0 ↔ b ∈ L ∧ tch l (c b) = true) := fun b => by
        have := HBQ.out.mem b
        rwa [List.take_of_length_le (by have := HL.out; omega)] at this
      have hm : ∀ i j, i ≤ j → j < D0.length → (c (D0.getD i 0)).a ≤ (c (D0.getD j 0)).a := fun i j hij hj => by
        by_cases e : i = j
        · subst e; exact Int.le_refl _
        · have := List.pairwise_iff_getElem.1 HBQ.out.srt i j (by omega) hj (by omega)
          rwa [← gn (by omega), ← gn hj] at this
      have hi : ∀ i j, i < D0.length → j < D0.length → (c (D0.getD i 0)).a = (c (D0.getD j 0)).a → D0.getD i 0 = D0.getD j 0 := fun i j hi hj e => by
        have h1 := (HMEM.out _).1 (gn_mem hi)
        have h2 := (HMEM.out _).1 (gn_mem hj)
        have h3 := (HH.out.ln.may _ h1.1).lt
        have h4 := (HH.out.ln.may _ h2.1).lt
        exact lc_inj HH.out.ap h1.1 h2.1 (by rintro (h5 | h5) <;> omega)
      have HND : Hid ((cu D0 D0.length).Nodup) := cu_nodup D0 (fun b => (c b).a) hm hi _ (Nat.le_refl _)
      have HCM : Hid (∀ b, b ∈ cu D0 D0.length ↔ b ∈ L ∧ tch l (c b) = true) := fun b => by
        rw [cu_mem, ← HMEM.out b]
        constructor
        · rintro ⟨j, hj, rfl⟩; exact gn_mem hj
        · intro hb; exact gn_of hb
      have HLN := hid HBQ.out.len
      have HDL : Hid (D0.length ≤ 1000000) := by have := HLN.out; show _ ≤ _; omega
      clear hm hi
      cases ao2 with
      | none =>
        have hz : D0.length = 0 := by
          by_cases hz : D0.length = 0
          · exact hz
          · obtain ⟨_, _, e, _⟩ := hsp (by omega)
            cases e
        obtain rfl : D0 = [] := List.length_eq_zero_iff.1 hz
        have hcc := hc3 rfl
        subst hcc
        have HCO : Hid (Calls Try.prog 62 #[.slice none 0 0] wr fun e w' => e = .returned (.slice none 0 0) ∧ wr = w') := compact_nil wr
        go_wp2_with (go_at_call 62; refine HCO.out.mono ?_; rintro e w2 ⟨rfl, rfl⟩)
        go_ret
        exact ⟨none, 0, [], rfl, Srcp.nil _ _, List.nodup_nil, HCM.out, fun _ => rfl, fun b off e => (by cases e), HK.out⟩
      | some ad =>
        have hpr : ∃ g, ad = ⟨g, 0, none⟩ ∧ Pr wr g D0 [] ∧ w.heap.size ≤ g := by
          rcases HO.out.2 with ⟨e0, _⟩ | ⟨g, cp, cur, e0, hb, hg, h1, h2, h3, h4⟩
          · cases e0
          · cases e0
            refine ⟨g, rfl, ⟨cur, hg, fun j hj => ?_⟩, hb⟩
            rw [if_neg (by simp)]
            have := (show St 74 wr g cur from hg).cell j
            rw [← this]
            have := HO.out.cells (g := g) rfl j (ptr (D0.getD j 0)) (by simp [List.getD, hj])
            rwa [add_z] at this
        obtain ⟨g, rfl, hpr, hwg⟩ := hpr
        have HCO := hid (compact_any wr g D0.length cap2 D0 rfl HDL.out hc1 hc2 hpr (fun b hb => by
          obtain ⟨s, hs⟩ := HH.out.ln.wt ((HMEM.out b).1 hb).1
          exact ⟨_, St.kp hs HK.out (fun h => h)⟩))
        have HG := hid hwg
        clear hpr hwg hsp hc4
        go_wp2_with (go_at_call 62; refine HCO.out.mono ?_; rintro e w2 ⟨rfl, s2, k2⟩; have S2 := hid s2; have K2 := hid k2; clear s2 k2)
        go_ret
        exact ⟨_, _, _, rfl, S2.out, HND.out, HCM.out, fun e => (by cases e), fun b off e => (by cases e; exact HG.out), HK.out.trans K2.out (fun i hi e => by have := HG.out; omega)⟩
end Go.Proofs.Ytgfondgejimkkaa
