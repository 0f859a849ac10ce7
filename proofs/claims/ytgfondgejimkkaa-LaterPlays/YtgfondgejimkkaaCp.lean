/- later: slices.Compact of pointers. -/
import Derived.Test.YtgfondgejimkkaaWo
import Derived.LaidEqlPtr
import Derived.Lib.SliceRun
import Derived.Laws.IdiomCopy
namespace Go.Proofs.Ytgfondgejimkkaa
open Go.RowKit
set_option linter.unusedVariables false
set_option linter.unusedSimpArgs false
theorem Try.sz77 : (Try.prog.info? 77).map (·.size) = some 3 := by kernel_rfl
theorem ptr_equal {w : World} {a b : Nat} {ca cb : Array Value} (ha : St 77 w a ca) (hb : St 77 w b cb) : (Op.equal 74 (.pointer (some ⟨a, 0, none⟩)) (.pointer (some ⟨b, 0, none⟩))).run Try.prog w = .ok (decide (a = b)) w := by
  obtain ⟨j, hj, hs⟩ : ∃ j, Try.prog.info? 77 = some j ∧ j.size = 3 := by
    have := Try.sz77
    cases h : Try.prog.info? 77 with
    | none => rw [h] at this; cases this
    | some j => rw [h] at this; exact ⟨j, rfl, by simpa using this⟩
  have h : ∀ d : Nat, (Op.equalIn (d + 1) 74 (.pointer (some ⟨a, 0, none⟩)) (.pointer (some ⟨b, 0, none⟩))).run Try.prog w = .ok (decide (a = b)) w := fun d => by
    by_cases e : a = b
    · subst e
      simp [Op.equalIn, run_underlying Try.underlying74, sizeOf, typeInfo, hj, run_sameAddr_same]
    · have hne : (⟨a, 0, none⟩ : Addr) ≠ ⟨b, 0, none⟩ := fun h => e (by cases h; rfl)
      simp [Op.equalIn, run_underlying Try.underlying74, sizeOf, typeInfo, hj, hs, run_sameAddr_other w hne ha hb, e]
  exact h 9999
theorem ptr_eql {w : World} {a b : Nat} {ca cb : Array Value} (ha : St 77 w a ca) (hb : St 77 w b cb) : (binOp .eql 74 (.pointer (some ⟨a, 0, none⟩)) (.pointer (some ⟨b, 0, none⟩))).run Try.prog w = .ok (.bool (decide (a = b))) w := by
  simp only [binOp]
  simp [ptr_equal ha hb]
theorem ptr_neq {w : World} {a b : Nat} {ca cb : Array Value} (ha : St 77 w a ca) (hb : St 77 w b cb) : (binOp .neq 74 (.pointer (some ⟨a, 0, none⟩)) (.pointer (some ⟨b, 0, none⟩))).run Try.prog w = .ok (.bool (!decide (a = b))) w := by
  simp only [binOp]
  simp [ptr_equal ha hb]
/-- What Compact leaves of the first p. -/
def cu (D : List Nat) : Nat → List Nat
  | 0 => []
  | p + 1 => cu D p ++ (if p = 0 ∨ D.getD p 0 ≠ D.getD (p - 1) 0 then [D.getD p 0] else [])
theorem cu_len (D : List Nat) (p : Nat) : (cu D p).length ≤ p := by
  induction p with
  | zero => simp [cu]
  | succ p ih => unfold cu; split <;> simp <;> omega
theorem cu_mem (D : List Nat) (p : Nat) (b : Nat) : b ∈ cu D p ↔ ∃ j, j < p ∧ D.getD j 0 = b := by
  induction p with
  | zero => simp [cu]
  | succ p ih =>
    unfold cu
    rw [List.mem_append, ih]
    constructor
    · rintro (⟨j, hj, e⟩ | h)
      · exact ⟨j, by omega, e⟩
      · split at h
        · simp at h; exact ⟨p, by omega, by rw [h]; simp⟩
        · simp at h
    · rintro ⟨j, hj, e⟩
      by_cases hjp : j = p
      · subst hjp
        by_cases hk : j = 0 ∨ D.getD j 0 ≠ D.getD (j - 1) 0
        · rw [if_pos hk]; exact .inr (by rw [e]; exact List.mem_singleton_self _)
        · have h1 : j ≠ 0 := fun h => hk (.inl h)
          have h2 : D.getD j 0 = D.getD (j - 1) 0 := by
            by_cases h : D.getD j 0 = D.getD (j - 1) 0
            · exact h
            · exact absurd (.inr h) hk
          exact .inl ⟨j - 1, by omega, by rw [← h2]; exact e⟩
      · exact .inl ⟨j, by omega, e⟩
theorem cu_nodup (D : List Nat) (key : Nat → Int) (hm : ∀ i j, i ≤ j → j < D.length → key (D.getD i 0) ≤ key (D.getD j 0)) (hi : ∀ i j, i < D.length → j < D.length → key (D.getD i 0) = key (D.getD j 0) → D.getD i 0 = D.getD j 0) (p : Nat) (hp : p ≤ D.length) : (cu D p).Nodup := by
  induction p with
  | zero => simp [cu]
  | succ p ih =>
    unfold cu
    rw [List.nodup_append]
    refine ⟨ih (by omega), by split <;> simp, fun a ha b hb e => ?_⟩
    subst e
    split at hb
    · rename_i hk
      simp at hb
      obtain ⟨j, hj, e⟩ := (cu_mem D p a).1 ha
      have hbg : a = D.getD p 0 := by rw [hb]; simp
      rcases hk with hk | hk
      · omega
      · have h1 := hm j (p - 1) (by omega) (by omega)
        have h2 := hm (p - 1) p (by omega) (by omega)
        rw [e, hbg] at h1
        exact hk (hi p (p - 1) (by omega) (by omega) (by omega))
    · simp at hb
theorem cu_take {D : List Nat} {k : Nat} (h : cu D k = D.take k) (hk : k < D.length) (hn : k = 0 ∨ D.getD k 0 ≠ D.getD (k - 1) 0) : cu D (k + 1) = D.take (k + 1) := by
  rw [take_snoc' hk, ← h]
  show cu D k ++ _ = _
  rw [if_pos hn]
/-- The row while Compact goes. -/
def Pr (w : World) (g : Nat) (D C : List Nat) : Prop := ∃ cur, St 74 w g cur ∧ ∀ j, j < D.length → cur[j]? = some (ptr (if j < C.length then C.getD j 0 else D.getD j 0))
theorem Pr.kp {F : Nat → Prop} {w w' : World} {g : Nat} {D C : List Nat} (h : Pr w g D C) (k : Kp F w w') (hf : ¬ F g) : Pr w' g D C := by
  obtain ⟨cur, h1, h2⟩ := h
  exact ⟨cur, h1.kp k hf, h2⟩
theorem Pr.cell {w : World} {g : Nat} {D C : List Nat} (h : Pr w g D C) {j : Nat} (hj : j < D.length) (hc : C.length ≤ j) : w.cell? ⟨g, j, none⟩ = some (.pointer (some ⟨D.getD j 0, 0, none⟩)) := by
  obtain ⟨cur, h1, h2⟩ := h
  rw [h1.cell j, h2 j hj, if_neg (by omega)]
  rfl
theorem Pr.cell' {w : World} {g : Nat} {D C : List Nat} (h : Pr w g D C) {j : Nat} (hj : j < D.length) (hc : j < C.length) : w.cell? ⟨g, j, none⟩ = some (ptr (C.getD j 0)) := by
  obtain ⟨cur, h1, h2⟩ := h
  rw [h1.cell j, h2 j hj, if_pos hc]
theorem Pr.there {w : World} {g : Nat} {D C : List Nat} (h : Pr w g D C) {j : Nat} (hj : j < D.length) : (w.cell? ⟨g, j, none⟩).isSome = true ∧ w.frozen? ⟨g, j, none⟩ = false := by
  obtain ⟨cur, h1, h2⟩ := h
  exact ⟨by rw [h1.cell j, h2 j hj]; rfl, h1.frozen j⟩
theorem Pr.set {w : World} {g x : Nat} {D C : List Nat} (h : Pr w g D C) (hc : C.length < D.length) : Pr (w.setCell ⟨g, C.length, none⟩ (.pointer (some ⟨x, 0, none⟩))) g D (C ++ [x]) := by
  obtain ⟨cur, h1, h2⟩ := h
  refine ⟨_, h1.set C.length _, fun j hj => ?_⟩
  have hs : C.length < cur.size := by
    have := h2 _ hc
    exact (Array.getElem?_eq_some_iff.1 this).1
  simp only [Array.set!_eq_setIfInBounds, Array.getElem?_setIfInBounds]
  by_cases e : C.length = j
  · subst e
    simp [hs, ptr]
  · rw [if_neg e, h2 j hj]
    by_cases hj2 : j < C.length
    · rw [if_pos hj2, if_pos (by simp; omega)]
      simp [List.getD, List.getElem?_append_left hj2]
    · rw [if_neg hj2, if_neg (by simp; omega)]
theorem Pr.start {w : World} {g k : Nat} {D : List Nat} (h : Pr w g D []) (hk : k ≤ D.length) : Pr w g D (D.take k) := by
  obtain ⟨cur, h1, h2⟩ := h
  refine ⟨cur, h1, fun j hj => ?_⟩
  rw [h2 j hj]
  simp only [List.length_nil, Nat.not_lt_zero, if_false]
  split
  · rename_i h3
    have hjk : j < k := by simp at h3; omega
    simp [List.getD, List.getElem?_take, hjk]
  · rfl
theorem kp_setCells (g : Nat) (F : Nat → Prop) (hF : F g) : ∀ (vs : List Value) (o : Nat) (w : World), Kp F w (w.setCells g o vs)
  | [], o, w => Kp.refl _ _
  | v :: vs, o, w => (kp_setCell w g o v F hF).trans (kp_setCells g F hF vs (o + 1) _) (fun _ _ h => h)
def q62r6_0 : Oper := { dst := some 16, op := Go.Op.move (Go.Operand.tmp 0), type := 66, pos := "slices.go:376", after := #[], guard := none }
def q62r6_1 : Oper := { dst := some 17, op := Go.Op.move (Go.Operand.tmp 3), type := 3, pos := "slices.go:376", after := #[], guard := none }
def q62r6_2 : Oper := { dst := some 18, op := Go.Op.indexAddr 66 (Go.Operand.tmp 16) (Go.Operand.tmp 17), type := 0, pos := "slices.go:376", after := #[{ on := 0, ground := Go.Ground.data }, { on := 1, ground := Go.Ground.data }], guard := none }
def q62r6_3 : Oper := { dst := some 19, op := Go.Op.load 74 (Go.Operand.tmp 18), type := 74, pos := "slices.go:376", after := #[{ on := 2, ground := Go.Ground.data }], guard := none }
def q62r6_4 : Oper := { dst := some 20, op := Go.Op.move (Go.Operand.tmp 0), type := 66, pos := "slices.go:376", after := #[], guard := none }
def q62r6_5 : Oper := { dst := some 21, op := Go.Op.move (Go.Operand.tmp 3), type := 3, pos := "slices.go:376", after := #[], guard := none }
def q62r6_6 : Oper := { dst := some 22, op := Go.Op.binOp Go.BinOp.sub 3 (Go.Operand.tmp 21) (Go.Operand.const (Go.Value.int Go.IntKind.i64 1)) 3, type := 3, pos := "slices.go:376", after := #[{ on := 5, ground := Go.Ground.data }], guard := none }
def q62r6_7 : Oper := { dst := some 23, op := Go.Op.indexAddr 66 (Go.Operand.tmp 20) (Go.Operand.tmp 22), type := 0, pos := "slices.go:376", after := #[{ on := 4, ground := Go.Ground.data }, { on := 6, ground := Go.Ground.data }], guard := none }
def q62r6_8 : Oper := { dst := some 24, op := Go.Op.load 74 (Go.Operand.tmp 23), type := 74, pos := "slices.go:376", after := #[{ on := 7, ground := Go.Ground.data }], guard := none }
def q62r6_9 : Oper := { dst := some 25, op := Go.Op.binOp Go.BinOp.eql 74 (Go.Operand.tmp 19) (Go.Operand.tmp 24) 74, type := 4, pos := "slices.go:376", after := #[{ on := 3, ground := Go.Ground.data }, { on := 8, ground := Go.Ground.data }], guard := none }
def o62r6 : Array Oper := #[q62r6_0, q62r6_1, q62r6_2, q62r6_3, q62r6_4, q62r6_5, q62r6_6, q62r6_7, q62r6_8, q62r6_9]
def p62r6_10 : List (Nat × Oper) := []
def p62r6_9 : List (Nat × Oper) := (0, q62r6_9) :: p62r6_10
def p62r6_8 : List (Nat × Oper) := (0, q62r6_8) :: p62r6_9
def p62r6_7 : List (Nat × Oper) := (0, q62r6_7) :: p62r6_8
def p62r6_6 : List (Nat × Oper) := (0, q62r6_6) :: p62r6_7
def p62r6_5 : List (Nat × Oper) := (0, q62r6_5) :: p62r6_6
def p62r6_4 : List (Nat × Oper) := (0, q62r6_4) :: p62r6_5
def p62r6_3 : List (Nat × Oper) := (0, q62r6_3) :: p62r6_4
def p62r6_2 : List (Nat × Oper) := (0, q62r6_2) :: p62r6_3
def p62r6_1 : List (Nat × Oper) := (0, q62r6_1) :: p62r6_2
def p62r6_0 : List (Nat × Oper) := (0, q62r6_0) :: p62r6_1
def c62r6 : List (Nat × Nat) := [(0, 0), (0, 1), (0, 2), (0, 3), (0, 4), (0, 5), (0, 6), (0, 7), (0, 8), (0, 9)]
theorem b62r6 : (Region.noSelect o62r6 && (c62r6.length == o62r6.size) && planB o62r6 [] c62r6 (Array.replicate o62r6.size false)) = true := by kernel_rfl
theorem d62r6 : (c62r6.map fun p => (p.1, o62r6[p.2]?)) = (p62r6_0.map fun p => (p.1, some p.2)) := by kernel_rfl
def q62r11_0 : Oper := { dst := some 35, op := Go.Op.move (Go.Operand.tmp 4), type := 66, pos := "slices.go:379", after := #[], guard := none }
def q62r11_1 : Oper := { dst := some 36, op := Go.Op.move (Go.Operand.tmp 5), type := 3, pos := "slices.go:379", after := #[], guard := none }
def q62r11_2 : Oper := { dst := some 37, op := Go.Op.indexAddr 66 (Go.Operand.tmp 35) (Go.Operand.tmp 36), type := 0, pos := "slices.go:379", after := #[{ on := 0, ground := Go.Ground.data }, { on := 1, ground := Go.Ground.data }], guard := none }
def q62r11_3 : Oper := { dst := some 38, op := Go.Op.load 74 (Go.Operand.tmp 37), type := 74, pos := "slices.go:379", after := #[{ on := 2, ground := Go.Ground.data }], guard := none }
def q62r11_4 : Oper := { dst := some 39, op := Go.Op.move (Go.Operand.tmp 4), type := 66, pos := "slices.go:379", after := #[], guard := none }
def q62r11_5 : Oper := { dst := some 40, op := Go.Op.move (Go.Operand.tmp 5), type := 3, pos := "slices.go:379", after := #[], guard := none }
def q62r11_6 : Oper := { dst := some 41, op := Go.Op.binOp Go.BinOp.sub 3 (Go.Operand.tmp 40) (Go.Operand.const (Go.Value.int Go.IntKind.i64 1)) 3, type := 3, pos := "slices.go:379", after := #[{ on := 5, ground := Go.Ground.data }], guard := none }
def q62r11_7 : Oper := { dst := some 42, op := Go.Op.indexAddr 66 (Go.Operand.tmp 39) (Go.Operand.tmp 41), type := 0, pos := "slices.go:379", after := #[{ on := 4, ground := Go.Ground.data }, { on := 6, ground := Go.Ground.data }], guard := none }
def q62r11_8 : Oper := { dst := some 43, op := Go.Op.load 74 (Go.Operand.tmp 42), type := 74, pos := "slices.go:379", after := #[{ on := 7, ground := Go.Ground.data }], guard := none }
def q62r11_9 : Oper := { dst := some 44, op := Go.Op.binOp Go.BinOp.neq 74 (Go.Operand.tmp 38) (Go.Operand.tmp 43) 74, type := 4, pos := "slices.go:379", after := #[{ on := 3, ground := Go.Ground.data }, { on := 8, ground := Go.Ground.data }], guard := none }
def o62r11 : Array Oper := #[q62r11_0, q62r11_1, q62r11_2, q62r11_3, q62r11_4, q62r11_5, q62r11_6, q62r11_7, q62r11_8, q62r11_9]
def p62r11_10 : List (Nat × Oper) := []
def p62r11_9 : List (Nat × Oper) := (0, q62r11_9) :: p62r11_10
def p62r11_8 : List (Nat × Oper) := (0, q62r11_8) :: p62r11_9
def p62r11_7 : List (Nat × Oper) := (0, q62r11_7) :: p62r11_8
def p62r11_6 : List (Nat × Oper) := (0, q62r11_6) :: p62r11_7
def p62r11_5 : List (Nat × Oper) := (0, q62r11_5) :: p62r11_6
def p62r11_4 : List (Nat × Oper) := (0, q62r11_4) :: p62r11_5
def p62r11_3 : List (Nat × Oper) := (0, q62r11_3) :: p62r11_4
def p62r11_2 : List (Nat × Oper) := (0, q62r11_2) :: p62r11_3
def p62r11_1 : List (Nat × Oper) := (0, q62r11_1) :: p62r11_2
def p62r11_0 : List (Nat × Oper) := (0, q62r11_0) :: p62r11_1
def c62r11 : List (Nat × Nat) := [(0, 0), (0, 1), (0, 2), (0, 3), (0, 4), (0, 5), (0, 6), (0, 7), (0, 8), (0, 9)]
theorem b62r11 : (Region.noSelect o62r11 && (c62r11.length == o62r11.size) && planB o62r11 [] c62r11 (Array.replicate o62r11.size false)) = true := by kernel_rfl
theorem d62r11 : (c62r11.map fun p => (p.1, o62r11[p.2]?)) = (p62r11_0.map fun p => (p.1, some p.2)) := by kernel_rfl

set_option maxRecDepth 100000 in
set_option maxHeartbeats 16000000 in
theorem compact_any (w : World) (g n cap : Nat) (D : List Nat) (hn : D.length = n) (hsz : n ≤ 1000000) (hcap : n ≤ cap) (hcm : cap ≤ maxLen) (h : Pr w g D []) (hb : ∀ b ∈ D, ∃ cs, St 77 w b cs) :
    Calls Try.prog 62 #[.slice (some ⟨g, 0, none⟩) n cap] w fun e w' => e = .returned (.slice (some ⟨g, 0, none⟩) (cu D n).length cap) ∧ Srcp w' (some ⟨g, 0, none⟩) (cu D n) ∧ Kp (fun i => i = g) w w' := by
  have hgs : g < w.heap.size := by obtain ⟨cur, h1, _⟩ := h; exact h1.lt
  have HB : Hid (∀ i, i < n → ∀ U, Kp (fun i => i = g) w U → ∃ cs, St 77 U (D.getD i 0) cs) := fun i hi U hU => by
    obtain ⟨cs, hs⟩ := hb (D.getD i 0) (gn_mem (by omega))
    refine ⟨cs, hs.kp hU (fun e => ?_)⟩
    obtain ⟨cur, h1, _⟩ := h
    rw [e] at hs
    exact apart_types h1 hs (by decide)
  have HP := hid h
  have HN := hid hn
  have hcm2 : cap ≤ 9223372036854775807 := by unfold maxLen at hcm; omega
  have HSR : Hid (∀ U C, C.length ≤ n → Pr U g D C → Srcp U (some ⟨g, 0, none⟩) C) := fun U C hC hU hp => ⟨g, 0, rfl, by obtain ⟨cur, h1, _⟩ := hU; exact h1.lt, fun j hj => by rw [Nat.zero_add]; exact hU.cell' (by have := HN.out; omega) hj⟩
  clear hb h hn hcm
  by_cases h2 : n < 2
  · have hcu : cu D n = D := by
      have := HN.out
      cases D with
      | nil => subst this; rfl
      | cons x D =>
        cases D with
        | nil => subst this; simp [cu]
        | cons y D => simp at this; omega
    have HCU := hid hcu
    rw [hcu, HN.out]
    have h2i : (n : Int) < 2 := by omega
    clear hcu h2
    go_enter Try.func62, Try.ntmps62
    go_wp2_with fail
    go_ret
    exact ⟨rfl, by have := HSR.out w D (by have := HN.out; omega) (by have := HP.out.start (k := D.length) (Nat.le_refl _); rwa [List.take_of_length_le (Nat.le_refl _)] at this); exact this, Kp.refl _ _⟩
  · have h2i : ¬ (n : Int) < 2 := by omega
    go_enter Try.func62, Try.ntmps62
    go_wp2_with fail
    go_loopw [3] (fun a wr => ∃ k : Nat, a = .int .i64 (k : Int) ∧ 1 ≤ k ∧ k ≤ n ∧ Hid (cu D k = D.take k) ∧ Hid (Kp (fun _ => False) w wr)) (fun a _ => n - (intOf a).toNat)
    case atStart => exact ⟨1, rfl, Nat.le_refl _, by omega, cu_take (k := 0) rfl (by have := HN.out; omega) (.inl rfl), Kp.refl _ _⟩
    case round =>
      obtain ⟨k, rfl, hk1, hkn, HT, HK⟩ := hrel
      by_cases hlt : k < n
      · have hki : (k : Int) < (n : Int) := by omega
        have hki1 : (1 : Int) ≤ (k : Int) := by omega
        obtain ⟨K1, hK1⟩ : ∃ K1, K1 = k - 1 := ⟨_, rfl⟩
        have HW1 : Hid (IntKind.i64.wrap ((k : Int) - 1) = ((K1 : Nat) : Int)) := by show _ = _; rw [IntKind.wrap_i64]; omega
        have HI2 : Hid (((K1 : Nat) : Int) < (n : Int)) := by show _ < _; omega
        have HKK := hid hK1
        have H0 : Hid (Kp (fun _ => False) wr wr.drew) := (Kp.refl _ _).drew
        have HC : Hid (∀ U, Kp (fun _ => False) wr U → U.cell? ⟨g, k, none⟩ = some (.pointer (some ⟨D.getD k 0, 0, none⟩)) ∧ U.cell? ⟨g, K1, none⟩ = some (.pointer (some ⟨D.getD K1 0, 0, none⟩))) := fun U hU => by
          have hp := (HP.out.kp HK.out (fun h => h)).kp hU (fun h => h)
          exact ⟨hp.cell (by have := HN.out; omega) (Nat.zero_le _), hp.cell (by have := HN.out; omega) (Nat.zero_le _)⟩
        have HEQ : Hid (∀ U, Kp (fun _ => False) wr U → (binOp .eql 74 (.pointer (some ⟨D.getD k 0, 0, none⟩)) (.pointer (some ⟨D.getD K1 0, 0, none⟩))).run Try.prog U = .ok (.bool (decide (D.getD k 0 = D.getD K1 0))) U) := fun U hU => by
          have hu : Kp (fun i => i = g) w U := (HK.out.trans hU (fun _ _ h => h)).mono (fun _ _ h => h.elim)
          obtain ⟨_, s1⟩ := HB.out k hlt U hu
          obtain ⟨_, s2⟩ := HB.out K1 (by omega) U hu
          exact ptr_eql s1 s2
        cases hbl : decide (D.getD k 0 = D.getD K1 0) with
        | false =>
          rw [hbl] at HEQ
          have HTN : Hid (cu D (k + 1) = D.take (k + 1)) := cu_take HT.out (by have := HN.out; omega) (.inr (by rw [← HKK.out]; simpa using hbl))
          clear hbl hK1
          generalize D.getD k 0 = da at HC HEQ
          generalize D.getD K1 0 = db at HC HEQ
          generalize hC6 : Code.region 6 _ _ = C6
          go_wp2_with fail
          subst hC6
          change (Code.region 6 o62r6 true).wp _ _ _ _
          refine wp_region_plan (fun w' => Kp (fun _ => False) wr w') [] c62r6 p62r6_0 hmix b62r6 d62r6 (fun _ _ d _ _ h => by cases d <;> exact h) ?_
          refine plan_take (o := q62r6_0) (r := p62r6_1) ?vra0 H0.out (by rfl) ?hyra0 ?restra0
          case hyra0 => (intro w hSw; (try dsimp only at hSw); simp only [q62r6_0]; go_simp; try with_reducible rfl)
          try simp only [q62r6_0, Act.put, List.setIfInBounds_toArray, List.set_cons_zero, List.set_cons_succ]
          refine plan_take (o := q62r6_1) (r := p62r6_2) ?vra1 H0.out (by rfl) ?hyra1 ?restra1
          case hyra1 => (intro w hSw; (try dsimp only at hSw); simp only [q62r6_1]; go_simp; try with_reducible rfl)
          try simp only [q62r6_1, Act.put, List.setIfInBounds_toArray, List.set_cons_zero, List.set_cons_succ]
          refine plan_take (o := q62r6_2) (r := p62r6_3) ?vra2 H0.out (by rfl) ?hyra2 ?restra2
          case hyra2 => (intro w hSw; (try dsimp only at hSw); have hq := hki; simp only [q62r6_2]; go_simp; try with_reducible rfl)
          try simp only [q62r6_2, Act.put, List.setIfInBounds_toArray, List.set_cons_zero, List.set_cons_succ]
          refine plan_take (o := q62r6_3) (r := p62r6_4) ?vra3 H0.out (by rfl) ?hyra3 ?restra3
          case hyra3 => (intro w hSw; (try dsimp only at hSw); obtain ⟨y1, y2⟩ := HC.out _ hSw; simp only [q62r6_3]; go_simp; try with_reducible rfl)
          try simp only [q62r6_3, Act.put, List.setIfInBounds_toArray, List.set_cons_zero, List.set_cons_succ]
          refine plan_take (o := q62r6_4) (r := p62r6_5) ?vra4 H0.out (by rfl) ?hyra4 ?restra4
          case hyra4 => (intro w hSw; (try dsimp only at hSw); simp only [q62r6_4]; go_simp; try with_reducible rfl)
          try simp only [q62r6_4, Act.put, List.setIfInBounds_toArray, List.set_cons_zero, List.set_cons_succ]
          refine plan_take (o := q62r6_5) (r := p62r6_6) ?vra5 H0.out (by rfl) ?hyra5 ?restra5
          case hyra5 => (intro w hSw; (try dsimp only at hSw); simp only [q62r6_5]; go_simp; try with_reducible rfl)
          try simp only [q62r6_5, Act.put, List.setIfInBounds_toArray, List.set_cons_zero, List.set_cons_succ]
          refine plan_take (o := q62r6_6) (r := p62r6_7) (.int .i64 ((K1 : Nat) : Int)) H0.out (by rfl) ?hyra6 ?restra6
          case hyra6 => (intro w hSw; simp only [q62r6_6]; go_simp; first | with_reducible rfl | exact HW1.out)
          try simp only [q62r6_6, Act.put, List.setIfInBounds_toArray, List.set_cons_zero, List.set_cons_succ]
          refine plan_take (o := q62r6_7) (r := p62r6_8) ?vra7 H0.out (by rfl) ?hyra7 ?restra7
          case hyra7 => (intro w hSw; (try dsimp only at hSw); have hq := HI2.out; simp only [q62r6_7]; go_simp; try with_reducible rfl)
          try simp only [q62r6_7, Act.put, List.setIfInBounds_toArray, List.set_cons_zero, List.set_cons_succ]
          refine plan_take (o := q62r6_8) (r := p62r6_9) ?vra8 H0.out (by rfl) ?hyra8 ?restra8
          case hyra8 => (intro w hSw; (try dsimp only at hSw); obtain ⟨y1, y2⟩ := HC.out _ hSw; simp only [q62r6_8]; go_simp; try with_reducible rfl)
          try simp only [q62r6_8, Act.put, List.setIfInBounds_toArray, List.set_cons_zero, List.set_cons_succ]
          refine plan_take (o := q62r6_9) (r := p62r6_10) (.bool false) H0.out (by rfl) ?hyra9 ?restra9
          case hyra9 => (intro w hSw; (try dsimp only at hSw); have hq := HEQ.out _ hSw; simp only [q62r6_9]; go_simp; try with_reducible rfl)
          try simp only [q62r6_9, Act.put, List.setIfInBounds_toArray, List.set_cons_zero, List.set_cons_succ]
          refine plan_done ?_
          clear HC HEQ
          go_wp2_with fail
          go_roundw
          case rel => exact ⟨k + 1, by go_num, by omega, hlt, HTN, HK.out.drew⟩
          case measure => simp [intOf]; omega
        | true =>
          rw [hbl] at HEQ
          have HTN : Hid (cu D (k + 1) = D.take k) := by
            show cu D k ++ _ = _
            rw [if_neg (by rw [← HKK.out]; rintro (h | h); · omega
                           · exact h (by simpa using hbl)), List.append_nil]
            exact HT.out
          clear hbl hK1
          generalize D.getD k 0 = da at HC HEQ
          generalize D.getD K1 0 = db at HC HEQ
          generalize hC6 : Code.region 6 _ _ = C6
          go_wp2_with fail
          subst hC6
          change (Code.region 6 o62r6 true).wp _ _ _ _
          refine wp_region_plan (fun w' => Kp (fun _ => False) wr w') [] c62r6 p62r6_0 hmix b62r6 d62r6 (fun _ _ d _ _ h => by cases d <;> exact h) ?_
          refine plan_take (o := q62r6_0) (r := p62r6_1) ?vrb0 H0.out (by rfl) ?hyrb0 ?restrb0
          case hyrb0 => (intro w hSw; (try dsimp only at hSw); simp only [q62r6_0]; go_simp; try with_reducible rfl)
          try simp only [q62r6_0, Act.put, List.setIfInBounds_toArray, List.set_cons_zero, List.set_cons_succ]
          refine plan_take (o := q62r6_1) (r := p62r6_2) ?vrb1 H0.out (by rfl) ?hyrb1 ?restrb1
          case hyrb1 => (intro w hSw; (try dsimp only at hSw); simp only [q62r6_1]; go_simp; try with_reducible rfl)
          try simp only [q62r6_1, Act.put, List.setIfInBounds_toArray, List.set_cons_zero, List.set_cons_succ]
          refine plan_take (o := q62r6_2) (r := p62r6_3) ?vrb2 H0.out (by rfl) ?hyrb2 ?restrb2
          case hyrb2 => (intro w hSw; (try dsimp only at hSw); have hq := hki; simp only [q62r6_2]; go_simp; try with_reducible rfl)
          try simp only [q62r6_2, Act.put, List.setIfInBounds_toArray, List.set_cons_zero, List.set_cons_succ]
          refine plan_take (o := q62r6_3) (r := p62r6_4) ?vrb3 H0.out (by rfl) ?hyrb3 ?restrb3
          case hyrb3 => (intro w hSw; (try dsimp only at hSw); obtain ⟨y1, y2⟩ := HC.out _ hSw; simp only [q62r6_3]; go_simp; try with_reducible rfl)
          try simp only [q62r6_3, Act.put, List.setIfInBounds_toArray, List.set_cons_zero, List.set_cons_succ]
          refine plan_take (o := q62r6_4) (r := p62r6_5) ?vrb4 H0.out (by rfl) ?hyrb4 ?restrb4
          case hyrb4 => (intro w hSw; (try dsimp only at hSw); simp only [q62r6_4]; go_simp; try with_reducible rfl)
          try simp only [q62r6_4, Act.put, List.setIfInBounds_toArray, List.set_cons_zero, List.set_cons_succ]
          refine plan_take (o := q62r6_5) (r := p62r6_6) ?vrb5 H0.out (by rfl) ?hyrb5 ?restrb5
          case hyrb5 => (intro w hSw; (try dsimp only at hSw); simp only [q62r6_5]; go_simp; try with_reducible rfl)
          try simp only [q62r6_5, Act.put, List.setIfInBounds_toArray, List.set_cons_zero, List.set_cons_succ]
          refine plan_take (o := q62r6_6) (r := p62r6_7) (.int .i64 ((K1 : Nat) : Int)) H0.out (by rfl) ?hyrb6 ?restrb6
          case hyrb6 => (intro w hSw; simp only [q62r6_6]; go_simp; first | with_reducible rfl | exact HW1.out)
          try simp only [q62r6_6, Act.put, List.setIfInBounds_toArray, List.set_cons_zero, List.set_cons_succ]
          refine plan_take (o := q62r6_7) (r := p62r6_8) ?vrb7 H0.out (by rfl) ?hyrb7 ?restrb7
          case hyrb7 => (intro w hSw; (try dsimp only at hSw); have hq := HI2.out; simp only [q62r6_7]; go_simp; try with_reducible rfl)
          try simp only [q62r6_7, Act.put, List.setIfInBounds_toArray, List.set_cons_zero, List.set_cons_succ]
          refine plan_take (o := q62r6_8) (r := p62r6_9) ?vrb8 H0.out (by rfl) ?hyrb8 ?restrb8
          case hyrb8 => (intro w hSw; (try dsimp only at hSw); obtain ⟨y1, y2⟩ := HC.out _ hSw; simp only [q62r6_8]; go_simp; try with_reducible rfl)
          try simp only [q62r6_8, Act.put, List.setIfInBounds_toArray, List.set_cons_zero, List.set_cons_succ]
          refine plan_take (o := q62r6_9) (r := p62r6_10) (.bool true) H0.out (by rfl) ?hyrb9 ?restrb9
          case hyrb9 => (intro w hSw; (try dsimp only at hSw); have hq := HEQ.out _ hSw; simp only [q62r6_9]; go_simp; try with_reducible rfl)
          try simp only [q62r6_9, Act.put, List.setIfInBounds_toArray, List.set_cons_zero, List.set_cons_succ]
          refine plan_done ?_
          clear HC HEQ
          go_wp2_with fail
          clear HW1 HI2 HKK
          go_loopw [3, 5] (fun a b wr2 => ∃ kk p : Nat, a = .int .i64 (kk : Int) ∧ b = .int .i64 (p : Int) ∧ 1 ≤ p ∧ k + p ≤ n ∧ kk < k + p ∧ Hid (kk = (cu D (k + p)).length) ∧ Hid (Pr wr2 g D (cu D (k + p))) ∧ Hid (Kp (fun i => i = g) w wr2)) (fun a b _ => n - (intOf b).toNat)
          case atStart => exact ⟨k, 1, rfl, rfl, Nat.le_refl _, by omega, by omega, (by show _ = _; rw [HTN.out]; have := HN.out; simp; omega), (by rw [HTN.out]; exact ((HP.out.kp HK.out (fun h => h)).kp H0.out (fun h => h)).start (by have := HN.out; omega)), (HK.out.trans H0.out (fun _ _ h => h)).mono (fun _ _ h => h.elim)⟩
          case round =>
            clear HT HK H0 HTN
            obtain ⟨kk, p, rfl, rfl, hp1, hpn, hkp, HL, HR, HK⟩ := hrel
            have H0 : Hid (Kp (fun _ => False) wr wr.drew) := (Kp.refl _ _).drew
            have hkki : (kk : Int) < (n : Int) := by omega
            by_cases hlt2 : k + p < n
            · have hpi : (p : Int) < ((n - k : Nat) : Int) := by omega
              have hpi1 : (1 : Int) ≤ (p : Int) := by omega
              obtain ⟨K1, hK1⟩ : ∃ K1, K1 = p - 1 := ⟨_, rfl⟩
              have HW1 : Hid (IntKind.i64.wrap ((p : Int) - 1) = ((K1 : Nat) : Int)) := by show _ = _; rw [IntKind.wrap_i64]; omega
              have HI2 : Hid (((K1 : Nat) : Int) < ((n - k : Nat) : Int)) := by show _ < _; omega
              have HKK := hid hK1
              have HC : Hid (∀ U, Kp (fun _ => False) wr U → U.cell? ⟨g, k + p, none⟩ = some (.pointer (some ⟨D.getD (k + p) 0, 0, none⟩)) ∧ U.cell? ⟨g, k + K1, none⟩ = some (.pointer (some ⟨D.getD (k + K1) 0, 0, none⟩))) := fun U hU => by
                have hp := HR.out.kp hU (fun h => h)
                have h3 := HL.out
                have h4 := HN.out
                exact ⟨hp.cell (by omega) (by omega), hp.cell (by omega) (by omega)⟩
              have HEQ : Hid (∀ U, Kp (fun _ => False) wr U → (binOp .neq 74 (.pointer (some ⟨D.getD (k + p) 0, 0, none⟩)) (.pointer (some ⟨D.getD (k + K1) 0, 0, none⟩))).run Try.prog U = .ok (.bool (!decide (D.getD (k + p) 0 = D.getD (k + K1) 0))) U) := fun U hU => by
                have hu : Kp (fun i => i = g) w U := HK.out.trans (hU.mono (fun _ _ h => h.elim)) (fun _ _ h => h)
                obtain ⟨_, s1⟩ := HB.out (k + p) hlt2 U hu
                obtain ⟨_, s2⟩ := HB.out (k + K1) (by omega) U hu
                exact ptr_neq s1 s2
              have hk1 : k + p - 1 = k + K1 := by omega
              have hcs : cu D (k + (p + 1)) = cu D (k + p) ++ (if k + p = 0 ∨ D.getD (k + p) 0 ≠ D.getD (k + K1) 0 then [D.getD (k + p) 0] else []) := by rw [← hk1]; rfl
              cases hbl : decide (D.getD (k + p) 0 = D.getD (k + K1) 0) with
              | false =>
                rw [hbl] at HEQ
                rw [if_pos (.inr (by simpa using hbl))] at hcs
                have HCS := hid hcs
                clear hbl hK1 hcs hk1
                have HSET : Hid (∀ U, Kp (fun _ => False) wr U → Pr (U.setCell ⟨g, kk, none⟩ (.pointer (some ⟨D.getD (k + p) 0, 0, none⟩))) g D (cu D (k + (p + 1))) ∧ Kp (fun i => i = g) w (U.setCell ⟨g, kk, none⟩ (.pointer (some ⟨D.getD (k + p) 0, 0, none⟩)))) := fun U hU => by
                  have h4 := HN.out
                  have h5 := HL.out
                  refine ⟨?_, (HK.out.trans (hU.mono (fun _ _ h => h.elim)) (fun _ _ h => h)).trans (kp_setCell U g kk _ (fun i => i = g) rfl) (fun _ _ h => h)⟩
                  have := (HR.out.kp hU (fun h => h)).set (x := D.getD (k + p) 0) (by omega)
                  rw [HCS.out, h5]
                  exact this
                generalize D.getD (k + p) 0 = da at HC HEQ HSET
                generalize D.getD (k + K1) 0 = db at HC HEQ
                have y0 := (HC.out _ H0.out).1
                obtain ⟨h6, yf⟩ := (HR.out.kp H0.out (fun h => h)).there (j := kk) (by have := HN.out; omega)
                obtain ⟨vk, yk⟩ := Option.isSome_iff_exists.1 h6
                have HLN : Hid (kk + 1 = (cu D (k + (p + 1))).length) := by show _ = _; rw [HCS.out, List.length_append, ← HL.out]; rfl
                generalize hC11 : Code.region 11 _ _ = C11
                generalize hC12 : Code.region 12 _ _ = C12
                go_wp2_with fail
                subst hC11
                clear h6
                change (Code.region 11 o62r11 true).wp _ _ _ _
                refine wp_region_plan (fun w' => Kp (fun _ => False) wr w') [] c62r11 p62r11_0 hmix b62r11 d62r11 (fun _ _ d _ _ h => by cases d <;> exact h) ?_
                refine plan_take (o := q62r11_0) (r := p62r11_1) ?vrc0 H0.out (by rfl) ?hyrc0 ?restrc0
                case hyrc0 => (intro w hSw; (try dsimp only at hSw); simp only [q62r11_0]; go_simp; try with_reducible rfl)
                try simp only [q62r11_0, Act.put, List.setIfInBounds_toArray, List.set_cons_zero, List.set_cons_succ]
                refine plan_take (o := q62r11_1) (r := p62r11_2) ?vrc1 H0.out (by rfl) ?hyrc1 ?restrc1
                case hyrc1 => (intro w hSw; (try dsimp only at hSw); simp only [q62r11_1]; go_simp; try with_reducible rfl)
                try simp only [q62r11_1, Act.put, List.setIfInBounds_toArray, List.set_cons_zero, List.set_cons_succ]
                refine plan_take (o := q62r11_2) (r := p62r11_3) ?vrc2 H0.out (by rfl) ?hyrc2 ?restrc2
                case hyrc2 => (intro w hSw; (try dsimp only at hSw); have hq := hpi; simp only [q62r11_2]; go_simp; try with_reducible rfl)
                try simp only [q62r11_2, Act.put, List.setIfInBounds_toArray, List.set_cons_zero, List.set_cons_succ]
                refine plan_take (o := q62r11_3) (r := p62r11_4) ?vrc3 H0.out (by rfl) ?hyrc3 ?restrc3
                case hyrc3 => (intro w hSw; (try dsimp only at hSw); obtain ⟨y1, y2⟩ := HC.out _ hSw; simp only [q62r11_3]; go_simp; try with_reducible rfl)
                try simp only [q62r11_3, Act.put, List.setIfInBounds_toArray, List.set_cons_zero, List.set_cons_succ]
                refine plan_take (o := q62r11_4) (r := p62r11_5) ?vrc4 H0.out (by rfl) ?hyrc4 ?restrc4
                case hyrc4 => (intro w hSw; (try dsimp only at hSw); simp only [q62r11_4]; go_simp; try with_reducible rfl)
                try simp only [q62r11_4, Act.put, List.setIfInBounds_toArray, List.set_cons_zero, List.set_cons_succ]
                refine plan_take (o := q62r11_5) (r := p62r11_6) ?vrc5 H0.out (by rfl) ?hyrc5 ?restrc5
                case hyrc5 => (intro w hSw; (try dsimp only at hSw); simp only [q62r11_5]; go_simp; try with_reducible rfl)
                try simp only [q62r11_5, Act.put, List.setIfInBounds_toArray, List.set_cons_zero, List.set_cons_succ]
                refine plan_take (o := q62r11_6) (r := p62r11_7) (.int .i64 ((K1 : Nat) : Int)) H0.out (by rfl) ?hyrc6 ?restrc6
                case hyrc6 => (intro w hSw; simp only [q62r11_6]; go_simp; first | with_reducible rfl | exact HW1.out)
                try simp only [q62r11_6, Act.put, List.setIfInBounds_toArray, List.set_cons_zero, List.set_cons_succ]
                refine plan_take (o := q62r11_7) (r := p62r11_8) ?vrc7 H0.out (by rfl) ?hyrc7 ?restrc7
                case hyrc7 => (intro w hSw; (try dsimp only at hSw); have hq := HI2.out; simp only [q62r11_7]; go_simp; try with_reducible rfl)
                try simp only [q62r11_7, Act.put, List.setIfInBounds_toArray, List.set_cons_zero, List.set_cons_succ]
                refine plan_take (o := q62r11_8) (r := p62r11_9) ?vrc8 H0.out (by rfl) ?hyrc8 ?restrc8
                case hyrc8 => (intro w hSw; (try dsimp only at hSw); obtain ⟨y1, y2⟩ := HC.out _ hSw; simp only [q62r11_8]; go_simp; try with_reducible rfl)
                try simp only [q62r11_8, Act.put, List.setIfInBounds_toArray, List.set_cons_zero, List.set_cons_succ]
                refine plan_take (o := q62r11_9) (r := p62r11_10) (.bool true) H0.out (by rfl) ?hyrc9 ?restrc9
                case hyrc9 => (intro w hSw; (try dsimp only at hSw); have hq := HEQ.out _ hSw; simp only [q62r11_9]; go_simp; try with_reducible rfl)
                try simp only [q62r11_9, Act.put, List.setIfInBounds_toArray, List.set_cons_zero, List.set_cons_succ]
                refine plan_done ?_
                clear HC HEQ
                go_wp2_with fail
                subst hC12
                go_wp2_with fail
                go_roundw
                case rel => exact ⟨kk + 1, p + 1, by go_num, by go_num, by omega, by omega, by omega, HLN, (HSET.out _ H0.out).1, (HSET.out _ H0.out).2⟩
                case measure => simp [intOf]; omega
              | true =>
                rw [hbl] at HEQ
                rw [if_neg (by rintro (h | h); · omega
                               · exact h (by simpa using hbl)), List.append_nil] at hcs
                have HCS := hid hcs
                clear hbl hK1 hcs hk1
                generalize D.getD (k + p) 0 = da at HC HEQ
                generalize D.getD (k + K1) 0 = db at HC HEQ
                generalize hC11 : Code.region 11 _ _ = C11
                go_wp2_with fail
                subst hC11
                change (Code.region 11 o62r11 true).wp _ _ _ _
                refine wp_region_plan (fun w' => Kp (fun _ => False) wr w') [] c62r11 p62r11_0 hmix b62r11 d62r11 (fun _ _ d _ _ h => by cases d <;> exact h) ?_
                refine plan_take (o := q62r11_0) (r := p62r11_1) ?vrd0 H0.out (by rfl) ?hyrd0 ?restrd0
                case hyrd0 => (intro w hSw; (try dsimp only at hSw); simp only [q62r11_0]; go_simp; try with_reducible rfl)
                try simp only [q62r11_0, Act.put, List.setIfInBounds_toArray, List.set_cons_zero, List.set_cons_succ]
                refine plan_take (o := q62r11_1) (r := p62r11_2) ?vrd1 H0.out (by rfl) ?hyrd1 ?restrd1
                case hyrd1 => (intro w hSw; (try dsimp only at hSw); simp only [q62r11_1]; go_simp; try with_reducible rfl)
                try simp only [q62r11_1, Act.put, List.setIfInBounds_toArray, List.set_cons_zero, List.set_cons_succ]
                refine plan_take (o := q62r11_2) (r := p62r11_3) ?vrd2 H0.out (by rfl) ?hyrd2 ?restrd2
                case hyrd2 => (intro w hSw; (try dsimp only at hSw); have hq := hpi; simp only [q62r11_2]; go_simp; try with_reducible rfl)
                try simp only [q62r11_2, Act.put, List.setIfInBounds_toArray, List.set_cons_zero, List.set_cons_succ]
                refine plan_take (o := q62r11_3) (r := p62r11_4) ?vrd3 H0.out (by rfl) ?hyrd3 ?restrd3
                case hyrd3 => (intro w hSw; (try dsimp only at hSw); obtain ⟨y1, y2⟩ := HC.out _ hSw; simp only [q62r11_3]; go_simp; try with_reducible rfl)
                try simp only [q62r11_3, Act.put, List.setIfInBounds_toArray, List.set_cons_zero, List.set_cons_succ]
                refine plan_take (o := q62r11_4) (r := p62r11_5) ?vrd4 H0.out (by rfl) ?hyrd4 ?restrd4
                case hyrd4 => (intro w hSw; (try dsimp only at hSw); simp only [q62r11_4]; go_simp; try with_reducible rfl)
                try simp only [q62r11_4, Act.put, List.setIfInBounds_toArray, List.set_cons_zero, List.set_cons_succ]
                refine plan_take (o := q62r11_5) (r := p62r11_6) ?vrd5 H0.out (by rfl) ?hyrd5 ?restrd5
                case hyrd5 => (intro w hSw; (try dsimp only at hSw); simp only [q62r11_5]; go_simp; try with_reducible rfl)
                try simp only [q62r11_5, Act.put, List.setIfInBounds_toArray, List.set_cons_zero, List.set_cons_succ]
                refine plan_take (o := q62r11_6) (r := p62r11_7) (.int .i64 ((K1 : Nat) : Int)) H0.out (by rfl) ?hyrd6 ?restrd6
                case hyrd6 => (intro w hSw; simp only [q62r11_6]; go_simp; first | with_reducible rfl | exact HW1.out)
                try simp only [q62r11_6, Act.put, List.setIfInBounds_toArray, List.set_cons_zero, List.set_cons_succ]
                refine plan_take (o := q62r11_7) (r := p62r11_8) ?vrd7 H0.out (by rfl) ?hyrd7 ?restrd7
                case hyrd7 => (intro w hSw; (try dsimp only at hSw); have hq := HI2.out; simp only [q62r11_7]; go_simp; try with_reducible rfl)
                try simp only [q62r11_7, Act.put, List.setIfInBounds_toArray, List.set_cons_zero, List.set_cons_succ]
                refine plan_take (o := q62r11_8) (r := p62r11_9) ?vrd8 H0.out (by rfl) ?hyrd8 ?restrd8
                case hyrd8 => (intro w hSw; (try dsimp only at hSw); obtain ⟨y1, y2⟩ := HC.out _ hSw; simp only [q62r11_8]; go_simp; try with_reducible rfl)
                try simp only [q62r11_8, Act.put, List.setIfInBounds_toArray, List.set_cons_zero, List.set_cons_succ]
                refine plan_take (o := q62r11_9) (r := p62r11_10) (.bool false) H0.out (by rfl) ?hyrd9 ?restrd9
                case hyrd9 => (intro w hSw; (try dsimp only at hSw); have hq := HEQ.out _ hSw; simp only [q62r11_9]; go_simp; try with_reducible rfl)
                try simp only [q62r11_9, Act.put, List.setIfInBounds_toArray, List.set_cons_zero, List.set_cons_succ]
                refine plan_done ?_
                clear HC HEQ
                go_wp2_with fail
                go_roundw
                case rel => exact ⟨kk, p + 1, rfl, by go_num, by omega, by omega, by omega, (by rw [HCS.out]; exact HL.out), (by rw [HCS.out]; exact HR.out.kp H0.out (fun h => h)), HK.out.trans (H0.out.mono (fun _ _ h => h.elim)) (fun _ _ h => h)⟩
                case measure => simp [intOf]; omega
            · obtain rfl : n = k + p := by omega
              have hpi : ¬ (p : Int) < ((k + p - k : Nat) : Int) := by omega
              have hcl : ∀ ty, (Builtin.clear_ #[66] ty #[.slice (some ⟨g, kk, none⟩) (k + p - kk) (cap - kk)]).run Try.prog wr = .ok (.tuple #[]) (wr.setCells g kk (List.replicate (k + p - kk) (.pointer none))) := fun ty =>
                Lib.run_clear_slice wr 66 74 ty (.pointer none) Try.underlying66 (fun w => by kernel_rfl) rfl rfl g kk _ _ (by omega) (fun j hj => (HR.out.there (by have := HN.out; omega)).1) (fun j hj => (HR.out.there (by have := HN.out; omega)).2)
              have KF : Hid (Kp (fun i => i = g) w (wr.setCells g kk (List.replicate (k + p - kk) (.pointer none)))) := HK.out.trans (kp_setCells g (fun i => i = g) rfl _ _ _) (fun _ _ h => h)
              have SF : Hid (Srcp (wr.setCells g kk (List.replicate (k + p - kk) (.pointer none))) (some ⟨g, 0, none⟩) (cu D (k + p))) := fun hp => by
                obtain ⟨b, off, e, hb, hc⟩ := HSR.out wr (cu D (k + p)) (cu_len _ _) HR.out hp
                cases e
                refine ⟨g, 0, rfl, Nat.lt_of_lt_of_le hgs KF.out.size, fun j hj => ?_⟩
                rw [World.cell?_setCells_out g _ _ _ _ (fun _ _ => by have := HL.out; left; show 0 + j < kk; omega)]
                exact hc j hj
              have hkc : kk ≤ cap := by omega
              generalize wr.setCells g kk (List.replicate (k + p - kk) (.pointer none)) = WF at *
              go_wp2_with fail
              go_ret
              exact ⟨(by rw [← HL.out]; rfl), SF.out, KF.out⟩
      · obtain rfl : k = n := by omega
        have hki : ¬ (k : Int) < (k : Int) := by omega
        go_wp2_with fail
        go_ret
        have hcu : cu D k = D := by rw [HT.out]; exact List.take_of_length_le (by have := HN.out; omega)
        rw [hcu, HN.out]
        exact ⟨rfl, HSR.out _ D (by have := HN.out; omega) (by have := (HP.out.kp HK.out (fun h => h)).start (k := D.length) (Nat.le_refl _); rwa [List.take_of_length_le (Nat.le_refl _)] at this), HK.out.mono (fun _ _ h => h.elim)⟩
end Go.Proofs.Ytgfondgejimkkaa
