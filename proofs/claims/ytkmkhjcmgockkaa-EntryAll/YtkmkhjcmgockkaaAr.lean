/- What EntryAll's turns stand on. -/
import Derived.Test.YtkmkhjcmgockkaaAv
namespace Go.Proofs.Ytkmkhjcmgockkaa
open Go.RowKit Go.Shelf
set_option linter.unusedVariables false
attribute [local go_sem] Oper.semAt_some
theorem load_bool4 {w : World} {g : Nat} {v : Bool} (h : w.cell? ⟨g, 0, none⟩ = some (.bool v)) : (loadVar 4 ⟨g, 0, none⟩).run Try.prog w = .ok (.bool v) w := by
  simp [go_sem, h]
structure Base (w W : World) (T QK bk bb : Nat) (ao : Option Addr) (cap : Nat) (a6 : Option Addr) (c6 : Nat) (zs : List Int) (b lv : Int) (K : Nat) : Prop where
  kp : Kp (fun _ => False) w W
  sT : St 39 W T #[.slice ao zs.length cap]
  sB : St 3 W (T + 1) #[.int .i64 b]
  sL : St 3 W (T + 1 + 1) #[.int .i64 lv]
  sR : St 4 W (T + 1 + 1 + 1) #[.bool false]
  sK : St 3 W QK #[.int .i64 (K : Int)]
  s1 : St 39 W bk #[.slice a6 zs.length c6]
  s2 : St 3 W bb #[.int .i64 b]
  src : Src W ao zs
  sra : Src W a6 zs
theorem Base.below {w wr W : World} {T QK bk bb : Nat} {ao : Option Addr} {cap : Nat} {a6 : Option Addr} {c6 : Nat} {zs : List Int} {b lv : Int} {K : Nat} (h : Base w wr T QK bk bb ao cap a6 c6 zs b lv K) (k : Below wr.heap.size wr W) : Base w W T QK bk bb ao cap a6 c6 zs b lv K :=
  ⟨h.kp.trans (kp_below k) (fun _ _ x => x), h.sT.below k h.sT.lt, h.sB.below k h.sB.lt, h.sL.below k h.sL.lt, h.sR.below k h.sR.lt, h.sK.below k h.sK.lt, h.s1.below k h.s1.lt, h.s2.below k h.s2.lt, h.src.below k, h.sra.below k⟩
/-- The boxes of one turn. -/
structure TI (wr : World) (Tn At Td Sb t p q : Nat) (s : Bool) (W : World) : Prop where
  bw : Below wr.heap.size wr W
  n : St 3 W Tn #[.int .i64 (t : Int)]
  a : St 3 W At #[.int .i64 (p : Int)]
  d : St 3 W Td #[.int .i64 (q : Int)]
  s : St 4 W Sb #[.bool s]
theorem TI.kp {wr : World} {Tn At Td Sb t p q : Nat} {s : Bool} {W W' : World} {G : Nat → Prop} (h : TI wr Tn At Td Sb t p q s W) (k : Kp G W W') (g0 : ∀ i, G i → wr.heap.size ≤ i) (g1 : ¬ G Tn) (g2 : ¬ G At) (g3 : ¬ G Td) (g4 : ¬ G Sb) : TI wr Tn At Td Sb t p q s W' :=
  ⟨h.bw.trans (k.below h.bw.size g0), h.n.kp k g1, h.a.kp k g2, h.d.kp k g3, h.s.kp k g4⟩
def TJ {zs : List Int} {b : Int} (wr : World) (Tn At Td Sb t : Nat) (pre : List (Ex zs b)) (O : Nat → Prop) (X : World) : Prop := TI wr Tn At Td Sb t (atv pre) pre.length false X ∧ ¬ O At ∧ ¬ O Td ∧ ¬ O Sb
def TX {zs : List Int} {b : Int} (wr : World) (Tn At Td Sb t : Nat) (c : Code) (pre : List (Ex zs b)) (O : Nat → Prop) (X : World) : Prop := c = .exit 4 ∧ ∃ p q, p ≤ 10000 ∧ TI wr Tn At Td Sb t p q true X
def AAy {zs : List Int} {b : Int} (A : Act) (B : Nat) (x : Ex zs b) (a' : Act) (X : World) : Prop := ∃ Be, B + 1 < Be ∧ Eb X Be x.1.2 ∧ a' = { tmps := (((A.tmps.setIfInBounds 73 (.int .i64 (x.1.1 : Int))).setIfInBounds 74 (.agg x.1.2.cs)).setIfInBounds 18 (.int .i64 (x.1.1 : Int))).setIfInBounds 19 (.pointer (some ⟨Be, 0, none⟩)), defers := [] }
/-- Where a turn's range leaves one. -/
def TR (zs : List Int) (b : Int) (wr : World) (Tn At Td Sb t K B : Nat) (A : Act) (a' : Act) (X : World) : Prop :=
  ∃ D p q s, a' = { A with defers := { target := .collected D, args := #[] } :: A.defers } ∧ B ≤ D ∧ X.heap[D]? = some (.deferred (some [])) ∧ TI wr Tn At Td Sb t p q s X ∧ p ≤ 10000 ∧ (s = false → p ≤ K ∧ ∀ k : Nat, p ≤ k → k < K → GetR zs (k : Int) b zE 0)
theorem wp_cut {F : Fence} {n : Nat} {P : Program} {c : Code} {Q : Exit → Act → World → Prop} {a : Act} {w : World} (R : Act → World → Prop) (h1 : c.wpIn F n P (fun e a' w' => (e = .normal ∨ e = .exit 4) ∧ R a' w') a w) (h2 : ∀ a' w', R a' w' → Q .normal a' w') (h3 : ∀ a' w', Q .normal a' w' → Q (.exit 4) a' w') : c.wpIn F n P Q a w :=
  wpIn_mono h1 (fun e a' w' h => by
    obtain ⟨rfl | rfl, h⟩ := h
    · exact h2 _ _ h
    · exact h3 _ _ (h2 _ _ h))
theorem abs_act {F : Fence} {n : Nat} {P : Program} {c : Code} {Q : Exit → Act → World → Prop} {a : Act} {w : World} (h : ∀ A : Act, A = a → c.wpIn F n P Q A w) : c.wpIn F n P Q a w := h a rfl
def cvn (W : World) (g : Nat) : Nat := (intOf ((W.cell? ⟨g, 0, none⟩).getD undef)).toNat
theorem cvn_of {W : World} {g k : Nat} (h : St 3 W g #[.int .i64 (k : Int)]) : cvn W g = k := by
  have hc : W.cell? ⟨g, 0, none⟩ = some (.int .i64 (k : Int)) := h.cell 0
  unfold cvn
  rw [hc]
  simp [intOf]
theorem TI.next {wr : World} {Tn At t p q p1 q1 : Nat} {s : Bool} {W : World} {P Q : Int} (h : TI wr Tn At (At + 1) (At + 1 + 1) t p q s W) (hN : Tn < At) (hM : wr.heap.size ≤ Tn) (eP : P = (p1 : Int)) (eQ : Q = (q1 : Int)) : TI wr Tn At (At + 1) (At + 1 + 1) t p1 q1 s ((W.setCell ⟨At, 0, none⟩ (.int .i64 P)).setCell ⟨At + 1, 0, none⟩ (.int .i64 Q)) := by
  subst eP
  subst eQ
  have k1 := kp_setCell W At 0 (.int .i64 (p1 : Int)) (fun j => j = At) rfl
  have k2 := kp_setCell (W.setCell ⟨At, 0, none⟩ (.int .i64 (p1 : Int))) (At + 1) 0 (.int .i64 (q1 : Int)) (fun j => j = At + 1) rfl
  have a1 := h.a.set 0 (.int .i64 (p1 : Int))
  have d1 := (h.d.kp k1 (by omega)).set 0 (.int .i64 (q1 : Int))
  refine ⟨(h.bw.trans (k1.below h.bw.size (fun i x => by omega))).trans (k2.below (Nat.le_trans h.bw.size k1.size) (fun i x => by omega)), (h.n.kp k1 (by omega)).kp k2 (by omega), ?_, ?_, (h.s.kp k1 (by omega)).kp k2 (by omega)⟩
  · have := a1.kp k2 (by omega)
    simpa using this
  · simpa using d1
theorem TI.stop {wr : World} {Tn At t p q : Nat} {s : Bool} {W : World} (h : TI wr Tn At (At + 1) (At + 1 + 1) t p q s W) (hN : Tn < At) (hM : wr.heap.size ≤ Tn) : TI wr Tn At (At + 1) (At + 1 + 1) t p q true (W.setCell ⟨At + 1 + 1, 0, none⟩ (.bool true)) := by
  have k1 := kp_setCell W (At + 1 + 1) 0 (.bool true) (fun j => j = At + 1 + 1) rfl
  have a1 := h.s.set 0 (.bool true)
  exact ⟨h.bw.trans (k1.below h.bw.size (fun i x => by omega)), h.n.kp k1 (by omega), h.a.kp k1 (by omega), h.d.kp k1 (by omega), by simpa using a1⟩
theorem kp_next {G : Nat → Prop} (At : Nat) (X W : World) (u v : Value) (h : Kp G X W) (g1 : G At) (g2 : G (At + 1)) : Kp G X ((W.setCell ⟨At, 0, none⟩ u).setCell ⟨At + 1, 0, none⟩ v) :=
  (h.trans (kp_setCell W At 0 u G g1) (fun _ _ x => x)).trans (kp_setCell _ (At + 1) 0 v G g2) (fun _ _ x => x)
theorem wp_cutx {F : Fence} {n : Nat} {P : Program} {c : Code} {Q : Exit → Act → World → Prop} {a : Act} {w : World} (j : Nat) (R : Act → World → Prop) (h1 : c.wpIn F n P (fun e a' w' => e = .exit j ∧ R a' w') a w) (h2 : ∀ a' w', R a' w' → Q (.exit j) a' w') : c.wpIn F n P Q a w :=
  wpIn_mono h1 (fun e a' w' h => by
    obtain ⟨rfl, h⟩ := h
    exact h2 _ _ h)
def TE (A a' : Act) : Prop := ∃ u24 u25 u129 u130 u131 u132 u133 u134 u135 u136 u137 u138 u139 u140 u141 u142 u143 u144 u145 u146 u147 : Value, a' = { A with tmps := (((((((((((((((((((((A.tmps.setIfInBounds 24 u24).setIfInBounds 25 u25).setIfInBounds 129 u129).setIfInBounds 130 u130).setIfInBounds 131 u131).setIfInBounds 132 u132).setIfInBounds 133 u133).setIfInBounds 134 u134).setIfInBounds 135 u135).setIfInBounds 136 u136).setIfInBounds 137 u137).setIfInBounds 138 u138).setIfInBounds 139 u139).setIfInBounds 140 u140).setIfInBounds 141 u141).setIfInBounds 142 u142).setIfInBounds 143 u143).setIfInBounds 144 u144).setIfInBounds 145 u145).setIfInBounds 146 u146).setIfInBounds 147 u147) }
theorem te_of {A a' : Act} (h : a' = { A with tmps := (((((((((((((((((((((A.tmps.setIfInBounds 24 (a'.tmps.getD 24 undef)).setIfInBounds 25 (a'.tmps.getD 25 undef)).setIfInBounds 129 (a'.tmps.getD 129 undef)).setIfInBounds 130 (a'.tmps.getD 130 undef)).setIfInBounds 131 (a'.tmps.getD 131 undef)).setIfInBounds 132 (a'.tmps.getD 132 undef)).setIfInBounds 133 (a'.tmps.getD 133 undef)).setIfInBounds 134 (a'.tmps.getD 134 undef)).setIfInBounds 135 (a'.tmps.getD 135 undef)).setIfInBounds 136 (a'.tmps.getD 136 undef)).setIfInBounds 137 (a'.tmps.getD 137 undef)).setIfInBounds 138 (a'.tmps.getD 138 undef)).setIfInBounds 139 (a'.tmps.getD 139 undef)).setIfInBounds 140 (a'.tmps.getD 140 undef)).setIfInBounds 141 (a'.tmps.getD 141 undef)).setIfInBounds 142 (a'.tmps.getD 142 undef)).setIfInBounds 143 (a'.tmps.getD 143 undef)).setIfInBounds 144 (a'.tmps.getD 144 undef)).setIfInBounds 145 (a'.tmps.getD 145 undef)).setIfInBounds 146 (a'.tmps.getD 146 undef)).setIfInBounds 147 (a'.tmps.getD 147 undef)) }) : TE A a' := ⟨_, _, _, _, _, _, _, _, _, _, _, _, _, _, _, _, _, _, _, _, _, h⟩
/-- Where the loop behind a turn's range leaves one. -/
def TQ (wr : World) (Tn At t D : Nat) (A a' : Act) (X : World) : Prop := TE A a' ∧ ∃ p q s, TI wr Tn At (At + 1) (At + 1 + 1) t p q s X ∧ X.heap[D]? = some (.deferred (some []))
end Go.Proofs.Ytkmkhjcmgockkaa
