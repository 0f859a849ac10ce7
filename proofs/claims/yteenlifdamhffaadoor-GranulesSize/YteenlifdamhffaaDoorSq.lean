/- A range over a function whose iterator has memory of its own, and may range over another one within: the set O of the blocks that are the iterator's. Whatever the program. -/
import Derived.RangeFuncNested
import Derived.RangeFuncBound
import Derived.RangeFuncCalls
import Derived.RangeFuncLeaves
import Derived.RangeFuncFrom
import Derived.Shelf.Abstract
import Derived.Shelf.RegionOpen
import Derived.WalkKit
import Derived.OwnWalkIn
import Derived.TacticsInMore
import Derived.LoopNIn
import Derived.LoopIn
import Derived.Test.YteenlifdamhffaaDoorKb
namespace Go.Proofs.YteenlifdamhffaaDoor
open Go.RowKit

/-- J abides what the iterator does to its own blocks, and new ones. -/
def Abd {α : Type} (B : Nat) (J : List α → (Nat → Prop) → World → Prop) : Prop :=
  ∀ s O X Y, J s O X → Kp (fun i => O i ∧ B ≤ i) X Y → J s (fun i => O i ∨ (X.heap.size ≤ i ∧ i < Y.heap.size)) Y
/-- What the iterator tells, and that it leaves alone all that is not its own. -/
def SeqP {α : Type} (F : Fence) (n : Nat) (P : Program) (g : Nat) (pb lb : Array Value) (encs : α → Array Value) (S Sp : List α → Prop) (N : Nat) (O₀ : Nat → Prop) (w : World) : Prop :=
  ∀ (l : Nat) (J Jx : List α → (Nat → Prop) → World → Prop) (W : World), Below w.heap.size w W → Abd W.heap.size J → Abd W.heap.size Jx →
    (∀ pre O x W1, J pre O W1 → pre.length < N → Sp (pre ++ [x]) → YieldAt F (n - 1) P l (encs x) W1 fun e W' =>
      (e = .returned (.bool true) ∧ J (pre ++ [x]) O W' ∧ Kp (fun i => ¬ O i) W1 W') ∨ (e = .returned (.bool false) ∧ Jx (pre ++ [x]) O W' ∧ Kp (fun i => ¬ O i) W1 W')) →
    J [] O₀ W →
    CallsIn F n P g (pb ++ #[.func (.yield l) #[] #[]] ++ lb) W fun e W' => (∃ v, e = .returned v) ∧ ((∃ xs O, S xs ∧ J xs O W') ∨ (∃ pre O, Sp pre ∧ Jx pre O W'))
/-- How the body of a round may be left. -/
def postP {α : Type} (B : Nat) (I : List α → (Nat → Prop) → World → Prop) (Ix : Code → List α → (Nat → Prop) → World → Prop) (xs : List α) (O : Nat → Prop) (W : World) : Exit → Act → World → Prop
  | .normal, _, W' => Kp (fun i => ¬ O i ∧ i ≠ B ∧ i ≠ B + 1) W W' ∧ I xs O W'
  | .ret, _, W' => Kp (fun i => ¬ O i ∧ i ≠ B ∧ i ≠ B + 1) W W' ∧ Ix .ret xs O W'
  | .exit id, _, W' => Kp (fun i => ¬ O i ∧ i ≠ B ∧ i ≠ B + 1) W W' ∧ Ix (.exit id) xs O W'
  | .goto t, _, W' => Kp (fun i => ¬ O i ∧ i ≠ B ∧ i ≠ B + 1) W W' ∧ Ix (.goto t) xs O W'
  | .panic _, _, _ => False
  | .outgrown, _, _ => False
variable {F : Fence} {n : Nat} {P : Program} {w : World}
theorem kp_putN {O : Nat → Prop} (W : World) (l : Nat) (o' : Obj) (h : ¬ O l) : Kp (fun i => ¬ O i) W (W.putObj l o') :=
  ⟨rfl, rfl, rfl, by simp, fun k _ hk => World.putObj_heap_other (fun e => hk (by rw [e]; exact h))⟩
theorem kp_tr {G : Nat → Prop} {X Y Z : World} (h : Kp G X Y) (k : Kp G Y Z) : Kp G X Z := h.trans k (fun _ _ x => x)
theorem wpIn_rangeFunc_P {α : Type} {g : Operand} {ps : Array Tmp} {assign body : Code} {Q : Exit → Act → World → Prop} {a : Act} {w : World}
    (hro : F.round = none) (h1 : 1 ≤ n) {gf : Nat} {pb lb : Array Value} (hg : a.eval g = .func (.func gf) pb lb) (hFg : F.fn gf) (eg : ∀ args w, (callFunc gf args).run P w = .ok (.enter gf args) w)
    {encs : α → Array Value} {S Sp : List α → Prop} {N : Nat} {O₀ : Nat → Prop} {w0 : World} (hseq : SeqP F (n - 1) P gf pb lb encs S Sp N O₀ w0) (hO : ∀ i, O₀ i → i < w.heap.size) (hb0 : Below w0.heap.size w0 w) (hps : ∀ x, (encs x).size = ps.size)
    (I : List α → (Nat → Prop) → World → Prop) (Ix : Code → List α → (Nat → Prop) → World → Prop)
    (hI : Abd w.heap.size I) (hIx : ∀ c, Abd w.heap.size (Ix c))
    (hI2 : ∀ s O X o', I s O X → w.heap.size + 1 < X.heap.size → I s O (X.putObj (w.heap.size + 1) o'))
    (hIx2 : ∀ c s O X o', Ix c s O X → w.heap.size + 1 < X.heap.size → Ix c s O (X.putObj (w.heap.size + 1) o'))
    (h0 : ∀ r, I [] O₀ ((w.alloc (.deferred (some []))).alloc (.loop r))) (Ax : α → Act → World → Prop) (hAx : ∀ x a' X o', Ax x a' X → Ax x a' (X.putObj (w.heap.size + 1) o'))
    (hassign : ∀ (l : Nat) (pre : List α) (O : Nat → Prop) (x : α) (W : World) (K : Act → World → Prop), l = w.heap.size + 1 → w.heap.size + 1 < W.heap.size → I pre O W → (∀ a' W', Kp (fun i => ¬ O i ∧ i ≠ w.heap.size ∧ i ≠ w.heap.size + 1) W W' → I pre O W' → Ax x a' W' → K a' W') →
      assign.wpIn (F.inRound l) (n - 1 - 1) P (Exit.then K (fun _ _ _ => False)) { tmps := (ps.zip (encs x)).foldl (fun t (p, v) => t.setIfInBounds p v) a.tmps, defers := [] } W)
    (hbody : ∀ (l : Nat) (pre : List α) (O : Nat → Prop) (x : α) (a' : Act) (W : World), l = w.heap.size + 1 → w.heap.size + 1 < W.heap.size → ¬ O w.heap.size → ¬ O (w.heap.size + 1) → I pre O W → Ax x a' W → pre.length < N → Sp (pre ++ [x]) → body.wpIn (F.inRound l) (n - 1 - 1) P (postP w.heap.size I Ix (pre ++ [x]) O W) a' W)
    (hdone : ∀ (D : Nat) (xs : List α) (O : Nat → Prop) (W : World), D = w.heap.size → S xs → I xs O W → W.heap[D]? = some (.deferred (some [])) → Q .normal { a with defers := { target := .collected D, args := #[] } :: a.defers } W)
    (hstop : ∀ (D : Nat) (c : Code) (pre : List α) (O : Nat → Prop) (W : World), D = w.heap.size → Sp pre → Ix c pre O W → W.heap[D]? = some (.deferred (some [])) → c.wpIn F n P Q { a with defers := { target := .collected D, args := #[] } :: a.defers } W) :
    (Code.rangeFunc g ps assign body).wpIn F n P Q a w := by
  refine wpIn_rangeFunc ?_
  intro fn hfn
  rw [hro]
  obtain ⟨rc, hrc⟩ : ∃ rc : LoopState → Option Code → Loop, rc = fun st pe => { state := st, pending := pe, fn, tmps := a.tmps, params := ps, assign, body, defers := w.heap.size } := ⟨_, rfl⟩
  obtain ⟨V, hV⟩ : ∃ V, V = (w.alloc (.deferred (some []))).alloc (.loop (rc .ready none)) := ⟨_, rfl⟩
  obtain ⟨L, hL⟩ : ∃ L, L = w.heap.size + 1 := ⟨_, rfl⟩
  have sV : V.heap.size = w.heap.size + 1 + 1 := by rw [hV]; simp
  have lV : V.heap[L]? = some (.loop (rc .ready none)) := by
    rw [hV, hL]
    have := World.alloc_heap_new (w.alloc (.deferred (some []))) (.loop (rc .ready none))
    rwa [World.size_alloc] at this
  have dV : V.heap[w.heap.size]? = some (.deferred (some [])) := by
    rw [hV]
    exact (Below.heap_alloc _ _ _ (by simp)).trans (World.alloc_heap_new w _)
  have iV : I [] O₀ V := by rw [hV]; exact h0 _
  have bV : Below w0.heap.size w0 V := by
    rw [hV]
    exact hb0.trans ((((Below.refl _ w).alloc (Nat.le_refl _) _).alloc (by simp) _).mono hb0.size)
  refine ⟨L, [{ target := .collected w.heap.size, args := #[] }], V, { target := .fn (.func gf) lb, args := pb ++ #[.func (.yield L) #[] #[]] }, V, gf, pb ++ #[.func (.yield L) #[] #[]] ++ lb, V, ?_, ?_, ?_, ?_, fun _ => h1, ?_⟩
  · rw [hV, hL, hrc]; exact run_enterLoop_outer _ _ _ _ _
  · simp only [resolve, hg]
    simp [go_sem]
  · intro f' hf'; simp [Target.leads] at hf'; subst hf'; exact hFg
  · simp [invoke, go_sem, eg]
  · have ab : ∀ {K : List α → (Nat → Prop) → World → Prop} {ob : Obj}, Abd w.heap.size K → ∀ s (O : Nat → Prop) X Y, (K s O X ∧ X.heap[L]? = some ob ∧ X.heap[w.heap.size]? = some (.deferred (some [])) ∧ ¬ O L ∧ ¬ O w.heap.size) → Kp (fun i => O i ∧ V.heap.size ≤ i) X Y →
        (K s (fun i => O i ∨ (X.heap.size ≤ i ∧ i < Y.heap.size)) Y ∧ Y.heap[L]? = some ob ∧ Y.heap[w.heap.size]? = some (.deferred (some [])) ∧ ¬ (O L ∨ (X.heap.size ≤ L ∧ L < Y.heap.size)) ∧ ¬ (O w.heap.size ∨ (X.heap.size ≤ w.heap.size ∧ w.heap.size < Y.heap.size))) := by
      rintro K ob hK s O X Y ⟨hk, hl, hd, n1, n2⟩ kk
      have x1 := (Array.getElem?_eq_some_iff.1 hl).1
      have x2 := (Array.getElem?_eq_some_iff.1 hd).1
      exact ⟨hK s O X Y hk (kk.mono (fun i _ x => ⟨x.1, by have := x.2; omega⟩)), (kk.block _ x1 (fun x => n1 x.1)).trans hl, (kk.block _ x2 (fun x => n2 x.1)).trans hd, fun x => x.elim n1 (fun x => by omega), fun x => x.elim n2 (fun x => by omega)⟩
    refine (hseq L
      (fun pre O W => I pre O W ∧ W.heap[L]? = some (.loop (rc .ready none)) ∧ W.heap[w.heap.size]? = some (.deferred (some [])) ∧ ¬ O L ∧ ¬ O w.heap.size)
      (fun pre O W => ∃ c, Ix c pre O W ∧ W.heap[L]? = some (.loop (rc .done (some c))) ∧ W.heap[w.heap.size]? = some (.deferred (some [])) ∧ ¬ O L ∧ ¬ O w.heap.size)
      V bV (fun s O X Y hs kk => ab hI s O X Y hs kk) (fun s O X Y hs kk => by obtain ⟨c, hs⟩ := hs; exact ⟨c, ab (hIx c) s O X Y hs kk⟩)
      ?_ ⟨iV, lV, dV, fun x => absurd (hO _ x) (by omega), fun x => absurd (hO _ x) (by omega)⟩).mono ?_
    · rintro pre O x W ⟨hi, hl, hd, n1, n2⟩ hlen hsp
      have hlt : L < W.heap.size := (Array.getElem?_eq_some_iff.1 hl).1
      have hy := run_yield (P := P) (args := encs x) hl (by rw [hrc]; exact hps x)
      rw [hrc] at hy
      refine ⟨fn, _, assign, body, hy, roundIn_of_wpIn hfn (hassign _ pre O x W _ hL (by omega) hi ?_)⟩
      clear hy
      intro a' Z kZ iZ aZ
      have lZ := (kZ.block L hlt (fun x => x.2.2 hL)).trans hl
      have dZ := (kZ.block w.heap.size (by omega) (fun x => x.2.1 rfl)).trans hd
      have sZ : L < Z.heap.size := (Array.getElem?_eq_some_iff.1 lZ).1
      have kZ' : Kp (fun i => ¬ O i) W Z := kZ.mono (fun _ _ x => x.1)
      refine ⟨_, run_beginRound lZ (by rw [hrc]), ?_⟩
      obtain ⟨bz, hbz⟩ : ∃ bz : Obj, bz = .loop { rc .ready none with state := .busy } := ⟨_, rfl⟩
      rw [← hbz]
      have lB : (Z.putObj L bz).heap[L]? = some bz := World.putObj_heap_same sZ
      have dB : (Z.putObj L bz).heap[w.heap.size]? = some (.deferred (some [])) := (World.putObj_heap_other (by omega)).trans dZ
      have sB : L < (Z.putObj L bz).heap.size := (Array.getElem?_eq_some_iff.1 lB).1
      have kB : Kp (fun i => ¬ O i) W (Z.putObj L bz) := kp_tr kZ' (kp_putN _ _ _ n1)
      have iB : I pre O (Z.putObj L bz) := by rw [hL]; exact hI2 _ _ _ _ iZ (by omega)
      have aB : Ax x a' (Z.putObj L bz) := by rw [hL]; exact hAx _ _ _ _ aZ
      refine wpIn_mono (hbody L pre O x a' _ hL (by omega) n2 (by rw [← hL]; exact n1) iB aB hlen hsp) ?_
      have fin : ∀ (jump : Option Code) (Y : World), Kp (fun i => ¬ O i ∧ i ≠ w.heap.size ∧ i ≠ w.heap.size + 1) (Z.putObj L bz) Y →
          (Instr.endRound L jump).run P Y = .ok (.bool jump.isNone) (Y.putObj L (.loop (rc (if jump.isNone then .ready else .done) jump))) ∧ L < Y.heap.size ∧
          (Y.putObj L (.loop (rc (if jump.isNone then .ready else .done) jump))).heap[L]? = some (.loop (rc (if jump.isNone then .ready else .done) jump)) ∧
          (Y.putObj L (.loop (rc (if jump.isNone then .ready else .done) jump))).heap[w.heap.size]? = some (.deferred (some [])) ∧
          Kp (fun i => ¬ O i) W (Y.putObj L (.loop (rc (if jump.isNone then .ready else .done) jump))) := fun jump Y kY => by
        have lY := (kY.block L sB (fun x => x.2.2 hL)).trans lB
        have dY := (kY.block w.heap.size (by omega) (fun x => x.2.1 rfl)).trans dB
        have sY : L < Y.heap.size := (Array.getElem?_eq_some_iff.1 lY).1
        rw [hbz] at lY
        have hr := run_endRound (P := P) jump lY
        rw [hrc] at hr ⊢
        exact ⟨hr, sY, World.putObj_heap_same sY, (World.putObj_heap_other (by omega)).trans dY, kp_tr kB (kp_tr (kY.mono (fun _ _ x => x.1)) (kp_putN _ _ _ n1))⟩
      rintro e a3 Y hp
      cases e with
      | normal =>
        obtain ⟨kY, iY⟩ := hp
        obtain ⟨hr, sY, l4, d4, k4⟩ := fin none Y kY
        exact ⟨_, _, hr, .inl ⟨rfl, ⟨by rw [hL]; exact hI2 _ _ _ _ iY (by omega), l4, d4, n1, n2⟩, k4⟩⟩
      | ret =>
        obtain ⟨kY, iY⟩ := hp
        obtain ⟨hr, sY, l4, d4, k4⟩ := fin (some .ret) Y kY
        exact ⟨_, _, hr, .inr ⟨rfl, ⟨.ret, by rw [hL]; exact hIx2 _ _ _ _ _ iY (by omega), l4, d4, n1, n2⟩, k4⟩⟩
      | exit id =>
        obtain ⟨kY, iY⟩ := hp
        obtain ⟨hr, sY, l4, d4, k4⟩ := fin (some (.exit id)) Y kY
        exact ⟨_, _, hr, .inr ⟨rfl, ⟨.exit id, by rw [hL]; exact hIx2 _ _ _ _ _ iY (by omega), l4, d4, n1, n2⟩, k4⟩⟩
      | goto t =>
        obtain ⟨kY, iY⟩ := hp
        obtain ⟨hr, sY, l4, d4, k4⟩ := fin (some (.goto t)) Y kY
        exact ⟨_, _, hr, .inr ⟨rfl, ⟨.goto t, by rw [hL]; exact hIx2 _ _ _ _ _ iY (by omega), l4, d4, n1, n2⟩, k4⟩⟩
      | panic ch => exact hp.elim
      | outgrown => exact hp.elim
    · rintro e Y ⟨⟨v, rfl⟩, (⟨xs, O, hS, hi, hl, hd, n1, n2⟩ | ⟨pre, O, hSp, c, hi, hl, hd, n1, n2⟩)⟩
      · have sY : L < Y.heap.size := (Array.getElem?_eq_some_iff.1 hl).1
        exact ⟨none, _, by have := run_endLoop (P := P) hl (by rw [hrc]; simp); rw [hrc] at this; exact this, hdone _ xs O _ rfl hS (by rw [hL]; exact hI2 _ _ _ _ hi (by omega)) ((World.putObj_heap_other (by omega)).trans hd)⟩
      · have sY : L < Y.heap.size := (Array.getElem?_eq_some_iff.1 hl).1
        exact ⟨some c, _, by have := run_endLoop (P := P) hl (by rw [hrc]; simp); rw [hrc] at this; exact this, hstop _ c pre O _ rfl hSp (by rw [hL]; exact hIx2 _ _ _ _ _ hi (by omega)) ((World.putObj_heap_other (by omega)).trans hd)⟩
end Go.Proofs.YteenlifdamhffaaDoor
