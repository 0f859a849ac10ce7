/- RegionsPlay: the law's goes, of All's iterator. -/
import Derived.RangeFuncNested
import Derived.RangeFuncBound
import Derived.RangeFuncCalls
import Derived.RangeFuncLeaves
import Derived.RangeFuncFrom
import Derived.Shelf.Abstract
import Derived.Shelf.RegionOpen
import Derived.WalkKit
import Derived.OwnWalkIn
import Derived.TacticsInMore
import Derived.LoopNIn
import Derived.LoopIn
import Derived.Test.YtopnfjgkgoeleaaKb
import Derived.Test.YtopnfjgkgoeleaaVs
import Derived.Test.YtopnfjgkgoeleaaVaX
import Derived.Test.YtopnfjgkgoeleaaWk
namespace Go.Proofs.Ytopnfjgkgoeleaa
open Go.RowKit

/-- J abides what the iterator does to its own blocks, and new ones. -/
def AbW {α : Type} (J : List α → (Nat → Prop) → World → Prop) : Prop :=
  ∀ s O X Y, J s O X → Kp O X Y → J s (fun i => O i ∨ (X.heap.size ≤ i ∧ i < Y.heap.size)) Y
/-- What the iterator tells, and that it leaves alone all that is not its own. -/
def SeqW {α : Type} (F : Fence) (n : Nat) (P : Program) (g : Nat) (pb lb : Array Value) (encs : α → Array Value) (S Sx : List α → World → Prop) (Sp : List α → Prop) (O₀ : Nat → Prop) (w : World) : Prop :=
  ∀ (l : Nat) (J Jx : List α → (Nat → Prop) → World → Prop) (W : World), Below w.heap.size w W → AbW J → AbW Jx →
    (∀ pre O x W1, J pre O W1 → Sp (pre ++ [x]) → YieldAt F (n - 1) P l (encs x) W1 fun e W' =>
      (e = .returned (.bool true) ∧ J (pre ++ [x]) O W' ∧ Kp (fun i => ¬ O i) W1 W') ∨ (e = .returned (.bool false) ∧ Jx (pre ++ [x]) O W' ∧ Kp (fun i => ¬ O i) W1 W')) →
    J [] O₀ W →
    CallsIn F n P g (pb ++ #[.func (.yield l) #[] #[]] ++ lb) W fun e W' => (∃ v, e = .returned v) ∧ ((∃ xs O, S xs W' ∧ J xs O W') ∨ (∃ pre O, Sx pre W' ∧ Jx pre O W'))
/-- How the body of a round may be left. -/
def postW {α : Type} (B : Nat) (I : List α → (Nat → Prop) → World → Prop) (Ix : Code → List α → (Nat → Prop) → World → Prop) (xs : List α) (O : Nat → Prop) (W : World) : Exit → Act → World → Prop
  | .normal, _, W' => Kp (fun i => ¬ O i ∧ i ≠ B ∧ i ≠ B + 1) W W' ∧ I xs O W'
  | .ret, _, W' => Kp (fun i => ¬ O i ∧ i ≠ B ∧ i ≠ B + 1) W W' ∧ Ix .ret xs O W'
  | .exit id, _, W' => Kp (fun i => ¬ O i ∧ i ≠ B ∧ i ≠ B + 1) W W' ∧ Ix (.exit id) xs O W'
  | .goto t, _, W' => Kp (fun i => ¬ O i ∧ i ≠ B ∧ i ≠ B + 1) W W' ∧ Ix (.goto t) xs O W'
  | .panic _, _, _ => False
  | .outgrown, _, _ => False
variable {F : Fence} {n : Nat} {P : Program} {w : World}
theorem kp_putN2 {O : Nat → Prop} (W : World) (l : Nat) (o' : Obj) (h : ¬ O l) : Kp (fun i => ¬ O i) W (W.putObj l o') :=
  ⟨rfl, rfl, rfl, by simp, fun k _ hk => World.putObj_heap_other (fun e => hk (by rw [e]; exact h))⟩
theorem kp_tr2 {G : Nat → Prop} {X Y Z : World} (h : Kp G X Y) (k : Kp G Y Z) : Kp G X Z := h.trans k (fun _ _ x => x)
theorem wpIn_rangeFunc_W {α : Type} {g : Operand} {ps : Array Tmp} {assign body : Code} {Q : Exit → Act → World → Prop} {a : Act} {w : World}
    (hro : F.round = none) (h1 : 1 ≤ n) {gf : Nat} {pb lb : Array Value} (hg : a.eval g = .func (.func gf) pb lb) (hFg : F.fn gf) (eg : ∀ args w, (callFunc gf args).run P w = .ok (.enter gf args) w)
    {encs : α → Array Value} {S Sx : List α → World → Prop} {Sp : List α → Prop} {O₀ : Nat → Prop} {w0 : World} (hseq : SeqW F (n - 1) P gf pb lb encs S Sx Sp O₀ w0)
    (hS : ∀ xs X r o', S xs X → X.heap[w.heap.size + 1]? = some (.loop r) → S xs (X.putObj (w.heap.size + 1) o')) (hSx : ∀ xs X r o', Sx xs X → X.heap[w.heap.size + 1]? = some (.loop r) → Sx xs (X.putObj (w.heap.size + 1) o')) (hO : ∀ i, O₀ i → i < w.heap.size) (hb0 : Below w0.heap.size w0 w) (hps : ∀ x, (encs x).size = ps.size)
    (I : List α → (Nat → Prop) → World → Prop) (Ix : Code → List α → (Nat → Prop) → World → Prop)
    (hI : AbW I) (hIx : ∀ c, AbW (Ix c))
    (hI2 : ∀ s O X o', I s O X → w.heap.size + 1 < X.heap.size → I s O (X.putObj (w.heap.size + 1) o'))
    (hIx2 : ∀ c s O X o', Ix c s O X → w.heap.size + 1 < X.heap.size → Ix c s O (X.putObj (w.heap.size + 1) o'))
    (h0 : ∀ r, I [] O₀ ((w.alloc (.deferred (some []))).alloc (.loop r))) (Ax : α → Act → World → Prop) (hAx : ∀ x a' X o', Ax x a' X → Ax x a' (X.putObj (w.heap.size + 1) o'))
    (hassign : ∀ (l : Nat) (pre : List α) (O : Nat → Prop) (x : α) (W : World) (K : Act → World → Prop), l = w.heap.size + 1 → w.heap.size + 1 < W.heap.size → I pre O W → (∀ a' W', Kp (fun i => ¬ O i ∧ i ≠ w.heap.size ∧ i ≠ w.heap.size + 1) W W' → I pre O W' → Ax x a' W' → K a' W') →
      assign.wpIn (F.inRound l) (n - 1 - 1) P (Exit.then K (fun _ _ _ => False)) { tmps := (ps.zip (encs x)).foldl (fun t (p, v) => t.setIfInBounds p v) a.tmps, defers := [] } W)
    (hbody : ∀ (l : Nat) (pre : List α) (O : Nat → Prop) (x : α) (a' : Act) (W : World), l = w.heap.size + 1 → w.heap.size + 1 < W.heap.size → ¬ O w.heap.size → ¬ O (w.heap.size + 1) → I pre O W → Ax x a' W → Sp (pre ++ [x]) → body.wpIn (F.inRound l) (n - 1 - 1) P (postW w.heap.size I Ix (pre ++ [x]) O W) a' W)
    (hdone : ∀ (D : Nat) (xs : List α) (O : Nat → Prop) (W : World), D = w.heap.size → S xs W → I xs O W → W.heap[D]? = some (.deferred (some [])) → Q .normal { a with defers := { target := .collected D, args := #[] } :: a.defers } W)
    (hstop : ∀ (D : Nat) (c : Code) (pre : List α) (O : Nat → Prop) (W : World), D = w.heap.size → Sx pre W → Ix c pre O W → W.heap[D]? = some (.deferred (some [])) → c.wpIn F n P Q { a with defers := { target := .collected D, args := #[] } :: a.defers } W) :
    (Code.rangeFunc g ps assign body).wpIn F n P Q a w := by
  refine wpIn_rangeFunc ?_
  intro fn hfn
  rw [hro]
  obtain ⟨rc, hrc⟩ : ∃ rc : LoopState → Option Code → Loop, rc = fun st pe => { state := st, pending := pe, fn, tmps := a.tmps, params := ps, assign, body, defers := w.heap.size } := ⟨_, rfl⟩
  obtain ⟨V, hV⟩ : ∃ V, V = (w.alloc (.deferred (some []))).alloc (.loop (rc .ready none)) := ⟨_, rfl⟩
  obtain ⟨L, hL⟩ : ∃ L, L = w.heap.size + 1 := ⟨_, rfl⟩
  have sV : V.heap.size = w.heap.size + 1 + 1 := by rw [hV]; simp
  have lV : V.heap[L]? = some (.loop (rc .ready none)) := by
    rw [hV, hL]
    have := World.alloc_heap_new (w.alloc (.deferred (some []))) (.loop (rc .ready none))
    rwa [World.size_alloc] at this
  have dV : V.heap[w.heap.size]? = some (.deferred (some [])) := by
    rw [hV]
    exact (Below.heap_alloc _ _ _ (by simp)).trans (World.alloc_heap_new w _)
  have iV : I [] O₀ V := by rw [hV]; exact h0 _
  have bV : Below w0.heap.size w0 V := by
    rw [hV]
    exact hb0.trans ((((Below.refl _ w).alloc (Nat.le_refl _) _).alloc (by simp) _).mono hb0.size)
  refine ⟨L, [{ target := .collected w.heap.size, args := #[] }], V, { target := .fn (.func gf) lb, args := pb ++ #[.func (.yield L) #[] #[]] }, V, gf, pb ++ #[.func (.yield L) #[] #[]] ++ lb, V, ?_, ?_, ?_, ?_, fun _ => h1, ?_⟩
  · rw [hV, hL, hrc]; exact run_enterLoop_outer _ _ _ _ _
  · simp only [resolve, hg]
    simp [go_sem]
  · intro f' hf'; simp [Target.leads] at hf'; subst hf'; exact hFg
  · simp [invoke, go_sem, eg]
  · have ab : ∀ {K : List α → (Nat → Prop) → World → Prop} {ob : Obj}, AbW K → ∀ s (O : Nat → Prop) X Y, (K s O X ∧ X.heap[L]? = some ob ∧ X.heap[w.heap.size]? = some (.deferred (some [])) ∧ ¬ O L ∧ ¬ O w.heap.size) → Kp O X Y →
        (K s (fun i => O i ∨ (X.heap.size ≤ i ∧ i < Y.heap.size)) Y ∧ Y.heap[L]? = some ob ∧ Y.heap[w.heap.size]? = some (.deferred (some [])) ∧ ¬ (O L ∨ (X.heap.size ≤ L ∧ L < Y.heap.size)) ∧ ¬ (O w.heap.size ∨ (X.heap.size ≤ w.heap.size ∧ w.heap.size < Y.heap.size))) := by
      rintro K ob hK s O X Y ⟨hk, hl, hd, n1, n2⟩ kk
      have x1 := (Array.getElem?_eq_some_iff.1 hl).1
      have x2 := (Array.getElem?_eq_some_iff.1 hd).1
      exact ⟨hK s O X Y hk kk, (kk.block _ x1 (fun x => n1 x)).trans hl, (kk.block _ x2 (fun x => n2 x)).trans hd, fun x => x.elim n1 (fun x => by omega), fun x => x.elim n2 (fun x => by omega)⟩
    refine (hseq L
      (fun pre O W => I pre O W ∧ W.heap[L]? = some (.loop (rc .ready none)) ∧ W.heap[w.heap.size]? = some (.deferred (some [])) ∧ ¬ O L ∧ ¬ O w.heap.size)
      (fun pre O W => ∃ c, Ix c pre O W ∧ W.heap[L]? = some (.loop (rc .done (some c))) ∧ W.heap[w.heap.size]? = some (.deferred (some [])) ∧ ¬ O L ∧ ¬ O w.heap.size)
      V bV (fun s O X Y hs kk => ab hI s O X Y hs kk) (fun s O X Y hs kk => by obtain ⟨c, hs⟩ := hs; exact ⟨c, ab (hIx c) s O X Y hs kk⟩)
      ?_ ⟨iV, lV, dV, fun x => absurd (hO _ x) (by omega), fun x => absurd (hO _ x) (by omega)⟩).mono ?_
    · rintro pre O x W ⟨hi, hl, hd, n1, n2⟩ hsp
      have hlt : L < W.heap.size := (Array.getElem?_eq_some_iff.1 hl).1
      have hy := run_yield (P := P) (args := encs x) hl (by rw [hrc]; exact hps x)
      rw [hrc] at hy
      refine ⟨fn, _, assign, body, hy, roundIn_of_wpIn hfn (hassign _ pre O x W _ hL (by omega) hi ?_)⟩
      clear hy
      intro a' Z kZ iZ aZ
      have lZ := (kZ.block L hlt (fun x => x.2.2 hL)).trans hl
      have dZ := (kZ.block w.heap.size (by omega) (fun x => x.2.1 rfl)).trans hd
      have sZ : L < Z.heap.size := (Array.getElem?_eq_some_iff.1 lZ).1
      have kZ' : Kp (fun i => ¬ O i) W Z := kZ.mono (fun _ _ x => x.1)
      refine ⟨_, run_beginRound lZ (by rw [hrc]), ?_⟩
      obtain ⟨bz, hbz⟩ : ∃ bz : Obj, bz = .loop { rc .ready none with state := .busy } := ⟨_, rfl⟩
      rw [← hbz]
      have lB : (Z.putObj L bz).heap[L]? = some bz := World.putObj_heap_same sZ
      have dB : (Z.putObj L bz).heap[w.heap.size]? = some (.deferred (some [])) := (World.putObj_heap_other (by omega)).trans dZ
      have sB : L < (Z.putObj L bz).heap.size := (Array.getElem?_eq_some_iff.1 lB).1
      have kB : Kp (fun i => ¬ O i) W (Z.putObj L bz) := kp_tr2 kZ' (kp_putN2 _ _ _ n1)
      have iB : I pre O (Z.putObj L bz) := by rw [hL]; exact hI2 _ _ _ _ iZ (by omega)
      have aB : Ax x a' (Z.putObj L bz) := by rw [hL]; exact hAx _ _ _ _ aZ
      refine wpIn_mono (hbody L pre O x a' _ hL (by omega) n2 (by rw [← hL]; exact n1) iB aB hsp) ?_
      have fin : ∀ (jump : Option Code) (Y : World), Kp (fun i => ¬ O i ∧ i ≠ w.heap.size ∧ i ≠ w.heap.size + 1) (Z.putObj L bz) Y →
          (Instr.endRound L jump).run P Y = .ok (.bool jump.isNone) (Y.putObj L (.loop (rc (if jump.isNone then .ready else .done) jump))) ∧ L < Y.heap.size ∧
          (Y.putObj L (.loop (rc (if jump.isNone then .ready else .done) jump))).heap[L]? = some (.loop (rc (if jump.isNone then .ready else .done) jump)) ∧
          (Y.putObj L (.loop (rc (if jump.isNone then .ready else .done) jump))).heap[w.heap.size]? = some (.deferred (some [])) ∧
          Kp (fun i => ¬ O i) W (Y.putObj L (.loop (rc (if jump.isNone then .ready else .done) jump))) := fun jump Y kY => by
        have lY := (kY.block L sB (fun x => x.2.2 hL)).trans lB
        have dY := (kY.block w.heap.size (by omega) (fun x => x.2.1 rfl)).trans dB
        have sY : L < Y.heap.size := (Array.getElem?_eq_some_iff.1 lY).1
        rw [hbz] at lY
        have hr := run_endRound (P := P) jump lY
        rw [hrc] at hr ⊢
        exact ⟨hr, sY, World.putObj_heap_same sY, (World.putObj_heap_other (by omega)).trans dY, kp_tr2 kB (kp_tr2 (kY.mono (fun _ _ x => x.1)) (kp_putN2 _ _ _ n1))⟩
      rintro e a3 Y hp
      cases e with
      | normal =>
        obtain ⟨kY, iY⟩ := hp
        obtain ⟨hr, sY, l4, d4, k4⟩ := fin none Y kY
        exact ⟨_, _, hr, .inl ⟨rfl, ⟨by rw [hL]; exact hI2 _ _ _ _ iY (by omega), l4, d4, n1, n2⟩, k4⟩⟩
      | ret =>
        obtain ⟨kY, iY⟩ := hp
        obtain ⟨hr, sY, l4, d4, k4⟩ := fin (some .ret) Y kY
        exact ⟨_, _, hr, .inr ⟨rfl, ⟨.ret, by rw [hL]; exact hIx2 _ _ _ _ _ iY (by omega), l4, d4, n1, n2⟩, k4⟩⟩
      | exit id =>
        obtain ⟨kY, iY⟩ := hp
        obtain ⟨hr, sY, l4, d4, k4⟩ := fin (some (.exit id)) Y kY
        exact ⟨_, _, hr, .inr ⟨rfl, ⟨.exit id, by rw [hL]; exact hIx2 _ _ _ _ _ iY (by omega), l4, d4, n1, n2⟩, k4⟩⟩
      | goto t =>
        obtain ⟨kY, iY⟩ := hp
        obtain ⟨hr, sY, l4, d4, k4⟩ := fin (some (.goto t)) Y kY
        exact ⟨_, _, hr, .inr ⟨rfl, ⟨.goto t, by rw [hL]; exact hIx2 _ _ _ _ _ iY (by omega), l4, d4, n1, n2⟩, k4⟩⟩
      | panic ch => exact hp.elim
      | outgrown => exact hp.elim
    · rintro e Y ⟨⟨v, rfl⟩, (⟨xs, O, hS1, hi, hl, hd, n1, n2⟩ | ⟨pre, O, hSp, c, hi, hl, hd, n1, n2⟩)⟩
      · have sY : L < Y.heap.size := (Array.getElem?_eq_some_iff.1 hl).1
        exact ⟨none, _, by have := run_endLoop (P := P) hl (by rw [hrc]; simp); rw [hrc] at this; exact this, hdone _ xs O _ rfl (by rw [hL]; exact hS _ _ _ _ hS1 (hL ▸ hl)) (by rw [hL]; exact hI2 _ _ _ _ hi (by omega)) ((World.putObj_heap_other (by omega)).trans hd)⟩
      · have sY : L < Y.heap.size := (Array.getElem?_eq_some_iff.1 hl).1
        exact ⟨some c, _, by have := run_endLoop (P := P) hl (by rw [hrc]; simp); rw [hrc] at this; exact this, hstop _ c pre O _ rfl (by rw [hL]; exact hSx _ _ _ _ hSp (hL ▸ hl)) (by rw [hL]; exact hIx2 _ _ _ _ _ hi (by omega)) ((World.putObj_heap_other (by omega)).trans hd)⟩
end Go.Proofs.Ytopnfjgkgoeleaa

namespace Go.Proofs.Ytopnfjgkgoeleaa
open Go.RowKit Go.Shelf
attribute [local go_sem] Oper.semAt_some
set_option linter.unusedVariables false
set_option linter.unusedSimpArgs false
set_option maxRecDepth 100000 in
set_option maxHeartbeats 4000000 in
theorem val_seq3 (n : Nat) (hn : 1 ≤ n) (bt : Nat) (ao : Option Addr) (c : Nat) (L : List Rn) (w : World) (hl : L.length ≤ 65536) (hs : Srcr w ao L) (s1 : St 73 w bt #[.slice ao L.length c]) :
    SeqW Fence.wide n Try.prog 57 #[] #[.pointer (some ⟨bt, 0, none⟩)] (fun x : Rn => #[.agg x.cs]) (fun ys Y => ys = L ∧ KR (RO bt ao L) w Y) (fun pre Y => (∃ j, j ≤ L.length ∧ pre = L.take j) ∧ KR (RO bt ao L) w Y) (fun pre => ∃ j, j ≤ L.length ∧ pre = L.take j) (RO bt ao L) w := by
  intro l J Jx W hW hA hAx hY h0
  have S0 := hid (hs.below hW)
  have T1 := hid (s1.below hW s1.lt)
  have LB : Hid (∀ i, RO bt ao L i → i < W.heap.size) := by
    rintro i (rfl | ⟨hp, off, e⟩)
    · exact Nat.lt_of_lt_of_le s1.lt hW.size
    · obtain ⟨g, of2, e2, hb, _⟩ := S0.out hp
      rw [e] at e2
      cases e2
      exact hb
  have LW : Hid (∀ i, RO bt ao L i → i < w.heap.size) := by
    rintro i (rfl | ⟨hp, off, e⟩)
    · exact s1.lt
    · obtain ⟨g, of2, e2, hb, _⟩ := hs hp
      rw [e] at e2
      cases e2
      exact hb
  have HKW : Hid (∀ Y, KR (RO bt ao L) W Y → KR (RO bt ao L) w Y) := fun Y h i hi => (h i hi).trans (hW.block i (LW.out i hi))
  clear hs s1 hW
  obtain ⟨N, hN⟩ : ∃ N, N = L.length := ⟨_, rfl⟩
  have c0 : W.cell? ⟨bt, 0, none⟩ = some (.slice ao N c) := by rw [hN]; exact T1.out.cell 0
  have HY := hid hY
  rw [← hN] at hl HY
  have HN := hid hN
  clear hN hY
  refine callsIn_of_wp Try.func57 rfl trivial ?_ rfl
  simp only [Try.ntmps57, List.size_toArray, List.length_cons, List.length_nil, Nat.reduceAdd, Nat.reduceSub, Array.replicate_succ, Array.replicate_zero, List.push_toArray, List.append_toArray, List.nil_append, List.cons_append]
  gi_wp2_with fail
  gi_loopw [7] (fun i wr => ∃ (k : Nat) (O : Nat → Prop), i = .int .i64 k ∧ k ≤ N ∧ Hid (J (L.take k) O wr) ∧ Hid (∀ i, RO bt ao L i → O i) ∧ Hid (KR (RO bt ao L) W wr)) (fun i _ => N - (intOf i).toNat)
  case atStart => exact ⟨0, _, rfl, Nat.zero_le _, h0, fun _ h => h, fun _ _ => rfl⟩
  case round =>
    clear c0
    obtain ⟨k, O, rfl, hk, HJ, HOS, HKR⟩ := hrel
    by_cases hlt : k < N
    · have hkl : k < L.length := by have := HN.out; omega
      obtain ⟨gb, off, rfl, hgb, x0, x1, x2⟩ := (srcr_blk S0.out (fun i off hp e => HKR.out i (Or.inr ⟨hp, off, e⟩))).at (i := k) hkl
      have HTS := hid (take_snoc hkl)
      generalize L.getD k zRn = x at *
      obtain ⟨q, hq⟩ : ∃ q, q = wr.heap.size := ⟨_, rfl⟩
      gi_wp2_with (first | (refine wpListIn_store_r (by rfl) (.tmp 4) (.tmp 10) rfl wr.heap.size rfl (e := zRn) (e' := x) rfl (Rn.B.new wr zRn) ?_; intro w2 b2 j2; have k2 : Kp (fun _ => False) wr w2 := ((Kp.refl (fun _ => False) wr).alloc _).trans j2 (fun i h1 h2 => by omega); have E2 := hid b2; have K2 := hid k2; have J2 := hid (hA _ O wr w2 HJ.out (k2.mono (fun _ _ x => x.elim))); obtain ⟨fn, tmps, assign, body, hy, hR⟩ := HY.out _ _ x w2 J2.out ⟨k + 1, by have := HN.out; omega, HTS.out⟩; have HR := hid hR; clear hR k2 j2 b2 x0 x1) | (refine wpListIn_load_r (by rfl) (.tmp 4) rfl wr.heap.size rfl E2.out ?_))
      have KR2 : Hid (KR (RO bt (some ⟨gb, off, none⟩) L) W w2) := fun i hi => (K2.out.block i (kr_lt HKR.out hi (LB.out i hi)) (fun x => x)).trans (HKR.out i hi)
      refine HR.out.mono ?_
      rw [HTS.out]
      rintro ee w3 (⟨rfl, hJ3, hk3⟩ | ⟨rfl, hJx3, hk3⟩)
      · have KR3 : Hid (KR (RO bt (some ⟨gb, off, none⟩) L) W w3) := fun i hi => (hk3.block i (kr_lt KR2.out hi (LB.out i hi)) (fun x => x (Or.inl (HOS.out i hi)))).trans (KR2.out i hi)
        have HJ3 := hid hJ3
        clear hk3 hJ3
        gi_wp2
        go_roundw
        case rel => exact ⟨k + 1, _, by go_num, hlt, HJ3, fun i hi => Or.inl (HOS.out i hi), KR3⟩
        case measure => simp [intOf]; omega
      · have KR3 : Hid (KR (RO bt (some ⟨gb, off, none⟩) L) W w3) := fun i hi => (hk3.block i (kr_lt KR2.out hi (LB.out i hi)) (fun x => x (Or.inl (HOS.out i hi)))).trans (KR2.out i hi)
        have HJx3 := hid hJx3
        clear hk3 hJx3
        gi_wp2
        refine bodyPost_ret (results_none rfl _ _ _) rfl ?_
        exact ⟨⟨_, rfl⟩, .inr ⟨_, _, ⟨⟨k + 1, by have := HN.out; omega, rfl⟩, HKW.out _ KR3.out⟩, HJx3.out⟩⟩
    · obtain rfl : k = N := by omega
      have HT : Hid (L.take k = L) := List.take_of_length_le (by have := HN.out; omega)
      gi_wp2_with fail
      go_end0
      exact ⟨⟨_, rfl⟩, .inl ⟨_, _, ⟨rfl, HKW.out _ HKR.out⟩, by rw [← HT.out]; exact HJ.out⟩⟩
end Go.Proofs.Ytopnfjgkgoeleaa

namespace Go.Proofs.Ytopnfjgkgoeleaa
open Go.RowKit Go.Shelf
attribute [local go_sem] Oper.semAt_some
set_option linter.unusedVariables false
set_option linter.unusedSimpArgs false
theorem act_of {E : (Nat → Value) → Array Value} {a : Act} {ds : List Deferred} (ht : a.tmps = E (fun i => a.tmps.getD i undef)) (hd : a.defers = ds) : ∃ f, a = { tmps := E f, defers := ds } :=
  ⟨fun i => a.tmps.getD i undef, by cases a; simp only at ht hd; rw [hd, ← ht]⟩
theorem kp_putC (W : World) (l : Nat) (o' : Obj) : Kp (fun i => i = l) W (W.putObj l o') := ⟨rfl, rfl, rfl, by simp, fun k _ hk => World.putObj_heap_other hk⟩
def mrkc (D : Nat) : Deferred := { target := .collected D, args := #[] }
theorem leaves_marksc {F : Fence} {n : Nat} {fn : Func} {tmps : Array Value} {R : Ending → World → Prop} (D : Nat) (w : World) (hD : w.heap[D]? = some (.deferred (some [])))
    (fin : ∀ w', Kp (fun i => i = D) w w' → LeavesInM F n Try.prog fn tmps R [] .returning w') : LeavesInM F n Try.prog fn tmps R [mrkc D] .returning w :=
  ⟨by simp, .inl ⟨_, _, rfl, run_takeDeferred hD, fin _ (kp_putC w D (.deferred none))⟩⟩
theorem load_bool4c {w : World} {g : Nat} {v : Bool} (h : w.cell? ⟨g, 0, none⟩ = some (.bool v)) : (loadVar 4 ⟨g, 0, none⟩).run Try.prog w = .ok (.bool v) w := by
  simp [go_sem, h]
end Go.Proofs.Ytopnfjgkgoeleaa

namespace Go.Proofs.Ytopnfjgkgoeleaa
open Go.RowKit Go.Shelf
attribute [local go_sem] Oper.semAt_some
set_option linter.unusedVariables false
set_option linter.unusedSimpArgs false
/-- Where the boxes lie. -/
structure Gb (w : World) (O0 : Nat → Prop) (T4 T5 T6 T7 B : Nat) (bo : Option Addr) (L : List Rn) : Prop where
  b4 : w.heap.size ≤ T4 ∧ T4 < B
  b5 : w.heap.size ≤ T5 ∧ T5 < B
  b6 : w.heap.size ≤ T6 ∧ T6 < B
  b7 : w.heap.size ≤ T7 ∧ T7 < B
  a4 : T4 ≠ T6 ∧ T4 ≠ T7
  a5 : T5 ≠ T6 ∧ T5 ≠ T7
  a6 : T6 ≠ T7
  o : ∀ i, O0 i → i < w.heap.size
  r : ∀ b off, bo = some ⟨b, off, none⟩ → 0 < L.length → b < w.heap.size ∧ ¬ O0 b
structure Gi8 (w : World) (O0 : Nat → Prop) (T4 T5 T6 T7 B : Nat) (bo : Option Addr) (cb : Nat) (L : List Rn) (leave : Int) (pre : List Rn) (O : Nat → Prop) (Z : World) : Prop where
  k : Kp O0 w Z
  s4 : St 27 Z T4 #[.slice bo L.length cb]
  s5 : St 3 Z T5 #[.int .i64 leave]
  s6 : St 4 Z T6 #[.bool false]
  s7 : St 3 Z T7 #[.int .i64 (pre.length : Int)]
  sb : Srcr Z bo L
  ow : ∀ i, O i → O0 i ∨ B + 1 < i
  lt : B + 1 < Z.heap.size
structure Gx (w : World) (O0 : Nat → Prop) (T6 B : Nat) (O : Nat → Prop) (Z : World) : Prop where
  k : Kp O0 w Z
  s6 : St 4 Z T6 #[.bool true]
  ow : ∀ i, O i → O0 i ∨ B + 1 < i
  lt : B + 1 < Z.heap.size
theorem Gb.wB {w : World} {O0 : Nat → Prop} {T4 T5 T6 T7 B : Nat} {bo : Option Addr} {L : List Rn} (h : Gb w O0 T4 T5 T6 T7 B bo L) : w.heap.size < B := by have := h.b4; omega
theorem Gi8.kp {w : World} {O0 G O : Nat → Prop} {T4 T5 T6 T7 B cb : Nat} {bo : Option Addr} {L pre : List Rn} {leave : Int} {Z Y : World} (b : Gb w O0 T4 T5 T6 T7 B bo L) (h : Gi8 w O0 T4 T5 T6 T7 B bo cb L leave pre O Z) (k : Kp G Z Y) (hg : ∀ i, i < Z.heap.size → G i → O i ∨ i = B ∨ i = B + 1) : Gi8 w O0 T4 T5 T6 T7 B bo cb L leave pre O Y := by
  have hw := b.wB
  have hz := h.lt
  have ni : ∀ T, w.heap.size ≤ T → T < B → ¬ G T := fun T h1 h2 g => by
    rcases hg T (by omega) g with o | e
    · rcases h.ow T o with a | a
      · have := b.o T a; omega
      · omega
    · omega
  refine ⟨h.k.trans k (fun i hi g => ?_), h.s4.kp k (ni _ b.b4.1 b.b4.2), h.s5.kp k (ni _ b.b5.1 b.b5.2), h.s6.kp k (ni _ b.b6.1 b.b6.2), h.s7.kp k (ni _ b.b7.1 b.b7.2), srcr_kp2 h.sb k (fun c off e hp g => ?_), h.ow, Nat.lt_of_lt_of_le h.lt k.size⟩
  · rcases hg i (by omega) g with o | e
    · rcases h.ow i o with a | a
      · exact a
      · omega
    · omega
  · have hr := b.r c off e hp
    rcases hg c (by omega) g with o | e
    · rcases h.ow c o with a | a
      · exact hr.2 a
      · omega
    · omega
theorem Gx.kp {w : World} {O0 G O : Nat → Prop} {T4 T5 T6 T7 B : Nat} {bo : Option Addr} {L : List Rn} {Z Y : World} (b : Gb w O0 T4 T5 T6 T7 B bo L) (h : Gx w O0 T6 B O Z) (k : Kp G Z Y) (hg : ∀ i, i < Z.heap.size → G i → O i ∨ i = B ∨ i = B + 1) : Gx w O0 T6 B O Y := by
  have hw := b.wB
  have hz := h.lt
  refine ⟨h.k.trans k (fun i hi g => ?_), h.s6.kp k (fun g => ?_), h.ow, Nat.lt_of_lt_of_le h.lt k.size⟩
  · rcases hg i (by omega) g with o | e
    · rcases h.ow i o with a | a
      · exact a
      · omega
    · omega
  · have h6 := b.b6
    rcases hg T6 (by omega) g with o | e
    · rcases h.ow T6 o with a | a
      · have := b.o T6 a; omega
      · omega
    · omega
theorem Gi8.abw {w : World} {O0 : Nat → Prop} {T4 T5 T6 T7 B cb : Nat} {bo : Option Addr} {L : List Rn} {leave : Int} (b : Gb w O0 T4 T5 T6 T7 B bo L) : AbW (Gi8 w O0 T4 T5 T6 T7 B bo cb L leave) := fun s O X Y h k => by
  have h1 := h.kp b k (fun i _ o => Or.inl o)
  exact ⟨h1.k, h1.s4, h1.s5, h1.s6, h1.s7, h1.sb, fun i hi => hi.elim (h.ow i) (fun e => Or.inr (by have := h.lt; omega)), h1.lt⟩
theorem Gx.abw {w : World} {O0 : Nat → Prop} {T4 T5 T6 T7 B : Nat} {bo : Option Addr} {L : List Rn} (b : Gb w O0 T4 T5 T6 T7 B bo L) (c : Code) : AbW (fun (_ : List Rn) O Z => c = .ret ∧ Gx w O0 T6 B O Z) := fun s O X Y h k => by
  have h1 := h.2.kp b k (fun i _ o => Or.inl o)
  exact ⟨h.1, h1.k, h1.s6, fun i hi => hi.elim (h.2.ow i) (fun e => Or.inr (by have := h.2.lt; omega)), h1.lt⟩
def g18 (T4 T5 T6 T7 T8 : Nat) (f : Nat → Value) : Array Value := #[f 0, f 1, f 2, f 3, .pointer (some ⟨T4, 0, none⟩), .pointer (some ⟨T5, 0, none⟩), .pointer (some ⟨T6, 0, none⟩), .pointer (some ⟨T7, 0, none⟩), .pointer (some ⟨T8, 0, none⟩), f 9, f 10, f 11, f 12, f 13, f 14, f 15, f 16, f 17, f 18, f 19, f 20, f 21, f 22, f 23, f 24, f 25, f 26, f 27, f 28, f 29, f 30, f 31, f 32, f 33]
end Go.Proofs.Ytopnfjgkgoeleaa

namespace Go.Proofs.Ytopnfjgkgoeleaa
open Go.RowKit Go.Shelf
attribute [local go_sem] Oper.semAt_some
set_option linter.unusedVariables false
set_option linter.unusedSimpArgs false
theorem fin_bool18 {F : Fence} {m : Nat} {tmps : Array Value} {T6 : Nat} {w Z : World} (h4 : tmps.getD 6 undef = .pointer (some ⟨T6, 0, none⟩)) (s4 : St 4 Z T6 #[.bool true]) (b : Kp (fun _ => False) w Z) :
    LeavesInM F m Try.prog Try.f16 tmps (fun e w' => e = .returned (.bool true) ∧ Kp (fun _ => False) w w') [] .returning Z := by
  exact ⟨_, results_cell1 Try.results16 _ _ T6 h4 (load_bool4c (s4.cell 0)), rfl, b⟩
theorem kr_kp {O0 : Nat → Prop} {w Z : World} (k : Kp O0 w Z) (h : KR O0 w Z) : Kp (fun _ => False) w Z := ⟨k.os, k.tape, k.output, k.size, fun i hi _ => by
  by_cases e : O0 i
  · exact h i e
  · exact k.block i hi e⟩
set_option maxRecDepth 100000 in
set_option maxHeartbeats 8000000 in
theorem goes_val (w : World) (bt : Nat) (ao : Option Addr) (c : Nat) (L : List Rn) (hl : L.length ≤ 65536) (hs : Srcr w ao L) (s1 : St 73 w bt #[.slice ao L.length c]) (bo : Option Addr) (cb : Nat) (sb : Srcr w bo L) (hbo : ∀ b off, bo = some ⟨b, off, none⟩ → 0 < L.length → ¬ RO bt ao L b) (leave : Int) :
    Calls Try.prog 16 #[.func (.func 57) #[] #[.pointer (some ⟨bt, 0, none⟩)], .slice bo L.length cb, .int .i64 leave] w fun e w' => e = .returned (.bool true) ∧ Kp (fun _ => False) w w' := by
  have LW : Hid (∀ i, RO bt ao L i → i < w.heap.size) := by
    rintro i (rfl | ⟨hp, off, e⟩)
    · exact s1.lt
    · obtain ⟨g, of2, e2, hb, _⟩ := hs hp
      rw [e] at e2
      cases e2
      exact hb
  have SQ := hid (val_seq3 19 (by omega) bt ao c L w (by omega) hs s1)
  have HSB := hid sb
  have HBO := hid hbo
  have h56 := nf57 bt
  have HNQ := hid neq_r
  clear hs s1 sb hbo
  generalize hO0 : RO bt ao L = O0 at *
  clear hO0
  refine (callsIn_wide (n := 20)).1 ?_
  refine callsIn_of_wp_marks Try.func16 rfl trivial ?_ rfl
  simp only [Try.ntmps16, List.size_toArray, List.length_cons, List.length_nil, Nat.reduceAdd, Nat.reduceSub, Array.replicate_succ, Array.replicate_zero, List.push_toArray, List.append_toArray, List.nil_append, List.cons_append]
  refine wpIn_wide.2 ?_
  generalize hQ : bodyPostM _ _ _ _ _ = QQ
  obtain ⟨N, hN⟩ : ∃ N, N = L.length := ⟨_, rfl⟩
  rw [← hN] at hl ⊢
  have HN := hid hN
  clear hN
  go_wp2_with fail
  have HX : Hid (St 27 ((((w.alloc (.cells #[.slice bo N cb] 27)).alloc (.cells #[.int .i64 leave] 3)).alloc (.cells #[.bool false] 4)).alloc (.cells #[.int .i64 0] 3)) w.heap.size #[.slice bo N cb] ∧ St 3 ((((w.alloc (.cells #[.slice bo N cb] 27)).alloc (.cells #[.int .i64 leave] 3)).alloc (.cells #[.bool false] 4)).alloc (.cells #[.int .i64 0] 3)) (w.heap.size + 1) #[.int .i64 leave] ∧ St 4 ((((w.alloc (.cells #[.slice bo N cb] 27)).alloc (.cells #[.int .i64 leave] 3)).alloc (.cells #[.bool false] 4)).alloc (.cells #[.int .i64 0] 3)) (w.heap.size + 2) #[.bool false] ∧ St 3 ((((w.alloc (.cells #[.slice bo N cb] 27)).alloc (.cells #[.int .i64 leave] 3)).alloc (.cells #[.bool false] 4)).alloc (.cells #[.int .i64 0] 3)) (w.heap.size + 3) #[.int .i64 0] ∧ Below w.heap.size w ((((w.alloc (.cells #[.slice bo N cb] 27)).alloc (.cells #[.int .i64 leave] 3)).alloc (.cells #[.bool false] 4)).alloc (.cells #[.int .i64 0] 3)) ∧ ((((w.alloc (.cells #[.slice bo N cb] 27)).alloc (.cells #[.int .i64 leave] 3)).alloc (.cells #[.bool false] 4)).alloc (.cells #[.int .i64 0] 3)).heap.size = w.heap.size + 4) := by
    have al : ∀ (U : World) (o : Obj), Kp (fun _ => False) U (U.alloc o) := fun U o => (Kp.refl _ _).alloc _
    have n4 := St.new 27 w #[.slice bo N cb]
    have n5 := St.new 3 (w.alloc (.cells #[.slice bo N cb] 27)) #[.int .i64 leave]
    have n6 := St.new 4 ((w.alloc (.cells #[.slice bo N cb] 27)).alloc (.cells #[.int .i64 leave] 3)) #[.bool false]
    have n7 := St.new 3 (((w.alloc (.cells #[.slice bo N cb] 27)).alloc (.cells #[.int .i64 leave] 3)).alloc (.cells #[.bool false] 4)) #[.int .i64 0]
    simp only [World.size_alloc, Nat.add_assoc, Nat.reduceAdd] at n5 n6 n7
    refine ⟨((n4.kp (al _ _) (fun h => h)).kp (al _ _) (fun h => h)).kp (al _ _) (fun h => h), (n5.kp (al _ _) (fun h => h)).kp (al _ _) (fun h => h), n6.kp (al _ _) (fun h => h), n7, ?_, by simp only [World.size_alloc]⟩
    exact ((((Kp.refl (fun _ => False) w).alloc _).alloc _).alloc _).alloc _ |>.below (Nat.le_refl _) (fun _ h => h.elim)
  simp only [World.size_alloc, Nat.add_assoc, Nat.reduceAdd]
  generalize (((w.alloc (.cells #[.slice bo N cb] 27)).alloc (.cells #[.int .i64 leave] 3)).alloc (.cells #[.bool false] 4)).alloc (.cells #[.int .i64 0] 3) = X at *
  obtain ⟨T, hT⟩ : ∃ T, T = w.heap.size := ⟨_, rfl⟩
  rw [← hT] at HX ⊢
  obtain ⟨x4, x5, x6, x7, xb, xs⟩ := HX.out
  have GB : Gb w O0 T (T + 1) (T + 2) (T + 3) X.heap.size bo L := ⟨by omega, by omega, by omega, by omega, by omega, by omega, by omega, LW.out, fun b off e hp => ⟨by
    obtain ⟨g, of2, e2, hb, _⟩ := HSB.out hp
    rw [e] at e2
    cases e2
    exact hb, HBO.out b off e hp⟩⟩
  rw [HN.out] at x4
  have HXB : Hid (Below w.heap.size w X) := by rw [hT] at xb; exact xb
  have HWX : Hid (w.heap.size < X.heap.size) := by show w.heap.size < X.heap.size; omega
  clear hT xs xb HX
  refine (wpIn_wide (n := 20)).1 ?_
  refine wpIn_rangeFunc_W rfl (by omega) (gf := 57) (pb := #[]) (lb := #[.pointer (some ⟨bt, 0, none⟩)]) rfl trivial (enters_of Try.func57 (by kernel_rfl) rfl) SQ.out ?hS ?hSx (fun i hi => by have := LW.out i hi; have := HWX.out; omega) HXB.out (fun _ => rfl)
    (Gi8 w O0 T (T + 1) (T + 2) (T + 3) X.heap.size bo cb L leave) (fun c _ O Z => c = .ret ∧ Gx w O0 (T + 2) X.heap.size O Z) (Gi8.abw GB) (Gx.abw GB) ?hI2 ?hIx2 ?h0
    (fun x a' Z => ∃ T8, X.heap.size + 1 < T8 ∧ Rn.B Z T8 x ∧ ∃ f', a' = { tmps := g18 T (T + 1) (T + 2) (T + 3) T8 f', defers := [] }) ?hAx ?assign ?body ?done ?stop
  case hS =>
    intro xs Z r o' hs hl
    exact ⟨hs.1, fun i hi => ((kp_putC Z (X.heap.size + 1) o').block i (kr_lt hs.2 hi (LW.out i hi)) (by have := LW.out i hi; have := HWX.out; omega)).trans (hs.2 i hi)⟩
  case hSx =>
    intro xs Z r o' hs hl
    exact ⟨hs.1, fun i hi => ((kp_putC Z (X.heap.size + 1) o').block i (kr_lt hs.2 hi (LW.out i hi)) (by have := LW.out i hi; have := HWX.out; omega)).trans (hs.2 i hi)⟩
  case hI2 => exact fun s O Z o' hi hlt => hi.kp GB (kp_putC Z _ o') (fun i _ e => Or.inr (Or.inr e))
  case hIx2 => exact fun c s O Z o' h hlt => ⟨h.1, h.2.kp GB (kp_putC Z _ o') (fun i _ e => Or.inr (Or.inr e))⟩
  case h0 =>
    intro r
    have ka : Kp (fun _ => False) X ((X.alloc (.deferred (some []))).alloc (.loop r)) := ((Kp.refl _ _).alloc _).alloc _
    have xb2 : Kp O0 w X := Kp.of_below HXB.out
    exact ⟨xb2.trans ka (fun _ _ h => h.elim), x4.kp ka (fun h => h), x5.kp ka (fun h => h), x6.kp ka (fun h => h), x7.kp ka (fun h => h), (HSB.out.kp (F := fun _ => False) (Kp.of_below HXB.out) (fun _ _ _ _ h => h)).kp ka (fun _ _ _ _ h => h), fun i hi => Or.inl hi, by simp only [World.size_alloc]; omega⟩
  case hAx =>
    rintro x a' Z o' ⟨T8, h1, h2, h3⟩
    exact ⟨T8, h1, h2.kp (kp_putC Z _ o') (by omega), h3⟩
  case assign =>
    intro l' pre O x Z1 Kk hll hsz hi hK
    have HK := hid hK
    have HI := hid hi
    have HSZ := hid hsz
    clear hK hi hll hsz
    obtain ⟨xk, xa, xn⟩ := x
    gi_wp2_with (first | (refine wpListIn_store_r (by rfl) (.tmp 8) (.tmp 12) rfl Z1.heap.size rfl (e := zRn) (e' := ⟨xk, xa, xn⟩) rfl (Rn.B.new Z1 zRn) ?_; intro w6 b6 j6; have k6 : Kp (fun _ => False) Z1 w6 := ((Kp.refl (fun _ => False) Z1).alloc _).trans j6 (fun i h1 h2 => by omega); have E6 := hid b6; have K6 := hid k6; clear b6 j6 k6))
    exact HK.out _ _ (K6.out.mono (fun _ _ x => x.elim)) (HI.out.kp GB K6.out (fun _ _ h => h.elim)) ⟨_, HSZ.out, E6.out, act_of (by kernel_rfl) rfl⟩
  case body =>
    rintro l' pre O x a' Z hll hsz n1 n2 hi ⟨T8, h8, e8, f', rfl⟩ ⟨j, hj, hsp⟩
    have hpl := congrArg List.length hsp
    rw [List.length_append, List.length_take] at hpl
    simp only [List.length_singleton] at hpl
    have hkl : pre.length < L.length := by omega
    have hx : L.getD pre.length zRn = x := by
      have h1 : (pre ++ [x])[pre.length]? = some x := by simp
      rw [hsp, List.getElem?_take] at h1
      split at h1
      · simp [List.getD, h1]
      · cases h1
    obtain ⟨gb, off, hbe, _, y0, y1, y2⟩ := hi.sb.at hkl
    rw [hx] at y0 y1 y2
    have HI := hid hi
    have c4 : Z.cell? ⟨T, 0, none⟩ = some (.slice (some ⟨gb, off, none⟩) L.length cb) := by rw [← hbe]; exact hi.s4.cell 0
    have c5 : Z.cell? ⟨T + 1, 0, none⟩ = some (.int .i64 leave) := hi.s5.cell 0
    have c7 : Z.cell? ⟨T + 3, 0, none⟩ = some (.int .i64 (pre.length : Int)) := hi.s7.cell 0
    have c8 : Z.cell? ⟨T8, 0, none⟩ = some (.int .i64 x.k) := e8.cell 0
    have c9 : Z.cell? ⟨T8, 1, none⟩ = some (.int .i64 x.a) := e8.cell 1
    have c10 : Z.cell? ⟨T8, 2, none⟩ = some (.int .i64 x.n) := e8.cell 2
    have hnq : ∀ U : World, (binOp .neq 46 (.agg #[.int .i64 x.k, .int .i64 x.a, .int .i64 x.n]) (.agg #[.int .i64 x.k, .int .i64 x.a, .int .i64 x.n])).run Try.prog U = .ok (.bool false) U := fun U => by
      have := HNQ.out x x U
      rw [Rn.eq_self] at this
      exact this
    have HPL : Hid ((pre ++ [x]).length = pre.length + 1) := by show (pre ++ [x]).length = _; simp
    have HN1 := hid n1
    have HN2 := hid n2
    have HL4 : Hid (L.length ≤ 65536) := by rw [Hid, ← HN.out]; exact hl
    clear hpl hx hsp hi e8 hbe n1 n2 HNQ
    obtain ⟨k, hk⟩ : ∃ k, k = pre.length := ⟨_, rfl⟩
    rw [← hk] at hkl y0 y1 y2 c7 HPL
    have HKP := hid hk
    clear hk
    have hk4 : k < 65536 := by have := HL4.out; omega
    generalize x.k = xk at *
    generalize x.a = xa at *
    generalize x.n = xn at *
    obtain ⟨M, hM⟩ : ∃ M, M = L.length := ⟨_, rfl⟩
    rw [← hM] at c4 hkl
    clear hM
    have d1 : decide ((M : Int) ≤ (k : Int)) = false := by simp; omega
    have d2 : decide (M ≤ k) = false := by simp; omega
    unfold g18
    gi_wp2_with fail
    refine wpIn_region_quietR hmix (by kernel_rfl) (by kernel_rfl) ?_
    repeat (gi_big_quiet_step (fail))
    refine wpQuietIn_nil ?_
    intro _ hw'
    obtain ⟨nq, hw2⟩ := hw'
    subst hw2
    have KX : Hid (Kp (fun _ => False) Z (Z.drewN nq)) := drewN_kp _ _ _
    generalize Z.drewN nq = Y at *
    have IY := hid (HI.out.kp GB KX.out (fun _ _ h => h.elim))
    have c5' : Y.cell? ⟨T + 1, 0, none⟩ = some (.int .i64 leave) := IY.out.s5.cell 0
    have c7' : Y.cell? ⟨T + 3, 0, none⟩ = some (.int .i64 (k : Int)) := by rw [HKP.out]; exact IY.out.s7.cell 0
    have f7' := IY.out.s7.frozen 0
    have c6' : Y.cell? ⟨T + 2, 0, none⟩ = some (.bool false) := IY.out.s6.cell 0
    have f6' := IY.out.s6.frozen 0
    clear c4 c5 c7 c8 c9 c10 y0 y1 y2
    have kz := kp_setCell Y (T + 3) 0 (.int .i64 ((k : Int) + 1)) (fun i => i = T + 3) rfl
    have KZ := hid kz
    have S7 : Hid (St 3 (Y.setCell ⟨T + 3, 0, none⟩ (.int .i64 ((k : Int) + 1))) (T + 3) #[.int .i64 ((k : Int) + 1)]) := IY.out.s7.set 0 _
    have S5 : Hid (St 3 (Y.setCell ⟨T + 3, 0, none⟩ (.int .i64 ((k : Int) + 1))) (T + 1) #[.int .i64 leave]) := IY.out.s5.kp kz (by omega)
    have S6 : Hid (St 4 (Y.setCell ⟨T + 3, 0, none⟩ (.int .i64 ((k : Int) + 1))) (T + 2) #[.bool false]) := IY.out.s6.kp kz (by omega)
    have S4 : Hid (St 27 (Y.setCell ⟨T + 3, 0, none⟩ (.int .i64 ((k : Int) + 1))) T #[.slice bo L.length cb]) := IY.out.s4.kp kz (by omega)
    clear kz
    have n7 : Hid (¬ O (T + 3)) := fun o => (HI.out.ow _ o).elim (fun a => by have := GB.o _ a; have := GB.b7; omega) (fun a => by have := GB.b7; omega)
    have n6 : Hid (¬ O (T + 2)) := fun o => (HI.out.ow _ o).elim (fun a => by have := GB.o _ a; have := GB.b6; omega) (fun a => by have := GB.b6; omega)
    have KW : Hid (Kp (fun i => ¬ O i ∧ i ≠ X.heap.size ∧ i ≠ X.heap.size + 1) Z (Y.setCell ⟨T + 3, 0, none⟩ (.int .i64 ((k : Int) + 1)))) := (KX.out.mono (fun _ _ h => h.elim)).trans KZ.out (fun i _ e => by subst e; exact ⟨n7.out, by have := GB.b7; omega, by have := GB.b7; omega⟩)
    by_cases hle : (k : Int) + 1 = leave
    · have e1 : ((k : Int) + 1 == leave) = true := by simpa using hle
      clear hle
      gi_wp2_with fail
      have kz := kp_setCell (Y.setCell ⟨T + 3, 0, none⟩ (.int .i64 ((k : Int) + 1))) (T + 2) 0 (.bool true) (fun i => i = T + 2) rfl
      refine ⟨KW.out.trans kz (fun i _ e => by subst e; exact ⟨n6.out, by have := GB.b6; omega, by have := GB.b6; omega⟩), rfl, ((IY.out.k.trans KZ.out (fun i hi e => by have := GB.b7; omega)).trans kz (fun i hi e => by have := GB.b6; omega)), S6.out.set 0 _, IY.out.ow, Nat.lt_of_lt_of_le IY.out.lt (Nat.le_trans KZ.out.size kz.size)⟩
    · have e1 : ((k : Int) + 1 == leave) = false := by simpa using hle
      clear hle
      gi_wp2_with fail
      refine ⟨KW.out, IY.out.k.trans KZ.out (fun i hi e => by have := GB.b7; omega), S4.out, S5.out, S6.out, ?_, srcr_kp2 IY.out.sb KZ.out (fun c off e hp g => by have := GB.r c off e hp; have := GB.b7; omega), IY.out.ow, Nat.lt_of_lt_of_le IY.out.lt KZ.out.size⟩
      rw [HPL.out]
      exact S7.out
  case done =>
    rintro D xs O Z hD ⟨hS1, hKR⟩ hi hdd
    have c4 : Z.cell? ⟨T, 0, none⟩ = some (.slice bo N cb) := by rw [HN.out]; exact hi.s4.cell 0
    have c7 : Z.cell? ⟨T + 3, 0, none⟩ = some (.int .i64 (N : Int)) := by rw [HN.out, ← hS1]; exact hi.s7.cell 0
    have c6 : Z.cell? ⟨T + 2, 0, none⟩ = some (.bool false) := hi.s6.cell 0
    have f6 := hi.s6.frozen 0
    have HI := hid hi
    have HD := hid hD
    have HDD := hid hdd
    have HKR := hid hKR
    clear hi hD hdd hS1 hKR
    gi_wp2_with fail
    go_wp2_with fail
    subst hQ
    have hz := kp_setCell Z (T + 2) 0 (.bool true) (fun i => i = T + 2) rfl
    refine leaves_marksc D _ ?_ (fun w' k => fin_bool18 rfl ((HI.out.s6.set 0 _).kp k ?_) ?_)
    · rw [← HDD.out]; exact heap_setCell_other Z ⟨T + 2, 0, none⟩ D _ (by have := GB.b6; have := HD.out; show ¬ D = T + 2; omega)
    · have := GB.b6; have := HD.out; omega
    · exact ((kr_kp HI.out.k HKR.out).trans hz (fun i hi e => by have := GB.b6; omega)).trans k (fun i hi e => by have := HWX.out; have := HD.out; omega)
  case stop =>
    rintro D c pre O Z hD ⟨hS1, hKR⟩ ⟨hc, hx⟩ hdd
    subst hc
    gi_wp2
    subst hQ
    refine leaves_marksc D Z hdd (fun w' k => fin_bool18 rfl (hx.s6.kp k ?_) ?_)
    · have := GB.b6; omega
    · exact (kr_kp hx.k hKR).trans k (fun i hi e => by have := HWX.out; omega)
end Go.Proofs.Ytopnfjgkgoeleaa
