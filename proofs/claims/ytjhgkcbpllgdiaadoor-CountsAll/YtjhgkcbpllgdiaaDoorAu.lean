/- CountsAll: a turn. -/
import Derived.Test.YtjhgkcbpllgdiaaDoorAv
namespace Go.Proofs.YtjhgkcbpllgdiaaDoor
open Go.RowKit Go.Shelf
attribute [local go_sem] Oper.semAt_some
set_option linter.unusedVariables false
def postR (S : Act → World → Prop) : Exit → Act → World → Prop
  | .normal, a, w => S a w
  | .exit id, a, w => id = 6 ∧ S a w
  | _, _, _ => False
/-- The iterator, wherever its own blocks are as they were. -/
structure Sqs (X : World) (gf : Nat) (pb : Array Value) (zs : List Int) (W M : Nat) (R0 : Nat → Prop) : Prop where
  lt : ∀ i, R0 i → i < X.heap.size
  eg : ∀ args w, (callFunc gf args).run Tryd.prog w = .ok (.enter gf args) w
  sq : ∀ Y, Kp (fun _ => False) X Y → SeqP Fence.wide 19 Tryd.prog gf pb #[] (xenc (zs := zs) (W := W) (M := M)) (fun ys => idx ys = nzs zs W M) (fun pre => ∃ j, j ≤ M ∧ idx pre = nzs zs W j) M R0 Y
/-- Where the range of a turn leaves one. -/
def TRs (X : World) (T2 T4 T5 T7 T21 T22 T23 T24 T25 : Nat) (vall : Value) (zs : List Int) (W M t : Nat) (ds : List Deferred) (a' : Act) (Z : World) : Prop :=
  ∃ f' D p q s, a' = { tmps := eR T2 T4 T5 T7 T21 T22 T23 T24 T25 vall f', defers := { target := .collected D, args := #[] } :: ds } ∧ X.heap.size ≤ D ∧ Z.heap[D]? = some (.deferred (some [])) ∧ D ≠ T23 ∧ TI X T21 T22 T23 T24 T25 M t p q s Z ∧ p ≤ M ∧ (s = false → ∀ k, p ≤ k → k < M → ct zs W k = 0)
theorem trs_of {X : World} {T2 T4 T5 T7 T21 T22 T23 T24 T25 : Nat} {vall : Value} {zs : List Int} {W M t : Nat} {ds : List Deferred} {a : Act} {Z : World} {D p q : Nat} {s : Bool} (ht : a.tmps = eR T2 T4 T5 T7 T21 T22 T23 T24 T25 vall (fun i => a.tmps.getD i undef)) (hd : a.defers = { target := .collected D, args := #[] } :: ds) (h1 : X.heap.size ≤ D) (h2 : Z.heap[D]? = some (.deferred (some []))) (h3 : D ≠ T23) (h4 : TI X T21 T22 T23 T24 T25 M t p q s Z) (h5 : p ≤ M) (h6 : s = false → ∀ k, p ≤ k → k < M → ct zs W k = 0) : TRs X T2 T4 T5 T7 T21 T22 T23 T24 T25 vall zs W M t ds a Z := by
  obtain ⟨f, hf⟩ := act_of ht hd
  exact ⟨f, D, p, q, s, hf, h1, h2, h3, h4, h5, h6⟩
set_option maxRecDepth 100000 in
set_option maxHeartbeats 8000000 in
theorem turn_wp (w X : World) (T2 T4 T5 T7 T21 T22 gf : Nat) (pb : Array Value) (R0 : Nat → Prop) (ao : Option Addr) (cap : Nat) (zs : List Int) (o lv : Int) (W M t : Nat) (ds : List Deferred) (f : Nat → Value)
    (hl : zs.length ≤ 600) (hz : Byt zs) (hO : Oo o zs W M) (hb : Bs w X T2 T4 T5 T7 ao cap zs o lv) (s21 : St 3 X T21 #[.int .i64 (M : Int)]) (s22 : St 3 X T22 #[.int .i64 (t : Int)]) (hs : Sqs X gf pb zs W M R0) :
    cT.wpIn Fence.wide 20 Tryd.prog (postN (fun a' Z => ∃ D, (∃ f', a' = { tmps := eT T2 T4 T5 T7 T21 T22 (.func (.func gf) pb #[]) f', defers := { target := .collected D, args := #[] } :: ds }) ∧ X.heap.size ≤ D ∧ Z.heap[D]? = some (.deferred (some [])) ∧ Kp (fun _ => False) X Z))
      { tmps := eT T2 T4 T5 T7 T21 T22 (.func (.func gf) pb #[]) f, defers := ds } X := by
  have hMb := hO.le hl
  have HO := hid hO
  have BS := hid hb
  have SQ := hid hs
  have HZ := hid hz
  have e1 := (St.new 3 X #[.int .i64 0]).kp ((((Kp.refl (fun _ => False) _).alloc (.cells #[.int .i64 0] 3)).alloc (.cells #[.bool false] 4))) (fun x => x)
  have e2 := (St.new 3 (X.alloc (.cells #[.int .i64 0] 3)) #[.int .i64 0]).kp (((Kp.refl (fun _ => False) _).alloc (.cells #[.bool false] 4))) (fun x => x)
  have e3 := (St.new 4 ((X.alloc (.cells #[.int .i64 0] 3)).alloc (.cells #[.int .i64 0] 3)) #[.bool false])
  rw [World.size_alloc] at e2
  rw [World.size_alloc, World.size_alloc] at e3
  have ka : Kp (fun _ => False) X (((X.alloc (.cells #[.int .i64 0] 3)).alloc (.cells #[.int .i64 0] 3)).alloc (.cells #[.bool false] 4)) := (((Kp.refl _ _).alloc _).alloc _).alloc _
  have T0 : Hid (TI X T21 T22 X.heap.size (X.heap.size + 1) (X.heap.size + 1 + 1) M t 0 0 false (((X.alloc (.cells #[.int .i64 0] 3)).alloc (.cells #[.int .i64 0] 3)).alloc (.cells #[.bool false] 4))) :=
    ⟨ka, s21.kp ka (fun x => x), s22.kp ka (fun x => x), e1, e2, e3, by omega, by omega, by omega, s21.lt, s22.lt, by omega, by omega, by omega⟩
  clear e1 e2 e3 ka hb hs hz hO s21 s22
  unfold cT eT
  generalize hQ : postN _ = QQ
  gi_wp2_with fail
  obtain ⟨Y, hY⟩ : ∃ Y, Y = ((X.alloc (.cells #[.int .i64 0] 3)).alloc (.cells #[.int .i64 0] 3)).alloc (.cells #[.bool false] 4) := ⟨_, rfl⟩
  rw [← hY] at T0 ⊢
  clear hY
  obtain ⟨T23, h23⟩ : ∃ k, k = X.heap.size := ⟨_, rfl⟩
  rw [← h23] at T0 ⊢
  clear h23
  have LX : Hid (T23 + 1 + 1 < Y.heap.size) := T0.out.s.lt
  have L3 : Hid (X.heap.size ≤ T23) := T0.out.l3
  have SS := hid (SQ.out.sq Y T0.out.kp)
  have LO : Hid (∀ i, R0 i → i < X.heap.size) := SQ.out.lt
  refine wpIn_mono (Q := postR (TRs X T2 T4 T5 T7 T21 T22 T23 (T23 + 1) (T23 + 1 + 1) (.func (.func gf) pb #[]) zs W M t ds)) ?range ?cont
  case range =>
    refine wpIn_rangeFunc_P rfl (by omega) (gf := gf) (pb := pb) (lb := #[]) rfl trivial SQ.out.eg SS.out
      (fun i h => by have h1 := LO.out i h; have h2 := T0.out.kp.size; omega) (Below.refl _ _) (fun _ => rfl)
      (fun pre O Z => TI X T21 T22 T23 (T23 + 1) (T23 + 1 + 1) M t (atv (idx pre)) pre.length false Z ∧ ¬ O T23 ∧ ¬ O (T23 + 1) ∧ ¬ O (T23 + 1 + 1))
      (fun c pre O Z => c = .exit 6 ∧ ∃ p q, p ≤ M ∧ TI X T21 T22 T23 (T23 + 1) (T23 + 1 + 1) M t p q true Z) ?hI ?hIx ?hI2 ?hIx2 ?h0
      (fun x a' _ => ∃ f', a' = { tmps := eB T2 T4 T5 T7 T21 T22 T23 (T23 + 1) (T23 + 1 + 1) (.func (.func gf) pb #[]) x.1 (ct zs W x.1) f', defers := [] }) (fun _ _ _ _ h => h) ?assign ?body ?done ?stop
    case hI =>
      rintro s O Z1 Z2 ⟨ti, o1, o2, o3⟩ kk
      have h1 := LX.out
      have h2 := L3.out
      have h3 := ti.s.lt
      exact ⟨ti.same kk (fun i x => by have := x.2; omega) (fun x => by have := x.2; omega) (fun x => by have := x.2; omega) (fun x => by have := x.2; omega), fun x => x.elim o1 (fun x => by omega), fun x => x.elim o2 (fun x => by omega), fun x => x.elim o3 (fun x => by omega)⟩
    case hIx =>
      rintro c s O Z1 Z2 ⟨rfl, p, q, hp, ti⟩ kk
      have h1 := LX.out
      have h2 := L3.out
      exact ⟨rfl, p, q, hp, ti.same kk (fun i x => by have := x.2; omega) (fun x => by have := x.2; omega) (fun x => by have := x.2; omega) (fun x => by have := x.2; omega)⟩
    case hI2 =>
      rintro s O Z1 o' ⟨ti, o1, o2, o3⟩ hlt
      have h1 := LX.out
      have h2 := L3.out
      exact ⟨ti.same (kp_putG Z1 _ o') (fun i x => by omega) (by omega) (by omega) (by omega), o1, o2, o3⟩
    case hIx2 =>
      rintro c s O Z1 o' ⟨rfl, p, q, hp, ti⟩ hlt
      have h1 := LX.out
      have h2 := L3.out
      exact ⟨rfl, p, q, hp, ti.same (kp_putG Z1 _ o') (fun i x => by omega) (by omega) (by omega) (by omega)⟩
    case h0 =>
      intro r
      have ka : Kp (fun _ => False) Y ((Y.alloc (.deferred (some []))).alloc (.loop r)) := ((Kp.refl _ _).alloc _).alloc _
      have h2 := L3.out
      have no : ∀ j, X.heap.size ≤ j → ¬ R0 j := fun j hj h => by have := LO.out j h; omega
      exact ⟨T0.out.same ka (fun _ x => x.elim) (fun x => x) (fun x => x) (fun x => x), no _ (by omega), no _ (by omega), no _ (by omega)⟩
    case assign =>
      intro l' pre O x Z1 Kk hll hsz hi hK
      have HK := hid hK
      have HI := hid hi
      clear hK hi hll
      gi_wp2
      exact HK.out _ _ (Kp.refl _ _) HI.out (act_of (by kernel_rfl) rfl)
    case body =>
      rintro l' pre O x a' Z hll hsz n1 n2 ⟨ti, o1, o2, o3⟩ ⟨f', rfl⟩ hlen ⟨j, hj, hsp⟩
      rw [idx_snoc] at hsp
      have hpre := nzs_snoc j hsp
      obtain ⟨k7, ho, h7, hW, hM⟩ := HO.out (by omega)
      subst ho
      subst hW
      have hgap := nzs_gap zs (2 ^ k7) x.1
      rw [← hpre] at hgap
      have bb := body_wp l' w X Z T2 T4 T5 T7 T21 T22 T23 (T23 + 1) (T23 + 1 + 1) (.func (.func gf) pb #[]) ao cap zs k7 lv M t (atv (idx pre)) pre.length x.1 f' hl HZ.out h7 hM BS.out ti hgap.1 x.2.1 (by omega) hgap.2 x.2.2
      have h1 := LX.out
      have h2 := L3.out
      refine wpIn_mono bb ?_
      intro e a2 Z2 hh
      cases e with
      | normal =>
        obtain ⟨ti2, k2⟩ := hh
        refine ⟨k2.mono (fun i _ e => ?_), ?_, o1, o2, o3⟩
        · rcases e with rfl | rfl
          · exact ⟨o1, by omega, by omega⟩
          · exact ⟨o2, by omega, by omega⟩
        · rw [idx_snoc, atv_snoc, List.length_append]
          exact ti2
      | exit id =>
        obtain ⟨rfl, ti2, k2⟩ := hh
        refine ⟨k2.mono (fun i _ e => ?_), rfl, x.1 + 1, _, x.2.1, ti2⟩
        rcases e with rfl | rfl | rfl
        · exact ⟨o1, by omega, by omega⟩
        · exact ⟨o2, by omega, by omega⟩
        · exact ⟨o3, by omega, by omega⟩
      | _ => exact hh.elim
    case done =>
      rintro D xs O Z rfl hS ⟨ti, _, _, _⟩ hd
      have h1 := LX.out
      have h2 := T0.out.kp.size
      have hg := nzs_gap zs W M
      rw [← hS] at hg
      exact trs_of (by kernel_rfl) rfl (by omega) hd (by omega) ti hg.1 (fun _ => hg.2)
    case stop =>
      rintro D c pre O Z rfl _ ⟨rfl, p, q, hp, ti⟩ hd
      have h1 := LX.out
      have h2 := T0.out.kp.size
      refine wpIn_exit ?_
      exact ⟨rfl, trs_of (by kernel_rfl) rfl (by omega) hd (by omega) ti hp (fun h => by cases h)⟩
  case cont =>
    intro e a' Z hh
    have h2 : TRs X T2 T4 T5 T7 T21 T22 T23 (T23 + 1) (T23 + 1 + 1) (.func (.func gf) pb #[]) zs W M t ds a' Z ∧ (e = .normal ∨ e = .exit 6) := by
      cases e with
      | normal => exact ⟨hh, .inl rfl⟩
      | exit id => exact ⟨hh.2, .inr (by rw [hh.1])⟩
      | _ => exact hh.elim
    obtain ⟨⟨f', D, p, q, s, rfl, hD, hd, hne, ti, hp, hgap⟩, he⟩ := h2
    clear hh SS T0 LX L3 LO SQ
    have TW := hid (trail_wp w X Z T2 T4 T5 T7 T21 T22 T23 (T23 + 1) (T23 + 1 + 1) (.func (.func gf) pb #[]) ao cap zs o lv W M t p q s ({ target := .collected D, args := #[] } :: ds) f' hl HZ.out HO.out BS.out ti hp hgap)
    have HD := hid hD
    have HDD := hid hd
    have HNE := hid hne
    clear hD hd hne ti hgap
    rcases he with rfl | rfl
    all_goals
      gi_wp2_with fail
      refine wpIn_mono TW.out ?_
      intro e a2 Z2 hh
      cases e with
      | exit id =>
        obtain ⟨rfl, ⟨f2, rfl⟩, ⟨p', ti2⟩, kz⟩ := hh
        have TI2 := hid ti2
        have HD2 : Hid (Z2.heap[D]? = some (.deferred (some []))) := (kz.block D (Array.getElem?_eq_some_iff.1 HDD.out).1 HNE.out).trans HDD.out
        clear ti2 kz
        unfold eR
        gi_wp2_with fail
        subst hQ
        exact ⟨D, act_of (by kernel_rfl) rfl, HD.out, HD2.out, TI2.out.kp⟩
      | _ => exact hh.elim
end Go.Proofs.YtjhgkcbpllgdiaaDoor
