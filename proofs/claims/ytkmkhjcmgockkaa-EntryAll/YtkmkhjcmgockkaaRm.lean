/- entry: the iterator of All. -/
import Derived.Test.YtkmkhjcmgockkaaRj
namespace Go.Proofs.Ytkmkhjcmgockkaa
open Go.RowKit Go.Shelf
attribute [local go_sem] Oper.semAt_some
set_option linter.unusedVariables false
/-- Those that are not nothing. -/
def flt {zs : List Int} {b : Int} (pre : List (Ex zs b)) : List (Ex zs b) := pre.filter (fun x => !eqE x.1.2 zE)
theorem flt_len {zs : List Int} {b : Int} (pre : List (Ex zs b)) : (flt pre).length ≤ pre.length := List.length_filter_le _ _
theorem flt_no {zs : List Int} {b : Int} (pre : List (Ex zs b)) (x : Ex zs b) (h : (!eqE x.1.2 zE) = false) : flt (pre ++ [x]) = flt pre := by
  unfold flt; rw [List.filter_append]; simp at h; simp [h]
theorem flt_yes {zs : List Int} {b : Int} (pre : List (Ex zs b)) (x : Ex zs b) (h : (!eqE x.1.2 zE) = true) : flt (pre ++ [x]) = flt pre ++ [x] := by
  unfold flt; rw [List.filter_append]; simp at h; simp [h]
theorem round_wide {m m' : Nat} {P : Program} {l l' : Nat} {f : FuncId} {tmps : Array Value} {assign body : Code} {w : World} {R : Ending → World → Prop} (h : RoundIn Fence.wide m P l f tmps assign body w R) : RoundIn (Fence.wide.inRound l') m' P l f tmps assign body w R :=
  ⟨h.1, fun c cs _ => h.2 c cs (fun d hd => by cases hd)⟩
def AI {zs : List Int} {b : Int} (J : List (Ex zs b) → (Nat → Prop) → World → Prop) (l Y B : Nat) (pre : List (Ex zs b)) (O : Nat → Prop) (X : World) : Prop :=
  ∃ Oo, J (flt pre) Oo X ∧ (∀ i, O i → Oo i) ∧ Oo Y ∧ Oo B ∧ Oo (B + 1) ∧ St 66 X Y #[.func (.yield l) #[] #[]]
def AIx {zs : List Int} {b : Int} (Jx : List (Ex zs b) → (Nat → Prop) → World → Prop) (B : Nat) (c : Code) (pre : List (Ex zs b)) (O : Nat → Prop) (X : World) : Prop :=
  c = .ret ∧ ∃ Oo, Jx (flt pre) Oo X ∧ (∀ i, O i → Oo i) ∧ Oo B ∧ Oo (B + 1)
def AAx {zs : List Int} {b : Int} (a₁ : Nat → Ex zs b → Act) (B : Nat) (x : Ex zs b) (a' : Act) (X : World) : Prop := ∃ Be, B + 1 < Be ∧ Eb X Be x.1.2 ∧ a' = a₁ Be x
set_option maxRecDepth 100000 in
set_option maxHeartbeats 4000000 in
theorem all_seq (n : Nat) (hn : 3 ≤ n) (bk bb : Nat) (ao : Option Addr) (cap : Nat) (zs : List Int) (b : Int) (K : Nat) (w : World) (hl : zs.length ≤ 1000000000000) (hbt : Byt zs) (hs : Src w ao zs) (s1 : St 39 w bk #[.slice ao zs.length cap]) (s2 : St 3 w bb #[.int .i64 b]) (hK : RdK zs b K) :
    SeqP Fence.wide n Try.prog 34 #[.pointer (some ⟨bk, 0, none⟩), .pointer (some ⟨bb, 0, none⟩)] (xenc (zs := zs) (b := b)) (fun ys => ∃ full : List (Ex zs b), full.map (·.1.1) = List.range K ∧ ys = flt full) (fun pre => ∃ (j : Nat) (full : List (Ex zs b)), j ≤ K ∧ full.map (·.1.1) = List.range j ∧ pre = flt full) K (RO bk bb ao zs) w := by
  intro l J Jx W hW hA hAx hY h0
  have S0 := hid (hs.below hW)
  have T1 := s1.below hW s1.lt
  have T2 := s2.below hW s2.lt
  have K0 : Hid (Kp (fun _ => False) W (W.alloc (.cells #[.func (.yield l) #[] #[]] 66))) := (Kp.refl _ _).alloc _
  have Y0 := hid (St.new 66 W #[.func (.yield l) #[] #[]])
  have SZ0 : Hid ((W.alloc (.cells #[.func (.yield l) #[] #[]] 66)).heap.size = W.heap.size + 1) := World.size_alloc _ _
  have c1 : (W.alloc (.cells #[.func (.yield l) #[] #[]] 66)).cell? ⟨bk, 0, none⟩ = some (.slice ao zs.length cap) := (T1.kp K0.out (fun x => x)).cell 0
  have c2 : (W.alloc (.cells #[.func (.yield l) #[] #[]] 66)).cell? ⟨bb, 0, none⟩ = some (.int .i64 b) := (T2.kp K0.out (fun x => x)).cell 0
  have HL := hid hl
  have HB := hid hbt
  have HK := hid hK
  clear hs s1 s2 hW hbt hK T1 T2
  have h1n : 1 ≤ n := by omega
  have h2n : 1 ≤ n - 1 - 1 := by omega
  refine callsIn_of_wp_marks Try.func34 rfl trivial ?_ rfl
  simp only [Try.ntmps34, List.size_toArray, List.length_cons, List.length_nil, Nat.reduceAdd, Nat.reduceSub, Array.replicate_succ, Array.replicate_zero, List.push_toArray, List.append_toArray, List.nil_append, List.cons_append]
  gi_wp2_with fail
  generalize W.alloc (.cells #[.func (.yield l) #[] #[]] 66) = W1 at *
  refine ⟨trivial, (callsIn_wide.2 (read_any ao zs.length cap b W1)).mono ?_⟩
  rintro r W2 ⟨rfl, rp⟩
  have RP := hid rp
  have SZ := hid rp.sz
  clear rp
  have SS := hid (read_seq (n - 1) (by omega) W1.heap.size (W1.heap.size + 1) ao cap zs b K W2 HL.out HB.out ((S0.out.kp K0.out).kp RP.out.kp) RP.out.s1 RP.out.s2 HK.out)
  have K2 := hid (K0.out.trans RP.out.kp (fun _ _ x => x))
  have Y2 := hid (Y0.out.kp RP.out.kp (fun x => x))
  have J2 := hid (hA [] _ W W2 h0 (K2.out.mono (fun _ _ x => x.elim)))
  have LS : Hid (∀ i off, 0 < zs.length → ao = some ⟨i, off, none⟩ → i < W.heap.size) := fun i off hp e => (by obtain ⟨g, of2, e2, hc⟩ := S0.out hp; rw [e] at e2; cases e2; exact block_lt_of_cell (hc 0 hp))
  generalize hY0 : W.heap.size = Y at *
  generalize hB1 : W1.heap.size = B1 at *
  gi_wp2_with fail
  have hSZ1 := SZ0.out
  have hSZ2 := SZ.out
  refine wpIn_rangeFunc_P rfl h1n (gf := 38) (lb := #[.pointer (some ⟨B1, 0, none⟩), .pointer (some ⟨B1 + 1, 0, none⟩)]) rfl trivial (enters_of Try.func38 (by kernel_rfl) rfl) SS.out
    (fun i h => by rcases h with rfl | rfl | ⟨hp, off, e⟩ <;> first | omega | (have h3 := LS.out i off hp e; omega)) (Below.refl _ _) (fun _ => rfl)
    (AI J l Y W2.heap.size) (AIx Jx W2.heap.size) ?hI ?hIx ?hI2 ?hIx2 ?h0
    (AAx (fun Be x => { tmps := #[.func (.yield l) #[] #[], .pointer (some ⟨bk, 0, none⟩), .pointer (some ⟨bb, 0, none⟩), .pointer (some ⟨Y, 0, none⟩), .int .i64 (x.1.1 : Int), .pointer (some ⟨Be, 0, none⟩), .slice ao zs.length cap, .int .i64 b, .func (.func 38) #[] #[.pointer (some ⟨B1, 0, none⟩), .pointer (some ⟨B1 + 1, 0, none⟩)], .int .i64 (x.1.1 : Int), .agg x.1.2.cs, undef, undef, undef, undef, undef, undef, undef, undef, undef, undef], defers := [] }) W2.heap.size) ?hAx ?assign ?body ?done ?stop
  case hI =>
    rintro s O X Z ⟨Oo, hJ, hO, oY, oB, oL, hst⟩ kk
    have hlt := hst.lt
    refine ⟨_, hA _ _ _ _ hJ (kk.mono (fun i _ x => ⟨hO i x.1, by have := x.2; omega⟩)), fun i x => x.elim (fun x => Or.inl (hO i x)) Or.inr, Or.inl oY, Or.inl oB, Or.inl oL, hst.kp kk (fun x => by have := x.2; omega)⟩
  case hIx =>
    rintro c s O X Z ⟨rfl, Oo, hJ, hO, oB, oL⟩ kk
    exact ⟨rfl, _, hAx _ _ _ _ hJ (kk.mono (fun i _ x => ⟨hO i x.1, by have := x.2; omega⟩)), fun i x => x.elim (fun x => Or.inl (hO i x)) Or.inr, Or.inl oB, Or.inl oL⟩
  case hI2 =>
    rintro s O X o' ⟨Oo, hJ, hO, oY, oB, oL, hst⟩ hlt
    refine ⟨_, hA _ _ _ _ hJ ((kp_putG X _ o').mono (fun i _ x => ⟨by rw [x]; exact oL, by omega⟩)), fun i x => Or.inl (hO i x), Or.inl oY, Or.inl oB, Or.inl oL, hst.kp (kp_putG X _ o') (by omega)⟩
  case hIx2 =>
    rintro c s O X o' ⟨rfl, Oo, hJ, hO, oB, oL⟩ hlt
    exact ⟨rfl, _, hAx _ _ _ _ hJ ((kp_putG X _ o').mono (fun i _ x => ⟨by rw [x]; exact oL, by omega⟩)), fun i x => Or.inl (hO i x), Or.inl oB, Or.inl oL⟩
  case h0 =>
    intro r
    have ka : Kp (fun _ => False) W2 ((W2.alloc (.deferred (some []))).alloc (.loop r)) := ((Kp.refl _ _).alloc _).alloc _
    have hsz : ((W2.alloc (.deferred (some []))).alloc (.loop r)).heap.size = W2.heap.size + 1 + 1 := by simp
    refine ⟨_, hA _ _ _ _ J2.out (ka.mono (fun _ _ x => x.elim)), ?_, Or.inl (Or.inr ⟨by omega, by omega⟩), Or.inr ⟨by omega, by omega⟩, Or.inr ⟨by omega, by omega⟩, Y2.out.kp ka (fun x => x)⟩
    rintro i (rfl | rfl | ⟨hp, off, e⟩)
    · exact Or.inl (Or.inr ⟨by omega, by omega⟩)
    · exact Or.inl (Or.inr ⟨by omega, by omega⟩)
    · exact Or.inl (Or.inl (Or.inr (Or.inr ⟨hp, off, e⟩)))
  case hAx =>
    rintro x a' X o' ⟨Be, hBe, hE, rfl⟩
    exact ⟨Be, hBe, hE.kp (kp_putG X _ o') (by omega), rfl⟩
  case assign =>
    intro l' pre O x X Kk hll hsz hi hK
    unfold xenc
    clear hSZ1 hSZ2
    gi_wp2_with (refine wpListIn_store_en (by rfl) (.tmp 5) (.tmp 10) rfl X.heap.size rfl (e := zE) (e' := x.1.2) rfl (Eb.new X zE) ?_; intro X2 b2 j2)
    have k2 : Kp (fun _ => False) X X2 := ((Kp.refl (fun _ => False) X).alloc _).trans j2 (fun i h1 h2 => by omega)
    obtain ⟨Oo, hJ, hO, oY, oB, oL, hst⟩ := hi
    exact hK _ _ (k2.mono (fun _ _ x => x.elim)) ⟨_, hA _ _ _ _ hJ (k2.mono (fun _ _ x => x.elim)), fun i x => Or.inl (hO i x), Or.inl oY, Or.inl oB, Or.inl oL, hst.kp k2 (fun x => x)⟩ ⟨X.heap.size, hsz, b2, rfl⟩
  case body =>
    rintro l' pre O x a' X hll hsz n1 n2 ⟨Oo, hJ, hO, oY, oB, oL, hst⟩ ⟨Be, hBe, hE, rfl⟩ hlen hsp
    have c0 : X.cell? ⟨Y, 0, none⟩ = some (.func (.yield l) #[] #[]) := hst.cell 0
    have HE := hid hE
    have HST := hid hst
    have HOO := hid hO
    have OY := hid oY
    have OB := hid oB
    have OL := hid oL
    clear hE hst hO oY oB oL hSZ1 hSZ2
    cases hq : (!eqE x.1.2 zE) with
    | false =>
      have HQ := hid hq
      clear hq
      gi_wp2_with (first | (refine wpListIn_load_en (by rfl) (.tmp 5) rfl Be rfl HE.out ?_) | (refine wpListIn_ne_en (by rfl) (.tmp 11) (.tmp 12) rfl (h := x.1.2) (k := zE) rfl rfl HQ.out ?_))
      refine ⟨fun _ h => (by cases h), ?_⟩
      gi_wp2_with fail
      exact ⟨Kp.refl _ _, ⟨Oo, by rw [flt_no pre x HQ.out]; exact hJ, HOO.out, OY.out, OB.out, OL.out, HST.out⟩⟩
    | true =>
      have HQ := hid hq
      clear hq
      obtain ⟨fn, tmps, assign, body, hy, hR⟩ := hY (flt pre) Oo x X hJ (Nat.lt_of_le_of_lt (flt_len pre) hlen) (by obtain ⟨j, hj, hm⟩ := hsp; exact ⟨j, pre ++ [x], hj, hm, (flt_yes pre x HQ.out).symm⟩)
      unfold xenc at hy
      have HR := hid hR
      clear hR
      gi_wp2_with (first | (refine wpListIn_load_en (by rfl) (.tmp 5) rfl Be rfl HE.out ?_) | (refine wpListIn_ne_en (by rfl) (.tmp 11) (.tmp 12) rfl (h := x.1.2) (k := zE) rfl rfl HQ.out ?_))
      refine (round_wide HR.out).mono ?_
      rintro ee X3 (⟨rfl, hJ3, hk3⟩ | ⟨rfl, hJx3, hk3⟩)
      · gi_wp2_with fail
        exact ⟨hk3.mono (fun i _ h => ⟨fun x => h (HOO.out i x), fun e => h (by rw [e]; exact OB.out), fun e => h (by rw [e]; exact OL.out)⟩), ⟨Oo, by rw [flt_yes pre x HQ.out]; exact hJ3, HOO.out, OY.out, OB.out, OL.out, HST.out.kp hk3 (fun h => h OY.out)⟩⟩
      · gi_wp2_with fail
        exact ⟨hk3.mono (fun i _ h => ⟨fun x => h (HOO.out i x), fun e => h (by rw [e]; exact OB.out), fun e => h (by rw [e]; exact OL.out)⟩), ⟨rfl, Oo, by rw [flt_yes pre x HQ.out]; exact hJx3, HOO.out, OB.out, OL.out⟩⟩
  case done =>
    rintro D xs O X rfl hS ⟨Oo, hJ, hO, oY, oB, oL, hst⟩ hd
    have J3 := hid (hA _ _ _ _ hJ ((kp_putG X W2.heap.size (.deferred none)).mono (fun i _ x => ⟨by rw [x]; exact oB, by omega⟩)))
    have HS := hid hS
    clear hSZ1 hSZ2 hS hst
    gi_wp2
    refine ⟨by simp, .inl ⟨_, _, rfl, run_takeDeferred hd, ?_⟩⟩
    exact ⟨_, results_none rfl _ _ _, ⟨_, rfl⟩, .inl ⟨_, _, ⟨xs, HS.out, rfl⟩, J3.out⟩⟩
  case stop =>
    rintro D c pre O X rfl ⟨j, hj, hS⟩ ⟨rfl, Oo, hJ, hO, oB, oL⟩ hd
    have J3 := hid (hAx _ _ _ _ hJ ((kp_putG X W2.heap.size (.deferred none)).mono (fun i _ x => ⟨by rw [x]; exact oB, by omega⟩)))
    have HS := hid hS
    clear hSZ1 hSZ2 hS
    gi_wp2
    refine ⟨by simp, .inl ⟨_, _, rfl, run_takeDeferred hd, ?_⟩⟩
    exact ⟨_, results_none rfl _ _ _, ⟨_, rfl⟩, .inr ⟨_, _, ⟨j, pre, hj, HS.out, rfl⟩, J3.out⟩⟩
end Go.Proofs.Ytkmkhjcmgockkaa
