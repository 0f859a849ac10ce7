/- huff: a code's symbols and their codes, told one by one. -/
import Derived.Test.YthpocbpleffdpaaDt
import Derived.Test.YthpocbpleffdpaaDy
import Derived.Test.YthpocbpleffdpaaRk
import Derived.Test.YthpocbpleffdpaaSg
namespace Go.Proofs.Ythpocbpleffdpaa
open Go.RowKit Go.Shelf
attribute [local go_sem] Oper.semAt_some
set_option linter.unusedVariables false
set_option linter.unusedSimpArgs false
/-- A symbol and its code. -/
def am (zs : List Int) (pre : List (Nat × Int)) : List (Nat × Int) := pre.map (fun x => (x.1, (codes zs).getD x.1 0))
theorem am_snoc (zs : List Int) (pre : List (Nat × Int)) (k : Nat) (z : Int) : am zs (pre ++ [(k, z)]) = am zs pre ++ [(k, (codes zs).getD k 0)] := by
  unfold am; rw [List.map_append]; rfl
/-- The blocks that it reads. -/
def ROa (bk g : Nat) (la ca : Option Addr) (zs : List Int) (i : Nat) : Prop := i = bk ∨ i = g ∨ (∃ off, ca = some ⟨i, off, none⟩) ∨ (0 < zs.length ∧ ∃ off, la = some ⟨i, off, none⟩)
/-- Those of them that coded's iterator does not read. -/
def ROb (bk g : Nat) (ca : Option Addr) (i : Nat) : Prop := i = bk ∨ i = g ∨ ∃ off, ca = some ⟨i, off, none⟩
theorem rwide {m m' : Nat} {P : Program} {l l' : Nat} {f : FuncId} {tmps : Array Value} {assign body : Code} {w : World} {R : Ending → World → Prop} (h : RoundIn Fence.wide m P l f tmps assign body w R) : RoundIn (Fence.wide.inRound l') m' P l f tmps assign body w R :=
  ⟨h.1, fun c cs _ => h.2 c cs (fun d hd => by cases hd)⟩
structure AI (w : World) (Ob : Nat → Prop) (zs : List Int) (J : List (Nat × Int) → (Nat → Prop) → World → Prop) (l Y B : Nat) (pre : List (Nat × Int)) (O : Nat → Prop) (X : World) : Prop where
  ex : ∃ Oo, J (am zs pre) Oo X ∧ (∀ i, O i → Oo i) ∧ (∀ i, Ob i → Oo i) ∧ Oo Y ∧ Oo B ∧ Oo (B + 1)
  st : Sc 90 X Y #[.func (.yield l) #[] #[]]
  kr : KR Ob w X
  no : ∀ i, Ob i → ¬ O i
  ny : ¬ O Y
structure AIx (w : World) (Ob : Nat → Prop) (zs : List Int) (Jx : List (Nat × Int) → (Nat → Prop) → World → Prop) (B : Nat) (c : Code) (pre : List (Nat × Int)) (O : Nat → Prop) (X : World) : Prop where
  c : c = .ret
  ex : ∃ Oo, Jx (am zs pre) Oo X ∧ (∀ i, O i → Oo i) ∧ Oo B ∧ Oo (B + 1)
  kr : KR Ob w X
  no : ∀ i, Ob i → ¬ O i
theorem kr_step {Ob O : Nat → Prop} {w X Z : World} (h : KR Ob w X) (hl : ∀ i, Ob i → i < w.heap.size) (kk : Kp O X Z) (hn : ∀ i, Ob i → ¬ O i) : KR Ob w Z := fun i hi => (kk.block i (kr_lt h hi (hl i hi)) (hn i hi)).trans (h i hi)
def g56 (l bk Y g : Nat) (x : Nat × Int) (f : Nat → Value) : Array Value := #[f 0, .pointer (some ⟨bk, 0, none⟩), .pointer (some ⟨Y, 0, none⟩), .int .i64 (x.1 : Int), f 4, f 5, f 6, f 7, f 8, f 9, f 10, f 11, f 12, f 13, f 14, f 15, f 16, f 17, f 18, f 19, f 20, f 21, f 22, f 23]
set_option maxRecDepth 100000 in
set_option maxHeartbeats 4000000 in
theorem all_seq (n : Nat) (hn : 3 ≤ n) (bk g : Nat) (la ca sa : Option Addr) (lc cc sc : Nat) (zs S : List Int) (w : World) (hc : Cd w g la ca sa lc cc sc zs S) (s1 : Sc 53 w bk #[.pointer (some ⟨g, 0, none⟩)]) (hlt : ∀ i, Cdf g la ca sa i → i < w.heap.size) (hbk : ¬ Cdf g la ca sa bk) (hdi : ∀ b off, la = some ⟨b, off, none⟩ → b ≠ g ∧ ∀ off', ca ≠ some ⟨b, off', none⟩) :
    SeqW Fence.wide n Try.prog 56 #[] #[.pointer (some ⟨bk, 0, none⟩)] (fun x : Nat × Int => #[.int .i64 (x.1 : Int), .int .u64 x.2]) (fun ys Y => ys = am zs (cds zs zs.length) ∧ KR (ROa bk g la ca zs) w Y) (fun pre Y => KR (ROa bk g la ca zs) w Y) (fun pre => ∃ k, k < zs.length ∧ pre = am zs (cds zs k) ++ [(k, (codes zs).getD k 0)] ∧ 0 < zs.getD k 0) (ROa bk g la ca zs) w := by
  intro l J Jx W hW hA hAx hY h0
  have hmix : Try.prog.follows .mixedOrders = true := by kernel_rfl
  have LB : Hid (∀ i, ROb bk g ca i → i < w.heap.size) := by
    rintro i (rfl | rfl | ⟨off, e⟩)
    · exact s1.lt
    · exact hlt i (.inl rfl)
    · exact hlt i (.inr ⟨off, .inr (.inl e)⟩)
  have LA : Hid (∀ i, ROa bk g la ca zs i → i < w.heap.size) := by
    rintro i (rfl | rfl | ⟨off, e⟩ | ⟨_, off, e⟩)
    · exact s1.lt
    · exact hlt i (.inl rfl)
    · exact hlt i (.inr ⟨off, .inr (.inl e)⟩)
    · exact hlt i (.inr ⟨off, .inl e⟩)
  have ND : Hid (∀ i off, la = some ⟨i, off, none⟩ → ¬ ROb bk g ca i) := by
    rintro i off e (rfl | rfl | ⟨off', e'⟩)
    · exact hbk (.inr ⟨off, .inl e⟩)
    · exact (hdi i off e).1 rfl
    · exact (hdi i off e).2 off' e'
  have WZ : Hid (w.heap.size ≤ W.heap.size) := hW.size
  have KW : Hid (Kp (fun _ => False) w W) := Kp.of_below hW
  have K0 : Hid (Kp (fun _ => False) W (W.alloc (.cells #[.func (.yield l) #[] #[]] 90))) := (Kp.refl _ _).alloc _
  have Y0 := hid (Sc.new 90 W #[.func (.yield l) #[] #[]])
  have SZ0 : Hid ((W.alloc (.cells #[.func (.yield l) #[] #[]] 90)).heap.size = W.heap.size + 1) := World.size_alloc _ _
  have CW := hid (hc.kpf KW.out (fun _ _ h => h))
  have C1 := hid (CW.out.kpf K0.out (fun _ _ h => h))
  have T1 := (s1.kp KW.out (fun h => h)).kp K0.out (fun h => h)
  have c1 : (W.alloc (.cells #[.func (.yield l) #[] #[]] 90)).cell? ⟨bk, 0, none⟩ = some (.pointer (some ⟨g, 0, none⟩)) := T1.cell 0
  have c2 : (W.alloc (.cells #[.func (.yield l) #[] #[]] 90)).cell? ⟨g, 0, none⟩ = some (.slice la zs.length lc) := C1.out.cell.1
  have CC := hid hc
  have SS1 := hid s1
  have HHL := hid hlt
  clear s1 hW T1 hc hlt
  have h1n : 1 ≤ n := by omega
  refine callsIn_of_wp_marks Try.func56 rfl trivial ?_ rfl
  simp only [Try.ntmps56, List.size_toArray, List.length_cons, List.length_nil, Nat.reduceAdd, Nat.reduceSub, Array.replicate_succ, Array.replicate_zero, List.push_toArray, List.append_toArray, List.nil_append, List.cons_append]
  gi_wp2_with fail
  generalize W.alloc (.cells #[.func (.yield l) #[] #[]] 90) = W1 at *
  refine ⟨trivial, (coded_in Fence.wide _ trivial rfl _ _ _ _).mono ?_⟩
  rintro r W2' ⟨rfl, rfl⟩
  have B2s := cell_new_l W1 (.slice la zs.length lc) 22
  have K1 : Hid (Kp (fun _ => False) W1 (W1.alloc (.cells #[.slice la zs.length lc] 22))) := (Kp.refl _ _).alloc _
  have SZ1 : Hid ((W1.alloc (.cells #[.slice la zs.length lc] 22)).heap.size = W1.heap.size + 1) := World.size_alloc _ _
  generalize W1.alloc (.cells #[.slice la zs.length lc] 22) = W2 at *
  have KA : Hid (Kp (fun _ => False) w W2) := (KW.out.trans K0.out (fun _ _ x => x)).trans K1.out (fun _ _ x => x)
  have KJ : Hid (Kp (fun _ => False) W W2) := K0.out.trans K1.out (fun _ _ x => x)
  have C2 := hid (C1.out.kpf K1.out (fun _ _ h => h))
  have Y2 := hid (Y0.out.kp K1.out (fun x => x))
  have J2 := hid (hA [] _ W W2 h0 (KJ.out.mono (fun _ _ x => x.elim)))
  have KR2 : Hid (KR (ROb bk g ca) w W2) := fun i hi => KA.out.block i (LB.out i hi) (fun h => h)
  have SS := hid (coded_seq (n - 1) (by omega) W1.heap.size la lc zs W2 (by have := CC.out.hl; omega) C2.out.sl (fun hp b off e => by have h1 := HHL.out b (.inr ⟨off, .inl e⟩); have h2 := KA.out.size; omega) (by have := SZ1.out; omega) B2s.1)
  generalize hY0 : W.heap.size = Y at *
  generalize hB1 : W1.heap.size = B1 at *
  have LS : Hid (∀ i, ROc B1 la zs i → i = B1 ∨ i < w.heap.size) := by
    rintro i (rfl | ⟨hp, off, e⟩)
    · exact .inl rfl
    · exact .inr (HHL.out i (.inr ⟨off, .inl e⟩))
  clear c1 c2 B2s
  gi_wp2_with fail
  have hSZ0 := SZ0.out
  have hSZ1 := SZ1.out
  have hWZ := WZ.out
  have LW : Hid (∀ i, ROc B1 la zs i → i < W2.heap.size) := fun i hi => by rcases LS.out i hi with e | e <;> omega
  have ROF : Hid (∀ X, KR (ROc B1 la zs) W2 X → KR (ROb bk g ca) w X → KR (ROa bk g la ca zs) w (X.putObj W2.heap.size (.deferred none))) := by
    intro X hS hkr i hi
    have hiw := LA.out i hi
    have hsz := KA.out.size
    have hX : X.heap[i]? = w.heap[i]? := by
      rcases hi with e | e | e | ⟨hp, off, e⟩
      · exact hkr i (.inl e)
      · exact hkr i (.inr (.inl e))
      · exact hkr i (.inr (.inr e))
      · exact (hS i (.inr ⟨hp, off, e⟩)).trans (KA.out.block i hiw (fun h => h))
    exact (World.putObj_heap_other (by omega)).trans hX
  refine wpIn_rangeFunc_W rfl h1n (gf := 70) (pb := #[]) (lb := #[.pointer (some ⟨B1, 0, none⟩)]) rfl trivial (enters_of Try.func70 (by kernel_rfl) rfl) SS.out ?hS ?hSx
    (fun i h => LW.out i h) (Below.refl _ _) (fun _ => rfl)
    (AI w (ROb bk g ca) zs J l Y W2.heap.size) (AIx w (ROb bk g ca) zs Jx W2.heap.size) ?hI ?hIx ?hI2 ?hIx2 ?h0
    (fun x a' Z => ∃ f', a' = { tmps := g56 l bk Y g x f', defers := [] }) (fun x a' X o' h => h) ?assign ?body ?done ?stop
  case hS =>
    intro xs Z r o' hs hl
    exact ⟨hs.1, fun i hi => ((kp_putO Z (W2.heap.size + 1) o').block i (kr_lt hs.2 hi (LW.out i hi)) (by have := LW.out i hi; omega)).trans (hs.2 i hi)⟩
  case hSx =>
    intro xs Z r o' hs hl
    exact ⟨hs.1, fun i hi => ((kp_putO Z (W2.heap.size + 1) o').block i (kr_lt hs.2 hi (LW.out i hi)) (by have := LW.out i hi; omega)).trans (hs.2 i hi)⟩
  case hI =>
    rintro s O X Z ⟨⟨Oo, hJ, hO, hb, oY, oB, oL⟩, hst, hkr, hno, hny⟩ kk
    have hylt := hst.lt
    refine ⟨⟨_, hA _ _ _ _ hJ (kk.mono (fun i _ x => hO i x)), fun i x => x.elim (fun x => Or.inl (hO i x)) Or.inr, fun i hi => Or.inl (hb i hi), Or.inl oY, Or.inl oB, Or.inl oL⟩, hst.kp kk hny, kr_step hkr LB.out kk hno, fun i hi x => x.elim (hno i hi) (fun x => by have := kr_lt hkr hi (LB.out i hi); omega), fun x => x.elim hny (fun x => by omega)⟩
  case hIx =>
    rintro c s O X Z ⟨rfl, ⟨Oo, hJ, hO, oB, oL⟩, hkr, hno⟩ kk
    exact ⟨rfl, ⟨_, hAx _ _ _ _ hJ (kk.mono (fun i _ x => hO i x)), fun i x => x.elim (fun x => Or.inl (hO i x)) Or.inr, Or.inl oB, Or.inl oL⟩, kr_step hkr LB.out kk hno, fun i hi x => x.elim (hno i hi) (fun x => by have := kr_lt hkr hi (LB.out i hi); omega)⟩
  case hI2 =>
    rintro s O X o' ⟨⟨Oo, hJ, hO, hb, oY, oB, oL⟩, hst, hkr, hno, hny⟩ hlt
    exact ⟨⟨_, hA _ _ _ _ hJ ((kp_putO X _ o').mono (fun i _ x => by rw [x]; exact oL)), fun i x => Or.inl (hO i x), fun i hi => Or.inl (hb i hi), Or.inl oY, Or.inl oB, Or.inl oL⟩, hst.kp (kp_putO X _ o') (by omega), kr_step hkr LB.out (kp_putO X _ o') (fun i hi e => by have := LB.out i hi; have := KA.out.size; omega), hno, hny⟩
  case hIx2 =>
    rintro c s O X o' ⟨rfl, ⟨Oo, hJ, hO, oB, oL⟩, hkr, hno⟩ hlt
    exact ⟨rfl, ⟨_, hAx _ _ _ _ hJ ((kp_putO X _ o').mono (fun i _ x => by rw [x]; exact oL)), fun i x => Or.inl (hO i x), Or.inl oB, Or.inl oL⟩, kr_step hkr LB.out (kp_putO X _ o') (fun i hi e => by have := LB.out i hi; have := KA.out.size; omega), hno⟩
  case h0 =>
    intro r
    have ka : Kp (fun _ => False) W2 ((W2.alloc (.deferred (some []))).alloc (.loop r)) := ((Kp.refl _ _).alloc _).alloc _
    have hsz : ((W2.alloc (.deferred (some []))).alloc (.loop r)).heap.size = W2.heap.size + 1 + 1 := by simp
    refine ⟨⟨_, hA _ _ _ _ J2.out (ka.mono (fun _ _ x => x.elim)), ?_, ?_, Or.inl (Or.inr ⟨by omega, by omega⟩), Or.inr ⟨by omega, by omega⟩, Or.inr ⟨by omega, by omega⟩⟩, Y2.out.kp ka (fun x => x), kr_step KR2.out LB.out ka (fun _ _ h => h), ?_, ?_⟩
    · rintro i (rfl | ⟨hp, off, e⟩)
      · exact Or.inl (Or.inr ⟨by omega, by omega⟩)
      · exact Or.inl (Or.inl (Or.inr (Or.inr (Or.inr ⟨hp, off, e⟩))))
    · rintro i (rfl | rfl | h)
      · exact Or.inl (Or.inl (Or.inl rfl))
      · exact Or.inl (Or.inl (Or.inr (Or.inl rfl)))
      · exact Or.inl (Or.inl (Or.inr (Or.inr (Or.inl h))))
    · rintro i hi (rfl | ⟨hp, off, e⟩)
      · have := LB.out _ hi; omega
      · exact ND.out i off e hi
    · intro h
      rcases LS.out Y h with e | e <;> omega
  case assign =>
    intro l' pre O x X Kk hll hsz hi hK
    obtain ⟨xk, xz⟩ := x
    gi_wp2
    refine hK _ _ (Kp.refl _ _) hi ?_
    exact act_of (by kernel_rfl) rfl
  case body =>
    rintro l' pre O ⟨k, z⟩ a' X hll hsz n1 n2 ⟨⟨Oo, hJ, hO, hb, oY, oB, oL⟩, hst, hkr, hno, hny⟩ ⟨f', rfl⟩ ⟨k', x, hk, hpre, hx, hz⟩
    obtain ⟨e1, e2⟩ := List.append_inj' hpre rfl
    have e3 : ((k, z) : Nat × Int) = (k', zs.getD k' 0) := by simpa [hx] using e2
    simp only [Prod.mk.injEq] at e3
    obtain ⟨rfl, rfl⟩ := e3
    subst e1
    clear e2 hx hpre
    have HP := hid (am_snoc zs (cds zs k) k (zs.getD k 0))
    have KX : Hid (∀ i, ROb bk g ca i → X.heap[i]? = w.heap[i]?) := hkr
    have cy : X.cell? ⟨Y, 0, none⟩ = some (.func (.yield l) #[] #[]) := hst.cell 0
    have cb : X.cell? ⟨bk, 0, none⟩ = some (.pointer (some ⟨g, 0, none⟩)) := (kr_cell (hkr bk (.inl rfl))).trans (SS1.out.cell 0)
    have cg : X.cell? ⟨g, 1, none⟩ = some (.slice ca zs.length cc) := (kr_cell (hkr g (.inr (.inl rfl)))).trans CC.out.cell.2.1
    obtain ⟨gb, off, e0, hcs⟩ := CC.out.sq (by rw [codes_len]; omega)
    have cc0 : X.cell? ⟨gb, off + k, none⟩ = some (.int .u64 ((codes zs).getD k 0)) := (kr_cell (hkr gb (.inr (.inr ⟨off, e0⟩)))).trans (hcs k (by rw [codes_len]; omega))
    have HRB : Hid (∀ i, ROb bk g ca i → Oo i) := hb
    have HYY : Hid (∀ U nq, U = X.drewN nq → YieldAt Fence.wide (n - 1) Try.prog l #[.int .i64 (k : Int), .int .u64 ((codes zs).getD k 0)] U fun e W' => (e = .returned (.bool true) ∧ J (am zs (cds zs k) ++ [(k, (codes zs).getD k 0)]) (fun i => Oo i ∨ (X.heap.size ≤ i ∧ i < U.heap.size)) W' ∧ Kp (fun i => ¬ (Oo i ∨ (X.heap.size ≤ i ∧ i < U.heap.size))) U W') ∨ (e = .returned (.bool false) ∧ Jx (am zs (cds zs k) ++ [(k, (codes zs).getD k 0)]) (fun i => Oo i ∨ (X.heap.size ≤ i ∧ i < U.heap.size)) W' ∧ Kp (fun i => ¬ (Oo i ∨ (X.heap.size ≤ i ∧ i < U.heap.size))) U W')) := by
      rintro U nq rfl
      exact hY (am zs (cds zs k)) _ (k, (codes zs).getD k 0) _ (hA _ _ _ _ hJ (drewN_kp _ X nq)) ⟨k, hk, rfl, hz⟩
    have HST := hid hst
    have HOO := hid hO
    have HKR := hid hkr
    have HNO := hid hno
    have HNY := hid hny
    have OY := hid oY
    have OB := hid oB
    have OL := hid oL
    have hkz : (k : Int) < (zs.length : Int) := by omega
    clear hst hO hkr hno hny oY oB oL hb hSZ0 hSZ1 hWZ hJ hcs KX hz
    generalize (codes zs).getD k 0 = cv at *
    generalize zs.getD k 0 = zv at *
    subst e0
    unfold g56
    gi_wp2_with fail
    refine wpIn_region_two 9 hmix (by kernel_rfl) rfl ?_
    dsimp only [List.take, List.drop]
    repeat (gi_big_quiet_step (fail))
    refine wpQuietIn_nil ?_
    intro U hU
    obtain ⟨nq, hU2⟩ := hU
    obtain ⟨fn, tmps, assign, body, hy, hR⟩ := HYY.out U nq hU2
    have KQ : Hid (Kp (fun _ => False) X U) := by rw [hU2]; exact drewN_kp _ X nq
    have HR := hid hR
    clear hR hU2 cy cb cg cc0
    gi_wp2_with fail
    refine ⟨fun _ => by omega, (rwide HR.out).mono ?_⟩
    rintro ee X3 (⟨rfl, hJ3, hk3⟩ | ⟨rfl, hJx3, hk3⟩)
    · have HJ3 := hid hJ3
      have HK3 := hid hk3
      clear hJ3 hk3
      gi_wp2_with fail
      have k4 := (KQ.out.mono (G := fun i => ¬ (Oo i ∨ (X.heap.size ≤ i ∧ i < U.heap.size))) (fun i _ h => h.elim)).trans HK3.out (fun _ _ h => h)
      exact ⟨k4.mono (fun i _ h => ⟨fun x => h (.inl (HOO.out i x)), fun e => h (.inl (by rw [e]; exact OB.out)), fun e => h (.inl (by rw [e]; exact OL.out))⟩), ⟨⟨fun i => Oo i ∨ (X.heap.size ≤ i ∧ i < U.heap.size), by rw [HP.out]; exact HJ3.out, fun i x => .inl (HOO.out i x), fun i hi => .inl (HRB.out i hi), .inl OY.out, .inl OB.out, .inl OL.out⟩, HST.out.kp k4 (fun h => h (.inl OY.out)), kr_step HKR.out LB.out k4 (fun i hi h => h (.inl (HRB.out i hi))), HNO.out, HNY.out⟩⟩
    · have HJ3 := hid hJx3
      have HK3 := hid hk3
      clear hJx3 hk3
      gi_wp2_with fail
      have k4 := (KQ.out.mono (G := fun i => ¬ (Oo i ∨ (X.heap.size ≤ i ∧ i < U.heap.size))) (fun i _ h => h.elim)).trans HK3.out (fun _ _ h => h)
      exact ⟨k4.mono (fun i _ h => ⟨fun x => h (.inl (HOO.out i x)), fun e => h (.inl (by rw [e]; exact OB.out)), fun e => h (.inl (by rw [e]; exact OL.out))⟩), ⟨rfl, ⟨fun i => Oo i ∨ (X.heap.size ≤ i ∧ i < U.heap.size), by rw [HP.out]; exact HJ3.out, fun i x => .inl (HOO.out i x), .inl OB.out, .inl OL.out⟩, kr_step HKR.out LB.out k4 (fun i hi h => h (.inl (HRB.out i hi))), HNO.out⟩⟩
  case done =>
    rintro D xs O X rfl ⟨rfl, hS⟩ ⟨⟨Oo, hJ, hO, hb, oY, oB, oL⟩, hst, hkr, hno, hny⟩ hd
    have kd := kp_putO X W2.heap.size (.deferred none)
    have J3 := hid (hA _ _ _ _ hJ (kd.mono (fun i _ x => by rw [x]; exact oB)))
    have RR : Hid (KR (ROa bk g la ca zs) w (X.putObj W2.heap.size (.deferred none))) := ROF.out X hS hkr
    clear hSZ0 hSZ1 hWZ hS hst hkr
    gi_wp2
    refine ⟨by simp, .inl ⟨_, _, rfl, run_takeDeferred hd, ?_⟩⟩
    exact ⟨_, results_none rfl _ _ _, ⟨_, rfl⟩, .inl ⟨_, _, ⟨rfl, RR.out⟩, J3.out⟩⟩
  case stop =>
    rintro D c pre O X rfl ⟨_, hS⟩ ⟨rfl, ⟨Oo, hJ, hO, oB, oL⟩, hkr, hno⟩ hd
    have kd := kp_putO X W2.heap.size (.deferred none)
    have J3 := hid (hAx _ _ _ _ hJ (kd.mono (fun i _ x => by rw [x]; exact oB)))
    have RR : Hid (KR (ROa bk g la ca zs) w (X.putObj W2.heap.size (.deferred none))) := ROF.out X hS hkr
    clear hSZ0 hSZ1 hWZ hS hkr
    gi_wp2
    refine ⟨by simp, .inl ⟨_, _, rfl, run_takeDeferred hd, ?_⟩⟩
    exact ⟨_, results_none rfl _ _ _, ⟨_, rfl⟩, .inr ⟨_, _, RR.out, J3.out⟩⟩
end Go.Proofs.Ythpocbpleffdpaa
