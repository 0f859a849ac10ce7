import Derived.Test.YtnccklbnncaeoaaGreatJbb
/- cache: slices.AppendSeq and Collect over pages. -/
namespace Go.Proofs.YtnccklbnncaeoaaGreat
open Go.RowKit Go.Shelf
attribute [local go_sem] Oper.semAt_some
set_option linter.unusedVariables false
set_option linter.unusedSimpArgs false
theorem kp_putC (W : World) (l : Nat) (o' : Obj) : Kp (fun i => i = l) W (W.putObj l o') := ⟨rfl, rfl, rfl, by simp, fun k _ hk => World.putObj_heap_other hk⟩
def mrkc (D : Nat) : Deferred := { target := .collected D, args := #[] }
theorem leaves_marksc {F : Fence} {n : Nat} {fn : Func} {tmps : Array Value} {R : Ending → World → Prop} (D : Nat) (w : World) (hD : w.heap[D]? = some (.deferred (some [])))
    (fin : ∀ w', Kp (fun i => i = D) w w' → LeavesInM F n Tryz.prog fn tmps R [] .returning w') : LeavesInM F n Tryz.prog fn tmps R [mrkc D] .returning w :=
  ⟨by simp, .inl ⟨_, _, rfl, run_takeDeferred hD, fin _ (kp_putC w D (.deferred none))⟩⟩
theorem act_of {E : (Nat → Value) → Array Value} {a : Act} {ds : List Deferred} (ht : a.tmps = E (fun i => a.tmps.getD i undef)) (hd : a.defers = ds) : ∃ f, a = { tmps := E f, defers := ds } :=
  ⟨fun i => a.tmps.getD i undef, by cases a; simp only at ht hd; rw [hd, ← ht]⟩
theorem Tryz.und108 : Tryz.prog.underlying 108 = some (.slice 138) := by kernel_rfl
/-- What AppendSeq's range holds. -/
structure Ai (w : World) (O0 : Nat → Prop) (T D : Nat) (pre : List Nat) (O : Nat → Prop) (Z : World) : Prop where
  kp : Kp O w Z
  bx : ∃ v, St 108 Z T #[v] ∧ Z.ownsRow w.heap.size 138 1 v pre.length (pre.map ptr) ∧ ∀ g, v.ownBlock = some g → ¬ O g ∧ D + 1 < g
  nO : ¬ O T
  on : ∀ i, O i → O0 i ∨ D + 1 < i
  ol : ∀ i, O i → i < Z.heap.size
theorem Ai.abw {w : World} {O0 : Nat → Prop} {T D : Nat} (hT : T < D) : AbW (fun pre O Z => D + 1 < Z.heap.size ∧ Ai w O0 T D pre O Z) := by
  rintro s O X Y ⟨hs, h⟩ k
  obtain ⟨v, h1, h2, h3⟩ := h.bx
  refine ⟨Nat.lt_of_lt_of_le hs k.size, ⟨(h.kp.mono (fun _ _ e => .inl e)).trans k (fun i hi e => .inl e), ⟨v, h1.kp k h.nO, own_kp h2 k (fun g e => (h3 g e).1), fun g e => ⟨fun o => ?_, (h3 g e).2⟩⟩, fun o => ?_, fun i o => ?_, fun i o => o.elim (fun o => Nat.lt_of_lt_of_le (h.ol i o) k.size) (fun o => o.2)⟩⟩
  · rcases o with o | o
    · exact (h3 g e).1 o
    · obtain ⟨cur, h4, _⟩ := ownb h2 e
      have := (Array.getElem?_eq_some_iff.1 h4).1
      omega
  · rcases o with o | o
    · exact h.nO o
    · have := h1.lt; omega
  · rcases o with o | o
    · exact h.on i o
    · exact .inr (by omega)
theorem Ai.put {w : World} {O0 O : Nat → Prop} {T D : Nat} {pre : List Nat} {Z : World} (h : Ai w O0 T D pre O Z) (hT : T < D) (hw : w.heap.size ≤ T) (o' : Obj) : Ai w O0 T D pre O (Z.putObj (D + 1) o') := by
  obtain ⟨v, h1, h2, h3⟩ := h.bx
  have k := kp_putC Z (D + 1) o'
  exact ⟨h.kp.trans k (fun i hi e => by omega), ⟨v, h1.kp k (by omega), own_kp h2 k (fun g e => by have := (h3 g e).2; omega), h3⟩, h.nO, h.on, fun i o => by simpa using h.ol i o⟩
theorem kr_kp {O0 O : Nat → Prop} {w Z : World} (k : Kp O w Z) (h : KR O0 w Z) (ho : ∀ i, i < w.heap.size → O i → O0 i) : Kp (fun _ => False) w Z := ⟨k.os, k.tape, k.output, k.size, fun i hi _ => by
  by_cases e : O i
  · exact h i (ho i hi e)
  · exact k.block i hi e⟩
def a183 (T : Nat) (x : Nat) (f : Nat → Value) : Array Value := #[f 0, f 1, .pointer (some ⟨T, 0, none⟩), f 3, f 4, ptr x, f 6, f 7, f 8, f 9, f 10, f 11, f 12]
theorem load_108 {w : World} {g : Nat} {v : Value} (h : St 108 w g #[v]) : (loadVar 108 ⟨g, 0, none⟩).run Tryz.prog w = .ok v w := by
  have h1 := h.cell 0
  simp at h1
  simp [go_sem, h1]
theorem Tryz.results183 : Tryz.f183.results = #[.tmp 4] := by kernel_rfl
set_option maxRecDepth 100000 in
set_option maxHeartbeats 8000000 in
theorem appseq_any (w : World) (gf : Nat) (lb : Array Value) (en : Enters Tryz.prog gf) (P1 : List Nat → Prop) (Sp : List Nat → Prop) (O0 : Nat → Prop) (hq : SeqW Fence.wide 19 Tryz.prog gf #[] lb (fun b : Nat => #[ptr b]) (fun ys X => P1 ys ∧ KR O0 w X) (fun _ _ => True) Sp O0 w) (hO : ∀ i, O0 i → i < w.heap.size) (hlen : ∀ pre, Sp pre → pre.length ≤ 1000000) :
    Calls Tryz.prog 183 #[.slice none 0 0, .func (.func gf) #[] lb] w fun e w' => ∃ ys v, P1 ys ∧ e = .returned v ∧ w'.ownsRow w.heap.size 138 1 v ys.length (ys.map ptr) ∧ Kp (fun _ => False) w w' := by
  have SQ := hid hq
  have HO := hid hO
  have HL := hid hlen
  clear hq hO hlen
  refine (callsIn_wide (n := 20)).1 ?_
  refine callsIn_of_wp_marks Tryz.func183 rfl trivial ?_ rfl
  simp only [Tryz.ntmps183, List.size_toArray, List.length_cons, List.length_nil, Nat.reduceAdd, Nat.reduceSub, Array.replicate_succ, Array.replicate_zero, List.push_toArray, List.append_toArray, List.nil_append, List.cons_append]
  refine wpIn_wide.2 ?_
  generalize hQ : bodyPostM _ _ _ _ _ = QQ
  go_wp2_with fail
  have n2 := hid (St.new 108 w #[.slice none 0 0])
  have KX : Hid (Kp (fun _ => False) w (w.alloc (.cells #[.slice none 0 0] 108))) := (Kp.refl _ _).alloc _
  have SX : Hid ((w.alloc (.cells #[.slice none 0 0] 108)).heap.size = w.heap.size + 1) := by show _ = _; simp
  generalize w.alloc (.cells #[.slice none 0 0] 108) = X at *
  obtain ⟨T, hT⟩ : ∃ T, T = w.heap.size := ⟨_, rfl⟩
  rw [← hT] at n2 ⊢
  have HT := hid hT
  clear hT
  have hTX : T < X.heap.size := by have := SX.out; have := HT.out; omega
  have hwT : w.heap.size ≤ T := by have := HT.out; omega
  refine (wpIn_wide (n := 20)).1 ?_
  refine wpIn_rangeFunc_W rfl (by omega) (gf := gf) (pb := #[]) (lb := lb) rfl trivial en SQ.out ?hS ?hSx (fun i hi => by have := HO.out i hi; have := SX.out; omega) (KX.out.below (Nat.le_refl _) (fun _ h => h.elim)) (fun _ => rfl)
    (fun pre O Z => X.heap.size + 1 < Z.heap.size ∧ Ai w O0 T X.heap.size pre O Z) (fun _ _ _ _ => False) (Ai.abw hTX) (fun _ _ _ _ _ h _ => h.elim) ?hI2 (fun _ _ _ _ _ h _ => h.elim) ?h0
    (fun x a' Z => ∃ f', a' = { tmps := a183 T x f', defers := [] }) (fun _ _ _ _ h => h) ?assign ?body ?done (fun _ _ _ _ _ _ _ h _ => h.elim)
  case hS =>
    rintro xs Z r o' ⟨h1, h2⟩ hl
    exact ⟨h1, fun i hi => ((kp_putC Z (X.heap.size + 1) o').block i (kr_lt h2 hi (HO.out i hi)) (by have := HO.out i hi; have := SX.out; omega)).trans (h2 i hi)⟩
  case hSx => exact fun _ _ _ _ _ _ => trivial
  case hI2 => exact fun s O Z o' h hlt => ⟨by simpa using h.1, h.2.put hTX hwT o'⟩
  case h0 =>
    intro r
    have ka : Kp (fun _ => False) X ((X.alloc (.deferred (some []))).alloc (.loop r)) := ((Kp.refl _ _).alloc _).alloc _
    exact ⟨by simp, (KX.out.trans ka (fun _ _ h => h)).mono (fun _ _ h => h.elim), ⟨.slice none 0 0, n2.out.kp ka (fun h => h), ⟨rfl, .inl ⟨rfl, rfl⟩⟩, fun g e => by cases e⟩, fun o => by have := HO.out T o; have := HT.out; omega, fun i o => .inl o, fun i o => by have := HO.out i o; have := SX.out; simp; omega⟩
  case assign =>
    intro l' pre O x Z1 Kk hll hsz hi hK
    have HK := hid hK
    have HI := hid hi
    clear hK hi hll
    unfold ptr
    gi_wp2_with fail
    exact HK.out _ _ (Kp.refl _ _) HI.out (act_of (by kernel_rfl) rfl)
  case body =>
    rintro l' pre O x a' Z hll hsz n1 n3 ⟨hi0, hi⟩ ⟨f', rfl⟩ hsp
    have hpl := HL.out _ hsp
    rw [List.length_append, List.length_singleton] at hpl
    obtain ⟨v, h1, h2, h3⟩ := hi.bx
    obtain ⟨ao, cap, hv, hm⟩ : ∃ ao cap, v = .slice ao pre.length cap ∧ True := by
      rcases h2.2 with ⟨e, h0⟩ | ⟨g, cap, cur, rfl, _⟩
      · exact ⟨none, 0, by rw [h0]; exact e, trivial⟩
      · exact ⟨_, cap, rfl, trivial⟩
    subst hv
    have c0 := h1.cell 0
    have f0 := h1.frozen 0
    simp at c0
    have HI := hid hi
    have H1 := hid h1
    have H2 := hid h2
    have H3 := hid h3
    have HSZ := hid hsz
    have HN1 := hid n1
    clear hi h1 h2 h3 hsp hll
    obtain ⟨i0, hi5, hz0, hz1, hz2⟩ := info_parts Tryz.info138
    have KA : Hid (Kp (fun _ => False) Z (Z.alloc (.cells #[ptr x] 138))) := (Kp.refl _ _).alloc _
    have SA : Hid ((Z.alloc (.cells #[ptr x] 138)).heap.size = Z.heap.size + 1) := by show _ = _; simp
    have NA : Hid (St 138 (Z.alloc (.cells #[ptr x] 138)) Z.heap.size #[ptr x]) := St.new 138 Z #[ptr x]
    have OA : Hid ((Z.alloc (.cells #[ptr x] 138)).ownsRow w.heap.size 138 1 (.slice ao pre.length cap) pre.length (pre.map ptr)) := own_kp H2.out KA.out (fun _ _ h => h)
    have HKW := hid HI.out.kp.size
    unfold a183
    unfold ptr at KA SA NA OA ⊢
    gi_wp2_with (first
      | (gi_at_builtin; refine wpListIn_append_own_at _ rfl (.tmp 8) (.tmp 10) 108 rfl w.heap.size 138 i0 (.pointer none) 1 8 Tryz.und108 hi5 hz0 hz1 hz2 rfl (by decide) (.slice ao pre.length cap) pre.length (pre.map (fun b => .pointer (some ⟨b, 0, none⟩))) rfl OA.out ⟨Z.heap.size, 0, none⟩ 1 1 [.pointer (some ⟨x, 0, none⟩)] rfl rfl (fun j u hu => by rw [add_z]; exact (NA.out.cell j).trans (by simpa using hu)) (fun u hu => by simp at hu; subst hu; rfl) (by unfold maxLen; omega) (by omega) (by have := SA.out; have := HKW.out; omega) ?_
         intro v2 w2 O2 G2 _ L2
         obtain ⟨g2, cap2, hv2e⟩ := own_slice O2
         subst hv2e
         have k2 : Kp (fun i => (Value.slice ao pre.length cap).ownBlock = some i) Z w2 := (KA.out.mono (fun _ _ h => h.elim)).trans (Kp.of_grown G2 (fun i e => e)) (fun _ _ e => e)
         have S2 := H1.out.kp k2 (fun e => by obtain ⟨cur, h4, _⟩ := ownb H2.out e; exact apart_types h4 H1.out (by decide))
         have c2 := S2.cell 0
         have f2 := S2.frozen 0
         simp at c2))
    obtain ⟨v2, hv2d⟩ : ∃ v, v = Value.slice (some ⟨g2, 0, none⟩) (pre.length + 1) cap2 := ⟨_, rfl⟩
    rw [← hv2d] at O2 L2 ⊢
    have hv2 : ∀ g, v2.ownBlock = some g → ¬ O g ∧ X.heap.size + 1 < g := by
      intro g e
      rcases L2 with e2 | e2
      · exact H3.out g (e2 ▸ e)
      · rw [e2] at e
        simp only [Option.some.injEq] at e
        have h6 := SA.out
        rw [h6] at e
        refine ⟨fun o => ?_, by omega⟩
        have := HI.out.ol g o
        omega
    have k3 : Kp (fun i => i = T ∨ (Value.slice ao pre.length cap).ownBlock = some i) Z (w2.setCell ⟨T, 0, none⟩ v2) := (k2.mono (fun _ _ e => .inr e)).trans (kp_setCell w2 T 0 v2 (fun i => i = T) rfl) (fun _ _ e => .inl e)
    refine ⟨k3.mono (fun i hi e => ?_), Nat.lt_of_lt_of_le HSZ.out k3.size, HI.out.kp.trans k3 (fun i hi e => ?_), ⟨v2, ?_, ?_, hv2⟩, HI.out.nO, HI.out.on, fun i o => Nat.lt_of_lt_of_le (HI.out.ol i o) k3.size⟩
    · rcases e with rfl | e
      · exact ⟨HI.out.nO, by omega, by omega⟩
      · have := H3.out i e
        exact ⟨this.1, by omega, by omega⟩
    · rcases e with rfl | e
      · omega
      · have := H3.out i e
        omega
    · have := S2.set 0 v2
      simpa using this
    · have h7 : w2.ownsRow w.heap.size 138 1 v2 (pre ++ [x]).length ((pre ++ [x]).map ptr) := by
        rw [List.length_append, List.length_singleton, List.map_append, List.map_singleton]
        exact O2
      exact own_kp h7 (kp_setCell w2 T 0 v2 (fun i => i = T) rfl) (fun g e => by have := (hv2 g e).2; omega)
  case done =>
    rintro D xs O Z hD ⟨hP, hKR⟩ ⟨hi0, hi⟩ hdd
    obtain ⟨v, h1, h2, h3⟩ := hi.bx
    have c0 := h1.cell 0
    simp at c0
    have HI := hid hi
    have HP := hid hP
    have HKR := hid hKR
    have HD := hid hD
    have HDD := hid hdd
    have H2 := hid h2
    have H3 := hid h3
    clear hi hP hKR hD hdd h1 h2 h3
    go_wp2_with fail
    subst hQ
    refine leaves_marksc D _ HDD.out (fun w' k => ⟨_, results_tmp Tryz.results183 _ _ _, xs, _, HP.out, rfl, own_kp H2.out k (fun g e => by have := (H3.out g e).2; have := HD.out; omega), ?_⟩)
    exact (kr_kp HI.out.kp HKR.out (fun i hi o => (HI.out.on i o).elim id (fun e => by have := SX.out; omega))).trans k (fun i hi e => by have := HD.out; have := SX.out; omega)
end Go.Proofs.YtnccklbnncaeoaaGreat
