/- For the walk of BitsPut: step, whatever it is asked; writers that were put aside, and the one that goes on, each beside the reference's bits; what they tell. -/
import Derived.Test.YtfeokjbmobmabaaStepE
namespace Go.Proofs.Ytfeokjbmobmabaa
open Go.RowKit

theorem step_any (g gl : Nat) (sl u : Value) (N v : Nat) (K n : Int) (x : Nat) (aB : Option Addr) (B : List Int) (cB : Nat) (w : World) (h : WL w g gl sl u N v) (hN : N ≤ 1000000) (hB : B.length ≤ 300) (hb : Byt B) (hsrc : Src w aB B) (hnb : aB = none → cB = 0) (hfar : 0 < B.length → ∀ b off, aB = some ⟨b, off, none⟩ → b ≠ g ∧ b ≠ gl ∧ sl.ownBlock ≠ some b ∧ b < w.heap.size) :
    Calls Try.prog 11 #[.pointer (some ⟨g, 0, none⟩), .pointer (some ⟨gl, 0, none⟩), .agg #[.int .i64 K, .int .i64 n, .int .u64 x, .slice aB B.length cB]] w fun e w' => e = .returned (.bool true) ∧ Stp w w' g gl sl u (N + 2400) := by
  by_cases hf : Fits x n
  · obtain ⟨h0, h57, hx⟩ := hf
    obtain ⟨m, rfl⟩ := Int.eq_ofNat_of_zero_le h0
    have hm : m ≤ 57 := by omega
    have hx' : x < 2 ^ m := by simpa using hx
    by_cases k0 : K = 0
    · subst k0; exact step_put0_ok g gl sl u N v x m aB B.length cB w h hN hm hx'
    by_cases k1 : K = 1
    · subst k1; exact step_put1_ok g gl sl u N v x m aB B.length cB w h hN hm hx'
    by_cases k2 : K = 2
    · subst k2; exact step_code_ok g gl sl u N v x m aB B.length cB w h hN hm hx'
    by_cases k3 : K = 3
    · subst k3; exact step_align g gl sl u N v m x aB B.length cB w h hN
    by_cases k4 : K = 4
    · subst k4
      by_cases h8 : N % 8 = 0
      · exact step_raw_ok g gl sl u N v m x aB B cB w h hN h8 hB hb hsrc hnb hfar
      · exact step_raw_odd g gl sl u N v m x aB B cB w h hN h8 hB hb hsrc hnb hfar
    exact step_none g gl sl u N v K m x aB B.length cB w h k0 k1 k2 k3 k4
  · by_cases k0 : K = 0
    · subst k0; exact step_put0_bad g gl sl u N v x n aB B.length cB w h hf
    by_cases k1 : K = 1
    · subst k1; exact step_put1_bad g gl sl u N v x n aB B.length cB w h hf
    by_cases k2 : K = 2
    · subst k2; exact step_code_bad g gl sl u N v x n aB B.length cB w h hf
    by_cases k3 : K = 3
    · subst k3; exact step_align g gl sl u N v n x aB B.length cB w h hN
    by_cases k4 : K = 4
    · subst k4
      by_cases h8 : N % 8 = 0
      · exact step_raw_ok g gl sl u N v n x aB B cB w h hN h8 hB hb hsrc hnb hfar
      · exact step_raw_odd g gl sl u N v n x aB B cB w h hN h8 hB hb hsrc hnb hfar
    exact step_none g gl sl u N v K n x aB B.length cB w h k0 k1 k2 k3 k4

/-- A writer beside the reference's bits. -/
structure OW (w : World) (g : Nat) (sl u : Value) (N v : Nat) : Prop where
  wr : Wr w g sl N v
  own : OwnI w 0 u (dig 2 v N)
  ap : ∀ b, u.ownBlock = some b → sl.ownBlock ≠ some b
theorem WL.ow {w : World} {g gl : Nat} {sl u : Value} {N v : Nat} (h : WL w g gl sl u N v) : OW w g sl u N v := ⟨h.wr, h.own, h.ap⟩
theorem OW.ok {w w' : World} {g : Nat} {sl u : Value} {N v : Nat} (h : OW w g sl u N v) (k : Ok' w w') : OW w' g sl u N v := ⟨h.wr.ok k, h.own.kp k (fun _ _ x => x), h.ap⟩
theorem OW.kp {F : Nat → Prop} {w w' : World} {g : Nat} {sl u : Value} {N v : Nat} (h : OW w g sl u N v) (k : Kp F w w') (hg : ¬ F g) (hs : ∀ b, sl.ownBlock = some b → ¬ F b) (hu : ∀ b, u.ownBlock = some b → ¬ F b) : OW w' g sl u N v := ⟨h.wr.kp k hg hs, h.own.kp k hu, h.ap⟩
theorem OW.tell {w : World} {g : Nat} {sl u : Value} {N v : Nat} (h : OW w g sl u N v) (hN : N ≤ 1000000) : ∃ ao cap MB zs, u = .slice ao N cap ∧ zs.length = MB ∧
    (∀ w', OW w' g sl u N v → Calls Try.prog 12 #[.pointer (some ⟨g, 0, none⟩)] w' fun e w2 => e = .returned (.int .i64 N) ∧ Ok' w' w2) ∧
    (∀ w', OW w' g sl u N v → Calls Try.prog 14 #[.pointer (some ⟨g, 0, none⟩)] w' fun e w2 => ∃ G, e = .returned (.slice (some ⟨G, 0, none⟩) MB MB) ∧ Src w2 (some ⟨G, 0, none⟩) zs ∧ Ok' w' w2) ∧
    (∀ w', OW w' g sl u N v → Calls Try.prog 15 #[.slice ao N cap] w' fun e w2 => ∃ a c, e = .returned (.slice a MB c) ∧ Src w2 a zs ∧ Ok' w' w2) := by
  obtain ⟨ao, cap, hu, hnil⟩ := h.own.slice
  rw [dig_length] at hu
  refine ⟨ao, cap, (N + 7) / 8, dig 256 v ((N + 7) / 8), hu, dig_length _ _ _, fun w' h' => ?_, fun w' h' => ?_, fun w' h' => ?_⟩
  · exact len_any g sl N v w' (by omega) h'.wr
  · refine (bytes_any g sl N v w' (by omega) h'.wr).mono ?_
    rintro e w2 ⟨G, rfl, _, r, k⟩
    exact ⟨G, rfl, r.src, k⟩
  · have ho := h'.own
    rw [hu] at ho
    have hc : N ≤ cap := by
      rcases ho with ⟨h1, h2⟩ | ⟨g', c', tl, e, _, _, h3, _⟩
      · have := congrArg List.length h2; rw [dig_length] at this; simp at this; omega
      · injection e with _ _ e3
        have := congrArg List.length (show dig 2 v N ++ tl = dig 2 v N ++ tl from rfl)
        rw [List.length_append, dig_length] at h3
        omega
    refine (rbytes_any ao cap N v w' (by omega) h'.wr.1 hc ho.src.1).mono ?_
    rintro e w2 ⟨y, rfl, oy, b⟩
    obtain ⟨a, c, rfl, _⟩ := oy.slice
    rw [dig_length] at oy ⊢
    exact ⟨a, c, rfl, oy.src.1, Kp.of_below b⟩

abbrev OldW : Type := Nat × Value × Value × Nat × Nat
/-- Two writers share nothing, nor does one hold the other's reference bits. -/
def Rel (a b : OldW) : Prop := a.1 ≠ b.1 ∧ (∀ x, a.2.1.ownBlock = some x → b.2.1.ownBlock ≠ some x) ∧ (∀ x, a.2.2.1.ownBlock = some x → b.2.1.ownBlock ≠ some x) ∧ (∀ x, b.2.2.1.ownBlock = some x → a.2.1.ownBlock ≠ some x)
def OWq (w : World) (q : OldW) : Prop := OW w q.1 q.2.1 q.2.2.1 q.2.2.2.1 q.2.2.2.2
theorem OWq.lt {w : World} {q : OldW} (h : OWq w q) : q.1 < w.heap.size ∧ (∀ b, q.2.1.ownBlock = some b → b < w.heap.size) ∧ (∀ b, q.2.2.1.ownBlock = some b → b < w.heap.size) :=
  ⟨h.wr.2.1.lt, fun b e => (h.wr.2.2.1.lt b e).2, fun b e => (h.own.lt b e).2⟩
/-- A writer is kept while another one, that shares nothing with it, is turned. -/
theorem OWq.apart {w w' : World} {q r : OldW} (h : OWq w q) (hr : OWq w r) (hR : Rel q r) {gl : Nat} (hgl : Ty w gl 26) (k : Kp (fun i => i = r.1 ∨ i = gl ∨ r.2.1.ownBlock = some i) w w') : OWq w' q := by
  have t1 := h.wr.ty
  have t2 := hr.wr.ty
  refine h.kp k ?_ ?_ ?_
  · rintro (e | e | e)
    · exact hR.1 e
    · rw [e] at t1; exact absurd (Ty.ne t1 hgl) (by decide)
    · exact absurd (Ty.ne t1 (hr.wr.tyb e)) (by decide)
  · rintro b hb (e | e | e)
    · subst e; exact absurd (Ty.ne t2 (h.wr.tyb hb)) (by decide)
    · subst e; exact absurd (Ty.ne hgl (h.wr.tyb hb)) (by decide)
    · exact hR.2.1 b hb e
  · rintro b hb (e | e | e)
    · subst e; exact absurd (Ty.ne t2 (ownI_ty h.own hb)) (by decide)
    · subst e; exact absurd (Ty.ne hgl (ownI_ty h.own hb)) (by decide)
    · exact hR.2.2.1 b hb e
theorem ownsRow_kp2 {F : Nat → Prop} {w w' : World} {base : Nat} {e : TypeId} {size : Nat} {v : Value} {n : Nat} {xs : List Value} (h : w.ownsRow base e size v n xs) (k : Kp F w w') (hF : ∀ b, base ≤ b → Ty w b e → ¬ F b) : w'.ownsRow base e size v n xs := by
  refine ⟨h.1, ?_⟩
  rcases h.2 with hn | ⟨g, cap, cur, rfl, hb, hgg, rest⟩
  · exact .inl hn
  · refine .inr ⟨g, cap, cur, rfl, hb, ?_, rest⟩
    rw [k.block g (Array.getElem?_eq_some_iff.1 hgg).1 (hF g hb ⟨_, _, hgg⟩)]
    exact hgg
def wps (l : List OldW) : List Value := l.map fun q => .pointer (some ⟨q.1, 0, none⟩)
def wus (l : List OldW) : List Value := l.map fun q => q.2.2.1
theorem wps_snoc (l : List OldW) (q : OldW) : wps l ++ [.pointer (some ⟨q.1, 0, none⟩)] = wps (l ++ [q]) := by simp [wps]
theorem wus_snoc (l : List OldW) (q : OldW) : wus l ++ [q.2.2.1] = wus (l ++ [q]) := by simp [wus]

/-- What is carried from step to step. -/
structure PS (w0 w : World) (gl : Nat) (l lo lw : List OldW) (g : Nat) (sl u : Value) (N v M : Nat) (ov wv : Value) : Prop where
  cur : WL w g gl sl u N v
  old : ∀ q ∈ l, OWq w q
  rc : ∀ q ∈ l, Rel q (g, sl, u, N, v)
  pw : l.Pairwise Rel
  hM : N ≤ M ∧ ∀ q ∈ l, q.2.2.2.1 ≤ M
  hg : w0.heap.size ≤ g ∧ w0.heap.size ≤ gl ∧ ∀ b, sl.ownBlock = some b → w0.heap.size ≤ b
  hq : ∀ q ∈ l, w0.heap.size ≤ q.1 ∧ ∀ b, q.2.1.ownBlock = some b → w0.heap.size ≤ b
  k : Ok' w0 w
  ho : w.ownsRow w0.heap.size 24 1 ov lo.length (wps lo)
  hw : w.ownsRow (gl + 1) 26 1 wv lw.length (wus lw)
section
variable {w0 w w' : World} {gl : Nat} {l lo lw : List OldW} {g : Nat} {sl u : Value} {N v M : Nat} {ov wv : Value}
theorem PS.ok (h : PS w0 w gl l lo lw g sl u N v M ov wv) (k : Ok' w w') : PS w0 w' gl l lo lw g sl u N v M ov wv :=
  ⟨h.cur.ok k, fun q hq => (h.old q hq).ok k, h.rc, h.pw, h.hM, h.hg, h.hq, h.k.trans k (fun _ _ x => x), ownsRow_kp h.ho k (fun _ x => x.elim), ownsRow_kp h.hw k (fun _ x => x.elim)⟩
theorem PS.tgl (h : PS w0 w gl l lo lw g sl u N v M ov wv) : Ty w gl 26 := ⟨_, _, h.cur.st⟩
theorem PS.step (h : PS w0 w gl l lo lw g sl u N v M ov wv) {M' : Nat} (hs : Stp w w' g gl sl u M') (hMM : M ≤ M') : ∃ sl' u' N' v', PS w0 w' gl l lo lw g sl' u' N' v' M' ov wv := by
  obtain ⟨sl', u', N', v', hw', hN', k, f1, f2⟩ := hs
  refine ⟨sl', u', N', v', hw', fun q hq => OWq.apart (r := (g, sl, u, N, v)) (h.old q hq) h.cur.ow (h.rc q hq) h.tgl k, fun q hq => ?_, h.pw, ⟨hN', fun q hq => Nat.le_trans (h.hM.2 q hq) hMM⟩, ⟨h.hg.1, h.hg.2.1, fun b hb => ?_⟩, h.hq, h.k.trans k ?_, ownsRow_kp2 h.ho k ?_, ownsRow_kp2 h.hw k ?_⟩
  · obtain ⟨r1, r2, r3, r4⟩ := h.rc q hq
    obtain ⟨l1, l2, l3⟩ := (h.old q hq).lt
    refine ⟨r1, fun x hx e => ?_, fun x hx e => ?_, fun x hx e => ?_⟩
    · rcases f1 x e with y | y
      · exact r2 x hx y
      · have := l2 x hx; omega
    · rcases f1 x e with y | y
      · exact r3 x hx y
      · have := l3 x hx; omega
    · rcases f2 x hx with y | y
      · exact r4 x y e
      · have := l2 x e; omega
  · rcases f1 b hb with y | y
    · exact h.hg.2.2 b y
    · exact Nat.le_trans h.k.size y
  · rintro i hi (e | e | e)
    · have := h.hg.1; omega
    · have := h.hg.2.1; omega
    · have := h.hg.2.2 i e; omega
  · rintro b hb ht (e | e | e)
    · subst e; exact absurd (Ty.ne ht h.cur.wr.ty) (by decide)
    · subst e; exact absurd (Ty.ne ht h.tgl) (by decide)
    · exact absurd (Ty.ne ht (h.cur.wr.tyb e)) (by decide)
  · rintro b hb ht (e | e | e)
    · subst e; exact absurd (Ty.ne ht h.cur.wr.ty) (by decide)
    · omega
    · exact absurd (Ty.ne ht (h.cur.wr.tyb e)) (by decide)
theorem PS.grow (h : PS w0 w gl l lo lw g sl u N v M ov wv) {F : Nat → Prop} (k : Kp F w w') (hF : ∀ b, F b → w0.heap.size ≤ b ∧ ¬ b = gl ∧ (Ty w b 24 ∨ Ty w b 26)) :
    WL w' g gl sl u N v ∧ (∀ q ∈ l, OWq w' q) ∧ Ok' w0 w' := by
  have n29 : ∀ b, Ty w b 29 → ¬ F b := fun b ht hf => by
    rcases (hF b hf).2.2 with x | x <;> exact absurd (Ty.ne ht x) (by decide)
  have n5 : ∀ b, Ty w b 5 → ¬ F b := fun b ht hf => by
    rcases (hF b hf).2.2 with x | x <;> exact absurd (Ty.ne ht x) (by decide)
  have ngl : ¬ F gl := fun hf => (hF gl hf).2.1 rfl
  refine ⟨⟨h.cur.wr.kp k (n29 _ h.cur.wr.ty) (fun b hb => n5 b (h.cur.wr.tyb hb)), h.cur.st.kp k ngl, h.cur.own.kp k (fun b hb => n5 b (ownI_ty h.cur.own hb)), h.cur.ap⟩, fun q hq => ?_, h.k.trans k (fun i hi hf => ?_)⟩
  · have hq' := h.old q hq
    exact hq'.kp k (n29 _ hq'.wr.ty) (fun b hb => n5 b (hq'.wr.tyb hb)) (fun b hb => n5 b (ownI_ty hq'.own hb))
  · have := (hF i hf).1; omega
theorem PS.push1 (h : PS w0 w gl l lo lw g sl u N v M ov wv) {x ov' : Value} (hgr : (w.alloc (.cells #[x] 24)).grownBy w' ov.ownBlock) (q : OldW) (ho : w'.ownsRow w0.heap.size 24 1 ov' (lo.length + 1) (wps (lo ++ [q]))) : PS w0 w' gl l (lo ++ [q]) lw g sl u N v M ov' wv := by
  have K : Kp (fun i => ov.ownBlock = some i) w w' := ((Kp.refl _ w).alloc _).grown hgr (fun _ _ x => x)
  have hF : ∀ b, ov.ownBlock = some b → w0.heap.size ≤ b ∧ ¬ b = gl ∧ (Ty w b 24 ∨ Ty w b 26) := fun b hb => by
    have ht := ty_own' h.ho hb
    refine ⟨(World.ownsRow.lt h.ho b hb).1, fun e => ?_, .inl ht⟩
    subst e; exact absurd (Ty.ne ht h.tgl) (by decide)
  obtain ⟨c, o, kk⟩ := h.grow K hF
  refine ⟨c, o, h.rc, h.pw, h.hM, h.hg, h.hq, kk, by simpa using ho, ownsRow_kp2 h.hw K (fun b _ ht e => absurd (Ty.ne ht (ty_own' h.ho e)) (by decide))⟩
theorem PS.push2 (h : PS w0 w gl l lo lw g sl u N v M ov wv) {x wv' : Value} (hgr : (w.alloc (.cells #[x] 26)).grownBy w' wv.ownBlock) (q : OldW) (hw : w'.ownsRow (gl + 1) 26 1 wv' (lw.length + 1) (wus (lw ++ [q]))) : PS w0 w' gl l lo (lw ++ [q]) g sl u N v M ov wv' := by
  have K : Kp (fun i => wv.ownBlock = some i) w w' := ((Kp.refl _ w).alloc _).grown hgr (fun _ _ x => x)
  have hF : ∀ b, wv.ownBlock = some b → w0.heap.size ≤ b ∧ ¬ b = gl ∧ (Ty w b 24 ∨ Ty w b 26) := fun b hb => by
    have h1 := (World.ownsRow.lt h.hw b hb).1
    have h2 := h.hg.2.1
    exact ⟨by omega, by omega, .inr (ty_own' h.hw hb)⟩
  obtain ⟨c, o, kk⟩ := h.grow K hF
  refine ⟨c, o, h.rc, h.pw, h.hM, h.hg, h.hq, kk, ownsRow_kp2 h.ho K (fun b _ ht e => absurd (Ty.ne ht (ty_own' h.hw e)) (by decide)), by simpa using hw⟩
theorem PS.copy (h : PS w0 w gl l (l ++ [(g, sl, u, N, v)]) (l ++ [(g, sl, u, N, v)]) g sl u N v M ov wv) (k : Ok' w w') {g' : Nat} {sl' : Value} (hg' : w.heap.size ≤ g') (hsl : ∀ b, sl'.ownBlock = some b → w.heap.size ≤ b) (hr : Wr w' g' sl' N v) :
    PS w0 w' gl (l ++ [(g, sl, u, N, v)]) (l ++ [(g, sl, u, N, v)]) (l ++ [(g, sl, u, N, v)]) g' sl' u N v M ov wv := by
  have h1 := h.ok k
  have hult : ∀ b, u.ownBlock = some b → b < w.heap.size := fun b e => (h.cur.own.lt b e).2
  have hglt := h.cur.wr.2.1.lt
  refine ⟨⟨hr, h1.cur.st, h1.cur.own, fun b hb e => ?_⟩, fun q hq => ?_, fun q hq => ?_, ?_, ⟨h.hM.1, fun q hq => ?_⟩, ⟨Nat.le_trans h.k.size hg', h.hg.2.1, fun b hb => Nat.le_trans h.k.size (hsl b hb)⟩, fun q hq => ?_, h1.k, h1.ho, h1.hw⟩
  · have := hult b hb; have := hsl b e; omega
  · rcases List.mem_append.1 hq with hq | hq
    · exact h1.old q hq
    · obtain rfl : q = (g, sl, u, N, v) := by simpa using hq
      exact h1.cur.ow
  · rcases List.mem_append.1 hq with hq | hq
    · obtain ⟨l1, l2, l3⟩ := (h.old q hq).lt
      obtain ⟨r1, r2, r3, r4⟩ := h.rc q hq
      refine ⟨fun e => ?_, fun x hx e => ?_, fun x hx e => ?_, fun x hx e => ?_⟩
      · have e' : q.1 = g' := e; omega
      · have := l2 x hx; have := hsl x e; omega
      · have := l3 x hx; have := hsl x e; omega
      · exact r4 x hx e
    · obtain rfl : q = (g, sl, u, N, v) := by simpa using hq
      refine ⟨fun e => ?_, fun x hx e => ?_, fun x hx e => ?_, fun x hx e => ?_⟩
      · have e' : g = g' := e; omega
      · have := h.cur.slt x hx; have := hsl x e; omega
      · have := hult x hx; have := hsl x e; omega
      · exact h.cur.ap x hx e
  · refine List.pairwise_append.2 ⟨h.pw, List.pairwise_singleton _ _, fun a ha b hb => ?_⟩
    obtain rfl : b = (g, sl, u, N, v) := by simpa using hb
    exact h.rc a ha
  · rcases List.mem_append.1 hq with hq | hq
    · exact h.hM.2 q hq
    · obtain rfl : q = (g, sl, u, N, v) := by simpa using hq
      exact h.hM.1
  · rcases List.mem_append.1 hq with hq | hq
    · exact h.hq q hq
    · obtain rfl : q = (g, sl, u, N, v) := by simpa using hq
      exact ⟨h.hg.1, h.hg.2.2⟩
end

/-- What is carried from one writer that was put aside to the next; 'r': those that are still to be asked. -/
structure P2 (w0 w : World) (gl : Nat) (l r : List OldW) (g : Nat) (sl u : Value) (N v M : Nat) (ov wv : Value) : Prop where
  cur : WL w g gl sl u N v
  old : ∀ q ∈ r, OWq w q
  rc : ∀ q ∈ r, Rel q (g, sl, u, N, v)
  pw : r.Pairwise Rel
  hM : N ≤ M ∧ ∀ q ∈ r, q.2.2.2.1 ≤ M
  hq : ∀ q ∈ r, w0.heap.size ≤ q.1 ∧ ∀ b, q.2.1.ownBlock = some b → w0.heap.size ≤ b
  k : Ok' w0 w
  ho : w.ownsRow w0.heap.size 24 1 ov l.length (wps l)
  hw : w.ownsRow (gl + 1) 26 1 wv l.length (wus l)
section
variable {w0 w w' : World} {gl : Nat} {l r : List OldW} {g : Nat} {sl u : Value} {N v M : Nat} {ov wv : Value}
theorem PS.p2 (h : PS w0 w gl l l l g sl u N v M ov wv) : P2 w0 w gl l l g sl u N v M ov wv := ⟨h.cur, h.old, h.rc, h.pw, h.hM, h.hq, h.k, h.ho, h.hw⟩
theorem P2.ok (h : P2 w0 w gl l r g sl u N v M ov wv) (k : Ok' w w') : P2 w0 w' gl l r g sl u N v M ov wv :=
  ⟨h.cur.ok k, fun q hq => (h.old q hq).ok k, h.rc, h.pw, h.hM, h.hq, h.k.trans k (fun _ _ x => x), ownsRow_kp h.ho k (fun _ x => x.elim), ownsRow_kp h.hw k (fun _ x => x.elim)⟩
theorem P2.put {q : OldW} (h : P2 w0 w gl l (q :: r) g sl u N v M ov wv) (k : Kp (fun i => i = q.1 ∨ q.2.1.ownBlock = some i) w w') : P2 w0 w' gl l r g sl u N v M ov wv := by
  have hq0 := h.old q (by simp)
  have hR := h.rc q (by simp)
  have hgl : Ty w gl 26 := ⟨_, _, h.cur.st⟩
  obtain ⟨p1, p2⟩ := List.pairwise_cons.1 h.pw
  have k' : Kp (fun i => i = q.1 ∨ i = gl ∨ q.2.1.ownBlock = some i) w w' := k.mono (fun i _ x => by rcases x with x | x; exact .inl x; exact .inr (.inr x))
  have symm : ∀ a b : OldW, Rel a b → Rel b a := fun a b ⟨a1, a2, a3, a4⟩ => ⟨fun e => a1 e.symm, fun x hx e => a2 x e hx, a4, a3⟩
  have hc : OWq w (g, sl, u, N, v) := h.cur.ow
  have hc' := hc.apart hq0 (symm _ _ hR) hgl k'
  refine ⟨⟨hc'.wr, h.cur.st.kp k ?_, hc'.own, hc'.ap⟩, fun a ha => (h.old a (by simp [ha])).apart hq0 (symm _ _ (p1 a ha)) hgl k', fun a ha => h.rc a (by simp [ha]), p2, ⟨h.hM.1, fun a ha => h.hM.2 a (by simp [ha])⟩, fun a ha => h.hq a (by simp [ha]), h.k.trans k (fun i hi e => ?_), ownsRow_kp h.ho k ?_, ownsRow_kp h.hw k ?_⟩
  · rintro (e | e)
    · rw [e] at hgl; exact absurd (Ty.ne hgl hq0.wr.ty) (by decide)
    · exact absurd (Ty.ne hgl (hq0.wr.tyb e)) (by decide)
  · obtain ⟨h1, h2⟩ := h.hq q (by simp)
    rcases e with e | e
    · omega
    · have := h2 i e; omega
  · rintro b (e | e) ht
    · rw [e] at ht; exact absurd (Ty.ne ht hq0.wr.ty) (by decide)
    · exact absurd (Ty.ne ht (hq0.wr.tyb e)) (by decide)
  · rintro b (e | e) ht
    · rw [e] at ht; exact absurd (Ty.ne ht hq0.wr.ty) (by decide)
    · exact absurd (Ty.ne ht (hq0.wr.tyb e)) (by decide)
theorem P2.cells (h : P2 w0 w gl l r g sl u N v M ov wv) (hl : 0 < l.length) : ∃ bo co bw cw, ov = .slice (some ⟨bo, 0, none⟩) l.length co ∧ wv = .slice (some ⟨bw, 0, none⟩) l.length cw := by
  rcases h.ho.2 with ⟨_, h2⟩ | ⟨bo, co, _, h2, _⟩
  · omega
  · rcases h.hw.2 with ⟨_, h4⟩ | ⟨bw, cw, _, h4, _⟩
    · omega
    · exact ⟨bo, co, bw, cw, h2, h4⟩
theorem P2.cell1 {bo co : Nat} (h : P2 w0 w gl l r g sl u N v M (.slice (some ⟨bo, 0, none⟩) l.length co) wv) (j : Nat) (hj : j < l.length) : w.cell? ⟨bo, j, none⟩ = some (.pointer (some ⟨(l[j]).1, 0, none⟩)) := by
  rw [h.ho.cellAt j (by omega)]
  simp [wps, hj]
theorem P2.cell2 {bw cw : Nat} (h : P2 w0 w gl l r g sl u N v M ov (.slice (some ⟨bw, 0, none⟩) l.length cw)) (j : Nat) (hj : j < l.length) : w.cell? ⟨bw, j, none⟩ = some (l[j]).2.2.1 := by
  rw [h.hw.cellAt j (by omega)]
  simp [wus, hj]
theorem P2.len1 (h : P2 w0 w gl l r g sl u N v M ov wv) : ∃ ao co, ov = .slice ao l.length co := by
  rcases h.ho.2 with ⟨h1, h2⟩ | ⟨bo, co, _, h2, _⟩
  · exact ⟨none, 0, by rw [h1, h2]⟩
  · exact ⟨_, _, h2⟩
end
/-- A script: each step of four cells, and the bytes that it leads to. -/
def Scr4 (w : World) (ao : Option Addr) (L : Nat) (K N : Nat → Int) (X : Nat → Nat) (A : Nat → Option Addr) (Bs : Nat → List Int) (C : Nat → Nat) : Prop := 0 < L → ∃ b off, ao = some ⟨b, off, none⟩ ∧ ∀ i, i < L →
  (w.cell? ⟨b, off + i * 4, none⟩ = some (.int .i64 (K i)) ∧ w.cell? ⟨b, off + i * 4 + 1, none⟩ = some (.int .i64 (N i)) ∧ w.cell? ⟨b, off + i * 4 + 2, none⟩ = some (.int .u64 (X i : Int)) ∧ w.cell? ⟨b, off + i * 4 + 3, none⟩ = some (.slice (A i) (Bs i).length (C i))) ∧ Src w (A i) (Bs i) ∧ Byt (Bs i) ∧ (A i = none → C i = 0)
end Go.Proofs.Ytfeokjbmobmabaa
