/- A store in memory. -/
import Derived.Test.YtlnknkeagonmpaaGreatSp
namespace Go.Proofs.YtlnknkeagonmpaaGreat
open Go.RowKit

structure Gf where
  sz : Nat
  L : Nat → Int
  ps : List (Nat × List Int)
abbrev Fe := ByteArray × Fa × Gf
/-- What came of a call that may write own. -/
structure Wk (D : Nat → Prop) (w : World) (own : List Nat) (W : World) (D' : Nat → Prop) (own' : List Nat) : Prop where
  k : Kp (fun i => i ∈ own) w W
  o : ∀ i, i ∈ own' → i ∈ own ∨ w.heap.size ≤ i
  d : ∀ i, D i → D' i
  e : ∀ i, D' i → D i ∨ w.heap.size ≤ i
theorem Wk.refl (D : Nat → Prop) (w : World) (own : List Nat) : Wk D w own w D own := ⟨Kp.refl _ _, fun _ h => .inl h, fun _ h => h, fun _ h => .inl h⟩
theorem Wk.trans {D D' D'' : Nat → Prop} {w W X : World} {own own' own'' : List Nat} (h : Wk D w own W D' own') (k : Wk D' W own' X D'' own'') : Wk D w own X D'' own'' :=
  ⟨h.k.trans k.k (fun i hi x => (h.o i x).elim id (fun y => by omega)), fun i hi => (k.o i hi).elim (fun x => h.o i x) (fun x => .inr (Nat.le_trans h.k.size x)), fun i hi => k.d i (h.d i hi), fun i hi => (k.e i hi).elim (fun x => h.e i x) (fun x => .inr (Nat.le_trans h.k.size x))⟩
theorem Wk.kp {D : Nat → Prop} {w W X : World} {own own' : List Nat} {D' : Nat → Prop} (h : Wk D w own W D' own') (k : Kp (fun _ => False) W X) : Wk D w own X D' own' :=
  ⟨h.k.trans k (fun _ _ x => x.elim), h.o, h.d, h.e⟩

def fget : List Fe → ByteArray → Option Fe
  | [], _ => none
  | f :: fs, s => if s = f.1 then some f else fget fs s
def fptr (f : Fe) : Value := .pointer (some ⟨f.2.1.fb, 0, none⟩)
theorem mget_fs {es : List (ByteArray × Value × Nat)} {fs : List Fe} (h : es.map (fun e => (e.1, e.2.1)) = fs.map (fun f => (f.1, fptr f))) (s : ByteArray) : mget es s = (fget fs s).map fptr := by
  induction es generalizing fs with
  | nil =>
    cases fs with
    | nil => rfl
    | cons f fs => simp at h
  | cons e es ih =>
    cases fs with
    | nil => simp at h
    | cons f fs =>
      simp only [List.map_cons, List.cons.injEq, Prod.mk.injEq] at h
      unfold mget fget
      rw [h.1.1]
      by_cases hs : s = f.1
      · rw [if_pos hs, if_pos hs, h.1.2]; rfl
      · rw [if_neg hs, if_neg hs, ih h.2]
theorem fget_split {fs : List Fe} {s : ByteArray} {f : Fe} (h : fget fs s = some f) : ∃ l r, fs = l ++ f :: r ∧ f.1 = s := by
  induction fs with
  | nil => cases h
  | cons x fs ih =>
    unfold fget at h
    by_cases hs : s = x.1
    · rw [if_pos hs] at h; cases h; exact ⟨[], fs, rfl, hs.symm⟩
    · rw [if_neg hs] at h
      obtain ⟨l, r, rfl, h2⟩ := ih h
      exact ⟨x :: l, r, rfl, h2⟩
theorem fget_mem {fs : List Fe} {s : ByteArray} {f : Fe} (h : fget fs s = some f) : f ∈ fs := by
  obtain ⟨l, r, rfl, _⟩ := fget_split h
  simp
def ownF (fs : List Fe) : List Nat := fs.flatMap (fun f => f.2.1.own)
def ownS (g fm : Nat) (fv : Value) (fs : List Fe) : List Nat := g :: fm :: (fv.ownBlock.toList ++ ownF fs)
theorem mem_ownS {g fm : Nat} {fv : Value} {fs : List Fe} {i : Nat} : i ∈ ownS g fm fv fs ↔ i = g ∨ i = fm ∨ fv.ownBlock = some i ∨ ∃ f ∈ fs, i ∈ f.2.1.own := by
  simp only [ownS, ownF, List.mem_cons, List.mem_append, List.mem_flatMap, Option.mem_toList]
/-- A store: its files (in the map's order), its fates, how many steps were done. -/
structure Sr (D : Nat → Prop) (w : World) (g fm : Nat) (fv : Value) (steps : Nat) (fs : List Fe) (ft : List (Int × Int)) (es : List (ByteArray × Value × Nat)) (c : Nat) : Prop where
  st : St 58 w g #[.map (some fm), fv, .int .i64 steps]
  mp : Mp Value.string w fm es c
  ef : es.map (fun e => (e.1, e.2.1)) = fs.map (fun f => (f.1, fptr f))
  fr : ∀ f ∈ fs, Fr D w f.2.1 f.2.2.sz f.2.2.L f.2.2.ps
  nm : ∀ f ∈ fs, nmd f.1 = true
  fa : Fv w fv ft
  nd : (ownS g fm fv fs).Nodup
  dn : ∀ i, D i → i ∉ ownS g fm fv fs
  db : ∀ i, D i → i < w.heap.size
  sb : steps ≤ 1000000000
  nf : fs.length ≤ 256
theorem Sr.lt {D : Nat → Prop} {w : World} {g fm : Nat} {fv : Value} {steps : Nat} {fs : List Fe} {ft : List (Int × Int)} {es : List (ByteArray × Value × Nat)} {c : Nat} (h : Sr D w g fm fv steps fs ft es c) : ∀ i, i ∈ ownS g fm fv fs → i < w.heap.size := by
  intro i hi
  rcases mem_ownS.1 hi with rfl | rfl | h1 | ⟨f, hf, h1⟩
  · exact h.st.lt
  · exact h.mp.lt
  · exact h.fa.lt i h1
  · exact (h.fr f hf).lt i h1
theorem Sr.kp {D F : Nat → Prop} {w w' : World} {g fm : Nat} {fv : Value} {steps : Nat} {fs : List Fe} {ft : List (Int × Int)} {es : List (ByteArray × Value × Nat)} {c : Nat} (h : Sr D w g fm fv steps fs ft es c) (k : Kp F w w') (ho : ∀ i, i ∈ ownS g fm fv fs → ¬ F i) (hd : ∀ i, D i → ¬ F i) : Sr D w' g fm fv steps fs ft es c :=
  ⟨h.st.kp k (ho g (mem_ownS.2 (.inl rfl))), kp_mp h.mp k (ho fm (mem_ownS.2 (.inr (.inl rfl)))), h.ef, fun f hf => (h.fr f hf).kp k (fun i hi => ho i (mem_ownS.2 (.inr (.inr (.inr ⟨f, hf, hi⟩))))) hd, h.nm, h.fa.kp k (fun b hb => ho b (mem_ownS.2 (.inr (.inr (.inl hb))))), h.nd, h.dn, fun i hi => Nat.lt_of_lt_of_le (h.db i hi) k.size, h.sb, h.nf⟩
theorem ownF_append (l r : List Fe) : ownF (l ++ r) = ownF l ++ ownF r := by simp [ownF]
theorem ownF_cons (f : Fe) (r : List Fe) : ownF (f :: r) = f.2.1.own ++ ownF r := by simp [ownF]
theorem Fr.nodup {D : Nat → Prop} {w : World} {a : Fa} {sz : Nat} {L : Nat → Int} {ps : List (Nat × List Int)} (h : Fr D w a sz L ps) : a.own.Nodup := by
  have h1 := h.lm_ne
  have h2 := h.ne
  unfold Fa.own
  cases hp : a.pv.ownBlock with
  | none => simp only [Option.toList_none, List.append_nil, List.nodup_cons, List.mem_cons, List.not_mem_nil, or_false, not_or, List.nodup_nil, and_true, not_false_eq_true]; exact ⟨⟨fun e => h1.1 e.symm, fun e => h1.2 e.symm⟩, h2⟩
  | some b =>
    have h3 := h.fb_ne hp
    simp only [Option.toList_some, List.cons_append, List.nil_append, List.nodup_cons, List.mem_cons, List.not_mem_nil, or_false, not_or, List.nodup_nil, and_true, not_false_eq_true]
    exact ⟨⟨fun e => h1.1 e.symm, fun e => h1.2 e.symm, fun e => h3.1 e.symm⟩, ⟨h2, fun e => h3.2.1 e.symm⟩, fun e => h3.2.2 e.symm⟩
/-- One of its files is another now. -/
theorem Sr.upd {D D' : Nat → Prop} {w W : World} {g fm : Nat} {fv : Value} {steps : Nat} {l r : List Fe} {s : ByteArray} {a a' : Fa} {q q' : Gf} {ft : List (Int × Int)} {es : List (ByteArray × Value × Nat)} {c : Nat} (h : Sr D w g fm fv steps (l ++ (s, a, q) :: r) ft es c) (k : Wk D w a.own W D' a'.own) (hb : a'.fb = a.fb) (hf : Fr D' W a' q'.sz q'.L q'.ps) :
    Sr D' W g fm fv steps (l ++ (s, a', q') :: r) ft es c := by
  have hnd := h.nd
  have hlt := h.lt
  have hn := hf.nodup
  have memo : ∀ i, i ∈ a.own → i ∈ ownS g fm fv (l ++ (s, a, q) :: r) := fun i hi => mem_ownS.2 (.inr (.inr (.inr ⟨(s, a, q), by simp, hi⟩)))
  -- who else owns is apart from a
  have hap : ∀ i, (i = g ∨ i = fm ∨ fv.ownBlock = some i ∨ ∃ f ∈ l ++ r, i ∈ f.2.1.own) → i ∉ a.own := by
    intro i hi hm
    unfold ownS at hnd
    rw [ownF_append, ownF_cons] at hnd
    simp only [List.nodup_cons, List.nodup_append, List.mem_cons, List.mem_append, not_or] at hnd
    obtain ⟨⟨_, h1, h2, h3, _⟩, ⟨h4, h5, h6, _⟩, _, ⟨_, ⟨_, _, h7⟩, h8⟩, h9⟩ := hnd
    rcases hi with rfl | rfl | hi | ⟨f, hf, hi⟩
    · exact h3 hm
    · exact h6 hm
    · exact h9 i (by simpa using hi) i (.inr (.inl hm)) rfl
    · rcases List.mem_append.1 hf with hf | hf
      · exact h8 i (List.mem_flatMap.2 ⟨f, hf, hi⟩) i (.inl hm) rfl
      · exact h7 i hm i (List.mem_flatMap.2 ⟨f, hf, hi⟩) rfl
  have hsz := k.k.size
  have hDo : ∀ i, D' i → ∀ f ∈ l ++ r, i ∉ f.2.1.own := by
    intro i hi f hf hm
    have hm' : i ∈ ownS g fm fv (l ++ (s, a, q) :: r) := mem_ownS.2 (.inr (.inr (.inr ⟨f, by rcases List.mem_append.1 hf with hf | hf <;> simp [hf], hm⟩)))
    rcases k.e i hi with h1 | h1
    · exact h.dn i h1 hm'
    · have := hlt i hm'; omega
  refine ⟨h.st.kp k.k (hap g (.inl rfl)), kp_mp h.mp k.k (hap fm (.inr (.inl rfl))), ?_, ?_, ?_, h.fa.kp k.k (fun b hb => hap b (.inr (.inr (.inl hb)))), ?_, ?_, ?_, h.sb, by simpa using h.nf⟩
  · rw [h.ef]
    simp [fptr, hb]
  · intro f hf'
    have hf2 : f = (s, a', q') ∨ f ∈ l ++ r := by
      simp only [List.mem_append, List.mem_cons] at hf' ⊢
      rcases hf' with h1 | h1 | h1
      · exact .inr (.inl h1)
      · exact .inl h1
      · exact .inr (.inr h1)
    rcases hf2 with rfl | hf2
    · exact hf
    · have h0 := h.fr f (by simp only [List.mem_append, List.mem_cons] at hf2 ⊢; rcases hf2 with h1 | h1; exact .inl h1; exact .inr (.inr h1))
      exact (h0.kp k.k (fun i hi => hap i (.inr (.inr (.inr ⟨f, hf2, hi⟩)))) (fun i hi x => h.dn i hi (memo i x))).mono (fun i _ => k.d i) (fun i hi => hDo i hi f hf2) hf.db
  · intro f hf'
    simp only [List.mem_append, List.mem_cons] at hf'
    rcases hf' with h1 | h1 | h1
    · exact h.nm f (by simp [h1])
    · rw [h1]; exact h.nm (s, a, q) (by simp)
    · exact h.nm f (by simp [h1])
  · -- apart
    have hnew : ∀ i, i ∈ a'.own → ¬ (i = g ∨ i = fm ∨ fv.ownBlock = some i ∨ ∃ f ∈ l ++ r, i ∈ f.2.1.own) := by
      intro i hi hx
      rcases k.o i hi with h1 | h1
      · exact hap i hx h1
      · have : i ∈ ownS g fm fv (l ++ (s, a, q) :: r) := mem_ownS.2 (by
          rcases hx with hx | hx | hx | ⟨f, hf, hx⟩
          · exact .inl hx
          · exact .inr (.inl hx)
          · exact .inr (.inr (.inl hx))
          · exact .inr (.inr (.inr ⟨f, by rcases List.mem_append.1 hf with hf | hf <;> simp [hf], hx⟩)))
        have := hlt i this
        omega
    unfold ownS at hnd ⊢
    rw [ownF_append, ownF_cons] at hnd ⊢
    simp only [List.nodup_cons, List.nodup_append, List.mem_cons, List.mem_append, not_or] at hnd ⊢
    obtain ⟨⟨h1, h2, h3, h4, h5⟩, ⟨h6, h7, h8, h9⟩, h10, ⟨h11, ⟨h12, h13, h14⟩, h15⟩, h16⟩ := hnd
    have inl : ∀ i, i ∈ ownF l → ∃ f ∈ l ++ r, i ∈ f.2.1.own := fun i hi => by obtain ⟨f, hf, hx⟩ := List.mem_flatMap.1 hi; exact ⟨f, by simp [hf], hx⟩
    have inr : ∀ i, i ∈ ownF r → ∃ f ∈ l ++ r, i ∈ f.2.1.own := fun i hi => by obtain ⟨f, hf, hx⟩ := List.mem_flatMap.1 hi; exact ⟨f, by simp [hf], hx⟩
    refine ⟨⟨h1, h2, h3, fun x => hnew _ x (.inl rfl), h5⟩, ⟨h6, h7, fun x => hnew _ x (.inr (.inl rfl)), h9⟩, h10, ⟨h11, ⟨hn, h13, fun x hx y hy e => hnew x hx (.inr (.inr (.inr (inr x (e ▸ hy)))))⟩, ?_⟩, ?_⟩
    · intro x hx y hy e
      rcases hy with hy | hy
      · exact hnew y hy (.inr (.inr (.inr (inl y (e ▸ hx)))))
      · exact h15 x hx y (.inr hy) e
    · intro x hx y hy e
      rcases hy with hy | hy | hy
      · exact h16 x hx y (.inl hy) e
      · exact hnew y hy (.inr (.inr (.inl (by rw [← e]; simpa using hx))))
      · exact h16 x hx y (.inr (.inr hy)) e
  · intro i hi hm
    rcases mem_ownS.1 hm with h1 | h1 | h1 | ⟨f, hf', h1⟩
    · rcases k.e i hi with h2 | h2
      · exact h.dn i h2 (mem_ownS.2 (.inl h1))
      · have := hlt i (mem_ownS.2 (.inl h1)); omega
    · rcases k.e i hi with h2 | h2
      · exact h.dn i h2 (mem_ownS.2 (.inr (.inl h1)))
      · have := hlt i (mem_ownS.2 (.inr (.inl h1))); omega
    · rcases k.e i hi with h2 | h2
      · exact h.dn i h2 (mem_ownS.2 (.inr (.inr (.inl h1))))
      · have := hlt i (mem_ownS.2 (.inr (.inr (.inl h1)))); omega
    · simp only [List.mem_append, List.mem_cons] at hf'
      rcases hf' with h2 | h2 | h2
      · exact hDo i hi f (by simp [h2]) h1
      · rw [h2] at h1; exact hf.nd i hi h1
      · exact hDo i hi f (by simp [h2]) h1
  · exact hf.db
end Go.Proofs.YtlnknkeagonmpaaGreat
