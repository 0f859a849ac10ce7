/- The program's store and the document's, side by side: what a call to each leaves. -/
import Derived.Test.YtlnknkeagonmpaaGreatLk
import Derived.Test.YtlnknkeagonmpaaGreatRv
namespace Go.Proofs.YtlnknkeagonmpaaGreat
open Go.RowKit

/-- Two stores that share no block that changes, and none of the blocks below B. -/
structure Dj (B : Nat) (own : List Nat) (D : Nat → Prop) (g' : Nat) (fv' : Value) (D' : Nat → Prop) : Prop where
  s1 : ∀ i, i ∈ own → B ≤ i ∧ i ≠ g' ∧ fv'.ownBlock ≠ some i ∧ ¬ D' i
  s2 : ∀ i, D i → i ≠ g' ∧ fv'.ownBlock ≠ some i
  r1 : B ≤ g'
  r2 : ∀ i, fv'.ownBlock = some i → B ≤ i
theorem Dj.store {B : Nat} {own own1 : List Nat} {D D1 D' : Nat → Prop} {g' : Nat} {fv' : Value} {w w1 : World} (h : Dj B own D g' fv' D') (k : Wk D w own w1 D1 own1) (hg : g' < w.heap.size) (hv : ∀ b, fv'.ownBlock = some b → b < w.heap.size) (hd : ∀ i, D' i → i < w.heap.size) (hB : B ≤ w.heap.size) : Dj B own1 D1 g' fv' D' := by
  refine ⟨fun i hi => ?_, fun i hi => ?_, h.r1, h.r2⟩
  · rcases k.o i hi with h1 | h1
    · exact h.s1 i h1
    · exact ⟨by omega, by omega, fun e => by have := hv i e; omega, fun e => by have := hd i e; omega⟩
  · rcases k.e i hi with h1 | h1
    · exact h.s2 i h1
    · exact ⟨by omega, fun e => by have := hv i e; omega⟩
theorem Dj.ref {B : Nat} {own : List Nat} {D D' D1 : Nat → Prop} {g' : Nat} {fv' fv1 : Value} {w : World} (h : Dj B own D g' fv' D') (hv : ∀ i, fv1.ownBlock = some i → fv'.ownBlock = some i ∨ w.heap.size ≤ i) (hd : ∀ i, D1 i → D' i ∨ w.heap.size ≤ i) (ho : ∀ i, i ∈ own → i < w.heap.size) (hD : ∀ i, D i → i < w.heap.size) (hB : B ≤ w.heap.size) : Dj B own D g' fv1 D1 := by
  refine ⟨fun i hi => ?_, fun i hi => ⟨(h.s2 i hi).1, fun e => ?_⟩, h.r1, fun i e => ?_⟩
  · obtain ⟨h1, h2, h3, h4⟩ := h.s1 i hi
    have h5 := ho i hi
    refine ⟨h1, h2, fun e => ?_, fun e => ?_⟩
    · rcases hv i e with h6 | h6
      · exact h3 h6
      · omega
    · rcases hd i e with h6 | h6
      · exact h4 h6
      · omega
  · rcases hv i e with h6 | h6
    · exact (h.s2 i hi).2 h6
    · have := hD i hi; omega
  · rcases hv i e with h6 | h6
    · exact h.r2 i h6
    · omega
/-- What both stores have: names, and how many pieces of each. -/
def mup (m : List (ByteArray × Nat)) (s : ByteArray) (f : Nat → Nat) : List (ByteArray × Nat) := m.map (fun x => if x.1 = s then (s, f x.2) else x)
def mhas (m : List (ByteArray × Nat)) (s : ByteArray) : Bool := m.any (fun x => decide (x.1 = s))
theorem mhas_iff (m : List (ByteArray × Nat)) (s : ByteArray) : mhas m s = true ↔ s ∈ m.map (·.1) := by
  simp [mhas, List.any_eq_true]
def mcr (m : List (ByteArray × Nat)) (s : ByteArray) : List (ByteArray × Nat) := if nmd s = true ∧ mhas m s = false then m ++ [(s, 0)] else m
def mwr (m : List (ByteArray × Nat)) (s : ByteArray) (at0 : Int) (n : Nat) : List (ByteArray × Nat) := if at0 < 0 then m else mup m s (fun x => x + (pcs at0.toNat n).length)
def mfl (m : List (ByteArray × Nat)) (s : ByteArray) : List (ByteArray × Nat) := mup m s (fun _ => 0)
theorem mup_none {m : List (ByteArray × Nat)} {s : ByteArray} (f : Nat → Nat) (h : s ∉ m.map (·.1)) : mup m s f = m := by
  unfold mup
  have : m.map (fun x => if x.1 = s then (s, f x.2) else x) = m.map id := List.map_congr_left (fun x hx => by rw [if_neg (fun e => h (List.mem_map.2 ⟨x, hx, e⟩))]; rfl)
  rw [this, List.map_id]
theorem mup_perm {l r : List Fe} {s : ByteArray} {a a' : Fa} {q q' : Gf} {m : List (ByteArray × Nat)} (h : ((l ++ (s, a, q) :: r).map fky).Perm m) (hn : ((l ++ (s, a, q) :: r).map (·.1)).Nodup) (f : Nat → Nat) (hf : q'.ps.length = f q.ps.length) : ((l ++ (s, a', q') :: r).map fky).Perm (mup m s f) := by
  have hp := List.Perm.map (fun x : ByteArray × Nat => if x.1 = s then (s, f x.2) else x) h
  rw [List.map_append, List.map_cons, List.nodup_append, List.nodup_cons] at hn
  obtain ⟨n1, ⟨n2, n3⟩, n4⟩ := hn
  have ml : ∀ f ∈ l, f.1 ≠ s := fun f hf e => n4 f.1 (List.mem_map.2 ⟨f, hf, rfl⟩) s (by simp) e
  have mr : ∀ f ∈ r, f.1 ≠ s := fun f hf e => n2 (List.mem_map.2 ⟨f, hf, e⟩)
  have e1 : ((l ++ (s, a, q) :: r).map fky).map (fun x : ByteArray × Nat => if x.1 = s then (s, f x.2) else x) = (l ++ (s, a', q') :: r).map fky := by
    rw [List.map_map, List.map_append, List.map_append, List.map_cons, List.map_cons]
    congr 1
    · exact List.map_congr_left (fun f hf => by simp [fky, ml f hf])
    · congr 1
      · simp [fky, hf]
      · exact List.map_congr_left (fun f hf => by simp [fky, mr f hf])
  rw [e1] at hp
  exact hp
theorem md_names {fs : List Fe} {m : List (ByteArray × Nat)} (h : (fs.map fky).Perm m) : (fs.map (·.1)).Perm (m.map (·.1)) := by
  have h1 := List.Perm.map Prod.fst h
  rw [List.map_map] at h1
  exact h1
theorem fget_in {fs : List Fe} {s : ByteArray} {f : Fe} (h : fget fs s = some f) : s ∈ fs.map (·.1) := by
  obtain ⟨l, r, rfl, rfl⟩ := fget_split h
  simp
/-- Both stores, at most K calls along. -/
structure Bo (B K : Nat) (w : World) (g fm g' : Nat) (D : Nat → Prop) (fv : Value) (steps : Nat) (fs : List Fe) (es : List (ByteArray × Value × Nat)) (c : Nat) (D' : Nat → Prop) (fv' : Value) (steps' : Nat) (gs : List (Rf × Value)) (m : List (ByteArray × Nat)) : Prop where
  s : Sr D w g fm fv steps fs [] es c
  r : Rs D' w g' fv' steps' gs
  l : Lnk fs gs
  dj : Dj B (ownS g fm fv fs) D g' fv' D'
  hB : B ≤ w.heap.size
  md : (fs.map fky).Perm m
  b1 : steps ≤ K
  b2 : steps' ≤ K
  b3 : fs.length ≤ K
  b4 : ∀ f ∈ fs, f.2.2.ps.length ≤ 40000 * K
def BoX (B K : Nat) (w : World) (g fm g' : Nat) (m : List (ByteArray × Nat)) : Prop := ∃ D fv steps fs es c D' fv' steps' gs, Bo B K w g fm g' D fv steps fs es c D' fv' steps' gs m
section
variable {B K : Nat} {w w1 : World} {g fm g' : Nat} {D : Nat → Prop} {fv : Value} {steps : Nat} {fs : List Fe} {es : List (ByteArray × Value × Nat)} {c : Nat} {D' : Nat → Prop} {fv' : Value} {steps' : Nat} {gs : List (Rf × Value)} {m : List (ByteArray × Nat)}
theorem Bo.kp (h : Bo B K w g fm g' D fv steps fs es c D' fv' steps' gs m) (k : Kp (fun _ => False) w w1) : Bo B K w1 g fm g' D fv steps fs es c D' fv' steps' gs m :=
  ⟨h.s.kp k (fun _ _ h => h) (fun _ _ h => h), h.r.kp k (fun h => h) (fun _ _ h => h) (fun _ _ h => h), h.l, h.dj, Nat.le_trans h.hB k.size, h.md, h.b1, h.b2, h.b3, h.b4⟩
theorem Bo.up (h : Bo B K w g fm g' D fv steps fs es c D' fv' steps' gs m) : BoX B (K + 1) w g fm g' m :=
  ⟨D, fv, steps, fs, es, c, D', fv', steps', gs, h.s, h.r, h.l, h.dj, h.hB, h.md, by have := h.b1; omega, by have := h.b2; omega, by have := h.b3; omega, fun f hf => by have := h.b4 f hf; omega⟩
/-- The document's store is as it was when the program's store has done a step. -/
theorem Bo.rkp (h : Bo B K w g fm g' D fv steps fs es c D' fv' steps' gs m) (k : Kp (fun i => i ∈ ownS g fm fv fs) w w1) : Rs D' w1 g' fv' steps' gs :=
  h.r.kp k (fun e => (h.dj.s1 g' e).2.1 rfl) (fun b hb e => (h.dj.s1 b e).2.2.1 hb) (fun i hi e => (h.dj.s1 i e).2.2.2 hi)
theorem Bo.own (h : Bo B K w g fm g' D fv steps fs es c D' fv' steps' gs m) (k : Kp (fun i => i ∈ ownS g fm fv fs) w w1) : Kp (fun i => B ≤ i) w w1 := k.mono (fun i _ hi => (h.dj.s1 i hi).1)
theorem Bo.rown (h : Bo B K w g fm g' D fv steps fs es c D' fv' steps' gs m) {X Y : World} (k : Kp (fun j => j = g' ∨ fv'.ownBlock = some j) X Y) : Kp (fun i => B ≤ i) X Y := k.mono (fun i _ hi => hi.elim (fun e => e ▸ h.dj.r1) (h.dj.r2 i))
/-- Both have done a step. -/
theorem Bo.both (h : Bo B K w g fm g' D fv steps fs es c D' fv' steps' gs m) {w2 : World} {D1 : Nat → Prop} {fv1 : Value} {steps1 : Nat} {fs1 : List Fe} {es1 : List (ByteArray × Value × Nat)} {c1 : Nat} {D1' : Nat → Prop} {fv1' : Value} {steps1' : Nat} {gs1 : List (Rf × Value)}
    (s1 : Sr D1 w1 g fm fv1 steps1 fs1 [] es1 c1) (k1 : Wk D w (ownS g fm fv fs) w1 D1 (ownS g fm fv1 fs1)) (r1 : Rs D1' w2 g' fv1' steps1' gs1) (k2 : Kp (fun j => j = g' ∨ fv'.ownBlock = some j) w1 w2) (hv : ∀ i, fv1'.ownBlock = some i → fv'.ownBlock = some i ∨ w1.heap.size ≤ i) (hd : ∀ i, D1' i → D' i ∨ w1.heap.size ≤ i)
    (hl : Lnk fs1 gs1) {m1 : List (ByteArray × Nat)} (hmd : (fs1.map fky).Perm m1) (b1 : steps1 ≤ K + 1) (b2 : steps1' ≤ K + 1) (b3 : fs1.length ≤ K + 1) (b4 : ∀ f ∈ fs1, f.2.2.ps.length ≤ 40000 * (K + 1)) : BoX B (K + 1) w2 g fm g' m1 := by
  have hz := k1.k.size
  have hB := h.hB
  have dj1 := h.dj.store k1 h.r.st.lt h.r.vlt h.r.db h.hB
  have dj2 := dj1.ref (w := w1) hv hd s1.lt s1.db (by omega)
  refine ⟨D1, fv1, steps1, fs1, es1, c1, D1', fv1', steps1', gs1, s1.kp k2 (fun i hi e => ?_) (fun i hi e => ?_), r1, hl, dj2, by have := k2.size; omega, hmd, b1, b2, b3, b4⟩
  · rcases e with e | e
    · exact (dj1.s1 i hi).2.1 e
    · exact (dj1.s1 i hi).2.2.1 e
  · rcases e with e | e
    · exact (dj1.s2 i hi).1 e
    · exact (dj1.s2 i hi).2 e
end
theorem BoX.le {B K K' : Nat} {w : World} {g fm g' : Nat} {m : List (ByteArray × Nat)} (h : BoX B K w g fm g' m) (hk : K ≤ K') : BoX B K' w g fm g' m := by
  obtain ⟨D, fv, steps, fs, es, c, D', fv', steps', gs, h⟩ := h
  exact ⟨D, fv, steps, fs, es, c, D', fv', steps', gs, h.s, h.r, h.l, h.dj, h.hB, h.md, by have := h.b1; omega, by have := h.b2; omega, by have := h.b3; omega, fun f hf => by have := h.b4 f hf; have := Nat.mul_le_mul_left 40000 hk; omega⟩
theorem BoX.kp {B K : Nat} {w w1 : World} {g fm g' : Nat} {m : List (ByteArray × Nat)} (h : BoX B K w g fm g' m) (k : Kp (fun _ => False) w w1) : BoX B K w1 g fm g' m := by
  obtain ⟨D, fv, steps, fs, es, c, D', fv', steps', gs, h⟩ := h
  exact ⟨D, fv, steps, fs, es, c, D', fv', steps', gs, h.kp k⟩
theorem Bo.named {B K : Nat} {w : World} {g fm g' : Nat} {D : Nat → Prop} {fv : Value} {steps : Nat} {fs : List Fe} {es : List (ByteArray × Value × Nat)} {c : Nat} {D' : Nat → Prop} {fv' : Value} {steps' : Nat} {gs : List (Rf × Value)} {m : List (ByteArray × Nat)} (h : Bo B K w g fm g' D fv steps fs es c D' fv' steps' gs m) {s : ByteArray} (hs : s ∈ fs.map (·.1)) : nmd s = true := by
  obtain ⟨f, hf, rfl⟩ := List.mem_map.1 hs
  exact h.s.nm f hf
/-- Create of both. -/
theorem create_two (B K : Nat) (w : World) (g fm g' : Nat) (m : List (ByteArray × Nat)) (h : BoX B K w g fm g' m) (hK : K ≤ 200) (s : ByteArray) (hs : s.size ≤ maxLen) :
    Calls Tryz.prog 11 #[.pointer (some ⟨g, 0, none⟩), .string s] w fun e w1 => (∃ z, e = .returned (.int .i64 z)) ∧ Kp (fun i => B ≤ i) w w1 ∧ Calls Tryz.prog 24 #[.pointer (some ⟨g', 0, none⟩), .string s] w1 fun e w2 => (∃ z, e = .returned (.int .i64 z)) ∧ Kp (fun i => B ≤ i) w1 w2 ∧ BoX B (K + 1) w2 g fm g' (mcr m s) := by
  obtain ⟨D, fv, steps, fs, es, c, D', fv', steps', gs, h⟩ := h
  have hb1 := h.b1
  have hb2 := h.b2
  have hb3 := h.b3
  by_cases hn : nmd s = true
  · cases hq : fget fs s with
    | some f =>
      refine (create_there D w g fm fv steps fs [] es c h.s s hn f hq).mono ?_
      rintro e w' ⟨rfl, rfl⟩
      refine ⟨⟨_, rfl⟩, Kp.refl _ _, ?_⟩
      obtain ⟨i, hi, he, hj, _⟩ := h.l.some h.s.keys.2 hq
      have hmm : mcr m s = m := if_neg (fun e => by rw [(mhas_iff m s).2 ((md_names h.md).mem_iff.1 (fget_in hq))] at e; exact absurd e.2 (by simp))
      rw [hmm]
      refine (rcreate_err s _ w' 0 8 i (rfind_at D' w' g' fv' steps' gs h.r s hn i hi he (fun j h1 => hj j (by omega) (by omega))) (.inr ⟨rfl, rfl⟩)).mono ?_
      rintro e w2 ⟨rfl, rfl⟩
      exact ⟨⟨_, rfl⟩, Kp.refl _ _, h.up⟩
    | none =>
      refine (create_good D w g fm fv steps fs [] es c h.s s hn hq (by omega) (by omega) 0 rfl).mono ?_
      rintro e w1 ⟨rfl, fv1, a, es', c', h', ho, ha, hk⟩
      have kw : Wk D w (ownS g fm fv fs) w1 D (ownS g fm fv1 (fs ++ [(s, a, ⟨0, zero, []⟩)])) := by
        refine ⟨hk.mono (fun i _ hi => ?_), fun i hi => ?_, fun _ h => h, fun _ h => .inl h⟩
        · rcases hi with hi | hi
          · exact mem_ownS.2 (.inl hi)
          · exact mem_ownS.2 (.inr (.inl hi))
        · rcases mem_ownS.1 hi with h1 | h1 | h1 | ⟨f, hf, h1⟩
          · exact .inl (mem_ownS.2 (.inl h1))
          · exact .inl (mem_ownS.2 (.inr (.inl h1)))
          · exact .inl (mem_ownS.2 (.inr (.inr (.inl (ho ▸ h1)))))
          · rcases List.mem_append.1 hf with h3 | h3
            · exact .inl (mem_ownS.2 (.inr (.inr (.inr ⟨f, h3, h1⟩))))
            · rw [List.mem_singleton.1 h3] at h1
              exact .inr (ha i h1)
      refine ⟨⟨_, rfl⟩, h.own kw.k, ?_⟩
      have hlen := h.l.len
      have hmm : mcr m s = m ++ [(s, 0)] := if_pos ⟨hn, Bool.eq_false_iff.2 (fun e => fget_none hq ((md_names h.md).mem_iff.2 ((mhas_iff m s).1 e)))⟩
      rw [hmm]
      refine (rcreate_good D' w1 g' fv' steps' gs (h.rkp kw.k) s hn (h.l.none hq) (by omega) (by omega)).mono ?_
      rintro e w2 ⟨rfl, fv1', k, hk1, _, _, r1, k2, hnew⟩
      have k3 : Kp (fun j => j = g' ∨ fv'.ownBlock = some j) w1 w2 := k2.mono (fun _ _ h => .inl h)
      refine ⟨⟨_, rfl⟩, h.rown k3, h.both h' kw r1 k3 (fun i e => .inr (hnew i e)) (fun i hi => .inl hi) (h.l.add rfl k) (by rw [List.map_append]; exact List.Perm.append_right _ h.md) (by omega) (by omega) (by simp; omega) (fun f hf => ?_)⟩
      rcases List.mem_append.1 hf with h3 | h3
      · have := h.b4 f h3; omega
      · rw [List.mem_singleton.1 h3]; exact Nat.zero_le _
  · refine (create_bad s _ 2 w (by have := allowed_live s g fm w h.s.c0 hs; rw [show nmd s = false by simpa using hn] at this; exact this) (by omega)).mono ?_
    rintro e w' ⟨rfl, rfl⟩
    have hmm : mcr m s = m := if_neg (fun e => hn e.1)
    rw [hmm]
    refine ⟨⟨_, rfl⟩, Kp.refl _ _, ?_⟩
    refine (rcreate_err s _ w' 2 2 0 (rfind_bad s _ w' hs (by simpa using hn)) (.inl ⟨rfl, rfl⟩)).mono ?_
    rintro e w2 ⟨rfl, rfl⟩
    exact ⟨⟨_, rfl⟩, Kp.refl _ _, h.up⟩
/-- Flush of both. -/
theorem flush_two (B K : Nat) (w : World) (g fm g' : Nat) (m : List (ByteArray × Nat)) (h : BoX B K w g fm g' m) (hK : K ≤ 200) (s : ByteArray) (hs : s.size ≤ maxLen) :
    Calls Tryz.prog 26 #[.pointer (some ⟨g, 0, none⟩), .string s] w fun e w1 => (∃ z, e = .returned (.int .i64 z)) ∧ Kp (fun i => B ≤ i) w w1 ∧ Calls Tryz.prog 27 #[.pointer (some ⟨g', 0, none⟩), .string s] w1 fun e w2 => (∃ z, e = .returned (.int .i64 z)) ∧ Kp (fun i => B ≤ i) w1 w2 ∧ BoX B (K + 1) w2 g fm g' (mfl m s) := by
  obtain ⟨D, fv, steps, fs, es, c, D', fv', steps', gs, h⟩ := h
  have hb1 := h.b1
  have hb2 := h.b2
  have hb3 := h.b3
  by_cases hn : nmd s = true
  · cases hq : fget fs s with
    | none =>
      refine (flush_err s _ 7 w (h.s.file_none s hn hq) (by omega)).mono ?_
      rintro e w' ⟨rfl, rfl⟩
      have hmm : mfl m s = m := mup_none _ (fun e => fget_none hq ((md_names h.md).mem_iff.2 e))
      rw [hmm]
      refine ⟨⟨_, rfl⟩, Kp.refl _ _, ?_⟩
      refine (rflush_err s _ w' 7 0 (rfind_none D' w' g' fv' steps' gs h.r s hn (h.l.none hq)) (.inr rfl)).mono ?_
      rintro e w2 ⟨rfl, rfl⟩
      exact ⟨⟨_, rfl⟩, Kp.refl _ _, h.up⟩
    | some f =>
      obtain ⟨i, hi, he, hj, hpl⟩ := h.l.some h.s.keys.2 hq
      obtain ⟨l, r, rfl, rfl⟩ := fget_split hq
      obtain ⟨s, a, q⟩ := f
      refine (flush_go D w g fm fv steps l r [] es c s a q h.s hq (by omega) 0 0 rfl).mono ?_
      rintro e w1 ⟨rfl, D1, fv1, a', h', ho, hk⟩
      have kw := Wk.upd (fm := fm) (l := l) (r := r) (s := s) (q := q) (q' := gfl q (lft 0 0 q.ps.length)) ho hk
      refine ⟨⟨_, rfl⟩, h.own kw.k, ?_⟩
      dsimp only at he hj hn hs
      refine (rflush_good D' w1 g' fv' steps' gs (h.rkp kw.k) s hn i hi he (fun j h1 => hj j (by omega) (by omega)) (by omega)).mono ?_
      rintro e w2 ⟨rfl, pv', r1, k2⟩
      have hq0 : (gfl q (lft 0 0 q.ps.length)).ps = [] := by
        show q.ps.drop _ = []
        rw [show lft 0 0 q.ps.length = q.ps.length from rfl, List.drop_length]
      refine ⟨⟨_, rfl⟩, h.rown k2, h.both h' kw r1 k2 (fun i e => .inl e) (fun i hi => .inl hi) (h.l.upd h.s.keys.2 hi he ?_ ?_) (mup_perm h.md h.s.keys.2 _ (by rw [hq0]; rfl)) (by omega) (by omega) (by simp at hb3 ⊢; omega) (fun f hf => ?_)⟩
      · exact he
      · rw [hq0]; rfl
      · rcases List.mem_append.1 hf with h3 | h3
        · have := h.b4 f (by simp [h3]); omega
        · rcases List.mem_cons.1 h3 with h3 | h3
          · subst h3
            show (gfl q _).ps.length ≤ _
            rw [hq0]; exact Nat.zero_le _
          · have := h.b4 f (by simp [h3]); omega
  · refine (flush_err s _ 2 w (file_bad s g fm w h.s.c0 hs (by simpa using hn)) (by omega)).mono ?_
    rintro e w' ⟨rfl, rfl⟩
    have hmm : mfl m s = m := mup_none _ (fun e => hn (h.named ((md_names h.md).mem_iff.2 e)))
    rw [hmm]
    refine ⟨⟨_, rfl⟩, Kp.refl _ _, ?_⟩
    refine (rflush_err s _ w' 2 0 (rfind_bad s _ w' hs (by simpa using hn)) (.inl rfl)).mono ?_
    rintro e w2 ⟨rfl, rfl⟩
    exact ⟨⟨_, rfl⟩, Kp.refl _ _, h.up⟩
/-- Write of both. -/
theorem write_two (B K : Nat) (w : World) (g fm g' : Nat) (md : List (ByteArray × Nat)) (h : BoX B K w g fm g' md) (hK : K ≤ 200) (s : ByteArray) (hs : s.size ≤ maxLen) (at0 : Int) (h2 : at0 ≤ 20000) (m cap : Nat) (ao : Option Addr) (xs : List Int) (hm : m = xs.length) (hm4 : m ≤ 40000) (hcap : m ≤ cap) (hS : Src .u8 w ao xs) (hdis : 0 < m → ∀ b off, ao = some ⟨b, off, none⟩ → b < B) :
    Calls Tryz.prog 12 #[.pointer (some ⟨g, 0, none⟩), .string s, .int .i64 at0, .slice ao m cap] w fun e w1 => (∃ z, e = .returned (.int .i64 z)) ∧ Kp (fun i => B ≤ i) w w1 ∧ ∀ X, Kp (fun _ => False) w1 X → Calls Tryz.prog 25 #[.pointer (some ⟨g', 0, none⟩), .string s, .int .i64 at0, .slice ao m cap] X fun e w2 => (∃ z, e = .returned (.int .i64 z)) ∧ Kp (fun i => B ≤ i) X w2 ∧ BoX B (K + 1) w2 g fm g' (mwr md s at0 m) := by
  obtain ⟨D, fv, steps, fs, es, c, D', fv', steps', gs, h⟩ := h
  have hb1 := h.b1
  have hb2 := h.b2
  have hb3 := h.b3
  by_cases hn : nmd s = true
  · cases hq : fget fs s with
    | none =>
      refine (write_err s _ at0 _ ao m cap rfl 7 w (fun w1 k => (h.s.kp k (fun _ _ h => h) (fun _ _ h => h)).file_none s hn hq) (by omega)).mono ?_
      rintro e w1 ⟨rfl, k⟩
      have h1 := h.kp k
      have hmm : mwr md s at0 m = md := by
        unfold mwr
        split
        · rfl
        · exact mup_none _ (fun e => fget_none hq ((md_names h.md).mem_iff.2 e))
      rw [hmm]
      refine ⟨⟨_, rfl⟩, k.mono (fun _ _ h => h.elim), fun X kX => ?_⟩
      have h1 := h1.kp kX
      refine (rwrite_err s _ X at0 ao m cap 7 0 (rfind_none D' X g' fv' steps' gs h1.r s hn (h.l.none hq)) (.inr rfl)).mono ?_
      rintro e w2 ⟨rfl, rfl⟩
      exact ⟨⟨_, rfl⟩, Kp.refl _ _, h1.up⟩
    | some f =>
      obtain ⟨i, hi, he, hj, hpl⟩ := h.l.some h.s.keys.2 hq
      by_cases h0 : at0 < 0
      · refine (write_rng s _ f.2.1.fb at0 ao m cap w (fun w1 k => (h.s.kp k (fun _ _ h => h) (fun _ _ h => h)).file_some s hn f hq) h0).mono ?_
        rintro e w1 ⟨rfl, k⟩
        have h1 := h.kp k
        rw [show mwr md s at0 m = md from if_pos h0]
        refine ⟨⟨_, rfl⟩, k.mono (fun _ _ h => h.elim), fun X kX => ?_⟩
        have h1 := h1.kp kX
        refine (rwrite_rng s _ X at0 ao m cap i (rfind_at D' X g' fv' steps' gs h1.r s hn i hi he (fun j h1 => hj j (by omega) (by omega))) h0).mono ?_
        rintro e w2 ⟨rfl, rfl⟩
        exact ⟨⟨_, rfl⟩, Kp.refl _ _, h1.up⟩
      · obtain ⟨p, rfl⟩ := Int.eq_ofNat_of_zero_le (show 0 ≤ at0 by omega)
        obtain ⟨l, r, rfl, rfl⟩ := fget_split hq
        obtain ⟨s, a, q⟩ := f
        have hpq := h.b4 (s, a, q) (by simp)
        dsimp only at hpq hn hs he hj hpl
        refine (callsIn_wide.1 (write_go D w g fm fv steps l r [] es c s a q h.s hq (by omega) 0 0 rfl p m cap ao xs hm (by omega) hS hcap (fun h1 b off e hb => by have := hdis h1 b off e; have := (h.dj.s1 b hb).1; omega) (by omega))).mono ?_
        rintro e w1 ⟨rfl, D1, fv1, a', h', ho, hk⟩
        have kw := Wk.upd (fm := fm) (l := l) (r := r) (s := s) (q := q) (q' := gwr p xs q ((pcs p m).take (lft 0 0 m))) ho hk
        refine ⟨⟨_, rfl⟩, h.own kw.k, fun X kX => ?_⟩
        have kw := kw.kp kX
        have h' := h'.kp kX (fun _ _ h => h) (fun _ _ h => h)
        have hS1 : Src .u8 X ao xs := by
          intro hp
          obtain ⟨b, off, e, hc⟩ := hS hp
          exact ⟨b, off, e, fun j hj => kp_cell kw.k (hc j hj) (fun hb => by have := hdis (by omega) b off e; have := (h.dj.s1 b hb).1; omega)⟩
        have hpl4 := pcs_len m p
        have htk : (pcs p m).take (lft 0 0 m) = pcs p m := List.take_of_length_le (by rw [show lft 0 0 m = m from rfl]; exact hpl4)
        refine (rwrite_good D' X g' fv' steps' gs (h.rkp kw.k) s hn i hi he (fun j h1 => hj j (by omega) (by omega)) (by omega) p m cap ao xs hm (by omega) hcap hS1 (fun h1 b off e => by have := hdis h1 b off e; have := h.dj.r1; omega) (by omega)).mono ?_
        rintro e w2 ⟨rfl, D1', pv', r1, k2, _, hd⟩
        have hql : (gwr p xs q ((pcs p m).take (lft 0 0 m))).ps.length = q.ps.length + (pcs p m).length := by rw [gwr_len, htk]
        rw [show mwr md s (p : Int) m = mup md s (fun x => x + (pcs p m).length) from if_neg (by omega)]
        refine ⟨⟨_, rfl⟩, h.rown k2, h.both h' kw r1 k2 (fun i e => .inl e) hd (h.l.upd h.s.keys.2 hi he ?_ ?_) (mup_perm h.md h.s.keys.2 _ hql) (by omega) (by omega) (by simp at hb3 ⊢; omega) (fun f hf => ?_)⟩
        · exact he
        · rw [hql]
          show ((gs.getD i zrf).1.ps ++ _).length = _
          rw [List.length_append, pcb_len, hpl]
        · rcases List.mem_append.1 hf with h3 | h3
          · have := h.b4 f (by simp [h3]); omega
          · rcases List.mem_cons.1 h3 with h3 | h3
            · subst h3
              show (gwr p xs q _).ps.length ≤ _
              rw [hql]; omega
            · have := h.b4 f (by simp [h3]); omega
  · refine (write_err s _ at0 _ ao m cap rfl 2 w (fun w1 k => file_bad s g fm w1 (h.s.kp k (fun _ _ h => h) (fun _ _ h => h)).c0 hs (by simpa using hn)) (by omega)).mono ?_
    rintro e w1 ⟨rfl, k⟩
    have h1 := h.kp k
    have hmm : mwr md s at0 m = md := by
      unfold mwr
      split
      · rfl
      · exact mup_none _ (fun e => hn (h.named ((md_names h.md).mem_iff.2 e)))
    rw [hmm]
    refine ⟨⟨_, rfl⟩, k.mono (fun _ _ h => h.elim), fun X kX => ?_⟩
    have h1 := h1.kp kX
    refine (rwrite_err s _ X at0 ao m cap 2 0 (rfind_bad s _ X hs (by simpa using hn)) (.inl rfl)).mono ?_
    rintro e w2 ⟨rfl, rfl⟩
    exact ⟨⟨_, rfl⟩, Kp.refl _ _, h1.up⟩
end Go.Proofs.YtlnknkeagonmpaaGreat
