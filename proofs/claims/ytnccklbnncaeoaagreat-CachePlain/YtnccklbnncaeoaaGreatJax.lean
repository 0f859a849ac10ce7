import Derived.Test.YtnccklbnncaeoaaGreatJaj
import Derived.Test.YtnccklbnncaeoaaGreatJak
/- What a range over a function turns by itself leaves files alone. -/
namespace Go.Proofs.YtnccklbnncaeoaaGreat
open Go.RowKit Go.Shelf

/-- A step that turns at most one block from B on, which is no row of cells. -/
def Turns (B : Nat) (W W' : World) : Prop := ∃ row, W.grownBy W' row ∧ ∀ r, row = some r → B ≤ r ∧ ∃ o : Obj, W.heap[r]? = some o ∧ o.isCells = false
section
variable {B : Nat} {W W' : World}
theorem Turns.cell (h : Turns B W W') {a : Addr} {v : Value} (hc : W.cell? a = some v) : W'.cell? a = some v := by
  obtain ⟨row, hg, hr⟩ := h
  exact cell_kept hc hg (fun r e => (hr r e).2)
theorem Turns.row (h : Turns B W W') {g : Nat} {cs : Array Value} {t : TypeId} {fz : Nat × Nat} (hc : W.heap[g]? = some (.cells cs t fz)) : W'.heap[g]? = some (.cells cs t fz) := by
  obtain ⟨row, hg, hr⟩ := h
  refine (hg.block g (Array.getElem?_eq_some_iff.1 hc).1 (fun e => ?_)).trans hc
  obtain ⟨_, o, ho, hn⟩ := hr g e.symm
  rw [hc] at ho
  cases ho
  cases hn
theorem Turns.low (h : Turns B W W') {g : Nat} (hg : g < B) (hl : g < W.heap.size) : W'.heap[g]? = W.heap[g]? := by
  obtain ⟨row, hgr, hr⟩ := h
  exact hgr.block g hl (fun e => by have := (hr g e.symm).1; omega)
theorem Turns.size (h : Turns B W W') : W.heap.size ≤ W'.heap.size := by
  obtain ⟨row, hg, _⟩ := h
  exact hg.size
theorem Turns.kp (h : Turns B W W') : Kp (fun i => B ≤ i) W W' := by
  obtain ⟨row, hg, hr⟩ := h
  exact Kp.of_grown hg (fun i e => (hr i e).1)
theorem St.turns {t : TypeId} {g : Nat} {cs : Array Value} (hs : St t W g cs) (h : Turns B W W') : St t W' g cs := h.row hs
theorem Rw.turns {κ : IntKind} {t : TypeId} {g : Nat} {L : List Int} (hs : Rw κ t W g L) (h : Turns B W W') : Rw κ t W' g L := h.row hs
theorem Src.turns {κ : IntKind} {ao : Option Addr} {xs : List Int} (hs : Src κ W ao xs) (h : Turns B W W') : Src κ W' ao xs := by
  intro hp
  obtain ⟨b, off, e, hc⟩ := hs hp
  exact ⟨b, off, e, fun i hi => h.cell (hc i hi)⟩
theorem Bs.turns {D : Nat → Prop} {v : Value} {xs : List Int} (hs : Bs D W v xs) (h : Turns B W W') : Bs D W' v xs := by
  obtain ⟨g, off, cap, rfl, hg, hl, h1, h2, hc⟩ := hs
  exact ⟨g, off, cap, rfl, hg, Nat.lt_of_lt_of_le hl h.size, h1, h2, fun i hi => h.cell (hc i hi)⟩
theorem Sm.turns {D : Nat → Prop} {m c : Nat} {f d : Nat → Int} {es : List (Int × Value × Nat)} (hs : Sm D W m f d es c) (h : Turns B W W') (hm : m < B) : Sm D W' m f d es c :=
  ⟨hs.mp.of_block (h.low hm hs.mp.lt), hs.ks, fun j u hu => (hs.so j u hu).turns h, hs.no⟩
theorem Pr.turns {D : Nat → Prop} {pv : Value} {ps : List (Nat × List Int)} {vs : List Value} (hs : Pr D W pv ps vs) (h : Turns B W W') : Pr D W' pv ps vs := by
  refine ⟨hs.len, fun i hi => (hs.bs i hi).turns h, hs.row.1, ?_⟩
  rcases hs.row.2 with h1 | ⟨g, cap, cur, rfl, h1, h2, h3⟩
  · exact .inl h1
  · exact .inr ⟨g, cap, cur, rfl, h1, h.row h2, h3⟩
theorem Fr.turns {D : Nat → Prop} {a : Fa} {sz : Nat} {L : Nat → Int} {ps : List (Nat × List Int)} (hs : Fr D W a sz L ps) (h : Turns B W W') (h1 : a.lm < B) (h2 : a.om < B) : Fr D W' a sz L ps := by
  obtain ⟨e1, c1, l1⟩ := hs.la
  obtain ⟨e2, c2, l2, g2⟩ := hs.ov
  obtain ⟨vs, l3⟩ := hs.pc
  exact ⟨hs.st.turns h, ⟨e1, c1, l1.turns h h1⟩, ⟨e2, c2, l2.turns h h2, g2⟩, ⟨vs, l3.turns h⟩, hs.ne, hs.nd, fun i hi => Nat.lt_of_lt_of_le (hs.db i hi) h.size, hs.lz, hs.pb, hs.sb, hs.nb⟩
theorem Wk.turns {D D' : Nat → Prop} {w : World} {own own' : List Nat} (hs : Wk D w own W D' own') (h : Turns B W W') (hB : w.heap.size ≤ B) : Wk D w own W' D' own' :=
  ⟨hs.k.trans h.kp (fun i hi x => by omega), hs.o, hs.d, hs.e⟩
end
theorem Fr.keeps {D : Nat → Prop} {B : Nat} {W W' : World} {a : Fa} {sz : Nat} {L : Nat → Int} {ps : List (Nat × List Int)} (h : Fr D W a sz L ps) (k : Kp (fun i => i ∈ a.own) W W') (h1 : a.fb < B) (h2 : a.lm < B) (h3 : a.om < B) : KeepsFrom B W W' := by
  refine ⟨k.size, fun j o hB hj ho => (k.block j (Array.getElem?_eq_some_iff.1 hj).1 (fun hm => ?_)).trans hj⟩
  rcases (a.mem j).1 hm with e | e | e | e
  · omega
  · omega
  · omega
  · obtain ⟨vs, h4⟩ := h.pc
    rcases h4.row.2 with ⟨h5, _⟩ | ⟨g, cap, cur, h5, _, h6, _⟩
    · rw [h5] at e; cases e
    · rw [h5] at e
      have : g = j := by simpa [Value.ownBlock] using e
      subst this
      rw [h6] at hj
      cases hj
      cases ho
theorem KeepsFrom.kp {B : Nat} {W W' X : World} (h : KeepsFrom B W W') (k : Kp (fun _ => False) W' X) : KeepsFrom B W X := h.trans ⟨k.size, fun j _ _ hj _ => (k.block j (Array.getElem?_eq_some_iff.1 hj).1 (fun x => x)).trans hj⟩
theorem turns_own {B : Nat} {W W' : World} {row : Option Nat} (hg : W.grownBy W' row) (hr : ∀ r, row = some r → B ≤ r ∧ ∃ o : Obj, W.heap[r]? = some o ∧ o.isCells = false) : Turns B W W' := ⟨row, hg, hr⟩
end Go.Proofs.YtnccklbnncaeoaaGreat
