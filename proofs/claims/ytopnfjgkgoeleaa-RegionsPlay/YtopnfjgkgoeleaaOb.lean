/- regions: objects from a base on. -/
import Derived.Test.YtopnfjgkgoeleaaMo
import Derived.Test.YtopnfjgkgoeleaaLe
import Derived.Test.YtopnfjgkgoeleaaSm
namespace Go.Proofs.Ytopnfjgkgoeleaa
open Go.RowKit
set_option linter.unusedVariables false
set_option linter.unusedSimpArgs false
/-- Regions whose blocks lie from a base on; all below is as it was. -/
structure ObI (base : Nat) (w : World) (B : Nat) (ao : Option Addr) (c : Nat) (L : List Rn) (W : World) : Prop where
  rg : Rg W B ao c L
  bl : Below base w W
  hB : base ≤ B
  ha : ∀ k off, ao = some ⟨k, off, none⟩ → base ≤ k
theorem ObI.put {base : Nat} {w : World} {B : Nat} {ao : Option Addr} {c : Nat} {L L' : List Rn} {W W' : World} (h : ObI base w B ao c L W) (hw : base ≤ w.heap.size) (k : Chg W B ao L.length c L' W') : ∃ ao' c', ObI base w B ao' c' L' W' := by
  obtain ⟨ao', c', h1, h2, h3⟩ := k
  have hs := h.bl.size
  refine ⟨ao', c', h1, ?_, h.hB, ?_⟩
  · exact h.bl.trans (h2.below (by omega) (fun i x => x.elim (fun e => by have := h.hB; omega) (fun ⟨_, off, e⟩ => h.ha i off e)))
  · intro k off e
    rcases h3 k off e with h4 | ⟨⟨o2, h4⟩, _⟩
    · omega
    · exact h.ha k o2 h4
theorem ObI.cht {base : Nat} {w : World} {B : Nat} {ao : Option Addr} {c : Nat} {L L' : List Rn} {W W' : World} (h : ObI base w B ao c L W) (hw : base ≤ w.heap.size) (k : Cht W B ao L.length c L' W') : ∃ ao' c', ObI base w B ao' c' L' W' := by
  obtain ⟨ao', c', h1, h2, h3⟩ := k
  exact h.put hw ⟨ao', c', h1, h2.mono (fun i _ e => Or.inl e), h3⟩
theorem ObI.below {base : Nat} {w : World} {B : Nat} {ao : Option Addr} {c : Nat} {L : List Rn} {W W' : World} (h : ObI base w B ao c L W) (hw : base ≤ w.heap.size) (b : Below W.heap.size W W') : ObI base w B ao c L W' := ⟨h.rg.below b, h.bl.trans (b.mono (by have := h.bl.size; omega)), h.hB, h.ha⟩
theorem ObI.new (w : World) : Calls Try.prog 9 #[] w fun e w' => e = .returned (.pointer (some ⟨w.heap.size, 0, none⟩)) ∧ ObI w.heap.size w w.heap.size none 0 [] w' := (new_has w).mono fun e w' ⟨h1, h2, h3, _⟩ => ⟨h1, h2, h3, Nat.le_refl _, fun k off e => by cases e⟩
/-- One is put that is apart from all. -/
theorem ObI.put1 {base : Nat} {w : World} {B : Nat} {ao : Option Addr} {c : Nat} {L : List Rn} {W : World} {x : Rn} (h : ObI base w B ao c L W) (hw : base ≤ w.heap.size) (hx : okp L x = true) :
    Calls Try.prog 21 #[.pointer (some ⟨B, 0, none⟩), .slice (some ⟨W.heap.size, 0, none⟩) 1 1] (W.alloc (.cells #[.int .i64 x.k, .int .i64 x.a, .int .i64 x.n] 46)) fun e w' => e = .returned (.tuple #[.int .i64 1, .int .i64 0]) ∧ ∃ ao' c', ObI base w B ao' c' (ins L x) w' := by
  obtain ⟨e1, e2, e3, e4, e5⟩ := pu1_yes hx
  have hp : Calls Try.prog 21 #[.pointer (some ⟨B, 0, none⟩), .slice (some ⟨W.heap.size, 0, none⟩) 1 1] (W.alloc (.cells #[.int .i64 x.k, .int .i64 x.a, .int .i64 x.n] 46)) fun e w' => e = .returned (.tuple #[.int .i64 ((puN L [x] : Nat) : Int), .int .i64 (puE L [x])]) ∧ Chg W B ao L.length c (puL L [x]) w' := put_new W B ao c L [x] 1 h.rg rfl (by omega) (fun y hy => by simp at hy; rw [hy]; exact e4.i6)
  rw [e1, e2, e3] at hp
  exact hp.mono fun e w' ⟨h1, h2⟩ => ⟨h1, h.put hw h2⟩
theorem ObI.take {base : Nat} {w : World} {B : Nat} {ao : Option Addr} {c : Nat} {L : List Rn} {W : World} {x : Rn} (h : ObI base w B ao c L W) (hw : base ≤ w.heap.size) (hx : x ∈ L) :
    Calls Try.prog 27 #[.pointer (some ⟨B, 0, none⟩), .int .i64 x.a] W fun e w' => e = .returned (.tuple #[.agg x.cs, .int .i64 0]) ∧ ∃ ao' c' L', ObI base w B ao' c' L' w' ∧ L.Perm (x :: L') := by
  obtain ⟨h1, h2, h3⟩ := tk_mem h.rg.srt hx
  refine (take_any W B ao c L x.a h.rg).mono fun e w' ⟨g1, g2⟩ => ?_
  rw [h1, h2] at g1
  obtain ⟨ao', c', g3⟩ := h.cht hw g2
  exact ⟨g1, ao', c', _, g3, h3⟩
end Go.Proofs.Ytopnfjgkgoeleaa
