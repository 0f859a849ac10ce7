/- A box: a block of a few cells. -/
import Derived.Test.YthpocbpleffdpaaHi
namespace Go.Proofs.Ythpocbpleffdpaa
open Go.RowKit
def Sc (t : TypeId) (w : World) (g : Nat) (cs : Array Value) : Prop := w.heap[g]? = some (.cells cs t (0, 0))
theorem Sc.cell {t : TypeId} {w : World} {g : Nat} {cs : Array Value} (h : Sc t w g cs) (i : Nat) : w.cell? ⟨g, i, none⟩ = cs[i]? := cell_of_row w g i _ t _ h
theorem Sc.frozen {t : TypeId} {w : World} {g : Nat} {cs : Array Value} (h : Sc t w g cs) (i : Nat) : w.frozen? ⟨g, i, none⟩ = false := frozen_of_row w g i _ t h
theorem Sc.lt {t : TypeId} {w : World} {g : Nat} {cs : Array Value} (h : Sc t w g cs) : g < w.heap.size := (Array.getElem?_eq_some_iff.1 h).1
theorem Sc.set {t : TypeId} {w : World} {g : Nat} {cs : Array Value} (h : Sc t w g cs) (i : Nat) (v : Value) : Sc t (w.setCell ⟨g, i, none⟩ v) g (cs.set! i v) := by
  unfold Sc
  rw [heap_setCell_same w g i _ t _ h]; simp
theorem Sc.kp {t : TypeId} {F : Nat → Prop} {w w' : World} {g : Nat} {cs : Array Value} (h : Sc t w g cs) (k : Kp F w w') (hf : ¬ F g) : Sc t w' g cs := by
  unfold Sc; rw [k.block g h.lt hf]; exact h
theorem Sc.new (t : TypeId) (w : World) (cs : Array Value) : Sc t (w.alloc (.cells cs t)) w.heap.size cs := heap_alloc_new w _
theorem kp_setC (w : World) (g i : Nat) (v : Value) (F : Nat → Prop) (hF : F g) : Kp F w (w.setCell ⟨g, i, none⟩ v) :=
  ⟨rfl, rfl, rfl, by simp, fun k _ hk => heap_setCell_other w ⟨g, i, none⟩ k v (fun e => hk (by rw [e]; exact hF))⟩
end Go.Proofs.Ythpocbpleffdpaa
