/- What is kept of a world; blocks of structs. -/
import Derived.Test.YtjjhkfhppoioiaaRefN
import Derived.Test.YtjjhkfhppoioiaaOwnI
import Derived.Test.YtjjhkfhppoioiaaRg
import Derived.WalkSpells
import Derived.WalkLawsBesides
import Derived.Laws.MakeOwn
import Derived.Deep.RegionLaw
namespace Go.Proofs.Ytjjhkfhppoioiaa
open Go.RowKit
set_option linter.unusedVariables false

/-- All that was there is as it was, but for some blocks. -/
structure Kp (F : Nat → Prop) (w w' : World) : Prop where
  os : w'.os = w.os
  tape : w'.tape = w.tape
  output : w'.output = w.output
  size : w.heap.size ≤ w'.heap.size
  block : ∀ k, k < w.heap.size → ¬ F k → w'.heap[k]? = w.heap[k]?
theorem Kp.refl (F : Nat → Prop) (w : World) : Kp F w w := ⟨rfl, rfl, rfl, Nat.le_refl _, fun _ _ _ => rfl⟩
theorem Kp.trans {F G : Nat → Prop} {a b c : World} (h : Kp F a b) (k : Kp G b c) (hg : ∀ i, i < a.heap.size → G i → F i) : Kp F a c :=
  ⟨k.os.trans h.os, k.tape.trans h.tape, k.output.trans h.output, Nat.le_trans h.size k.size, fun i hi hf => (k.block i (Nat.lt_of_lt_of_le hi h.size) (fun x => hf (hg i hi x))).trans (h.block i hi hf)⟩
theorem Kp.mono {F G : Nat → Prop} {a b : World} (h : Kp F a b) (hg : ∀ i, i < a.heap.size → F i → G i) : Kp G a b :=
  ⟨h.os, h.tape, h.output, h.size, fun i hi hf => h.block i hi (fun x => hf (hg i hi x))⟩
theorem Kp.of_grown {F : Nat → Prop} {a b : World} {row : Option Nat} (h : a.grownBy b row) (hg : ∀ i, row = some i → F i) : Kp F a b :=
  ⟨h.os, h.tape, h.output, h.size, fun i hi hf => h.block i hi (fun e => hf (hg i e.symm))⟩
theorem Kp.of_below {F : Nat → Prop} {a b : World} (h : Below a.heap.size a b) : Kp F a b := ⟨h.os, h.tape, h.output, h.size, fun i hi _ => h.block i hi⟩
theorem Kp.below {F : Nat → Prop} {a b : World} {B : Nat} (h : Kp F a b) (hB : B ≤ a.heap.size) (hf : ∀ i, F i → B ≤ i) : Below B a b :=
  ⟨h.os, h.tape, h.output, h.size, fun i hi => h.block i (Nat.lt_of_lt_of_le hi hB) (fun x => absurd (hf i x) (by omega))⟩
theorem Kp.drew {F : Nat → Prop} {a b : World} (h : Kp F a b) : Kp F a b.drew := ⟨h.os, h.tape, h.output, h.size, h.block⟩
theorem Kp.alloc {F : Nat → Prop} {a b : World} (h : Kp F a b) (o : Obj) : Kp F a (b.alloc o) :=
  ⟨h.os, h.tape, h.output, Nat.le_trans h.size (by simp), fun i hi hf => (Below.heap_alloc b o i (Nat.lt_of_lt_of_le hi h.size)).trans (h.block i hi hf)⟩
theorem Rw.kp {t : TypeId} {F : Nat → Prop} {w w' : World} {g : Nat} {L : List Int} (h : Rw t w g L) (k : Kp F w w') (hf : ¬ F g) : Rw t w' g L := h.of_block (k.block g h.lt hf)
theorem hmix : Try.prog.follows .mixedOrders = true := by kernel_rfl
theorem drewN_kp (F : Nat → Prop) (w : World) (n : Nat) : Kp F w (w.drewN n) := by
  induction n generalizing w with
  | zero => exact Kp.refl _ _
  | succ n ih => exact (ih w).drew

/-- A struct's cells. -/
def St (t : TypeId) (w : World) (g : Nat) (cs : Array Value) : Prop := w.heap[g]? = some (.cells cs t (0, 0))
theorem St.cell {t : TypeId} {w : World} {g : Nat} {cs : Array Value} (h : St t w g cs) (i : Nat) : w.cell? ⟨g, i, none⟩ = cs[i]? := cell_of_row w g i _ t _ h
theorem St.frozen {t : TypeId} {w : World} {g : Nat} {cs : Array Value} (h : St t w g cs) (i : Nat) : w.frozen? ⟨g, i, none⟩ = false := frozen_of_row w g i _ t h
theorem St.lt {t : TypeId} {w : World} {g : Nat} {cs : Array Value} (h : St t w g cs) : g < w.heap.size := (Array.getElem?_eq_some_iff.1 h).1
theorem St.set {t : TypeId} {w : World} {g : Nat} {cs : Array Value} (h : St t w g cs) (i : Nat) (v : Value) : St t (w.setCell ⟨g, i, none⟩ v) g (cs.set! i v) := by
  unfold St
  rw [heap_setCell_same w g i _ t _ h]; simp
theorem St.kp {t : TypeId} {F : Nat → Prop} {w w' : World} {g : Nat} {cs : Array Value} (h : St t w g cs) (k : Kp F w w') (hf : ¬ F g) : St t w' g cs := by
  unfold St; rw [k.block g h.lt hf]; exact h
theorem St.below {t : TypeId} {w w' : World} {g B : Nat} {cs : Array Value} (h : St t w g cs) (k : Below B w w') (hg : g < B) : St t w' g cs := by
  unfold St; rw [k.block g hg]; exact h
theorem St.new (t : TypeId) (w : World) (cs : Array Value) : St t (w.alloc (.cells cs t)) w.heap.size cs := heap_alloc_new w _
theorem kp_setCell (w : World) (g i : Nat) (v : Value) (F : Nat → Prop) (hF : F g) : Kp F w (w.setCell ⟨g, i, none⟩ v) :=
  ⟨rfl, rfl, rfl, by simp, fun k _ hk => heap_setCell_other w ⟨g, i, none⟩ k v (fun e => hk (by rw [e]; exact hF))⟩
theorem kp_cell {F : Nat → Prop} {w w' : World} {g i : Nat} {v : Value} (k : Kp F w w') (h : w.cell? ⟨g, i, none⟩ = some v) (hf : ¬ F g) : w'.cell? ⟨g, i, none⟩ = some v := by
  rw [← h]
  have hb := k.block g (block_lt_of_cell h) hf
  unfold World.cell?
  simp only [hb]
theorem kp_frozen {F : Nat → Prop} {w w' : World} {g i : Nat} (k : Kp F w w') (hl : g < w.heap.size) (hf : ¬ F g) : w'.frozen? ⟨g, i, none⟩ = w.frozen? ⟨g, i, none⟩ := by
  have hb := k.block g hl hf
  unfold World.frozen?
  simp only [hb]
theorem results_cell1 {P : Program} {fn : Func} {p : Tmp} {ty : TypeId} (h : fn.results = #[.cell p ty]) (tmps : Array Value) (w : World) (b : Nat) {v : Value} (hp : tmps.getD p undef = .pointer (some ⟨b, 0, none⟩)) (hl : (loadVar ty ⟨b, 0, none⟩).run P w = .ok v w) :
    (results fn tmps).run P w = .ok v w := by
  have hp' : tmps[p]?.getD undef = .pointer (some ⟨b, 0, none⟩) := by simpa using hp
  simp [results, h, hp', asAddr, hl]
theorem Kp.cell {w w' : World} (k : Kp (fun _ => False) w w') {ad : Addr} {v : Value} (h : w.cell? ad = some v) : w'.cell? ad = some v := by
  rw [← h]
  have hb := k.block ad.block (block_lt_of_cell h) (fun x => x)
  unfold World.cell?
  simp only [hb]
theorem Src.kp {w w' : World} {ao : Option Addr} {zs : List Int} (h : Src w ao zs) (k : Kp (fun _ => False) w w') : Src w' ao zs := by
  intro hp
  obtain ⟨b, off, e, hc⟩ := h hp
  exact ⟨b, off, e, fun i hi => k.cell (hc i hi)⟩
end Go.Proofs.Ytjjhkfhppoioiaa
