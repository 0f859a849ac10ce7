/- Rows of bytes in memory: what a block of bytes holds, read, written, kept while other blocks turn. -/
import Derived.Test.YtjjhkfhppoioiaaNums
import Derived.WalkKit
import Derived.WalkSpells
import Derived.WalkLawsBesides
namespace Go.Proofs.Ytjjhkfhppoioiaa
open Go.RowKit

/-- Block g holds just these bytes (and none of them is frozen). -/
def Rw (t : TypeId) (w : World) (g : Nat) (L : List Int) : Prop := w.heap[g]? = some (.cells (L.map (Value.int .u8)).toArray t (0, 0))

theorem Rw.cell {t : TypeId} {w : World} {g : Nat} {L : List Int} (h : Rw t w g L) (i : Nat) (hi : i < L.length) : w.cell? ⟨g, i, none⟩ = some (.int .u8 (L.getD i 0)) := by
  rw [cell_of_row w g i _ t _ h]
  simp [List.getD, hi]
theorem Rw.frozen {t : TypeId} {w : World} {g : Nat} {L : List Int} (h : Rw t w g L) (i : Nat) : w.frozen? ⟨g, i, none⟩ = false := frozen_of_row w g i _ t h
theorem Rw.lt {t : TypeId} {w : World} {g : Nat} {L : List Int} (h : Rw t w g L) : g < w.heap.size := (Array.getElem?_eq_some_iff.1 h).1
theorem Rw.set {t : TypeId} {w : World} {g : Nat} {L : List Int} (h : Rw t w g L) (i : Nat) (v : Int) : Rw t (w.setCell ⟨g, i, none⟩ (.int .u8 v)) g (L.set i v) := by
  unfold Rw
  rw [heap_setCell_same w g i _ t _ h]
  simp [List.map_set]
theorem Rw.of_block {t : TypeId} {w w' : World} {g : Nat} {L : List Int} (h : Rw t w g L) (hb : w'.heap[g]? = w.heap[g]?) : Rw t w' g L := by unfold Rw; rw [hb]; exact h
theorem Rw.below {t : TypeId} {w w' : World} {g B : Nat} {L : List Int} (h : Rw t w g L) (hb : Below B w w') (hg : g < B) : Rw t w' g L := h.of_block (hb.block g hg)
theorem Rw.grown {t : TypeId} {w w' : World} {g : Nat} {row : Option Nat} {L : List Int} (h : Rw t w g L) (hb : w.grownBy w' row) (hg : some g ≠ row) : Rw t w' g L := h.of_block (hb.block g h.lt hg)
theorem Rw.alloc {t : TypeId} {w : World} {g : Nat} {L : List Int} (h : Rw t w g L) (o : Obj) : Rw t (w.alloc o) g L := h.of_block (Below.heap_alloc w o g h.lt)
theorem Rw.drew {t : TypeId} {w : World} {g : Nat} {L : List Int} (h : Rw t w g L) : Rw t w.drew g L := h
theorem Rw.new (t : TypeId) (w : World) (L : List Int) : Rw t (w.alloc (.cells (L.map (Value.int .u8)).toArray t)) w.heap.size L := heap_alloc_new w _
theorem Rw.at {t : TypeId} {w : World} {g : Nat} {L : List Int} (h : Rw t w g L) : w.heap[g]? = some (.cells (L.map (Value.int .u8)).toArray t (0, 0)) := h
theorem Rw.of {t : TypeId} {w : World} {g : Nat} {L : List Int} (h : w.heap[g]? = some (.cells (L.map (Value.int .u8)).toArray t (0, 0))) : Rw t w g L := h
theorem Rw.cells {t : TypeId} {w : World} {g : Nat} {L : List Int} (h : Rw t w g L) : ∀ i, i < L.length → w.cell? ⟨g, 0 + i, none⟩ = some (.int .u8 (L.getD i 0)) := fun i hi => by rw [Nat.zero_add]; exact h.cell i hi

theorem add_z (g j : Nat) : (⟨g, 0, none⟩ : Addr).add j = ⟨g, j, none⟩ := by unfold Addr.add; split <;> simp_all
theorem add_o (g o j : Nat) : (⟨g, o, none⟩ : Addr).add j = ⟨g, o + j, none⟩ := by unfold Addr.add; split <;> simp_all

/-- What split has laid behind k rounds. -/
def digs (x : Int) (n k : Nat) : List Int := num x (min k n) ++ List.replicate (8 - min k n) 0
theorem digs_length (x : Int) (n k : Nat) (hn : n ≤ 8) : (digs x n k).length = 8 := by simp [digs, num_length]; omega
theorem digs_zero (x : Int) (n : Nat) : digs x n 0 = [0, 0, 0, 0, 0, 0, 0, 0] := by simp [digs, num]; try rfl
theorem digs_step (x : Int) (n k : Nat) (h : k < n) (hn : n ≤ 8) : (digs x n k).set k (x / 256 ^ k % 256) = digs x n (k + 1) := by
  unfold digs
  rw [show min k n = k by omega, show min (k + 1) n = k + 1 by omega, num_snoc, show 8 - k = (8 - (k + 1)) + 1 by omega, List.replicate_succ]
  rw [List.set_append_right _ _ (by rw [num_length]; omega), num_length, Nat.sub_self]
  simp
theorem digs_stay (x : Int) (n k : Nat) (h : n ≤ k) : digs x n (k + 1) = digs x n k := by unfold digs; rw [show min k n = n by omega, show min (k + 1) n = n by omega]
theorem digs_end (x : Int) (n k : Nat) (h : n ≤ k) : digs x n k = num x n ++ List.replicate (8 - n) 0 := by unfold digs; rw [show min k n = n by omega]
theorem div_pow_step (x : Int) (k : Nat) : x / 256 ^ k / 256 = x / 256 ^ (k + 1) := by
  rw [Int.pow_succ, Int.ediv_ediv_of_nonneg (Int.pow_nonneg (by omega))]
theorem div_pow_zero (x : Int) (n : Nat) (h0 : 0 ≤ x) : x / 256 ^ n = 0 ↔ x < 256 ^ n := by
  have hp : (0 : Int) < 256 ^ n := Int.pow_pos (by omega)
  constructor
  · intro h
    have := Int.lt_ediv_add_one_mul_self x hp
    rw [h] at this; omega
  · intro h; exact Int.ediv_eq_zero_of_lt h0 h
theorem div_pow_bd (x : Int) (k : Nat) (h0 : 0 ≤ x) (h1 : x < 18446744073709551616) : 0 ≤ x / 256 ^ k ∧ x / 256 ^ k < 18446744073709551616 := by
  have hp : (0 : Int) < 256 ^ k := Int.pow_pos (by omega)
  exact ⟨Int.ediv_nonneg h0 (by omega), Int.lt_of_le_of_lt (Int.ediv_le_self _ h0) h1⟩

theorem grown_trans {a b c : World} {row : Option Nat} (h : a.grownBy b row) (k : b.grownBy c row) : a.grownBy c row :=
  ⟨k.os.trans h.os, k.tape.trans h.tape, k.output.trans h.output, Nat.le_trans h.size k.size, fun i hi hne => (k.block i (Nat.lt_of_lt_of_le hi h.size) hne).trans (h.block i hi hne)⟩
theorem grown_refl (w : World) (row : Option Nat) : w.grownBy w row := ⟨rfl, rfl, rfl, Nat.le_refl _, fun _ _ _ => rfl⟩
theorem grown_of_below {w w' : World} {row : Option Nat} (h : Below w.heap.size w w') : w.grownBy w' row := ⟨h.os, h.tape, h.output, h.size, fun k hk _ => h.block k hk⟩
theorem splice_append {α : Type} (zs tl cs : List α) (o : Nat) (h : o + cs.length ≤ zs.length) : splice (zs ++ tl) o cs = splice zs o cs ++ tl := by
  unfold splice
  rw [List.take_append_of_le_length (by omega), List.drop_append_of_le_length h]
  simp

end Go.Proofs.Ytjjhkfhppoioiaa
