/- A row of steps: what a script reads as. -/
import Derived.Test.YtalicohflfildaaPl
namespace Go.Proofs.Ytalicohflfildaa
open Go.RowKit

/-- A step of a script. -/
structure Stp where
  kind : Int
  n : Int
  at0 : Int
  name : ByteArray
  bv : Value
  fv : Value
  pv : Value
def Stp.cells (t : Stp) : List Value := [.int .i64 t.kind, .int .i64 t.n, .int .i64 t.at0, .string t.name, t.bv, t.fv, t.pv]
def zst : Stp := ⟨0, 0, 0, ⟨#[]⟩, .slice none 0 0, .slice none 0 0, .slice none 0 0⟩
def scs (ts : List Stp) : List Value := ts.flatMap Stp.cells
theorem scs_len (ts : List Stp) : (scs ts).length = ts.length * 7 := by
  induction ts with
  | nil => rfl
  | cons t ts ih =>
    have : scs (t :: ts) = t.cells ++ scs ts := rfl
    rw [this, List.length_append, ih]
    simp [Stp.cells]
    omega
theorem scs_append (a b : List Stp) : scs (a ++ b) = scs a ++ scs b := by simp [scs]
theorem scs_get (ts : List Stp) (i j : Nat) (hi : i < ts.length) (hj : j < 7) : (scs ts)[i * 7 + j]? = (ts.getD i zst).cells[j]? := by
  induction ts generalizing i with
  | nil => simp at hi
  | cons t ts ih =>
    have h1 : scs (t :: ts) = t.cells ++ scs ts := rfl
    have h2 : t.cells.length = 7 := rfl
    rw [h1]
    cases i with
    | zero => rw [Nat.zero_mul, Nat.zero_add, List.getElem?_append_left (by omega)]; rfl
    | succ i =>
      rw [List.getElem?_append_right (by omega), h2, show (i + 1) * 7 + j - 7 = i * 7 + j by omega, ih i (by simp at hi; omega)]
      simp
def SSrc (w : World) (ao : Option Addr) (ts : List Stp) : Prop := 0 < ts.length → ∃ b off, ao = some ⟨b, off, none⟩ ∧ b < w.heap.size ∧ ∀ i, i < ts.length → ∀ j, j < 7 → w.cell? ⟨b, off + i * 7 + j, none⟩ = (ts.getD i zst).cells[j]?
theorem kp_cellq {F : Nat → Prop} {w w' : World} (k : Kp F w w') {b o : Nat} (hb : b < w.heap.size) (hf : ¬ F b) : w'.cell? ⟨b, o, none⟩ = w.cell? ⟨b, o, none⟩ := by
  have := k.block b hb hf
  unfold World.cell?
  simp only [this]
theorem SSrc.nil (w : World) (ao : Option Addr) : SSrc w ao [] := fun h => absurd h (by simp)
theorem SSrc.kp {F : Nat → Prop} {w w' : World} {ao : Option Addr} {ts : List Stp} (h : SSrc w ao ts) (k : Kp F w w') (hf : ∀ b off, ao = some ⟨b, off, none⟩ → b < w.heap.size → ¬ F b) : SSrc w' ao ts := by
  intro hp
  obtain ⟨b, off, rfl, hb, hc⟩ := h hp
  exact ⟨b, off, rfl, Nat.lt_of_lt_of_le hb k.size, fun i hi j hj => by rw [← hc i hi j hj]; exact kp_cellq k hb (hf b off rfl hb)⟩
/-- What each step of a script is: bytes that lie below B, strings and rows of a length. -/
structure Swf (B : Nat) (w : World) (t : Stp) : Prop where
  bs : ∃ ao cap xs, t.bv = .slice ao (xs : List Int).length cap ∧ xs.length ≤ cap ∧ Src .u8 w ao xs ∧ cap ≤ maxLen ∧ (∀ b off, ao = some ⟨b, off, none⟩ → 0 < xs.length → b < B)
  fs : ∃ ao l c, t.fv = .slice ao l c ∧ l ≤ maxLen
  ps : ∃ ao l c, t.pv = .slice ao l c ∧ l ≤ maxLen
  nm : t.name.size ≤ maxLen
  at1 : -9223372036854775808 ≤ t.at0
  at2 : t.at0 ≤ 9223372036854775807
end Go.Proofs.Ytalicohflfildaa
