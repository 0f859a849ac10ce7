/- The document's store in memory; find, Pending. -/
import Derived.Test.YtlnknkeagonmpaaGreatNd
import Derived.Test.YtlnknkeagonmpaaGreatWr
namespace Go.Proofs.YtlnknkeagonmpaaGreat
open Go.RowKit

/-- A file of the document's store: its name, what lasts, its pieces. -/
structure Rf where
  name : ByteArray
  last : ByteArray
  ps : List (Nat × ByteArray)
def rps (ps : List (Nat × ByteArray)) : List Value := ps.flatMap (fun p => [.int .i64 (p.1 : Int), .string p.2])
/-- Pieces that read so. -/
def PSrc (D : Nat → Prop) (w : World) (v : Value) (ps : List (Nat × ByteArray)) : Prop := ∃ ao cap, v = .slice ao ps.length cap ∧ ps.length ≤ cap ∧ (ao = none → cap = 0) ∧ (0 < ps.length → ∃ b off, ao = some ⟨b, off, none⟩ ∧ D b ∧ b < w.heap.size ∧ ∀ j u, (rps ps)[j]? = some u → w.cell? ⟨b, off + j, none⟩ = some u)
def rcs (fs : List (Rf × Value)) : List Value := fs.flatMap (fun x => [.string x.1.name, .string x.1.last, x.2])
theorem rcs_len (fs : List (Rf × Value)) : (rcs fs).length = fs.length * 3 := by
  induction fs with
  | nil => rfl
  | cons t fs ih =>
    have : rcs (t :: fs) = [.string t.1.name, .string t.1.last, t.2] ++ rcs fs := rfl
    rw [this, List.length_append, ih]
    simp
    omega
def zrf : Rf × Value := (⟨⟨#[]⟩, ⟨#[]⟩, []⟩, .slice none 0 0)
theorem rcs_get (fs : List (Rf × Value)) (i : Nat) (hi : i < fs.length) : (rcs fs)[i * 3]? = some (.string (fs.getD i zrf).1.name) ∧ (rcs fs)[i * 3 + 1]? = some (.string (fs.getD i zrf).1.last) ∧ (rcs fs)[i * 3 + 2]? = some (fs.getD i zrf).2 := by
  induction fs generalizing i with
  | nil => simp at hi
  | cons f fs ih =>
    have h1 : rcs (f :: fs) = .string f.1.name :: .string f.1.last :: f.2 :: rcs fs := rfl
    rw [h1]
    cases i with
    | zero => exact ⟨rfl, rfl, rfl⟩
    | succ i =>
      have := ih i (by simp at hi; omega)
      rw [show (i + 1) * 3 = i * 3 + 1 + 1 + 1 by omega]
      simpa using this
/-- The document's store: its files by rising names. -/
structure Rs (D : Nat → Prop) (w : World) (g : Nat) (fv : Value) (steps : Nat) (fs : List (Rf × Value)) : Prop where
  st : St 67 w g #[fv, .slice none 0 0, .int .i64 steps]
  row : w.ownsRow 0 75 3 fv fs.length (rcs fs)
  pc : ∀ x ∈ fs, PSrc D w x.2 x.1.ps
  ng : fv.ownBlock ≠ some g
  dn : ∀ i, D i → i ≠ g ∧ fv.ownBlock ≠ some i
  db : ∀ i, D i → i < w.heap.size
  sb : steps ≤ 1000000000
  nf : fs.length ≤ 1000
  np : ∀ x ∈ fs, x.1.ps.length ≤ 1000000000
  pw : ∀ x ∈ fs, ∀ p ∈ x.1.ps, p.1 + p.2.size ≤ x.1.last.size
  lb : ∀ x ∈ fs, x.1.last.size ≤ 1000000000
theorem Rs.cells {D : Nat → Prop} {w : World} {g : Nat} {fv : Value} {steps : Nat} {fs : List (Rf × Value)} (h : Rs D w g fv steps fs) (hp : 0 < fs.length) : ∃ b cap, fv = .slice (some ⟨b, 0, none⟩) fs.length cap ∧ ∀ i, i < fs.length → w.cell? ⟨b, 0 + i * 3, none⟩ = some (.string (fs.getD i zrf).1.name) ∧ w.cell? ⟨b, 0 + i * 3 + 1, none⟩ = some (.string (fs.getD i zrf).1.last) ∧ w.cell? ⟨b, 0 + i * 3 + 2, none⟩ = some (fs.getD i zrf).2 := by
  rcases h.row.2 with ⟨_, h1⟩ | ⟨b, cap, cur, rfl, h1, h2, h3, h4, h5, h6⟩
  · omega
  · refine ⟨b, cap, rfl, fun i hi => ?_⟩
    obtain ⟨e1, e2, e3⟩ := rcs_get fs i hi
    rw [← h6, List.getElem?_take, if_pos (by omega)] at e1
    rw [← h6, List.getElem?_take, if_pos (by omega)] at e2
    rw [← h6, List.getElem?_take, if_pos (by omega)] at e3
    refine ⟨(cell_of_row w b _ _ 75 _ h2).trans ?_, (cell_of_row w b _ _ 75 _ h2).trans ?_, (cell_of_row w b _ _ 75 _ h2).trans ?_⟩
    · rw [Nat.zero_add]; simpa using e1
    · rw [Nat.zero_add]; simpa using e2
    · rw [Nat.zero_add]; simpa using e3
/-- How many pieces there are. -/
def rpn (fs : List (Rf × Value)) : Nat := (fs.map (fun x => x.1.ps.length)).sum
theorem getD_memR (fs : List (Rf × Value)) (k : Nat) (h : k < fs.length) : fs.getD k zrf ∈ fs := by
  rw [List.getD_eq_getElem?_getD, List.getElem?_eq_getElem h]
  exact List.getElem_mem h
theorem take_getR (fs : List (Rf × Value)) (k : Nat) (h : k < fs.length) : fs.take (k + 1) = fs.take k ++ [fs.getD k zrf] := by
  rw [List.take_add_one, List.getElem?_eq_getElem h, List.getD_eq_getElem?_getD, List.getElem?_eq_getElem h]
  rfl
theorem rpn_le {fs : List (Rf × Value)} (h : ∀ x ∈ fs, x.1.ps.length ≤ 1000000000) : rpn fs ≤ fs.length * 1000000000 := by
  unfold rpn
  induction fs with
  | nil => simp
  | cons f fs ih =>
    rw [List.map_cons, List.sum_cons, List.length_cons, Nat.add_mul]
    have h1 := h f (by simp)
    have h2 := ih (fun x hx => h x (by simp [hx]))
    omega
set_option maxRecDepth 100000 in
set_option maxHeartbeats 2000000 in
theorem rpending_any (D : Nat → Prop) (w : World) (g : Nat) (fv : Value) (steps : Nat) (fs : List (Rf × Value)) (h : Rs D w g fv steps fs) :
    Calls Tryz.prog 8 #[.pointer (some ⟨g, 0, none⟩)] w fun e w' => e = .returned (.int .i64 (rpn fs)) ∧ w' = w := by
  have HR : Hid (Rs D w g fv steps fs) := h
  obtain ⟨fa, fc, hfv⟩ := ownsRow_shape h.row
  have c0 : w.cell? ⟨g, 0, none⟩ = some (.slice fa fs.length fc) := by rw [← hfv]; exact h.st.cell 0
  have hnf := h.nf
  clear h
  go_enter Tryz.func8, Tryz.ntmps8
  go_wp2_with fail
  go_loop [3, 4] (fun nv iv => ∃ k : Nat, k ≤ fs.length ∧ iv = .int .i64 k ∧ nv = .int .i64 (rpn (fs.take k))) (fun _ iv => fs.length - (intOf iv).toNat)
  case atStart => exact ⟨0, Nat.zero_le _, rfl, rfl⟩
  case round =>
    obtain ⟨k, hk, rfl, rfl⟩ := hrel
    by_cases hlt : k < fs.length
    · have hli : (k : Int) < (fs.length : Int) := by omega
      obtain ⟨b, cap, hpe, hcs⟩ := HR.out.cells (by omega)
      rw [hfv] at hpe
      obtain ⟨rfl, rfl⟩ : fa = some ⟨b, 0, none⟩ ∧ fc = cap := by
        simp only [Value.slice.injEq] at hpe; exact ⟨hpe.1, hpe.2.2⟩
      obtain ⟨_, _, y2⟩ := hcs k hlt
      obtain ⟨ao, cp, hps, hcp, _⟩ := HR.out.pc _ (getD_memR fs k hlt)
      rw [hps, Nat.zero_add] at y2
      have hnp := HR.out.np _ (getD_memR fs k hlt)
      have HTK : Hid (rpn (fs.take (k + 1)) = rpn (fs.take k) + (fs.getD k zrf).1.ps.length) := by
        show _ = _
        rw [take_getR fs k hlt]
        simp [rpn]
      have hrl : rpn (fs.take k) ≤ 1000000000000 := by
        have h1 := rpn_le (fs := fs.take k) (fun x hx => HR.out.np x (List.mem_of_mem_take hx))
        have h2 : (fs.take k).length ≤ 1000 := by rw [List.length_take]; omega
        have h3 := Nat.mul_le_mul_right 1000000000 h2
        omega
      generalize (fs.getD k zrf).1.ps.length = pl at *
      clear hcs hps hpe
      generalize rpn (fs.take k) = q at *
      go_wp2
      exact ⟨⟨k + 1, hlt, rfl, by rw [HTK.out]; go_num⟩, by simp only [intOf]; omega⟩
    · have hli : ¬ (k : Int) < (fs.length : Int) := by omega
      have HEQ : Hid (rpn (fs.take k) = rpn fs) := by show _ = _; rw [List.take_of_length_le (by omega)]
      rw [HEQ.out]
      go_wp2
      go_ret
      exact ⟨rfl, rfl⟩
end Go.Proofs.YtlnknkeagonmpaaGreat
