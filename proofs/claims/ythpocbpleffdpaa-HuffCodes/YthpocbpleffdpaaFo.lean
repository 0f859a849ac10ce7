/- The forest as a list of trees: what each is, where it lies; their keys. -/
import Derived.Test.YthpocbpleffdpaaHj
namespace Go.Proofs.Ythpocbpleffdpaa
open Go.RowKit

/-- A tree: what it costs, its symbol, its two parts (by the numbers under which they were made). -/
abbrev Nd := Nat × Nat × Option (Nat × Nat)
def nd0 : Nd := (0, 0, none)
/-- The forest in memory: its block, the trees made so far, their blocks. -/
structure Fo (w : World) (Fb : Nat) (F : List Nd) (bs : List Nat) : Prop where
  st : St 111 w Fb #[.int .i64 F.length]
  len : bs.length = F.length
  nd : ∀ k, k < F.length → St 131 w (bs.getD k 0) #[.int .u64 (F.getD k nd0).1, .int .i64 k, .int .i64 (F.getD k nd0).2.1, pto ((F.getD k nd0).2.2.map fun p => bs.getD p.1 0), pto ((F.getD k nd0).2.2.map fun p => bs.getD p.2 0)]
  co : ∀ k, k < F.length → (F.getD k nd0).1 < 18446744073709551616
  kid : ∀ k p, k < F.length → (F.getD k nd0).2.2 = some p → p.1 < k ∧ p.2 < k
  small : F.length < 4611686018427387904
theorem Fo.kp {G : Nat → Prop} {w w' : World} {Fb : Nat} {F : List Nd} {bs : List Nat} (h : Fo w Fb F bs) (k : Kp G w w') (h1 : ¬ G Fb) (h2 : ∀ b ∈ bs, ¬ G b) : Fo w' Fb F bs :=
  ⟨h.st.kp k h1, h.len, fun i hi => (h.nd i hi).kp k (h2 _ (by have := h.len; simp [List.getD, show i < bs.length by omega])), h.co, h.kid, h.small⟩
theorem Fo.inj {w : World} {Fb : Nat} {F : List Nd} {bs : List Nat} (h : Fo w Fb F bs) {i j : Nat} (hi : i < F.length) (hj : j < F.length) (e : bs.getD i 0 = bs.getD j 0) : i = j := by
  have h1 := h.nd i hi
  have h2 := h.nd j hj
  rw [e] at h1
  unfold St at h1 h2
  rw [h1] at h2
  injection h2 with h2
  injection h2 with h2 _
  have := congrArg (fun (a : Array Value) => a[1]?) h2
  simp at this
  omega
theorem Fo.mem {w : World} {Fb : Nat} {F : List Nd} {bs : List Nat} (h : Fo w Fb F bs) {b : Nat} (hb : b ∈ bs) : ∃ k, k < F.length ∧ b = bs.getD k 0 := by
  obtain ⟨k, hk, rfl⟩ := List.mem_iff_getElem.1 hb
  exact ⟨k, by have := h.len; omega, by simp [List.getD, hk]⟩
theorem Fo.lt {w : World} {Fb : Nat} {F : List Nd} {bs : List Nat} (h : Fo w Fb F bs) {b : Nat} (hb : b ∈ bs) : b < w.heap.size ∧ b ≠ Fb := by
  obtain ⟨k, hk, rfl⟩ := h.mem hb
  exact ⟨(h.nd k hk).lt, fun e => apart_types (by decide) (e ▸ h.nd k hk) h.st⟩
/-- The keys, off the list. -/
def cF (F : List Nd) (bs : List Nat) (b : Nat) : Nat := (F.getD (bs.idxOf b) nd0).1 * 9223372036854775808 + bs.idxOf b
theorem Fo.idx {w : World} {Fb : Nat} {F : List Nd} {bs : List Nat} (h : Fo w Fb F bs) {k : Nat} (hk : k < F.length) : bs.idxOf (bs.getD k 0) = k := by
  have hl := h.len
  have hm : bs.getD k 0 ∈ bs := by simp [List.getD, show k < bs.length by omega]
  have h1 := List.idxOf_lt_length_of_mem hm
  refine h.inj (by omega) hk ?_
  generalize bs.getD k 0 = b at h1 ⊢
  simp [List.getD, h1]
theorem Fo.tk {w : World} {Fb : Nat} {F : List Nd} {bs : List Nat} (h : Fo w Fb F bs) {b : Nat} (hb : b ∈ bs) : Tk (cF F bs) w b := by
  obtain ⟨k, hk, rfl⟩ := h.mem hb
  refine ⟨_, k, _, _, _, h.nd k hk, h.co k hk, by have := h.small; omega, ?_⟩
  unfold cF
  rw [h.idx hk]
theorem cF_more {F : List Nd} {bs : List Nat} (hl : bs.length = F.length) (x : Nd) (n : Nat) {b : Nat} (hb : b ∈ bs) : cF (F ++ [x]) (bs ++ [n]) b = cF F bs b := by
  have h1 := List.idxOf_lt_length_of_mem hb
  unfold cF
  rw [List.idxOf_append, if_pos hb]
  simp [List.getD, List.getElem?_append_left (show bs.idxOf b < F.length by omega)]
theorem Fo.grow {w w' : World} {Fb : Nat} {F : List Nd} {bs : List Nat} (h : Fo w Fb F bs) (x : Nd) (hx : x.1 < 18446744073709551616) (hk : ∀ p, x.2.2 = some p → p.1 < F.length ∧ p.2 < F.length) (hs : F.length + 1 < 4611686018427387904)
    (hn : St 131 w' w.heap.size #[.int .u64 x.1, .int .i64 F.length, .int .i64 x.2.1, pto (x.2.2.map fun p => bs.getD p.1 0), pto (x.2.2.map fun p => bs.getD p.2 0)]) (hf : St 111 w' Fb #[.int .i64 ((F.length : Int) + 1)]) (k : Kp (fun k => k = Fb) w w') : Fo w' Fb (F ++ [x]) (bs ++ [w.heap.size]) := by
  have hl := h.len
  have hgo : ∀ j, j < F.length → (F ++ [x]).getD j nd0 = F.getD j nd0 := fun j hj => by simp [List.getD, List.getElem?_append_left hj]
  have hbo : ∀ j, j < F.length → (bs ++ [w.heap.size]).getD j 0 = bs.getD j 0 := fun j hj => by simp [List.getD, List.getElem?_append_left (show j < bs.length by omega)]
  have hgn : (F ++ [x]).getD F.length nd0 = x := by simp
  have hbn : (bs ++ [w.heap.size]).getD F.length 0 = w.heap.size := by rw [← hl]; simp
  have hmap : ∀ (o : Option (Nat × Nat)), (∀ p, o = some p → p.1 < F.length ∧ p.2 < F.length) → (o.map fun p => (bs ++ [w.heap.size]).getD p.1 0) = (o.map fun p => bs.getD p.1 0) ∧ (o.map fun p => (bs ++ [w.heap.size]).getD p.2 0) = (o.map fun p => bs.getD p.2 0) := by
    intro o ho
    cases o with
    | none => exact ⟨rfl, rfl⟩
    | some p => exact ⟨by simp only [Option.map_some]; rw [hbo _ (ho p rfl).1], by simp only [Option.map_some]; rw [hbo _ (ho p rfl).2]⟩
  refine ⟨by simpa using hf, by simp [hl], fun j hj => ?_, fun j hj => ?_, fun j p hj e => ?_, by simpa using hs⟩
  · by_cases hj2 : j < F.length
    · rw [hgo j hj2, hbo j hj2]
      obtain ⟨e1, e2⟩ := hmap (F.getD j nd0).2.2 (fun p e => by have := h.kid j p hj2 e; omega)
      rw [e1, e2]
      exact (h.nd j hj2).kp k (fun e => (h.lt (b := bs.getD j 0) (by simp [List.getD, show j < bs.length by omega])).2 e)
    · obtain rfl : j = F.length := by simp at hj; omega
      rw [hgn, hbn]
      obtain ⟨e1, e2⟩ := hmap x.2.2 hk
      rw [e1, e2]
      exact hn
  · by_cases hj2 : j < F.length
    · rw [hgo j hj2]; exact h.co j hj2
    · obtain rfl : j = F.length := by simp at hj; omega
      rw [hgn]; exact hx
  · by_cases hj2 : j < F.length
    · rw [hgo j hj2] at e; exact h.kid j p hj2 e
    · obtain rfl : j = F.length := by simp at hj; omega
      rw [hgn] at e; exact hk p e
end Go.Proofs.Ythpocbpleffdpaa
