/- Huffman's way, plain mathematics; and what plain's loop holds. -/
import Derived.Test.YthpocbpleffdpaaGq
namespace Go.Proofs.Ythpocbpleffdpaa
open Go.RowKit

/-- The two least as one. -/
def jn (S : List Nd × List Nat) : List Nd × List Nat :=
  (S.1 ++ [jnd S.1 (mn S.1 S.2) (mn S.1 (S.2.erase (mn S.1 S.2)))], S.1.length :: (S.2.erase (mn S.1 S.2)).erase (mn S.1 (S.2.erase (mn S.1 S.2))))
def jns : Nat → List Nd × List Nat → List Nd × List Nat
  | 0, S => S
  | n + 1, S => jns n (jn S)
/-- Huffman's lengths. -/
def hzl (zs : List Int) : List Int :=
  if (lv zs zs.length).length = 0 then List.replicate zs.length 0
  else if (lv zs zs.length).length = 1 then snk (lv zs zs.length) (lv zs zs.length).length (mn (lv zs zs.length) (List.range (lv zs zs.length).length)) 1 (List.replicate zs.length 0)
  else snk (jns ((lv zs zs.length).length - 1) (lv zs zs.length, List.range (lv zs zs.length).length)).1 (jns ((lv zs zs.length).length - 1) (lv zs zs.length, List.range (lv zs zs.length).length)).1.length (mn (jns ((lv zs zs.length).length - 1) (lv zs zs.length, List.range (lv zs zs.length).length)).1 (jns ((lv zs zs.length).length - 1) (lv zs zs.length, List.range (lv zs zs.length).length)).2) 0 (List.replicate zs.length 0)
/-- What some trees cost together. -/
def cst (F : List Nd) (K : List Nat) : Nat := (K.map fun k => (F.getD k nd0).1).sum
theorem cst_erase {F : List Nd} {K : List Nat} {a : Nat} (h : a ∈ K) : cst F K = (F.getD a nd0).1 + cst F (K.erase a) := by
  have := ((List.perm_cons_erase h).map (fun k => (F.getD k nd0).1)).sum_nat
  simpa [cst] using this
theorem getD_front {F : List Nd} {x : Nd} {k : Nat} (h : k < F.length) : (F ++ [x]).getD k nd0 = F.getD k nd0 := by simp [List.getD, List.getElem?_append_left h]
theorem cst_more {F : List Nd} {x : Nd} {K : List Nat} (h : ∀ k ∈ K, k < F.length) : cst (F ++ [x]) K = cst F K := by
  unfold cst
  congr 1
  exact List.map_congr_left fun k hk => by rw [getD_front (h k hk)]
theorem cst_le {F : List Nd} {K : List Nat} {m : Nat} (h : ∀ k, (F.getD k nd0).1 ≤ m) : cst F K ≤ K.length * m := by
  unfold cst
  induction K with
  | nil => simp
  | cons a K ih =>
    rw [List.map_cons, List.sum_cons, List.length_cons, Nat.add_mul, Nat.one_mul]
    have := h a
    omega
theorem erase_len {K : List Nat} {a : Nat} (h : a ∈ K) : (K.erase a).length = K.length - 1 := List.length_erase_of_mem h
theorem ne_nil_of {K : List Nat} (h : 0 < K.length) : K ≠ [] := fun e => by rw [e] at h; simp at h

/-- All symbols of a forest are below n. -/
def Sy (F : List Nd) (n : Nat) : Prop := ∀ j, j < F.length → (F.getD j nd0).2.2 = none → (F.getD j nd0).2.1 < n
theorem sy_more {F : List Nd} {n a b : Nat} (h : Sy F n) : Sy (F ++ [jnd F a b]) n := by
  intro j hj e
  by_cases hj2 : j < F.length
  · rw [getD_front hj2] at e ⊢
    exact h j hj2 e
  · obtain rfl : j = F.length := by simp at hj; omega
    simp [jnd] at e
theorem lv_at (zs : List Int) (n k : Nat) (hk : k < (lv zs n).length) : ∃ j, j < n ∧ (lv zs n).getD k nd0 = ((zs.getD j 0).toNat, j, none) := by
  have hm : (lv zs n).getD k nd0 ∈ lv zs n := by simp [List.getD, hk]
  unfold lv at hm
  obtain ⟨j, hj, e⟩ := List.mem_map.1 hm
  have := List.mem_range.1 (List.mem_filter.1 hj).1
  exact ⟨j, this, e.symm⟩
theorem sy_lv (zs : List Int) : Sy (lv zs zs.length) zs.length := by
  intro k hk _
  obtain ⟨j, hj, e⟩ := lv_at zs zs.length k hk
  rw [e]
  exact hj
theorem co_lv {zs : List Int} (hz : ∀ z ∈ zs, 0 ≤ z ∧ z < 4294967296) (k : Nat) : ((lv zs zs.length).getD k nd0).1 ≤ 4294967296 := by
  by_cases hk : k < (lv zs zs.length).length
  · obtain ⟨j, hj, e⟩ := lv_at zs zs.length k hk
    rw [e]
    have := hz (zs.getD j 0) (by simp [List.getD, hj])
    show (zs.getD j 0).toNat ≤ 4294967296
    omega
  · have : (lv zs zs.length).getD k nd0 = nd0 := by simp only [List.getD, List.getElem?_eq_none (Nat.le_of_not_lt hk), Option.getD_none]
    rw [this]
    simp [nd0]

/-- What plain's loop holds. -/
structure Ps (w wr : World) (base Fb B G n : Nat) (v : Value) (F : List Nd) (bs K L : List Nat) (S : List Nd × List Nat) : Prop where
  gp : Gp wr base Fb B v F bs K L
  row : Rw .i64 3 wr G (List.replicate n 0)
  kp : Kp (fun _ => False) w wr
  big : w.heap.size ≤ base ∧ w.heap.size ≤ Fb ∧ w.heap.size ≤ B ∧ base ≤ wr.heap.size
  one : 0 < K.length
  js : jns (K.length - 1) (F, K) = S
  sum : cst F K < 18446744073709551616
  nums : F.length + K.length ≤ 2000000
  sym : Sy F n
theorem Gp.notG {w : World} {base Fb B G : Nat} {v : Value} {F : List Nd} {bs K L : List Nat} {Z : List Int} (h : Gp w base Fb B v F bs K L) (r : Rw .i64 3 w G Z) : G ≠ B ∧ v.ownBlock ≠ some G ∧ G ≠ Fb ∧ G ∉ bs := by
  refine ⟨fun e => apart_types (t := 3) (u := 127) (by decide) r.st (e ▸ h.pil.st), fun e => ?_, fun e => apart_types (t := 3) (u := 111) (by decide) r.st (e ▸ h.fo.st), fun hm => ?_⟩
  · rcases h.pil.own.2 with ⟨rfl, _⟩ | ⟨g', cap, cur, rfl, _, h2, _⟩
    · simp [Value.ownBlock] at e
    · obtain rfl : g' = G := by simpa [Value.ownBlock] using e
      exact apart_types (t := 3) (u := 116) (by decide) r.st h2
  · obtain ⟨k, hk, e⟩ := h.fo.mem hm
    exact apart_types (t := 3) (u := 131) (by decide) r.st (e ▸ h.fo.nd k hk)
/-- The least comes off. -/
theorem Ps.off {w wr w1 : World} {base Fb B G n : Nat} {v : Value} {F : List Nd} {bs K L : List Nat} (g : Gp wr base Fb B v F bs K L) (r : Rw .i64 3 wr G (List.replicate n 0)) (k : Kp (fun _ => False) w wr) (b : w.heap.size ≤ base ∧ w.heap.size ≤ Fb ∧ w.heap.size ≤ B ∧ base ≤ wr.heap.size) (k1 : Kp (fun k => k = B ∨ v.ownBlock = some k) wr w1) : Rw .i64 3 w1 G (List.replicate n 0) ∧ Kp (fun _ => False) w w1 ∧ base ≤ w1.heap.size := by
  have hg := g.notG r
  have hlt := fun x e => (g.pil.own.lt x e).1
  refine ⟨r.kp k1 (fun e => e.elim hg.1 hg.2.1), k.trans k1 (fun i hi e => ?_), Nat.le_trans b.2.2.2 k1.size⟩
  rcases e with e | e
  · omega
  · have := hlt i e
    omega
end Go.Proofs.Ythpocbpleffdpaa
