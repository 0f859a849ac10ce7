/- cutPieces: what is left of pieces below a size. -/
import Derived.Test.YtalicohflfildaaFl
namespace Go.Proofs.Ytalicohflfildaa
open Go.RowKit

def ctp (sz : Nat) : List (Nat × List Int) → List (Nat × List Int)
  | [] => []
  | p :: ps => if sz ≤ p.1 then ctp sz ps else (p.1, p.2.take (sz - p.1)) :: ctp sz ps
theorem ctp_snoc (sz : Nat) (l : List (Nat × List Int)) (p : Nat × List Int) : ctp sz (l ++ [p]) = ctp sz l ++ (if sz ≤ p.1 then [] else [(p.1, p.2.take (sz - p.1))]) := by
  induction l with
  | nil => simp only [List.nil_append, ctp]
  | cons q l ih =>
    simp only [List.cons_append, ctp]
    by_cases h : sz ≤ q.1
    · rw [if_pos h, if_pos h, ih]
    · rw [if_neg h, if_neg h, ih]; rfl
theorem ctp_len (sz : Nat) (l : List (Nat × List Int)) : (ctp sz l).length ≤ l.length := by
  induction l with
  | nil => simp [ctp]
  | cons q l ih =>
    unfold ctp
    split
    · simp; omega
    · simp; omega
/-- What the loop keeps. -/
structure CpI (D : Nat → Prop) (w : World) (sz : Nat) (ps : List (Nat × List Int)) (k : Nat) (v : Value) (vs : List Value) (W : World) : Prop where
  pr : Pr D W v (ctp sz (ps.take k)) vs
  row : W.ownsRow w.heap.size 102 2 v (ctp sz (ps.take k)).length (pcl (ctp sz (ps.take k)) vs)
  kp : Kp (fun _ => False) w W
theorem take_get (ps : List (Nat × List Int)) (k : Nat) (h : k < ps.length) : ps.take (k + 1) = ps.take k ++ [ps.getD k (0, [])] := by
  rw [List.take_add_one, List.getElem?_eq_getElem h, List.getD_eq_getElem?_getD, List.getElem?_eq_getElem h]
  rfl
theorem CpI.skip {D : Nat → Prop} {w : World} {sz : Nat} {ps : List (Nat × List Int)} {k : Nat} {v : Value} {vs : List Value} {W W' : World} (h : CpI D w sz ps k v vs W) (hk : k < ps.length) (hp : sz ≤ (ps.getD k (0, [])).1) (kk : Kp (fun _ => False) W W') : CpI D w sz ps (k + 1) v vs W' := by
  have e : ctp sz (ps.take (k + 1)) = ctp sz (ps.take k) := by rw [take_get ps k hk, ctp_snoc, if_pos hp, List.append_nil]
  refine ⟨by rw [e]; exact h.pr.kp kk (fun _ _ h => h) (fun _ _ h => h), ?_, h.kp.trans kk (fun _ _ h => h)⟩
  rw [e]
  refine ⟨h.row.1, ?_⟩
  rcases h.row.2 with h1 | ⟨g, cap, cur, h1, h2, h3, h4⟩
  · exact .inl h1
  · exact .inr ⟨g, cap, cur, h1, h2, (kk.block g (Array.getElem?_eq_some_iff.1 h3).1 (fun h => h)).trans h3, h4⟩
theorem CpI.take {D : Nat → Prop} {w : World} {sz : Nat} {ps : List (Nat × List Int)} {k : Nat} {v v' : Value} {vs : List Value} {W X W' : World} {u : Value} {p : Nat} {xs : List Int} (h : CpI D w sz ps k v vs W) (hk : k < ps.length) (hpx : (p, xs) = ps.getD k (0, [])) (hp : ¬ sz ≤ p) (hu : Bs D W u (xs.take (sz - p))) (kx : Kp (fun _ => False) W X) (kk : Kp (fun i => v.ownBlock = some i) X W') (hD : ∀ i, D i → i < w.heap.size) (hr : W'.ownsRow w.heap.size 102 2 v' ((ctp sz (ps.take k)).length + 1) (pcl (ctp sz (ps.take k)) vs ++ [.int .i64 p, u])) : CpI D w sz ps (k + 1) v' (vs ++ [u]) W' := by
  have e : ctp sz (ps.take (k + 1)) = ctp sz (ps.take k) ++ [(p, xs.take (sz - p))] := by rw [take_get ps k hk, ctp_snoc, ← hpx, if_neg hp]
  have hv : ∀ i, v.ownBlock = some i → w.heap.size ≤ i := by
    intro i hi
    rcases h.row.2 with ⟨h1, _⟩ | ⟨g, cap, cur, h1, h2, _⟩
    · rw [h1] at hi; cases hi
    · rw [h1] at hi
      have : g = i := by simpa [Value.ownBlock] using hi
      omega
  have hDv : ∀ i, D i → ¬ v.ownBlock = some i := fun i hi e => by have := hD i hi; have := hv i e; omega
  have hpcl : pcl (ctp sz (ps.take k) ++ [(p, xs.take (sz - p))]) (vs ++ [u]) = pcl (ctp sz (ps.take k)) vs ++ [.int .i64 p, u] := by
    rw [pcl_append _ _ _ _ h.pr.len]; rfl
  have hrow : W'.ownsRow w.heap.size 102 2 v' (ctp sz (ps.take (k + 1))).length (pcl (ctp sz (ps.take (k + 1))) (vs ++ [u])) := by
    rw [e, hpcl, List.length_append, List.length_singleton]; exact hr
  have hbs : ∀ i, i < (ctp sz (ps.take (k + 1))).length → Bs D W' ((vs ++ [u]).getD i undef) ((ctp sz (ps.take (k + 1))).getD i (0, [])).2 := by
    rw [e]
    intro i hi
    rw [List.length_append, List.length_singleton] at hi
    by_cases hil : i < (ctp sz (ps.take k)).length
    · have h1 := (h.pr.bs i hil).kp kx (fun _ _ h => h)
      have e1 : (vs ++ [u]).getD i undef = vs.getD i undef := by simp only [List.getD_eq_getElem?_getD]; rw [List.getElem?_append_left (by rw [h.pr.len]; exact hil)]
      have e2 : (ctp sz (ps.take k) ++ [(p, xs.take (sz - p))]).getD i (0, []) = (ctp sz (ps.take k)).getD i (0, []) := by simp only [List.getD_eq_getElem?_getD]; rw [List.getElem?_append_left hil]
      rw [e1, e2]
      exact h1.kp kk hDv
    · have hi2 : i = (ctp sz (ps.take k)).length := by omega
      have e1 : (vs ++ [u]).getD i undef = u := by simp only [List.getD_eq_getElem?_getD]; rw [hi2, ← h.pr.len]; simp
      have e2 : (ctp sz (ps.take k) ++ [(p, xs.take (sz - p))]).getD i (0, []) = (p, xs.take (sz - p)) := by simp only [List.getD_eq_getElem?_getD]; rw [hi2]; simp
      rw [e1, e2]
      exact (hu.kp kx (fun _ _ h => h)).kp kk hDv
  refine ⟨⟨by rw [e]; simp [h.pr.len], hbs, hrow.1, ?_⟩, hrow, (h.kp.trans kx (fun _ _ h => h)).trans kk (fun i hi e => by have := hv i e; omega)⟩
  rcases hrow.2 with h1 | ⟨g, cap, cur, h1, h2, h3⟩
  · exact .inl h1
  · exact .inr ⟨g, cap, cur, h1, Nat.zero_le _, h3⟩
end Go.Proofs.Ytalicohflfildaa
