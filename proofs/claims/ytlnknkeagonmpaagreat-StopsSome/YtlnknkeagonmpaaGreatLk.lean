/- The program's store and the document's: the same names, and of each as many pieces. -/
import Derived.Test.YtlnknkeagonmpaaGreatRt
import Derived.Test.YtlnknkeagonmpaaGreatPn
import Derived.Test.YtlnknkeagonmpaaGreatPl
namespace Go.Proofs.YtlnknkeagonmpaaGreat
open Go.RowKit

def fky (f : Fe) : ByteArray × Nat := (f.1, f.2.2.ps.length)
def rky (x : Rf × Value) : ByteArray × Nat := (x.1.name, x.1.ps.length)
/-- The same names, and of each as many pieces. -/
def Lnk (fs : List Fe) (gs : List (Rf × Value)) : Prop := (fs.map fky).Perm (gs.map rky)
theorem Lnk.len {fs : List Fe} {gs : List (Rf × Value)} (h : Lnk fs gs) : fs.length = gs.length := by
  have := List.Perm.length_eq h
  simpa using this
theorem perm_sum {a b : List Nat} (h : a.Perm b) : a.sum = b.sum := by
  induction h with
  | nil => rfl
  | cons x _ ih => simp [ih]
  | swap x y l => simp; omega
  | trans _ _ h1 h2 => exact h1.trans h2
theorem Lnk.pnd {fs : List Fe} {gs : List (Rf × Value)} (h : Lnk fs gs) : pnd fs = rpn gs := by
  have h1 := perm_sum (List.Perm.map Prod.snd h)
  rw [List.map_map, List.map_map] at h1
  exact h1
theorem Lnk.names {fs : List Fe} {gs : List (Rf × Value)} (h : Lnk fs gs) : (fs.map (·.1)).Perm (gs.map (·.1.name)) := by
  have h1 := List.Perm.map Prod.fst h
  rw [List.map_map, List.map_map] at h1
  exact h1
theorem fget_none {fs : List Fe} {s : ByteArray} (h : fget fs s = none) : s ∉ fs.map (·.1) := by
  induction fs with
  | nil => simp
  | cons f fs ih =>
    unfold fget at h
    by_cases hs : s = f.1
    · rw [if_pos hs] at h; cases h
    · rw [if_neg hs] at h
      rw [List.map_cons, List.mem_cons]
      rintro (h1 | h1)
      · exact hs h1
      · exact ih h h1
theorem rnm_map (gs : List (Rf × Value)) (j : Nat) (hj : j < gs.length) : (gs.map (·.1.name))[j]? = some (rnm gs j) := by
  rw [List.getElem?_map, List.getElem?_eq_getElem hj, rnm, List.getD_eq_getElem?_getD, List.getElem?_eq_getElem hj]
  rfl
theorem Lnk.none {fs : List Fe} {gs : List (Rf × Value)} (h : Lnk fs gs) {s : ByteArray} (hq : fget fs s = none) : ∀ j, j < gs.length → rnm gs j ≠ s := by
  intro j hj e
  exact fget_none hq (h.names.mem_iff.2 (List.mem_of_getElem? (e ▸ rnm_map gs j hj)))
theorem Lnk.some {fs : List Fe} {gs : List (Rf × Value)} (h : Lnk fs gs) (hn : (fs.map (·.1)).Nodup) {s : ByteArray} {f : Fe} (hq : fget fs s = some f) : ∃ i, i < gs.length ∧ rnm gs i = s ∧ (∀ j, j < gs.length → j ≠ i → rnm gs j ≠ s) ∧ (gs.getD i zrf).1.ps.length = f.2.2.ps.length := by
  obtain ⟨l, r, e, hf⟩ := fget_split hq
  have h1 : (s, f.2.2.ps.length) ∈ gs.map rky := by
    refine List.Perm.mem_iff h |>.1 (List.mem_map.2 ⟨f, ?_, by rw [fky, hf]⟩)
    rw [e]; simp
  obtain ⟨i, hi, he⟩ := List.getElem_of_mem h1
  have hi' : i < gs.length := by simpa using hi
  have e2 : gs.getD i zrf = gs[i] := by rw [List.getD_eq_getElem?_getD, List.getElem?_eq_getElem hi']; rfl
  have he2 : rky gs[i] = (s, f.2.2.ps.length) := by rw [← he, List.getElem_map]
  refine ⟨i, hi', by rw [rnm, e2]; exact congrArg Prod.fst he2, fun j hj hne e3 => ?_, by rw [e2]; exact congrArg Prod.snd he2⟩
  have hn2 : (gs.map (·.1.name)).Nodup := h.names.nodup_iff.1 hn
  have a1 := rnm_map gs j hj
  have a2 := rnm_map gs i hi'
  have a3 : rnm gs i = s := by rw [rnm, e2]; exact congrArg Prod.fst he2
  rw [e3, ← a3, ← a2] at a1
  exact hne ((List.getElem?_inj (by simpa using hj) hn2).1 a1)
theorem Lnk.upd {l r : List Fe} {gs : List (Rf × Value)} {s : ByteArray} {a a' : Fa} {q q' : Gf} (h : Lnk (l ++ (s, a, q) :: r) gs) (hn : ((l ++ (s, a, q) :: r).map (·.1)).Nodup) {i : Nat} (hi : i < gs.length) (he : rnm gs i = s) {nf : Rf} {pv : Value} (h1 : nf.name = s) (h2 : nf.ps.length = q'.ps.length) :
    Lnk (l ++ (s, a', q') :: r) (gs.set i (nf, pv)) := by
  have hg : (gs.map (·.1.name)).Nodup := h.names.nodup_iff.1 hn
  have hp := List.Perm.map (fun x : ByteArray × Nat => if x.1 = s then (s, q'.ps.length) else x) h
  have e1 : ((l ++ (s, a, q) :: r).map fky).map (fun x : ByteArray × Nat => if x.1 = s then (s, q'.ps.length) else x) = (l ++ (s, a', q') :: r).map fky := by
    rw [List.map_append, List.map_cons, List.nodup_append, List.nodup_cons] at hn
    obtain ⟨n1, ⟨n2, n3⟩, n4⟩ := hn
    have ml : ∀ f ∈ l, f.1 ≠ s := fun f hf e => n4 f.1 (List.mem_map.2 ⟨f, hf, rfl⟩) s (by simp) e
    have mr : ∀ f ∈ r, f.1 ≠ s := fun f hf e => n2 (List.mem_map.2 ⟨f, hf, e⟩)
    rw [List.map_map, List.map_append, List.map_append, List.map_cons, List.map_cons]
    congr 1
    · exact List.map_congr_left (fun f hf => by simp [fky, ml f hf])
    · congr 1
      · simp [fky]
      · exact List.map_congr_left (fun f hf => by simp [fky, mr f hf])
  have e2 : (gs.map rky).map (fun x : ByteArray × Nat => if x.1 = s then (s, q'.ps.length) else x) = (gs.set i (nf, pv)).map rky := by
    apply List.ext_getElem?
    intro j
    rw [List.map_map, List.getElem?_map, List.getElem?_map, List.getElem?_set]
    by_cases hj : j < gs.length
    · have b1 := rnm_map gs j hj
      rw [List.getElem?_map, List.getElem?_eq_getElem hj] at b1
      simp only [Option.map_some, Option.some.injEq] at b1
      by_cases hji : i = j
      · subst hji
        rw [if_pos rfl, if_pos hi, List.getElem?_eq_getElem hj]
        simp [rky, b1, he, h1, h2]
      · rw [if_neg hji, List.getElem?_eq_getElem hj]
        have hne : rnm gs j ≠ s := by
          intro e3
          have a1 := rnm_map gs j hj
          rw [e3, ← he, ← rnm_map gs i hi] at a1
          exact hji ((List.getElem?_inj (by simpa using hj) hg).1 a1).symm
        simp [rky, b1, hne]
    · rw [List.getElem?_eq_none (by omega)]
      by_cases hji : i = j
      · omega
      · rw [if_neg hji]; rfl
  rw [e1, e2] at hp
  exact hp
theorem Lnk.add {fs : List Fe} {gs : List (Rf × Value)} (h : Lnk fs gs) {s : ByteArray} {a : Fa} {q : Gf} (hq : q.ps = []) (k : Nat) : Lnk (fs ++ [(s, a, q)]) (gs.take k ++ (⟨s, ⟨#[]⟩, []⟩, .slice Option.none 0 0) :: gs.drop k) := by
  unfold Lnk
  have e1 : fky (s, a, q) = (s, 0) := by simp [fky, hq]
  rw [List.map_append, List.map_cons, List.map_nil, List.map_append, List.map_cons, e1, List.map_take, List.map_drop]
  refine List.Perm.trans List.perm_append_comm ?_
  refine List.Perm.trans ?_ List.perm_middle.symm
  rw [List.take_append_drop]
  exact List.Perm.cons _ h
end Go.Proofs.YtlnknkeagonmpaaGreat
