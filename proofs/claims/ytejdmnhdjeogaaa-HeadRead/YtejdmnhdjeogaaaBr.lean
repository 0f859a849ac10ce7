/- A slice literal of values that were reckoned, as one step. Whatever the program. -/
import Derived.Great.CaseRows
namespace Go.Proofs.Ytejdmnhdjeogaaa
open Go.Lib
theorem wp_buildRows {P : Program} {o : Oper} {a : Act} {w : World} {K : Act → World → Prop} {Q : Exit → Act → World → Prop} (t e : TypeId) (parts : Array (Nat × Operand)) (s : Nat) (vs : List Value)
    (ho : o.op = .buildSlice t vs.length parts) (ix : Nat → Nat)
    (hu : P.underlying t = some (.slice e)) (hsz : (P.info? e).map (·.size) = some s) (hz : ((P.info? e).bind (·.zero)).isSome = true)
    (hs : 0 < s) (hpos : 0 < vs.length) (hsmall : vs.length * s ≤ 2 ^ 24)
    (hparts : parts.toList = (List.range vs.length).map fun i => (i, Operand.tmp (ix i)))
    (h1 : ∀ v ∈ vs, v.cells.size = s) (hev : ∀ i (h : i < vs.length), a.eval (.tmp (ix i)) = vs[i])
    (h : K (a.put o.dst (.slice (some ⟨w.heap.size, 0, none⟩) vs.length vs.length)) (w.alloc (.cells (vs.flatMap fun v => v.cells.toList).toArray e))) : o.wp P a w K Q := by
  cases hie : P.info? e with
  | none => simp [hie] at hsz
  | some ie =>
    simp only [hie, Option.map_some, Option.some.injEq, Option.bind_some] at hsz hz
    obtain ⟨z, hzz⟩ := Option.isSome_iff_exists.1 hz
    have hp := Nat.mul_pos hpos hs
    refine wp_buildSlice t e vs.length parts ho _ ie z hu hie hzz (by rw [hsz]; omega) (by rw [hsz]; omega) ?_ h
    have e1 : (parts.map fun (i, x) => (i, a.eval x)).toList = (vs.zipIdx 0).map fun x => (x.2, x.1) := by
      rw [Array.toList_map, hparts, List.map_map]
      apply List.ext_getElem
      · simp
      · intro i h1 h2
        have hi : i < vs.length := by simpa using h1
        simp only [List.getElem_map, List.getElem_range, Function.comp, List.getElem_zipIdx, Nat.zero_add]
        rw [hev i hi]
    rw [e1, hsz]
    exact Great.fill_whole hs vs ((Array.range (vs.length * s)).map (z.cells[· % z.cells.size]!)) h1 (by simp)
end Go.Proofs.Ytejdmnhdjeogaaa
