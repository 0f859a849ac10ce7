/- later: what came in: rows of runs, a run. -/
import Derived.Test.YtgfondgejimkkaaNa
import Derived.Test.YtgfondgejimkkaaRows
import Derived.WalkKit
import Derived.ProofKit
import Derived.OpenShut
import Derived.ChangeOld
import Derived.Below
import Derived.Deep.Slices
namespace Go.Proofs.Ytgfondgejimkkaa
open Go.ChangeShapes Go.WideShapes Go.ChangeAt Go.RowKit
set_option linter.unusedVariables false
theorem choose_ltr {α : Type} (z : α) {n : Nat} {p : Nat → α → Prop} (h : ∀ i, i < n → ∃ q, p i q) : ∃ f : Nat → α, ∀ i, i < n → p i (f i) :=
  ⟨fun i => if hi : i < n then (h i hi).choose else z, fun i hi => by simp only [hi, dite_true]; exact (h i hi).choose_spec⟩
set_option maxRecDepth 100000 in
theorem open_r {H : Type} {enc : TypeId × Value → H} {W : World} {spare : Nat → Bool} {held : Bool} {fuel : Nat} {a0 : Option Addr} {len0 cap0 : Nat} {x : DataW H × List MemPlace} (hf : DataW.trod enc Try.prog W 0 spare held fuel 22 [.slice a0 len0 cap0] = some x) : ∃ l : List Rn, len0 = l.length ∧ Srcr W a0 l ∧ (∀ e ∈ l, e.i6) ∧ len0 ≤ cap0 ∧ cap0 ≤ maxLen ∧ (a0 = none → cap0 = 0) := by
  rcases Go.Deep.open_slice Try.underlying22 hf with ⟨hcs, _⟩ | ⟨x, l, c, m, n, D, Pl, hcs, _, hl, hm, hmm, _, hx⟩
  · simp at hcs
    obtain ⟨rfl, rfl, rfl⟩ := hcs
    exact ⟨[], rfl, Srcr.nil _ _, fun t ht => by simp at ht, Nat.le_refl _, by unfold maxLen; omega, fun _ => rfl⟩
  · simp at hcs
    obtain ⟨rfl, rfl, rfl⟩ := hcs
    have hlm : len0 ≤ m := by rw [hmm]; split <;> omega
    have each : ∀ i, i < len0 → ∃ t : Rn, (∀ j, j < 2 → W.cell? (x.add (i * 2 + j)) = t.cl[j]?) ∧ t.i6 := by
      intro i hi
      obtain ⟨cs', g1, g2⟩ := hx i (by omega)
      rw [show Try.prog.cellsOf 38 = 2 by kernel_rfl] at g1
      obtain ⟨_, hlen, hcell⟩ := World.cells?_some g1
      obtain ⟨xs, k, hk, hxy, _, hxl, hfld⟩ := DataW.trod_struct Try.underlying38 g2
      have o2 : Try.prog.cellsOf 2 = 1 := by kernel_rfl
      match xs, hxl, cs', hlen with
      | [y0, y1], _, [u0, u1], _ =>
        have f0 := hfld 0 _ rfl
        have f1 := hfld 1 _ rfl
        simp [o2] at f0 f1
        obtain ⟨n1, e1, _, q1⟩ := DataW.trod_int Try.underlying2 f0
        obtain ⟨n2, e2, _, q2⟩ := DataW.trod_int Try.underlying2 f1
        injection e1 with e1
        injection e2 with e2
        subst e1 e2
        refine ⟨⟨n1, n2⟩, fun j hj => ?_, bounds_i64 q1, bounds_i64 q2⟩
        have c0 := hcell j (by omega)
        rw [Go.Deep.add_add] at c0
        rw [c0]
        rfl
    obtain ⟨f, hf⟩ := choose_ltr zRn each
    refine ⟨(List.range len0).map f, by simp, ?_, fun t ht => ?_, hl, hm, fun e => by cases e⟩
    · intro hp
      simp at hp
      obtain ⟨b, off, spot⟩ := x
      have hc := (hf 0 hp).1 0 (by omega)
      have hc2 : W.cell? (Addr.add ⟨b, off, spot⟩ (0 * 2 + 0)) = some (.int .i64 (f 0).a) := hc
      have hspot : spot = none := by simpa [Addr.add] using World.cell?_spot hc2
      subst hspot
      have hbl : b < W.heap.size := by
        rw [add_o] at hc2
        exact block_lt_of_cell hc2
      refine ⟨b, off, rfl, hbl, fun j u hu => ?_⟩
      have hj : j < (flr ((List.range len0).map f)).length := (List.getElem?_eq_some_iff.1 hu).1
      rw [flr_len] at hj
      simp only [List.length_map, List.length_range] at hj
      have hjd : j / 2 < len0 := by omega
      have g0 := (hf (j / 2) hjd).1 (j % 2) (by omega)
      have hjj : j / 2 * 2 + j % 2 = j := by omega
      rw [add_o, hjj] at g0
      have h2 := flr_get ((List.range len0).map f) (j / 2) (j % 2) (by simpa using hjd) (by omega)
      rw [hjj, hu] at h2
      have e : ((List.range len0).map f).getD (j / 2) zRn = f (j / 2) := by simp [List.getD, hjd]
      rw [e] at h2
      rw [g0, ← h2]
    · obtain ⟨i, hi, rfl⟩ := List.mem_map.1 ht
      exact (hf i (by simpa using hi)).2
set_option maxRecDepth 100000 in
theorem open_run {H : Type} {enc : TypeId × Value → H} {W : World} {spare : Nat → Bool} {held : Bool} {fuel : Nat} {cs : Array Value} {x : DataW H × List MemPlace} (hf : DataW.trod enc Try.prog W 0 spare held fuel 38 cs.toList = some x) : ∃ e : Rn, cs.toList = e.cs.toList ∧ e.i6 := by
  obtain ⟨xs, k, hk, hxy, hs, hxl, hfld⟩ := DataW.trod_struct Try.underlying38 hf
  rw [show Try.prog.cellsOf 38 = 2 by kernel_rfl] at hs
  have o2 : Try.prog.cellsOf 2 = 1 := by kernel_rfl
  generalize cs.toList = cl at *
  match xs, hxl, cl, hs with
  | [y0, y1], _, [u0, u1], _ =>
    have f0 := hfld 0 _ rfl
    have f1 := hfld 1 _ rfl
    simp [o2] at f0 f1
    obtain ⟨n1, e1, _, q1⟩ := DataW.trod_int Try.underlying2 f0
    obtain ⟨n2, e2, _, q2⟩ := DataW.trod_int Try.underlying2 f1
    injection e1 with e1
    injection e2 with e2
    subst e1 e2
    exact ⟨⟨n1, n2⟩, rfl, bounds_i64 q1, bounds_i64 q2⟩
end Go.Proofs.Ytgfondgejimkkaa
