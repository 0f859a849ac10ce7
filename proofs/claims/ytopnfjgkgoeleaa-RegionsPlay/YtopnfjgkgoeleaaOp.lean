/- regions: what came in: rows of regions. -/
import Derived.Test.YtopnfjgkgoeleaaNa
import Derived.Test.YtopnfjgkgoeleaaRows
import Derived.WalkKit
import Derived.ProofKit
import Derived.OpenShut
import Derived.ChangeOld
import Derived.Below
import Derived.Deep.Slices
namespace Go.Proofs.Ytopnfjgkgoeleaa
open Go.ChangeShapes Go.WideShapes Go.ChangeAt Go.RowKit
set_option linter.unusedVariables false
theorem choose_ltr {α : Type} (z : α) {n : Nat} {p : Nat → α → Prop} (h : ∀ i, i < n → ∃ q, p i q) : ∃ f : Nat → α, ∀ i, i < n → p i (f i) :=
  ⟨fun i => if hi : i < n then (h i hi).choose else z, fun i hi => by simp only [hi, dite_true]; exact (h i hi).choose_spec⟩
set_option maxRecDepth 100000 in
theorem open_r {H : Type} {enc : TypeId × Value → H} {W : World} {spare : Nat → Bool} {held : Bool} {fuel : Nat} {a0 : Option Addr} {len0 cap0 : Nat} {x : DataW H × List MemPlace} (hf : DataW.trod enc Try.prog W 0 spare held fuel 27 [.slice a0 len0 cap0] = some x) : ∃ l : List Rn, len0 = l.length ∧ Srcr W a0 l ∧ (∀ e ∈ l, e.i6) ∧ len0 ≤ cap0 ∧ cap0 ≤ maxLen ∧ (a0 = none → cap0 = 0) := by
  rcases Go.Deep.open_slice Try.underlying27 hf with ⟨hcs, _⟩ | ⟨x, l, c, m, n, D, Pl, hcs, _, hl, hm, hmm, _, hx⟩
  · simp at hcs
    obtain ⟨rfl, rfl, rfl⟩ := hcs
    exact ⟨[], rfl, Srcr.nil _ _, fun t ht => by simp at ht, Nat.le_refl _, by unfold maxLen; omega, fun _ => rfl⟩
  · simp at hcs
    obtain ⟨rfl, rfl, rfl⟩ := hcs
    have hlm : len0 ≤ m := by rw [hmm]; split <;> omega
    have each : ∀ i, i < len0 → ∃ t : Rn, (∀ j, j < 3 → W.cell? (x.add (i * 3 + j)) = t.cl[j]?) ∧ t.i6 := by
      intro i hi
      obtain ⟨cs', g1, g2⟩ := hx i (by omega)
      rw [show Try.prog.cellsOf 46 = 3 by kernel_rfl] at g1
      obtain ⟨_, hlen, hcell⟩ := World.cells?_some g1
      obtain ⟨xs, k, hk, hxy, _, hxl, hfld⟩ := DataW.trod_struct Try.underlying46 g2
      have o2 : Try.prog.cellsOf 2 = 1 := by kernel_rfl
      have o3 : Try.prog.cellsOf 3 = 1 := by kernel_rfl
      match xs, hxl, cs', hlen with
      | [y0, y1, y2], _, [u0, u1, u2], _ =>
        have f0 := hfld 0 _ rfl
        have f1 := hfld 1 _ rfl
        have f2 := hfld 2 _ rfl
        simp [o2, o3] at f0 f1 f2
        obtain ⟨n1, e1, _, q1⟩ := DataW.trod_int Try.underlying3 f0
        obtain ⟨n2, e2, _, q2⟩ := DataW.trod_int Try.underlying2 f1
        obtain ⟨n3, e3, _, q3⟩ := DataW.trod_int Try.underlying2 f2
        injection e1 with e1
        injection e2 with e2
        injection e3 with e3
        subst e1 e2 e3
        refine ⟨⟨n1, n2, n3⟩, fun j hj => ?_, bounds_i64 q1, bounds_i64 q2, bounds_i64 q3⟩
        have c0 := hcell j (by omega)
        rw [Go.Deep.add_add] at c0
        rw [c0]
        rfl
    obtain ⟨f, hf⟩ := choose_ltr zRn each
    refine ⟨(List.range len0).map f, by simp, ?_, fun t ht => ?_, hl, hm, fun e => by cases e⟩
    · intro hp
      simp at hp
      obtain ⟨b, off, spot⟩ := x
      have hc := (hf 0 hp).1 0 (by omega)
      have hc2 : W.cell? (Addr.add ⟨b, off, spot⟩ (0 * 3 + 0)) = some (.int .i64 (f 0).k) := hc
      have hspot : spot = none := by simpa [Addr.add] using World.cell?_spot hc2
      subst hspot
      have hbl : b < W.heap.size := by
        rw [add_o] at hc2
        exact block_lt_of_cell hc2
      refine ⟨b, off, rfl, hbl, fun j u hu => ?_⟩
      have hj : j < (flr ((List.range len0).map f)).length := (List.getElem?_eq_some_iff.1 hu).1
      rw [flr_len] at hj
      simp only [List.length_map, List.length_range] at hj
      have hjd : j / 3 < len0 := by omega
      have g0 := (hf (j / 3) hjd).1 (j % 3) (by omega)
      have hjj : j / 3 * 3 + j % 3 = j := by omega
      rw [add_o, hjj] at g0
      have h2 := flr_get ((List.range len0).map f) (j / 3) (j % 3) (by simpa using hjd) (by omega)
      rw [hjj, hu] at h2
      have e : ((List.range len0).map f).getD (j / 3) zRn = f (j / 3) := by simp [List.getD, hjd]
      rw [e] at h2
      rw [g0, ← h2]
    · obtain ⟨i, hi, rfl⟩ := List.mem_map.1 ht
      exact (hf i (by simpa using hi)).2
set_option maxRecDepth 100000 in
theorem open_kinds {H : Type} {enc : TypeId × Value → H} {W : World} {spare : Nat → Bool} {held : Bool} {fuel : Nat} {cs : Array Value} {x : DataW H × List MemPlace} (hf : DataW.trod enc Try.prog W 0 spare held fuel 67 cs.toList = some x) (hsz : cs.size = Try.prog.cellsOf 67) :
    ∃ (l : List Rn) (a0 : Option Addr) (len0 cap0 : Nat) (np nk nd : Int), cs.toList = [.slice a0 len0 cap0, .int .i64 np, .int .i64 nk, .int .i64 nd] ∧ len0 = l.length ∧ Srcr W a0 l ∧ (∀ e ∈ l, e.i6) ∧ len0 ≤ cap0 ∧ cap0 ≤ maxLen ∧ (a0 = none → cap0 = 0) ∧ I6 np ∧ I6 nk ∧ I6 nd := by
  obtain ⟨xs, k, hk, hxy, hs, hxl, hfld⟩ := DataW.trod_struct Try.underlying67 hf
  rw [show Try.prog.cellsOf 67 = 4 by kernel_rfl] at hs
  have o2 : Try.prog.cellsOf 2 = 1 := by kernel_rfl
  have o3 : Try.prog.cellsOf 3 = 1 := by kernel_rfl
  have o27 : Try.prog.cellsOf 27 = 1 := by kernel_rfl
  generalize cs.toList = cl at *
  match xs, hxl, cl, hs with
  | [y0, y1, y2, y3], _, [u0, u1, u2, u3], _ =>
    have f0 := hfld 0 _ rfl
    have f1 := hfld 1 _ rfl
    have f2 := hfld 2 _ rfl
    have f3 := hfld 3 _ rfl
    simp [o2, o3, o27] at f0 f1 f2 f3
    obtain ⟨n1, e1, _, q1⟩ := DataW.trod_int Try.underlying2 f1
    obtain ⟨n2, e2, _, q2⟩ := DataW.trod_int Try.underlying2 f2
    obtain ⟨n3, e3, _, q3⟩ := DataW.trod_int Try.underlying3 f3
    injection e1 with e1
    injection e2 with e2
    injection e3 with e3
    subst e1 e2 e3
    obtain ⟨a0, len0, cap0, rfl⟩ : ∃ a0 len0 cap0, u0 = .slice a0 len0 cap0 := by
      rcases Go.Deep.open_slice Try.underlying27 f0 with ⟨hcs, _⟩ | ⟨x, l, c, m, n, D, Pl, hcs, _⟩
      · injection hcs with h1
        exact ⟨_, _, _, h1⟩
      · injection hcs with h1
        exact ⟨_, _, _, h1⟩
    obtain ⟨l, h1, h2, h3, h4, h5, h6⟩ := open_r f0
    exact ⟨l, a0, len0, cap0, n1, n2, n3, rfl, h1, h2, h3, h4, h5, h6, bounds_i64 q1, bounds_i64 q2, bounds_i64 q3⟩
end Go.Proofs.Ytopnfjgkgoeleaa
