/- Writes that came in. -/
import Derived.Test.YtlnknkeagonmpaaGreatSmW
import Derived.WalkKit
import Derived.ProofKit
import Derived.OpenShut
import Derived.ShutString
import Derived.ChangeOld
import Derived.Below
import Derived.Deep.Slices
namespace Go.Proofs.YtlnknkeagonmpaaGreat
open Go.ChangeShapes Go.WideShapes Go.ChangeAt Go.RowKit
set_option linter.unusedVariables false

theorem choose_ltS {α : Type} (z : α) {n : Nat} {p : Nat → α → Prop} (h : ∀ i, i < n → ∃ q, p i q) : ∃ f : Nat → α, ∀ i, i < n → p i (f i) :=
  ⟨fun i => if hi : i < n then (h i hi).choose else z, fun i hi => by simp only [hi, dite_true]; exact (h i hi).choose_spec⟩
theorem Src.lt1 {q : IntKind} {w : World} {ao : Option Addr} {zs : List Int} (h : Src q w ao zs) (hp : 0 < zs.length) : ∀ b off, ao = some ⟨b, off, none⟩ → b < w.heap.size := by
  intro b off e
  obtain ⟨b', off', e', hc⟩ := h hp
  rw [e'] at e
  cases e
  exact block_lt_of_cell (hc 0 hp)
set_option maxRecDepth 100000 in
theorem open_puts {H : Type} {enc : TypeId × Value → H} {W : World} {spare : Nat → Bool} {held : Bool} {fuel : Nat} {a0 : Option Addr} {len0 cap0 : Nat} {x : DataW H × List MemPlace} (hf : DataW.trod enc Tryz.prog W 0 spare held fuel 22 [.slice a0 len0 cap0] = some x) : ∃ ts, len0 = ts.length ∧ PuS W a0 ts ∧ ∀ t ∈ ts, Pwf W.heap.size W t := by
  rcases Go.Deep.open_slice Tryz.underlying22 hf with ⟨hcs, _⟩ | ⟨x, l, c, m, n, D, Pl, hcs, _, hl, hm, hmm, _, hx⟩
  · simp at hcs
    obtain ⟨rfl, rfl, rfl⟩ := hcs
    exact ⟨[], rfl, PuS.nil _ _, fun t ht => by simp at ht⟩
  · simp at hcs
    obtain ⟨rfl, rfl, rfl⟩ := hcs
    have hlm : len0 ≤ m := by rw [hmm]; split <;> omega
    have each : ∀ i, i < len0 → ∃ t : Pu, (∀ j, j < 4 → W.cell? (x.add (i * 4 + j)) = t.cells[j]?) ∧ Pwf W.heap.size W t := by
      intro i hi
      obtain ⟨cs', g1, g2⟩ := hx i (by omega)
      rw [show Tryz.prog.cellsOf 62 = 4 by kernel_rfl] at g1
      obtain ⟨_, hlen, hcell⟩ := World.cells?_some g1
      obtain ⟨xs, k, hk, hxy, _, hxl, hfld⟩ := DataW.trod_struct Tryz.underlying62 g2
      match xs, hxl, cs', hlen with
      | [y0, y1, y2, y3], _, [u0, u1, u2, u3], _ =>
        have f0 := hfld 0 _ rfl
        have f1 := hfld 1 _ rfl
        have f2 := hfld 2 _ rfl
        have f3 := hfld 3 _ rfl
        have o2 : Tryz.prog.cellsOf 2 = 1 := by kernel_rfl
        have o4 : Tryz.prog.cellsOf 4 = 1 := by kernel_rfl
        have o9 : Tryz.prog.cellsOf 9 = 1 := by kernel_rfl
        have o41 : Tryz.prog.cellsOf 39 = 1 := by kernel_rfl
        simp [o2, o4, o9, o41] at f0 f1 f2 f3
        obtain ⟨s0, e0, _, q0⟩ := DataW.trod_string Tryz.underlying9 f0
        obtain ⟨n1, e1, _, q1⟩ := DataW.trod_int Tryz.underlying2 f1
        obtain ⟨b3, e3, _⟩ := DataW.trod_bool Tryz.underlying4 f3
        injection e0 with e0
        injection e1 with e1
        injection e3 with e3
        have b1 := bounds_i64 q1
        have hb : ∃ ao cap zs, u2 = .slice ao (zs : List Int).length cap ∧ zs.length ≤ cap ∧ Src .u8 W ao zs ∧ cap ≤ maxLen ∧ (∀ b off, ao = some ⟨b, off, none⟩ → 0 < zs.length → b < W.heap.size) := by
          rcases open_ints Tryz.underlying39 Tryz.underlying5 (by kernel_rfl) f2 with ⟨h1, _⟩ | ⟨x4, l4, c4, zs, h1, _, h2, h3, h4, _, h5, _⟩
          · injection h1 with h1
            subst h1
            exact ⟨none, 0, [], rfl, Nat.le_refl _, fun h => absurd h (by simp), by unfold maxLen; omega, fun _ _ e => by cases e⟩
          · injection h1 with h1
            subst h1
            have hzl : l4 ≤ zs.length := by rw [h4]; split <;> omega
            have hlen4 : (zs.take l4).length = l4 := by rw [List.length_take]; omega
            have hsr : Src .u8 W (some x4) (zs.take l4) := by
              intro hp
              obtain ⟨b, off, spot⟩ := x4
              have hc := h5 0 (by omega)
              have hspot : spot = none := by simpa [Addr.add] using World.cell?_spot hc
              subst hspot
              refine ⟨b, off, rfl, fun i hi => ?_⟩
              have hi2 := h5 i (by omega)
              rw [add_o] at hi2
              rw [hi2]
              have hi3 : i < l4 := by omega
              simp [List.getD, hi3]
            exact ⟨some x4, c4, zs.take l4, by rw [hlen4], by rw [hlen4]; exact h2, hsr, h3, fun b off e hp => hsr.lt1 hp b off e⟩
        subst e0 e1 e3
        refine ⟨⟨s0, n1, u2, b3⟩, fun j hj => ?_, hb, q0, b1.1, b1.2⟩
        have c0 := hcell j (by omega)
        rw [Go.Deep.add_add] at c0
        rw [c0]
        rfl
    obtain ⟨f, hf⟩ := choose_ltS zpu each
    refine ⟨(List.range len0).map f, by simp, ?_, fun t ht => ?_⟩
    · intro hp
      simp at hp
      obtain ⟨b, off, spot⟩ := x
      have hc := (hf 0 hp).1 0 (by omega)
      have hc2 : W.cell? (Addr.add ⟨b, off, spot⟩ (0 * 4 + 0)) = some (.string (f 0).name) := hc
      have hspot : spot = none := by simpa [Addr.add] using World.cell?_spot hc2
      subst hspot
      have hbl : b < W.heap.size := by
        rw [add_o] at hc2
        exact block_lt_of_cell hc2
      refine ⟨b, off, rfl, hbl, fun i hi j hj => ?_⟩
      simp at hi
      have g0 := (hf i hi).1 j hj
      rw [add_o, ← Nat.add_assoc] at g0
      have e : ((List.range len0).map f).getD i zpu = f i := by simp [List.getD, hi]
      rw [e]
      exact g0
    · simp at ht
      obtain ⟨i, hi, rfl⟩ := ht
      exact (hf i hi).2
end Go.Proofs.YtlnknkeagonmpaaGreat
