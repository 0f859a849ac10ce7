/- Fates and steps that came in. -/
import Derived.Test.YtalicohflfildaaCrW
import Derived.WalkKit
import Derived.ProofKit
import Derived.OpenShut
import Derived.ShutString
import Derived.ChangeOld
import Derived.Below
import Derived.Deep.Slices
import Derived.Deep.SlicePairs
namespace Go.Proofs.Ytalicohflfildaa
open Go.ChangeShapes Go.WideShapes Go.ChangeAt Go.RowKit
set_option linter.unusedVariables false

theorem choose_ltC {α : Type} (z : α) {n : Nat} {p : Nat → α → Prop} (h : ∀ i, i < n → ∃ q, p i q) : ∃ f : Nat → α, ∀ i, i < n → p i (f i) :=
  ⟨fun i => if hi : i < n then (h i hi).choose else z, fun i hi => by simp only [hi, dite_true]; exact (h i hi).choose_spec⟩
theorem src_lt {q : IntKind} {w : World} {ao : Option Addr} {zs : List Int} (h : Src q w ao zs) (hp : 0 < zs.length) : ∀ b off, ao = some ⟨b, off, none⟩ → b < w.heap.size := by
  intro b off e
  obtain ⟨b', off', e', hc⟩ := h hp
  rw [e'] at e
  cases e
  exact block_lt_of_cell (hc 0 hp)
set_option maxRecDepth 100000 in
theorem open_fates {H : Type} {enc : TypeId × Value → H} {W : World} {spare : Nat → Bool} {held : Bool} {fuel : Nat} {u : Value} {x : DataW H × List MemPlace} (hf : DataW.trod enc Try.prog W 0 spare held fuel 22 [u] = some x) : ∃ ao l c fts, u = .slice ao l c ∧ l = (fts : List (Int × Int)).length ∧ (ao = none → l = 0 ∧ c = 0) ∧ FSrc W ao fts ∧ (∀ b off, ao = some ⟨b, off, none⟩ → 0 < l → b < W.heap.size) ∧ l ≤ maxLen := by
  rcases Go.Deep.open_slice Try.underlying22 hf with ⟨hcs, _⟩ | ⟨x, l, c, m, n, D, Pl, hcs, _, hl, hm, hmm, _, hx⟩
  · injection hcs with hcs
    subst hcs
    exact ⟨none, 0, 0, [], rfl, rfl, fun _ => ⟨rfl, rfl⟩, (fun h => by simp at h), fun _ _ e => (by cases e), by unfold maxLen; omega⟩
  · injection hcs with hcs
    subst hcs
    have hlm : l ≤ m := by rw [hmm]; split <;> omega
    have each : ∀ i, i < l → ∃ q : Int × Int, W.cell? (x.add (i * 2)) = some (.int .i64 q.1) ∧ W.cell? (x.add (i * 2 + 1)) = some (.int .i64 q.2) := by
      intro i hi
      obtain ⟨cs', g1, g2⟩ := hx i (by omega)
      rw [show Try.prog.cellsOf 58 = 2 by kernel_rfl] at g1
      obtain ⟨_, hlen, hcell⟩ := World.cells?_some g1
      obtain ⟨xs, k, hk, hxy, _, hxl, hfld⟩ := DataW.trod_struct Try.underlying58 g2
      match xs, hxl, cs', hlen with
      | [y0, y1], _, [u0, u1], _ =>
        have f0 := hfld 0 _ rfl
        have f1 := hfld 1 _ rfl
        have o3 : Try.prog.cellsOf 3 = 1 := by kernel_rfl
        have o56 : Try.prog.cellsOf 56 = 1 := by kernel_rfl
        simp [o3, o56] at f0 f1
        obtain ⟨n0, e0, _, q0⟩ := DataW.trod_int Try.underlying56 f0
        obtain ⟨n1, e1, _, q1⟩ := DataW.trod_int Try.underlying3 f1
        injection e0 with e0
        injection e1 with e1
        have c0 := hcell 0 (by omega)
        have c1 := hcell 1 (by omega)
        subst e0 e1
        rw [Go.Deep.add_add] at c0 c1
        exact ⟨(n0, n1), by simpa using c0, by simpa using c1⟩
    obtain ⟨f, hf⟩ := choose_ltC (0, 0) each
    have hsrc : FSrc W (some x) ((List.range l).map f) := by
      intro hp
      simp at hp
      obtain ⟨b, off, spot⟩ := x
      have hc := (hf 0 hp).1
      have hspot : spot = none := by simpa [Addr.add] using World.cell?_spot hc
      subst hspot
      have hbl : b < W.heap.size := by
        rw [add_o] at hc
        exact block_lt_of_cell hc
      refine ⟨b, off, rfl, hbl, fun j u hj => ?_⟩
      have hjl : j < (fcs ((List.range l).map f)).length := (List.getElem?_eq_some_iff.1 hj).1
      rw [fcs_len] at hjl
      simp at hjl
      obtain ⟨g1, g2⟩ := hf (j / 2) (by omega)
      rw [add_o] at g1 g2
      obtain ⟨e1, e2⟩ := fcs_get ((List.range l).map f) (j / 2) (by simp; omega)
      have ee : ((List.range l).map f).getD (j / 2) (0, 0) = f (j / 2) := by
        have : j / 2 < l := by omega
        simp [List.getD, this]
      rw [ee] at e1 e2
      rcases Nat.mod_two_eq_zero_or_one j with hp2 | hp2
      · have e : j = j / 2 * 2 := by omega
        rw [e] at hj ⊢
        rw [e1] at hj
        rw [← hj]
        exact g1
      · have e : j = j / 2 * 2 + 1 := by omega
        rw [e] at hj ⊢
        rw [e2] at hj
        rw [← hj]
        exact g2
    refine ⟨some x, l, c, (List.range l).map f, rfl, by simp, (fun e => by cases e), hsrc, fun b off e h0 => ?_, Nat.le_trans hl hm⟩
    obtain ⟨b', off', e', hb, _⟩ := hsrc (by simpa using h0)
    cases e
    cases e'
    exact hb
set_option maxRecDepth 100000 in
theorem open_stepsg {H : Type} {enc : TypeId × Value → H} {W : World} {spare : Nat → Bool} {held : Bool} {fuel : Nat} {a0 : Option Addr} {len0 cap0 : Nat} {x : DataW H × List MemPlace} (hf : DataW.trod enc Try.prog W 0 spare held fuel 23 [.slice a0 len0 cap0] = some x) : ∃ ts, len0 = ts.length ∧ SSrc W a0 ts ∧ ∀ t ∈ ts, Swg W.heap.size W t := by
  rcases Go.Deep.open_slice Try.underlying23 hf with ⟨hcs, _⟩ | ⟨x, l, c, m, n, D, Pl, hcs, _, hl, hm, hmm, _, hx⟩
  · simp at hcs
    obtain ⟨rfl, rfl, rfl⟩ := hcs
    exact ⟨[], rfl, SSrc.nil _ _, fun t ht => by simp at ht⟩
  · simp at hcs
    obtain ⟨rfl, rfl, rfl⟩ := hcs
    have hlm : len0 ≤ m := by rw [hmm]; split <;> omega
    have each : ∀ i, i < len0 → ∃ t : Stp, (∀ j, j < 7 → W.cell? (x.add (i * 7 + j)) = t.cells[j]?) ∧ Swg W.heap.size W t := by
      intro i hi
      obtain ⟨cs', g1, g2⟩ := hx i (by omega)
      rw [show Try.prog.cellsOf 47 = 7 by kernel_rfl] at g1
      obtain ⟨_, hlen, hcell⟩ := World.cells?_some g1
      obtain ⟨xs, k, hk, hxy, _, hxl, hfld⟩ := DataW.trod_struct Try.underlying47 g2
      match xs, hxl, cs', hlen with
      | [y0, y1, y2, y3, y4, y5, y6], _, [u0, u1, u2, u3, u4, u5, u6], _ =>
        have f0 := hfld 0 _ rfl
        have f1 := hfld 1 _ rfl
        have f2 := hfld 2 _ rfl
        have f3 := hfld 3 _ rfl
        have f4 := hfld 4 _ rfl
        have f5 := hfld 5 _ rfl
        have f6 := hfld 6 _ rfl
        have o2 : Try.prog.cellsOf 2 = 1 := by kernel_rfl
        have o3 : Try.prog.cellsOf 3 = 1 := by kernel_rfl
        have o9 : Try.prog.cellsOf 9 = 1 := by kernel_rfl
        have o22 : Try.prog.cellsOf 22 = 1 := by kernel_rfl
        have o24 : Try.prog.cellsOf 24 = 1 := by kernel_rfl
        have o36 : Try.prog.cellsOf 36 = 1 := by kernel_rfl
        simp [o2, o3, o9, o22, o24, o36] at f0 f1 f2 f3 f4 f5 f6
        obtain ⟨n0, e0, _, q0⟩ := DataW.trod_int Try.underlying3 f0
        obtain ⟨n1, e1, _, q1⟩ := DataW.trod_int Try.underlying3 f1
        obtain ⟨n2, e2, _, q2⟩ := DataW.trod_int Try.underlying2 f2
        obtain ⟨s3, e3, _, q3⟩ := DataW.trod_string Try.underlying9 f3
        injection e0 with e0
        injection e1 with e1
        injection e2 with e2
        injection e3 with e3
        have b2 := bounds_i64 q2
        have hb : ∃ ao cap zs, u4 = .slice ao (zs : List Int).length cap ∧ zs.length ≤ cap ∧ Src .u8 W ao zs ∧ cap ≤ maxLen ∧ (∀ b off, ao = some ⟨b, off, none⟩ → 0 < zs.length → b < W.heap.size) := by
          rcases open_ints Try.underlying36 Try.underlying5 (by kernel_rfl) f4 with ⟨h1, _⟩ | ⟨x4, l4, c4, zs, h1, _, h2, h3, h4, _, h5, _⟩
          · injection h1 with h1
            subst h1
            exact ⟨none, 0, [], rfl, Nat.le_refl _, fun h => absurd h (by simp), by unfold maxLen; omega, fun _ _ e => by cases e⟩
          · injection h1 with h1
            subst h1
            have hzl : l4 ≤ zs.length := by rw [h4]; split <;> omega
            have hlen4 : (zs.take l4).length = l4 := by rw [List.length_take]; omega
            have hsr : Src .u8 W (some x4) (zs.take l4) := by
              intro hp
              obtain ⟨b, off, spot⟩ := x4
              have hc := h5 0 (by omega)
              have hspot : spot = none := by simpa [Addr.add] using World.cell?_spot hc
              subst hspot
              refine ⟨b, off, rfl, fun i hi => ?_⟩
              have hi2 := h5 i (by omega)
              rw [add_o] at hi2
              rw [hi2]
              have hi3 : i < l4 := by omega
              simp [List.getD, hi3]
            exact ⟨some x4, c4, zs.take l4, by rw [hlen4], by rw [hlen4]; exact h2, hsr, h3, fun b off e hp => src_lt hsr hp b off e⟩
        obtain ⟨fao, fl, fc, fts, hfu, hfq, hfn, hfs, hfb, hflm⟩ := open_fates f5
        have hpi : ∃ ao l c, u6 = .slice ao l c ∧ l ≤ maxLen := by
          rcases Go.Deep.open_slice Try.underlying24 f6 with ⟨h1, _⟩ | ⟨x4, l4, c4, m4, n4, D4, Pl4, h1, _, h2, h3, h4, _, h5⟩
          · injection h1 with h1; exact ⟨_, _, _, h1, by unfold maxLen; omega⟩
          · injection h1 with h1; exact ⟨_, _, _, h1, Nat.le_trans h2 h3⟩
        subst e0 e1 e2 e3
        refine ⟨⟨n0, n1, n2, s3, u4, u5, u6⟩, fun j hj => ?_, ⟨hb, ⟨fao, fl, fc, hfu, hflm⟩, hpi, q3, b2.1, b2.2⟩, ⟨fao, fl, fc, fts, hfu, hfq, hfn, hfs, hfb⟩⟩
        have c0 := hcell j (by omega)
        rw [Go.Deep.add_add] at c0
        rw [c0]
        rfl
    obtain ⟨f, hf⟩ := choose_ltC zst each
    refine ⟨(List.range len0).map f, by simp, ?_, fun t ht => ?_⟩
    · intro hp
      simp at hp
      obtain ⟨b, off, spot⟩ := x
      have hc := (hf 0 hp).1 0 (by omega)
      have hc2 : W.cell? (Addr.add ⟨b, off, spot⟩ (0 * 7 + 0)) = some (.int .i64 (f 0).kind) := hc
      have hspot : spot = none := by simpa [Addr.add] using World.cell?_spot hc2
      subst hspot
      have hbl : b < W.heap.size := by
        rw [add_o] at hc2
        exact block_lt_of_cell hc2
      refine ⟨b, off, rfl, hbl, fun i hi j hj => ?_⟩
      simp at hi
      have g0 := (hf i hi).1 j hj
      rw [add_o, ← Nat.add_assoc] at g0
      have e : ((List.range len0).map f).getD i zst = f i := by simp [List.getD, hi]
      rw [e]
      exact g0
    · simp at ht
      obtain ⟨i, hi, rfl⟩ := ht
      exact (hf i hi).2
end Go.Proofs.Ytalicohflfildaa
