import Derived.Test.YtnccklbnncaeoaaGreatJbr
import Derived.WalkKit
import Derived.ProofKit
import Derived.OpenShut
import Derived.ShutString
import Derived.ChangeOld
import Derived.Below
import Derived.Deep.Slices
/- Calls that came in: a file's size, a cache's bits and room, steps. -/
namespace Go.Proofs.YtnccklbnncaeoaaGreat
open Go.ChangeShapes Go.WideShapes Go.ChangeAt Go.RowKit
set_option linter.unusedVariables false

theorem choose_ltC {α : Type} (z : α) {n : Nat} {p : Nat → α → Prop} (h : ∀ i, i < n → ∃ q, p i q) : ∃ f : Nat → α, ∀ i, i < n → p i (f i) :=
  ⟨fun i => if hi : i < n then (h i hi).choose else z, fun i hi => by simp only [hi, dite_true]; exact (h i hi).choose_spec⟩
theorem src_ltC {w : World} {ao : Option Addr} {xs : List Int} (h : Src .u8 w ao xs) (hx : 0 < xs.length) (r off : Nat) (e : ao = some ⟨r, off, none⟩) : r < w.heap.size := by
  obtain ⟨b, o, e2, hc⟩ := h hx
  rw [e] at e2
  cases e2
  exact block_lt_of_cell (hc 0 hx)
set_option maxRecDepth 100000 in
theorem open_csteps {H : Type} {enc : TypeId × Value → H} {W : World} {spare : Nat → Bool} {held : Bool} {fuel : Nat} {a0 : Option Addr} {len0 cap0 : Nat} {x : DataW H × List MemPlace} (hf : DataW.trod enc Tryz.prog W 0 spare held fuel 23 [.slice a0 len0 cap0] = some x) : ∃ ts, len0 = ts.length ∧ CSrc W a0 ts ∧ ∀ t ∈ ts, Swc W t := by
  rcases Go.Deep.open_slice Tryz.underlying23 hf with ⟨hcs, _⟩ | ⟨x, l, c, m, n, D, Pl, hcs, _, hl, hm, hmm, _, hx⟩
  · simp at hcs
    obtain ⟨rfl, rfl, rfl⟩ := hcs
    exact ⟨[], rfl, CSrc.nil _ _, fun t ht => by simp at ht⟩
  · simp at hcs
    obtain ⟨rfl, rfl, rfl⟩ := hcs
    have hlm : len0 ≤ m := by rw [hmm]; split <;> omega
    have each : ∀ i, i < len0 → ∃ t : Stc, (∀ j, j < 6 → W.cell? (x.add (i * 6 + j)) = t.cells[j]?) ∧ Swc W t := by
      intro i hi
      obtain ⟨cs', g1, g2⟩ := hx i (by omega)
      rw [show Tryz.prog.cellsOf 49 = 6 by kernel_rfl] at g1
      obtain ⟨_, hlen, hcell⟩ := World.cells?_some g1
      obtain ⟨xs, k, hk, hxy, _, hxl, hfld⟩ := DataW.trod_struct Tryz.underlying49 g2
      match xs, hxl, cs', hlen with
      | [y0, y1, y2, y3, y4, y5], _, [u0, u1, u2, u3, u4, u5], _ =>
        have f0 := hfld 0 _ rfl
        have f1 := hfld 1 _ rfl
        have f2 := hfld 2 _ rfl
        have f3 := hfld 3 _ rfl
        have f4 := hfld 4 _ rfl
        have f5 := hfld 5 _ rfl
        have o2 : Tryz.prog.cellsOf 2 = 1 := by kernel_rfl
        have o3 : Tryz.prog.cellsOf 3 = 1 := by kernel_rfl
        have o47 : Tryz.prog.cellsOf 47 = 1 := by kernel_rfl
        simp [o2, o3, o47] at f0 f1 f2 f3 f4 f5
        obtain ⟨n0, e0, _, q0⟩ := DataW.trod_int Tryz.underlying3 f0
        obtain ⟨n1, e1, _, q1⟩ := DataW.trod_int Tryz.underlying3 f1
        obtain ⟨n2, e2, _, q2⟩ := DataW.trod_int Tryz.underlying3 f2
        obtain ⟨n3, e3, _, q3⟩ := DataW.trod_int Tryz.underlying2 f3
        obtain ⟨n4, e4, _, q4⟩ := DataW.trod_int Tryz.underlying2 f4
        injection e0 with e0
        injection e1 with e1
        injection e2 with e2
        injection e3 with e3
        injection e4 with e4
        obtain ⟨ao, bl, bc, zs, rfl, hzl, hlc, hsr, hcm, hlt⟩ : ∃ ao bl bc zs, u5 = .slice ao bl bc ∧ (zs : List Int).length = bl ∧ bl ≤ bc ∧ Src .u8 W ao zs ∧ bc ≤ maxLen ∧ (∀ b off, ao = some ⟨b, off, none⟩ → 0 < bl → b < W.heap.size) := by
          rcases open_ints Tryz.underlying47 Tryz.underlying5 (by kernel_rfl) f5 with ⟨h1, _⟩ | ⟨x4, l4, c4, zs, h1, _, h2, h3, h4, _, h5, _⟩
          · injection h1 with h1
            exact ⟨none, 0, 0, [], h1, rfl, Nat.le_refl _, fun h => absurd h (by simp), by unfold maxLen; omega, fun _ _ e => by cases e⟩
          · injection h1 with h1
            have hzl : l4 ≤ zs.length := by rw [h4]; split <;> omega
            have hlen4 : (zs.take l4).length = l4 := by rw [List.length_take]; omega
            have hsr : Src .u8 W (some x4) (zs.take l4) := by
              intro hp
              obtain ⟨b, off, spot⟩ := x4
              have hc := h5 0 (by omega)
              have hspot : spot = none := by simpa [Addr.add] using World.cell?_spot hc
              subst hspot
              refine ⟨b, off, rfl, fun i hi => ?_⟩
              have hi2 := h5 i (by omega)
              rw [add_o] at hi2
              rw [hi2]
              have hi3 : i < l4 := by omega
              simp [List.getD, hi3]
            exact ⟨some x4, l4, c4, zs.take l4, h1, hlen4, h2, hsr, h3, fun b off e hp => src_ltC hsr (by omega) b off e⟩
        subst e0 e1 e2 e3 e4
        refine ⟨⟨n0, n1, n2, n3, n4, ao, bl, bc⟩, fun j hj => ?_, ⟨⟨zs, hzl, hsr⟩, hlc, hcm, hlt, bounds_i64 q1, bounds_i64 q2, bounds_i64 q3, bounds_i64 q4⟩⟩
        have c0 := hcell j (by omega)
        rw [Go.Deep.add_add] at c0
        rw [c0]
        rfl
    obtain ⟨f, hf⟩ := choose_ltC zsc each
    refine ⟨(List.range len0).map f, by simp, ?_, fun t ht => ?_⟩
    · intro hp
      simp at hp
      obtain ⟨b, off, spot⟩ := x
      have hc := (hf 0 hp).1 0 (by omega)
      have hc2 : W.cell? (Addr.add ⟨b, off, spot⟩ (0 * 6 + 0)) = some (.int .i64 (f 0).kind) := hc
      have hspot : spot = none := by simpa [Addr.add] using World.cell?_spot hc2
      subst hspot
      have hbl : b < W.heap.size := by
        rw [add_o] at hc2
        exact block_lt_of_cell hc2
      refine ⟨b, off, rfl, hbl, fun i hi j hj => ?_⟩
      simp at hi
      have g0 := (hf i hi).1 j hj
      rw [add_o, ← Nat.add_assoc] at g0
      have e : ((List.range len0).map f).getD i zsc = f i := by simp [List.getD, hi]
      rw [e]
      exact g0
    · simp at ht
      obtain ⟨i, hi, rfl⟩ := ht
      exact (hf i hi).2
set_option maxRecDepth 100000 in
theorem open_calls {H : Type} {enc : TypeId × Value → H} {W : World} {spare : Nat → Bool} {held : Bool} {fuel : Nat} {cs : List Value} {x : DataW H × List MemPlace} (hf : DataW.trod enc Tryz.prog W 0 spare held fuel 66 cs = some x) : ∃ sz bt rm ao N cap ts, cs = [.int .i64 sz, .int .i64 bt, .int .i64 rm, .slice ao N cap] ∧ N = List.length ts ∧ CSrc W ao ts ∧ ∀ t ∈ ts, Swc W t := by
  obtain ⟨xs, k, hk, hxy, hcl, hxl, hfld⟩ := DataW.trod_struct Tryz.underlying66 hf
  rw [show Tryz.prog.cellsOf 66 = 4 by kernel_rfl] at hcl
  match xs, hxl, cs, hcl with
  | [y0, y1, y2, y3], _, [u0, u1, u2, u3], _ =>
    have f0 := hfld 0 _ rfl
    have f1 := hfld 1 _ rfl
    have f2 := hfld 2 _ rfl
    have f3 := hfld 3 _ rfl
    have o2 : Tryz.prog.cellsOf 2 = 1 := by kernel_rfl
    have o3 : Tryz.prog.cellsOf 3 = 1 := by kernel_rfl
    have o23 : Tryz.prog.cellsOf 23 = 1 := by kernel_rfl
    simp [o2, o3, o23] at f0 f1 f2 f3
    obtain ⟨n0, e0, _, q0⟩ := DataW.trod_int Tryz.underlying2 f0
    obtain ⟨n1, e1, _, q1⟩ := DataW.trod_int Tryz.underlying3 f1
    obtain ⟨n2, e2, _, q2⟩ := DataW.trod_int Tryz.underlying3 f2
    injection e0 with e0
    injection e1 with e1
    injection e2 with e2
    obtain ⟨a3, l3, c3, rfl⟩ : ∃ a l c, u3 = .slice a l c := by
      rcases Go.Deep.open_slice Tryz.underlying23 f3 with ⟨hcs, _⟩ | ⟨x, l, c, m, n, D, Pl, hcs, _⟩
      · simp at hcs; exact ⟨_, _, _, hcs⟩
      · simp at hcs; exact ⟨_, _, _, hcs⟩
    obtain ⟨ts, h1, h2, h3⟩ := open_csteps f3
    subst e0 e1 e2
    exact ⟨_, _, _, _, _, _, ts, rfl, h1, h2, h3⟩
end Go.Proofs.YtnccklbnncaeoaaGreat
