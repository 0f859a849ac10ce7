/- GranulesSize: what came in. -/
import Derived.Test.YteenlifdamhffaaDoorOb
import Derived.Test.YteenlifdamhffaaDoorRows
import Derived.WalkKit
import Derived.ProofKit
import Derived.OpenShut
import Derived.ShutString
import Derived.ChangeOld
import Derived.Below
import Derived.Deep.Slices
import Derived.LaidMore
import Derived.LaidLaws
import Derived.Stop.Joined
namespace Go.Proofs.YteenlifdamhffaaDoor
open Go.ChangeShapes Go.WideShapes Go.ChangeAt Go.RowKit
set_option linter.unusedVariables false
theorem block_lt_cell {w : World} {ad : Addr} {v : Value} (h : w.cell? ad = some v) : ad.block < w.heap.size := block_lt_of_cell h
theorem choose_ltR {n : Nat} {p : Nat → (Int × Int) → Prop} (h : ∀ i, i < n → ∃ q, p i q) : ∃ f : Nat → (Int × Int), ∀ i, i < n → p i (f i) :=
  ⟨fun i => if hi : i < n then (h i hi).choose else (0, 0), fun i hi => by simp only [hi, dite_true]; exact (h i hi).choose_spec⟩
def I6 (n : Int) : Prop := -9223372036854775808 ≤ n ∧ n ≤ 9223372036854775807
set_option maxRecDepth 100000 in
theorem open_runs {H : Type} {enc : TypeId × Value → H} {W : World} {spare : Nat → Bool} {held : Bool} {fuel : Nat} {a0 : Option Addr} {len0 cap0 : Nat} {x : DataW H × List MemPlace} (hf : DataW.trod enc Tryd.prog W 0 spare held fuel 52 [.slice a0 len0 cap0] = some x) : ∃ ts, len0 = List.length ts ∧ RSrc W a0 ts ∧ ∀ t ∈ ts, I6 t.1 ∧ I6 t.2 := by
  rcases Go.Deep.open_slice Tryd.underlying52 hf with ⟨hcs, _⟩ | ⟨x, l, c, m, n, D, Pl, hcs, _, hl, hm, hmm, _, hx⟩
  · simp at hcs
    obtain ⟨rfl, rfl, rfl⟩ := hcs
    exact ⟨[], rfl, fun h => absurd h (by simp), fun t ht => by simp at ht⟩
  · simp at hcs
    obtain ⟨rfl, rfl, rfl⟩ := hcs
    have hlm : len0 ≤ m := by rw [hmm]; split <;> omega
    have each : ∀ i, i < len0 → ∃ t : Int × Int, (W.cell? (x.add (i * 2 + 0)) = some (.int .i64 t.1) ∧ W.cell? (x.add (i * 2 + 1)) = some (.int .i64 t.2)) ∧ I6 t.1 ∧ I6 t.2 := by
      intro i hi
      obtain ⟨cs', g1, g2⟩ := hx i (by omega)
      rw [show Tryd.prog.cellsOf 56 = 2 by kernel_rfl] at g1
      obtain ⟨_, hlen, hcell⟩ := World.cells?_some g1
      obtain ⟨xs, k, hk, hxy, _, hxl, hfld⟩ := DataW.trod_struct Tryd.underlying56 g2
      match xs, hxl, cs', hlen with
      | [y0, y1], _, [u0, u1], _ =>
        have f0 := hfld 0 _ rfl
        have f1 := hfld 1 _ rfl
        have o2 : Tryd.prog.cellsOf 2 = 1 := by kernel_rfl
        simp [o2] at f0 f1
        obtain ⟨n0, e0, _, q0⟩ := DataW.trod_int Tryd.underlying2 f0
        obtain ⟨n1, e1, _, q1⟩ := DataW.trod_int Tryd.underlying2 f1
        injection e0 with e0
        injection e1 with e1
        subst e0 e1
        refine ⟨(n0, n1), ⟨?_, ?_⟩, bounds_i64 q0, bounds_i64 q1⟩
        · have c0 := hcell 0 (by omega)
          rw [Go.Deep.add_add] at c0
          rw [c0]; rfl
        · have c0 := hcell 1 (by omega)
          rw [Go.Deep.add_add] at c0
          rw [c0]; rfl
    obtain ⟨f, hf⟩ := choose_ltR each
    refine ⟨(List.range len0).map f, by simp, ?_, fun t ht => ?_⟩
    · intro hp
      simp at hp
      obtain ⟨b, off, spot⟩ := x
      have hc := (hf 0 hp).1.1
      have hspot : spot = none := by simpa [Addr.add] using World.cell?_spot hc
      subst hspot
      have hbl : b < W.heap.size := by
        rw [add_o] at hc
        exact block_lt_of_cell hc
      refine ⟨b, off, rfl, hbl, fun i hi => ?_⟩
      simp at hi
      have e : ((List.range len0).map f).getD i (0, 0) = f i := by simp [List.getD, hi]
      obtain ⟨g0, g1⟩ := (hf i hi).1
      rw [add_o] at g0 g1
      rw [e]
      exact ⟨g0, by rw [← Nat.add_assoc] at g1; exact g1⟩
    · simp at ht
      obtain ⟨i, hi, rfl⟩ := ht
      exact (hf i hi).2
set_option maxRecDepth 100000 in
theorem open_touch {H : Type} {enc : TypeId × Value → H} {W : World} {spare : Nat → Bool} {held : Bool} {fuel : Nat} {cs : List Value} {x : DataW H × List MemPlace} (hf : DataW.trod enc Tryd.prog W 0 spare held fuel 54 cs = some x) : ∃ sz gr tg ao n cap ts bo m cap2, cs = [.int .i64 sz, .int .i64 gr, .int .i64 tg, .slice ao n cap, .slice bo m cap2] ∧ n = List.length ts ∧ RSrc W ao ts ∧ (∀ t ∈ ts, I6 t.1 ∧ I6 t.2) ∧ I6 sz ∧ I6 gr ∧ I6 tg := by
  obtain ⟨xs, k, hk, hxy, hcl, hxl, hfld⟩ := DataW.trod_struct Tryd.underlying54 hf
  rw [show Tryd.prog.cellsOf 54 = 5 by kernel_rfl] at hcl
  match xs, hxl, cs, hcl with
  | [y0, y1, y2, y3, y4], _, [u0, u1, u2, u3, u4], _ =>
    have f0 := hfld 0 _ rfl
    have f1 := hfld 1 _ rfl
    have f2 := hfld 2 _ rfl
    have f3 := hfld 3 _ rfl
    have f4 := hfld 4 _ rfl
    have o2 : Tryd.prog.cellsOf 2 = 1 := by kernel_rfl
    have o3 : Tryd.prog.cellsOf 3 = 1 := by kernel_rfl
    have o52 : Tryd.prog.cellsOf 52 = 1 := by kernel_rfl
    simp [o2, o3, o52] at f0 f1 f2 f3 f4
    obtain ⟨n0, e0, _, q0⟩ := DataW.trod_int Tryd.underlying2 f0
    obtain ⟨n1, e1, _, q1⟩ := DataW.trod_int Tryd.underlying3 f1
    obtain ⟨n2, e2, _, q2⟩ := DataW.trod_int Tryd.underlying3 f2
    injection e0 with e0
    injection e1 with e1
    injection e2 with e2
    obtain ⟨a3, l3, c3, rfl⟩ : ∃ a l c, u3 = .slice a l c := by
      rcases Go.Deep.open_slice Tryd.underlying52 f3 with ⟨hcs, _⟩ | ⟨x, l, c, m, n, D, Pl, hcs, _⟩
      · simp at hcs; exact ⟨_, _, _, hcs⟩
      · simp at hcs; exact ⟨_, _, _, hcs⟩
    obtain ⟨a4, l4, c4, rfl⟩ : ∃ a l c, u4 = .slice a l c := by
      rcases Go.Deep.open_slice Tryd.underlying52 f4 with ⟨hcs, _⟩ | ⟨x, l, c, m, n, D, Pl, hcs, _⟩
      · simp at hcs; exact ⟨_, _, _, hcs⟩
      · simp at hcs; exact ⟨_, _, _, hcs⟩
    obtain ⟨ts, h1, h2, h3⟩ := open_runs f3
    subst e0 e1 e2
    exact ⟨_, _, _, _, _, _, ts, _, _, _, rfl, h1, h2, h3, bounds_i64 q0, bounds_i64 q1, bounds_i64 q2⟩
theorem size_any7 (sz gr tg to : Int) (ts : List (Int × Int)) (ao : Option Addr) (n cap : Nat) (bo : Option Addr) (m cap2 : Nat) (w : World) (hn : n = ts.length) (hS : RSrc w ao ts) (hb : ∀ t ∈ ts, I6 t.1 ∧ I6 t.2) :
    Calls Tryd.prog 7 #[.agg #[.int .i64 sz, .int .i64 gr, .int .i64 tg, .slice ao n cap, .slice bo m cap2], .int .i64 to] w fun e w' => e = .returned (.bool true) ∧ Kp (fun _ => False) w w' := by
  by_cases hout : 100000 < sz ∨ 100000 < to ∨ mayb sz gr = false ∨ mayb to gr = false ∨ 20 < n
  · exact size_out sz gr tg to ao n cap bo m cap2 w hout
  · have h3 : mayb sz gr = true := by
      cases h : mayb sz gr with
      | true => rfl
      | false => exact absurd (.inr (.inr (.inl h))) hout
    have h4 : mayb to gr = true := by
      cases h : mayb to gr with
      | true => rfl
      | false => exact absurd (.inr (.inr (.inr (.inl h)))) hout
    have h5 := mayb_iff.1 h3
    have h6 := mayb_iff.1 h4
    have h7 : sz ≤ 100000 := by
      by_cases h : 100000 < sz
      · exact absurd (.inl h) hout
      · omega
    have h8 : to ≤ 100000 := by
      by_cases h : 100000 < to
      · exact absurd (.inr (.inl h)) hout
      · omega
    have h9 : n ≤ 20 := by
      by_cases h : 20 < n
      · exact absurd (.inr (.inr (.inr (.inr h)))) hout
      · omega
    obtain ⟨s, rfl⟩ : ∃ k : Nat, sz = (k : Int) := ⟨sz.toNat, by omega⟩
    obtain ⟨g, rfl⟩ : ∃ k : Nat, gr = (k : Int) := ⟨gr.toNat, by omega⟩
    obtain ⟨t, rfl⟩ : ∃ k : Nat, to = (k : Int) := ⟨to.toNat, by omega⟩
    exact size_in s g t tg ts ao n cap bo m cap2 w (by omega) (by omega) (by omega) h9 hn hS (fun x hx => (hb x hx).1.2)
end Go.Proofs.YteenlifdamhffaaDoor
