/- counts: what came in: structs of numbers, bytes; the variable widths. -/
import Derived.Test.YtjhgkcbpllgdiaaDoorFa
import Derived.Test.YtjhgkcbpllgdiaaDoorRows
import Derived.WalkKit
import Derived.ProofKit
import Derived.OpenShut
import Derived.ShutString
import Derived.ChangeOld
import Derived.Below
import Derived.Deep.Slices
import Derived.LaidMore
import Derived.LaidLaws
import Derived.Stop.Joined
namespace Go.Proofs.YtjhgkcbpllgdiaaDoor
open Go.ChangeShapes Go.WideShapes Go.ChangeAt Go.RowKit
set_option linter.unusedVariables false
def I6 (n : Int) : Prop := -9223372036854775808 ≤ n ∧ n ≤ 9223372036854775807
def U6 (n : Int) : Prop := 0 ≤ n ∧ n < 18446744073709551616
theorem open_run {H : Type} {enc : TypeId × Value → H} {W : World} {spare : Nat → Bool} {held : Bool} {fuel : Nat} {cs : List Value} {x : DataW H × List MemPlace} (hf : DataW.trod enc Tryd.prog W 0 spare held fuel 42 cs = some x) :
    ∃ a b : Int, cs = [.int .i64 a, .int .i64 b] ∧ I6 a ∧ I6 b := by
  obtain ⟨xs, k, hk, hxy, hs, hxl, hfld⟩ := DataW.trod_struct Tryd.underlying42 hf
  rw [show Tryd.prog.cellsOf 42 = 2 by kernel_rfl] at hs
  have o3 : Tryd.prog.cellsOf 3 = 1 := by kernel_rfl
  match xs, hxl, cs, hs with
  | [y0, y1], _, [u0, u1], _ =>
    have f0 := hfld 0 _ rfl
    have f1 := hfld 1 _ rfl
    simp [o3] at f0 f1
    obtain ⟨n0, e0, _, q0⟩ := DataW.trod_int Tryd.underlying3 f0
    obtain ⟨n1, e1, _, q1⟩ := DataW.trod_int Tryd.underlying3 f1
    injection e0 with e0
    injection e1 with e1
    subst e0 e1
    exact ⟨n0, n1, rfl, bounds_i64 q0, bounds_i64 q1⟩
theorem open_one {H : Type} {enc : TypeId × Value → H} {W : World} {spare : Nat → Bool} {held : Bool} {fuel : Nat} {cs : List Value} {x : DataW H × List MemPlace} (hf : DataW.trod enc Tryd.prog W 0 spare held fuel 25 cs = some x) :
    ∃ a b c : Int, cs = [.int .i64 a, .int .u64 b, .int .i64 c] ∧ I6 a ∧ U6 b ∧ I6 c := by
  obtain ⟨xs, k, hk, hxy, hs, hxl, hfld⟩ := DataW.trod_struct Tryd.underlying25 hf
  rw [show Tryd.prog.cellsOf 25 = 3 by kernel_rfl] at hs
  have o2 : Tryd.prog.cellsOf 2 = 1 := by kernel_rfl
  have o3 : Tryd.prog.cellsOf 3 = 1 := by kernel_rfl
  have o23 : Tryd.prog.cellsOf 23 = 1 := by kernel_rfl
  match xs, hxl, cs, hs with
  | [y0, y1, y2], _, [u0, u1, u2], _ =>
    have f0 := hfld 0 _ rfl
    have f1 := hfld 1 _ rfl
    have f2 := hfld 2 _ rfl
    simp [o2, o3, o23] at f0 f1 f2
    obtain ⟨n0, e0, _, q0⟩ := DataW.trod_int Tryd.underlying3 f0
    obtain ⟨n1, e1, _, q1⟩ := DataW.trod_int Tryd.underlying23 f1
    obtain ⟨n2, e2, _, q2⟩ := DataW.trod_int Tryd.underlying2 f2
    injection e0 with e0
    injection e1 with e1
    injection e2 with e2
    subst e0 e1 e2
    exact ⟨n0, n1, n2, rfl, bounds_i64 q0, ⟨(bounds_u64 q1).1, Int.lt_of_le_of_lt (bounds_u64 q1).2 (by decide)⟩, bounds_i64 q2⟩
theorem open_two {H : Type} {enc : TypeId × Value → H} {W : World} {spare : Nat → Bool} {held : Bool} {fuel : Nat} {cs : List Value} {x : DataW H × List MemPlace} (hf : DataW.trod enc Tryd.prog W 0 spare held fuel 48 cs = some x) :
    ∃ a b c : Int, cs = [.int .i64 a, .int .i64 b, .int .i64 c] ∧ I6 a ∧ I6 b ∧ I6 c := by
  obtain ⟨xs, k, hk, hxy, hs, hxl, hfld⟩ := DataW.trod_struct Tryd.underlying48 hf
  rw [show Tryd.prog.cellsOf 48 = 3 by kernel_rfl] at hs
  have o3 : Tryd.prog.cellsOf 3 = 1 := by kernel_rfl
  match xs, hxl, cs, hs with
  | [y0, y1, y2], _, [u0, u1, u2], _ =>
    have f0 := hfld 0 _ rfl
    have f1 := hfld 1 _ rfl
    have f2 := hfld 2 _ rfl
    simp [o3] at f0 f1 f2
    obtain ⟨n0, e0, _, q0⟩ := DataW.trod_int Tryd.underlying3 f0
    obtain ⟨n1, e1, _, q1⟩ := DataW.trod_int Tryd.underlying3 f1
    obtain ⟨n2, e2, _, q2⟩ := DataW.trod_int Tryd.underlying3 f2
    injection e0 with e0
    injection e1 with e1
    injection e2 with e2
    subst e0 e1 e2
    exact ⟨n0, n1, n2, rfl, bounds_i64 q0, bounds_i64 q1, bounds_i64 q2⟩
/-- A slice of integers that came in: nil, or a row of cells that hold these numbers. -/
def IsRow (k : IntKind) (w : World) (a : Option Addr) (len cap : Nat) (zs : List Int) : Prop :=
  (a = none ∧ len = 0 ∧ cap = 0 ∧ zs = []) ∨
  ∃ x, a = some x ∧ len ≤ cap ∧ cap ≤ maxLen ∧ zs.length = cap ∧ (∀ i, i < zs.length → w.cell? (x.add i) = some (.int k (zs.getD i 0))) ∧ ∀ n ∈ zs, (Lit.int k n).wf = true
theorem wf_byt {zs : List Int} (h : ∀ n ∈ zs, (Lit.int .u8 n).wf = true) : Byt zs := by
  intro z hz
  have := bounds_u8 (h z hz)
  omega
/-- Bytes that came in. -/
structure Inb (w : World) (ao : Option Addr) (n c : Nat) (zs : List Int) : Prop where
  len : zs.length = n
  cap : n ≤ c
  max : c ≤ maxLen
  nil : ao = none → c = 0
  byt : Byt zs
  src : Src .u8 w ao zs
theorem IsRow.inb {w : World} {a0 : Option Addr} {len0 cap0 : Nat} {z0 : List Int} (w0 : IsRow .u8 w a0 len0 cap0 z0) : ∃ zs, Inb w a0 len0 cap0 zs := by
  rcases w0 with ⟨rfl, rfl, rfl, rfl⟩ | ⟨x, rfl, hl, hm, hz, hcell, hwz⟩
  · exact ⟨[], ⟨rfl, Nat.le_refl _, by decide, fun _ => rfl, fun z hz => by simp at hz, Src.nil _ _ _⟩⟩
  · have hlen : (z0.take len0).length = len0 := by simp; omega
    refine ⟨z0.take len0, ⟨hlen, hl, hm, (fun e => by cases e), wf_byt fun n hn => hwz n (List.mem_of_mem_take hn), ?_⟩⟩
    intro hp
    obtain ⟨b, off, spot⟩ := x
    have hc := hcell 0 (by omega)
    have hspot : spot = none := by simpa [Addr.add] using World.cell?_spot hc
    subst hspot
    refine ⟨b, off, rfl, fun i hi => ?_⟩
    have hi2 := hcell i (by omega)
    rw [add_o] at hi2
    rw [hi2]
    have hi3 : i < len0 := by omega
    simp [List.getD, hi3]
/-! The variable widths, as the row lists it. -/
theorem gWidths : Tryd.prog.globalNamed "palimpsest/counts.widths" = some 0 := by kernel_rfl
theorem tWidths : (Tryd.prog.globals[0]?).map (·.type) = some 72 := by kernel_rfl
theorem door_met (os : Os) (args : Array Value) : laidMetH Tryd.prog [("palimpsest/counts.widths", Rows.laid_palimpsest_counts_widths)] ((World.doorLaid Tryd.prog 400 os).forCall (fun _ _ => 0) ⟨#[], args, []⟩).memory :=
  laidMetH_of_parts3 (fuel := 8) (laidMet_of_run' 8 (by kernel_rfl) (by kernel_rfl)) (by kernel_rfl) (by kernel_rfl)
theorem of_laid {W : World} (h : laidMetH Tryd.prog [("palimpsest/counts.widths", Rows.laid_palimpsest_counts_widths)] W) : Wd W := by
  rw [MakeChecks.laidMetH_plain _ _ _ (by kernel_rfl)] at h
  obtain ⟨ps, ⟨g0, t0, cs0, f0, p0, q0, hg0, ht0, hv0, hd0, _, _⟩, _, _⟩ := h
  obtain rfl := Option.some.inj (gWidths.symm.trans hg0)
  obtain rfl := Option.some.inj (tWidths.symm.trans ht0)
  obtain ⟨xs, m1, rfl, hx1, hlen, hn3, hel⟩ := DataW.trod_array Tryd.underlying72 hd0
  have c3 : Tryd.prog.cellsOf 3 = 1 := by kernel_rfl
  simp only [Prod.mk.injEq, DataW.agg.injEq, Rows.laid_palimpsest_counts_widths] at hx1
  have hc := fun i => World.var?_cell hg0 hv0 i
  have key : ∀ (i : Nat) (x : DataW Unit × List MemPlace) (v : Int), DataW.trod (fun _ => ()) Tryd.prog W 0 (fun _ => true) false m1 3 (List.take (Tryd.prog.cellsOf 3) (List.drop (i * Tryd.prog.cellsOf 3) cs0.toList)) = some x → DataW.lit (Lit.int .i64 v) = x.1 → W.cell? ⟨0, i, none⟩ = some (.int .i64 v) := by
    intro i x v h hx
    obtain ⟨k, e1, e2, _⟩ := DataW.trod_int Tryd.underlying3 h
    rw [e2] at hx
    injection hx with hx
    injection hx with _ hx
    subst hx
    have := hc i
    rw [this]
    rw [c3, Nat.mul_one] at e1
    have h2 := congrArg (fun l => l[0]?) e1
    simp at h2
    rw [← h2]
  intro i hi
  have h0 := hel i hi
  match xs, hn3, hx1, h0 with
  | [x0, x1, x2, x3, x4, x5, x6], _, hx1, h0 =>
    simp only [List.map_cons, List.map_nil, List.cons.injEq] at hx1
    obtain ⟨⟨d0, d1, d2, d3, d4, d5, d6, _⟩, _⟩ := hx1
    rcases (show i = 0 ∨ i = 1 ∨ i = 2 ∨ i = 3 ∨ i = 4 ∨ i = 5 ∨ i = 6 by omega) with rfl | rfl | rfl | rfl | rfl | rfl | rfl
    · exact key _ _ _ h0 d0
    · exact key _ _ _ h0 d1
    · exact key _ _ _ h0 d2
    · exact key _ _ _ h0 d3
    · exact key _ _ _ h0 d4
    · exact key _ _ _ h0 d5
    · exact key _ _ _ h0 d6
end Go.Proofs.YtjhgkcbpllgdiaaDoor
