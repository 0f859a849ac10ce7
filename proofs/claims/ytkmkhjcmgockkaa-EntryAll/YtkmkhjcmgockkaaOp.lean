/- entry: what came in: entries, entries with a width, bytes. -/
import Derived.Test.YtkmkhjcmgockkaaEn
import Derived.Test.YtkmkhjcmgockkaaRows
import Derived.WalkKit
import Derived.ProofKit
import Derived.OpenShut
import Derived.ShutString
import Derived.ChangeOld
import Derived.Below
import Derived.Deep.Slices
namespace Go.Proofs.Ytkmkhjcmgockkaa
open Go.ChangeShapes Go.WideShapes Go.ChangeAt Go.RowKit
set_option linter.unusedVariables false
theorem open_en {H : Type} {enc : TypeId × Value → H} {W : World} {spare : Nat → Bool} {held : Bool} {fuel : Nat} {cs : List Value} {x : DataW H × List MemPlace} (hf : DataW.trod enc Try.prog W 0 spare held fuel 24 cs = some x) :
    ∃ e : En, cs = e.cs.toList ∧ e.Wf := by
  obtain ⟨xs, k, hk, hxy, hs, hxl, hfld⟩ := DataW.trod_struct Try.underlying24 hf
  rw [show Try.prog.cellsOf 24 = 3 by kernel_rfl] at hs
  have o2 : Try.prog.cellsOf 2 = 1 := by kernel_rfl
  have o3 : Try.prog.cellsOf 3 = 1 := by kernel_rfl
  have o22 : Try.prog.cellsOf 22 = 1 := by kernel_rfl
  match xs, hxl, cs, hs with
  | [y0, y1, y2], _, [u0, u1, u2], _ =>
    have f0 := hfld 0 _ rfl
    have f1 := hfld 1 _ rfl
    have f2 := hfld 2 _ rfl
    simp [o2, o3, o22] at f0 f1 f2
    obtain ⟨n0, e0, _, q0⟩ := DataW.trod_int Try.underlying22 f0
    obtain ⟨n1, e1, _, q1⟩ := DataW.trod_int Try.underlying2 f1
    obtain ⟨n2, e2, _, q2⟩ := DataW.trod_int Try.underlying3 f2
    injection e0 with e0; injection e1 with e1; injection e2 with e2
    subst e0 e1 e2
    exact ⟨⟨n0, n1, n2⟩, rfl, ⟨bounds_i64 q0, bounds_i64 q1, bounds_i64 q2⟩⟩
theorem open_put {H : Type} {enc : TypeId × Value → H} {W : World} {spare : Nat → Bool} {held : Bool} {fuel : Nat} {cs : List Value} {x : DataW H × List MemPlace} (hf : DataW.trod enc Try.prog W 0 spare held fuel 41 cs = some x) :
    ∃ (e : En) (b : Int), cs = e.cs.toList ++ [.int .i64 b] ∧ e.Wf ∧ I6 b := by
  obtain ⟨xs, k, hk, hxy, hs, hxl, hfld⟩ := DataW.trod_struct Try.underlying41 hf
  rw [show Try.prog.cellsOf 41 = 4 by kernel_rfl] at hs
  have o3 : Try.prog.cellsOf 3 = 1 := by kernel_rfl
  have o24 : Try.prog.cellsOf 24 = 3 := by kernel_rfl
  match xs, hxl, cs, hs with
  | [y0, y1], _, [u0, u1, u2, u3], _ =>
    have f0 := hfld 0 _ rfl
    have f1 := hfld 1 _ rfl
    simp [o3, o24] at f0 f1
    obtain ⟨e, he, wf⟩ := open_en f0
    obtain ⟨n1, e1, _, q1⟩ := DataW.trod_int Try.underlying3 f1
    injection e1 with e1
    subst e1
    refine ⟨e, n1, ?_, wf, bounds_i64 q1⟩
    rw [← he]
    rfl
/-- A slice of integers that came in: nil, or a row of cells that hold these numbers. -/
def IsRow (k : IntKind) (w : World) (a : Option Addr) (len cap : Nat) (zs : List Int) : Prop :=
  (a = none ∧ len = 0 ∧ cap = 0 ∧ zs = []) ∨
  ∃ x, a = some x ∧ len ≤ cap ∧ cap ≤ maxLen ∧ zs.length = cap ∧ (∀ i, i < zs.length → w.cell? (x.add i) = some (.int k (zs.getD i 0))) ∧ ∀ n ∈ zs, (Lit.int k n).wf = true
theorem wf_byt {zs : List Int} (h : ∀ n ∈ zs, (Lit.int .u8 n).wf = true) : Byt zs := by
  intro z hz
  have := bounds_u8 (h z hz)
  omega
/-- Bytes that came in. -/
structure Inb (w : World) (ao : Option Addr) (n c : Nat) (zs : List Int) : Prop where
  len : zs.length = n
  cap : n ≤ c
  max : c ≤ maxLen
  nil : ao = none → c = 0
  byt : Byt zs
  src : Src w ao zs
theorem IsRow.inb {w : World} {a0 : Option Addr} {len0 cap0 : Nat} {z0 : List Int} (w0 : IsRow .u8 w a0 len0 cap0 z0) : ∃ zs, Inb w a0 len0 cap0 zs := by
  rcases w0 with ⟨rfl, rfl, rfl, rfl⟩ | ⟨x, rfl, hl, hm, hz, hcell, hwz⟩
  · exact ⟨[], ⟨rfl, Nat.le_refl _, by decide, fun _ => rfl, fun z hz => by simp at hz, Src.nil _ _⟩⟩
  · have hlen : (z0.take len0).length = len0 := by simp; omega
    refine ⟨z0.take len0, ⟨hlen, hl, hm, (fun e => by cases e), wf_byt fun n hn => hwz n (List.mem_of_mem_take hn), ?_⟩⟩
    intro hp
    obtain ⟨b, off, spot⟩ := x
    have hc := hcell 0 (by omega)
    have hspot : spot = none := by simpa [Addr.add] using World.cell?_spot hc
    subst hspot
    refine ⟨b, off, rfl, fun i hi => ?_⟩
    have hi2 := hcell i (by omega)
    rw [add_o] at hi2
    rw [hi2]
    have hi3 : i < len0 := by omega
    simp [List.getD, hi3]
end Go.Proofs.Ytkmkhjcmgockkaa
