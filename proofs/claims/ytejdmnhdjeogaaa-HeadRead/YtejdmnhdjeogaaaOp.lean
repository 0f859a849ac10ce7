/- Heads that came in. -/
import Derived.Test.YtejdmnhdjeogaaaKw
import Derived.Test.YtejdmnhdjeogaaaRows
import Derived.WalkKit
import Derived.ProofKit
import Derived.OpenShut
import Derived.ShutString
import Derived.ChangeOld
import Derived.Below
import Derived.Deep.Slices
namespace Go.Proofs.Ytejdmnhdjeogaaa
open Go.ChangeShapes Go.WideShapes Go.ChangeAt Go.RowKit
set_option linter.unusedVariables false
set_option maxRecDepth 100000 in
theorem open_hd {H : Type} {enc : TypeId × Value → H} {W : World} {spare : Nat → Bool} {held : Bool} {fuel : Nat} {cs : Array Value} {x : DataW H × List MemPlace} (hs : cs.size = Try.prog.cellsOf 24) (hf : DataW.trod enc Try.prog W 0 spare held fuel 24 cs.toList = some x) :
    ∃ h : Hd, cs = h.cs ∧ h.Wf ∧ h.name.size ≤ maxLen := by
  rw [show Try.prog.cellsOf 24 = 15 by kernel_rfl] at hs
  obtain ⟨xs, k, hk, hxy, _, hxl, hfld⟩ := DataW.trod_struct Try.underlying24 hf
  have hlen : cs.toList.length = 15 := by simpa using hs
  obtain ⟨L⟩ := cs
  have hlen : L.length = 15 := hlen
  have o2 : Try.prog.cellsOf 2 = 1 := by kernel_rfl
  have o3 : Try.prog.cellsOf 3 = 1 := by kernel_rfl
  have o9 : Try.prog.cellsOf 9 = 1 := by kernel_rfl
  have o22 : Try.prog.cellsOf 22 = 1 := by kernel_rfl
  match xs, hxl, L, hlen with
  | [y0, y1, y2, y3, y4, y5, y6, y7, y8, y9, y10, y11, y12, y13, y14], _, [u0, u1, u2, u3, u4, u5, u6, u7, u8, u9, u10, u11, u12, u13, u14], _ =>
    have f0 := hfld 0 _ rfl
    have f1 := hfld 1 _ rfl
    have f2 := hfld 2 _ rfl
    have f3 := hfld 3 _ rfl
    have f4 := hfld 4 _ rfl
    have f5 := hfld 5 _ rfl
    have f6 := hfld 6 _ rfl
    have f7 := hfld 7 _ rfl
    have f8 := hfld 8 _ rfl
    have f9 := hfld 9 _ rfl
    have f10 := hfld 10 _ rfl
    have f11 := hfld 11 _ rfl
    have f12 := hfld 12 _ rfl
    have f13 := hfld 13 _ rfl
    have f14 := hfld 14 _ rfl
    simp [o2, o3, o9, o22] at f0 f1 f2 f3 f4 f5 f6 f7 f8 f9 f10 f11 f12 f13 f14
    obtain ⟨n0, e0, _, q0⟩ := DataW.trod_int Try.underlying3 f0
    obtain ⟨n1, e1, _, q1⟩ := DataW.trod_int Try.underlying22 f1
    obtain ⟨n2, e2, _, q2⟩ := DataW.trod_int Try.underlying2 f2
    obtain ⟨n3, e3, _, q3⟩ := DataW.trod_int Try.underlying2 f3
    obtain ⟨n4, e4, _, q4⟩ := DataW.trod_int Try.underlying3 f4
    obtain ⟨n5, e5, _, q5⟩ := DataW.trod_int Try.underlying3 f5
    obtain ⟨n6, e6, _, q6⟩ := DataW.trod_int Try.underlying2 f6
    obtain ⟨n7, e7, _, q7⟩ := DataW.trod_int Try.underlying3 f7
    obtain ⟨n8, e8, _, q8⟩ := DataW.trod_int Try.underlying3 f8
    obtain ⟨n9, e9, _, q9⟩ := DataW.trod_int Try.underlying2 f9
    obtain ⟨n10, e10, _, q10⟩ := DataW.trod_int Try.underlying3 f10
    obtain ⟨n11, e11, _, q11⟩ := DataW.trod_int Try.underlying3 f11
    obtain ⟨n12, e12, _, q12⟩ := DataW.trod_int Try.underlying2 f12
    obtain ⟨n13, e13, _, q13⟩ := DataW.trod_int Try.underlying3 f13
    obtain ⟨s, e14, _, q14⟩ := DataW.trod_string Try.underlying9 f14
    injection e0 with e0; injection e1 with e1; injection e2 with e2; injection e3 with e3; injection e4 with e4; injection e5 with e5; injection e6 with e6; injection e7 with e7; injection e8 with e8; injection e9 with e9; injection e10 with e10; injection e11 with e11; injection e12 with e12; injection e13 with e13; injection e14 with e14
    subst e0 e1 e2 e3 e4 e5 e6 e7 e8 e9 e10 e11 e12 e13 e14
    have b1 := bounds_u64 q1
    refine ⟨⟨n0, n1, n2, n3, n4, n5, n6, n7, n8, n9, n10, n11, n12, n13, s⟩, rfl, ⟨bounds_i64 q0, ?_, bounds_i64 q2, bounds_i64 q3, bounds_i64 q4, bounds_i64 q5, bounds_i64 q6, bounds_i64 q7, bounds_i64 q8, bounds_i64 q9, bounds_i64 q10, bounds_i64 q11, bounds_i64 q12, bounds_i64 q13⟩, ?_⟩
    · show 0 ≤ n1 ∧ n1 < 18446744073709551616
      omega
    · exact q14
end Go.Proofs.Ytejdmnhdjeogaaa
