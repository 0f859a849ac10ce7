/-
  BitsPut answers true for all scripts of calls and either writer to begin with, and leaves what was there as it was: no conditions.
  The walk lies in the texts that are imported; here the arguments are opened and read again.
-/
import Derived.Test.YtfeokjbmobmabaaPutW
import Derived.WalkKit
import Derived.ProofKit
import Derived.OpenShut
import Derived.ShutString
import Derived.ChangeOld
import Derived.Below
import Derived.Deep.Slices
namespace Go.Proofs.Ytfeokjbmobmabaa.bitsPut
open Go.ChangeShapes Go.WideShapes Go.ChangeAt Go.RowKit
open Go.ChangeMaps (open_string shut_string)
set_option linter.unusedVariables false

theorem own : ownKnob Try.prog.godebug = none := by kernel_rfl
theorem laidOut : laidOutB Try.prog = true := by kernel_rfl

/-- A slice of integers that came in: nil, or a row of cells that hold these numbers. -/
def IsRow (k : IntKind) (w : World) (a : Option Addr) (len cap : Nat) (zs : List Int) : Prop :=
  (a = none ∧ len = 0 ∧ cap = 0 ∧ zs = []) ∨
  ∃ x, a = some x ∧ len ≤ cap ∧ cap ≤ maxLen ∧ zs.length = cap ∧ (∀ i, i < zs.length → w.cell? (x.add i) = some (.int k (zs.getD i 0))) ∧ ∀ n ∈ zs, (Lit.int k n).wf = true

theorem ok_below' {w w' : World} (h : Ok' w w') : Below w.heap.size w w' := h.below (Nat.le_refl _) (fun _ x => x.elim)
theorem choose_lt' {α : Type} [Inhabited α] {n : Nat} {p : Nat → α → Prop} (h : ∀ i, i < n → ∃ q, p i q) : ∃ f : Nat → α, ∀ i, i < n → p i (f i) :=
  ⟨fun i => if hi : i < n then (h i hi).choose else default, fun i hi => by simp only [hi, dite_true]; exact (h i hi).choose_spec⟩
theorem choose_bytes {n : Nat} {p : Nat → Int → Prop} (h : ∀ i, i < n → ∃ q, p i q) : ∃ f : Nat → Int, ∀ i, i < n → p i (f i) := choose_lt' h

set_option maxRecDepth 100000 in
set_option maxHeartbeats 1000000 in
theorem long (a0 : Option Addr) (l0 c0 : Nat) (z : Bool) (w : World) (h : 60 < l0) :
    Calls Try.prog 3 #[.slice a0 l0 c0, .bool z] w fun e w' => e = .returned (.bool true) ∧ Below w.heap.size w w' := by
  go_enter Try.func3, Try.ntmps3
  go_wp2_with fail
  refine (works_any _).mono ?_
  rintro e w1 ⟨rfl, k1⟩
  go_wp2_with fail
  go_ret
  exact ⟨rfl, ok_below' k1⟩

theorem walk (a0 : Option Addr) (len0 cap0 : Nat) (z : Bool) (K N : Nat → Int) (X : Nat → Nat) (A : Nat → Option Addr) (Bs : Nat → List Int) (C : Nat → Nat) (w : World) (w0 : Scr4 w a0 len0 K N X A Bs C) :
    Calls Try.prog 3 #[.slice a0 len0 cap0, .bool z] w fun e w' => e = .returned (.bool true) ∧ Below w.heap.size w w' := by
  by_cases h : 60 < len0
  · exact long a0 len0 cap0 z w h
  · refine (put_walk3 a0 cap0 len0 z K N X A Bs C w (by omega) w0).mono ?_
    rintro e w' ⟨rfl, k⟩
    exact ⟨rfl, ok_below' k⟩

/-- A slice of bytes, read. -/
theorem bytes_read {H : Type} {enc : TypeId × Value → H} {w : World} {spare : Nat → Bool} {held : Bool} {fuel : Nat} {v : Value} {x : DataW H × List MemPlace} (h : DataW.trod enc Try.prog w 0 spare held fuel 26 [v] = some x) :
    ∃ a B c, v = .slice a (List.length B) c ∧ Src w a B ∧ Byt B ∧ (a = none → c = 0) := by
  rcases Go.Deep.open_slice Try.underlying26 h with ⟨hcs, _⟩ | ⟨a, len, cap, m, n, D, Pl, hcs, _, hl, hm, hmm, _, hx⟩
  · injection hcs with hcs
    exact ⟨none, [], 0, hcs, Src.nil _ _, fun z hz => by simp at hz, fun _ => rfl⟩
  · injection hcs with hcs
    have hlm : len ≤ m := by rw [hmm]; split <;> omega
    have each : ∀ i, i < len → ∃ z : Int, w.cell? (a.add i) = some (.int .u8 z) ∧ (Lit.int .u8 z).wf = true := by
      intro i hi
      obtain ⟨cs', h1, h2⟩ := hx i (by omega)
      rw [show Try.prog.cellsOf 5 = 1 by kernel_rfl, Nat.mul_one] at h1
      obtain ⟨_, hlen, hcell⟩ := World.cells?_some h1
      obtain ⟨z, e0, _, hw⟩ := DataW.trod_int Try.underlying5 h2
      have hc := hcell 0 (by omega)
      rw [e0] at hc
      refine ⟨z, ?_, hw⟩
      simpa [Addr.add] using hc
    obtain ⟨f, hf⟩ := choose_bytes each
    refine ⟨some a, (List.range len).map f, cap, by rw [hcs]; simp, ?_, ?_, fun e => by cases e⟩
    · intro hp
      simp at hp
      obtain ⟨b, off, spot⟩ := a
      have hc := (hf 0 hp).1
      have hspot : spot = none := by simpa [Addr.add] using World.cell?_spot hc
      subst hspot
      refine ⟨b, off, rfl, fun i hi => ?_⟩
      simp at hi
      have hi2 := (hf i hi).1
      rw [add_o] at hi2
      rw [hi2]
      simp [List.getD, hi]
    · intro z hz
      simp at hz
      obtain ⟨i, hi, rfl⟩ := hz
      have := bounds_u8 (hf i hi).2
      omega

/-! From the walk to the row. -/
set_option maxRecDepth 100000 in
theorem lifted (os : Os) (started : os.Started) (H : Type) (enc : TypeId × Value → H) :
    ReturnsInHanded {} Try.checked os 3 .any (Rows.bitsPutSpec.pre6 enc Try.prog Try.f3 Rows.bitsPutRow.domain false) (Rows.bitsPutSpec.post enc Try.prog Try.f3 false true false false) := by
  refine returnsInHanded_of_change (C := Try.checked) own started (by kernel_rfl) Try.func3
    (ChangeSpec.witness6 (enc := enc) (C := Try.checked) false ⟨#[], #[.slice none 0 0, .bool false], []⟩ 8 (by kernel_rfl) (by kernel_rfl) (by kernel_rfl) (by kernel_rfl)) ?_
  intro W base args ds gs before hval0 hW hcnd _
  have hval : ∀ (j : Nat) t v, Try.f3.params[j]? = some t → args[j]? = some v → Value.okWide Try.prog W .any base t v := hval0
  have hW' := hW
  obtain ⟨p, q, hA0, hV, rfl, hfz, hnd⟩ := hW
  have hA : DataW.TrodAll enc Try.prog W 0 (fun _ => true) true Try.f3.params.toList args.toList ds p := hA0
  rw [Try.params3] at hA hval
  obtain ⟨v0, vs0, d0, ds0, p0, q0, hargs, rfl, rfl, h0, r0⟩ := trodAll_cons hA
  obtain ⟨v1, vs1, d1, ds1, p1, q1, rfl, rfl, rfl, h1, r1⟩ := trodAll_cons r0
  obtain ⟨rfl, rfl, rfl⟩ := trodAll_nil r1
  obtain rfl : args = #[v0, v1] := by cases args; simp_all
  obtain ⟨rfl, rfl⟩ := trodVars_none hV
  obtain ⟨a0, len0, cap0, rfl⟩ := okWide_slice Try.underlying22 (hval 0 22 v0 rfl rfl)
  obtain ⟨z, rfl⟩ := okWide_bool Try.underlying4 (hval 1 4 v1 rfl rfl)
  have k0 := h0
  have k1 := h1
  have lt0 : ∀ x ∈ p0, x.block < W.heap.size := by obtain ⟨m, hm⟩ := k0; exact DataW.trod_lt m _ _ _ hm
  have lt1 : ∀ x ∈ p1, x.block < W.heap.size := by obtain ⟨m, hm⟩ := k1; exact DataW.trod_lt m _ _ _ hm
  obtain ⟨K, N, X, A, Bs, C, w0⟩ : ∃ K N X A Bs C, Scr4 W a0 len0 K N X A Bs C := by
    obtain ⟨fuel, hf⟩ := h0
    rcases Go.Deep.open_slice Try.underlying22 hf with ⟨hcs, _⟩ | ⟨x, l, c, m, n, D, Pl, hcs, _, hl, hm, hmm, _, hx⟩
    · simp [Value.cells] at hcs
      obtain ⟨rfl, rfl, rfl⟩ := hcs
      exact ⟨fun _ => 0, fun _ => 0, fun _ => 0, fun _ => none, fun _ => [], fun _ => 0, fun h => absurd h (by omega)⟩
    · simp [Value.cells] at hcs
      obtain ⟨rfl, rfl, rfl⟩ := hcs
      have hlm : len0 ≤ m := by rw [hmm]; split <;> omega
      have each : ∀ i, i < len0 → ∃ q : Int × Int × Nat × Option Addr × List Int × Nat, (W.cell? (x.add (i * 4)) = some (.int .i64 q.1) ∧ W.cell? (x.add (i * 4 + 1)) = some (.int .i64 q.2.1) ∧ W.cell? (x.add (i * 4 + 2)) = some (.int .u64 (q.2.2.1 : Int)) ∧ W.cell? (x.add (i * 4 + 3)) = some (.slice q.2.2.2.1 q.2.2.2.2.1.length q.2.2.2.2.2)) ∧ Src W q.2.2.2.1 q.2.2.2.2.1 ∧ Byt q.2.2.2.2.1 ∧ (q.2.2.2.1 = none → q.2.2.2.2.2 = 0) := by
        intro i hi
        obtain ⟨cs', g1, g2⟩ := hx i (by omega)
        rw [show Try.prog.cellsOf 33 = 4 by kernel_rfl] at g1
        obtain ⟨_, hlen, hcell⟩ := World.cells?_some g1
        obtain ⟨xs, k, hk, hxy, _, hxl, hfld⟩ := DataW.trod_struct Try.underlying33 g2
        match xs, hxl, cs', hlen with
        | [y0, y1, y2, y3], _, [u0, u1, u2, u3], _ =>
          have f0 := hfld 0 _ rfl
          have f1 := hfld 1 _ rfl
          have f2 := hfld 2 _ rfl
          have f3 := hfld 3 _ rfl
          have o3 : Try.prog.cellsOf 3 = 1 := by kernel_rfl
          have o27 : Try.prog.cellsOf 27 = 1 := by kernel_rfl
          have o26 : Try.prog.cellsOf 26 = 1 := by kernel_rfl
          simp [o3, o27, o26] at f0 f1 f2 f3
          obtain ⟨n0, e0, _, _⟩ := DataW.trod_int Try.underlying3 f0
          obtain ⟨n1, e1, _, _⟩ := DataW.trod_int Try.underlying3 f1
          obtain ⟨n2, e2, _, w2⟩ := DataW.trod_int Try.underlying27 f2
          obtain ⟨aB, B, cB, e3, s3, b3, z3⟩ := bytes_read f3
          injection e0 with e0
          injection e1 with e1
          injection e2 with e2
          have hn2 := bounds_u64 w2
          have c0 := hcell 0 (by omega)
          have c1 := hcell 1 (by omega)
          have c2 := hcell 2 (by omega)
          have c3 := hcell 3 (by omega)
          subst e0 e1 e2 e3
          rw [Go.Deep.add_add] at c0 c1 c2 c3
          refine ⟨(n0, n1, n2.toNat, aB, B, cB), ⟨by simpa using c0, by simpa using c1, ?_, by simpa using c3⟩, s3, b3, z3⟩
          rw [show ((n2.toNat : Nat) : Int) = n2 by omega]
          simpa using c2
      obtain ⟨f, hf⟩ := choose_lt' each
      refine ⟨fun i => (f i).1, fun i => (f i).2.1, fun i => (f i).2.2.1, fun i => (f i).2.2.2.1, fun i => (f i).2.2.2.2.1, fun i => (f i).2.2.2.2.2, fun hp => ?_⟩
      obtain ⟨b, off, spot⟩ := x
      have hc := (hf 0 hp).1.1
      have hspot : spot = none := by simpa [Addr.add] using World.cell?_spot hc
      subst hspot
      refine ⟨b, off, rfl, fun i hi => ?_⟩
      obtain ⟨⟨g0, g1, g2, g3⟩, s3⟩ := hf i hi
      rw [add_o] at g0 g1 g2 g3
      exact ⟨⟨g0, g1, g2, g3⟩, s3⟩
  clear hA0 hval0
  refine (walk a0 len0 cap0 z K N X A Bs C W w0).mono fun e W' ⟨he, bel⟩ => ?_
  subst he
  exact ⟨_, rfl, _, _, _, [], _, [], hW', trodAll_mk1 (shut_bool Try.underlying4 _), (trodAll_cons_mk (Below.trod laidOut (by kernel_rfl) (of_decide_eq_true (by kernel_rfl)) k0 bel lt0) (trodAll_cons_mk (Below.trod laidOut (by kernel_rfl) (of_decide_eq_true (by kernel_rfl)) k1 bel lt1) trodAll_mk0)), rfl, bel.frame _, fun h => by cases h⟩

theorem over : Rows.bitsPutRow.holds Try.pinned (OpenSpec.ofChange Rows.bitsPutSpec) :=
  OpenClaim.holds_of_wide 3 Try.f3 rfl rfl rfl rfl rfl rfl rfl ⟨rfl, rfl, rfl, rfl, rfl⟩ rfl rfl rfl rfl rfl (by kernel_rfl) Try.func3 (by kernel_rfl)
    (of_decide_eq_true (by kernel_rfl)) (by unfold Func.isWrapper; first | (rw [if_pos (by decide +kernel)]; kernel_rfl) | (rw [if_neg (by decide +kernel)]; exact ⟨rfl, rfl⟩))
    (fun os started H enc _ => lifted os started H enc)

end Go.Proofs.Ytfeokjbmobmabaa.bitsPut
namespace Go.Proofs.Ytfeokjbmobmabaa
/-- THE STATEMENT. -/
theorem bitsPut_holds : Rows.BitsPutSaid := bitsPut.over
#print axioms bitsPut_holds
end Go.Proofs.Ytfeokjbmobmabaa
