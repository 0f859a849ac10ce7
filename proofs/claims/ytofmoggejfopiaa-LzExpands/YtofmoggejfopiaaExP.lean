/-
  LzExpands answers true for all tokens and every bound, and leaves what was there as it was: no conditions.
  The walk lies in the texts that are imported; here the arguments are opened and read again.
-/
import Derived.Test.YtofmoggejfopiaaExW
import Derived.WalkKit
import Derived.ProofKit
import Derived.OpenShut
import Derived.ShutString
import Derived.ChangeOld
import Derived.Below
import Derived.Deep.Slices
namespace Go.Proofs.Ytofmoggejfopiaa.lzExpands
open Go.ChangeShapes Go.WideShapes Go.ChangeAt Go.RowKit
open Go.ChangeMaps (open_string shut_string)
set_option linter.unusedVariables false

theorem own : ownKnob Try.prog.godebug = none := by kernel_rfl
theorem laidOut : laidOutB Try.prog = true := by kernel_rfl

/-- Tokens that came in: nil, or a row of cells. -/
structure IsToks (w : World) (a : Option Addr) (len cap : Nat) (ts : List Tok) : Prop where
  len_eq : len = ts.length
  none_z : a = none → len = 0 ∧ cap = 0
  le : len ≤ cap
  le_max : cap ≤ maxLen
  src : TSrc w a ts
  wf : ∀ t ∈ ts, (Lit.int .u8 t.1).wf = true ∧ (Lit.int .i64 t.2.1).wf = true ∧ (Lit.int .i64 t.2.2).wf = true
theorem choose_lt' {α : Type} [Inhabited α] {n : Nat} {p : Nat → α → Prop} (h : ∀ i, i < n → ∃ q, p i q) : ∃ f : Nat → α, ∀ i, i < n → p i (f i) :=
  ⟨fun i => if hi : i < n then (h i hi).choose else default, fun i hi => by simp only [hi, dite_true]; exact (h i hi).choose_spec⟩
theorem open_toks {H : Type} {enc : TypeId × Value → H} {W : World} {spare : Nat → Bool} {held : Bool} {fuel : Nat} {a0 : Option Addr} {len0 cap0 : Nat} {x : DataW H × List MemPlace} (hf : DataW.trod enc Try.prog W 0 spare held fuel 28 [.slice a0 len0 cap0] = some x) : ∃ ts, IsToks W a0 len0 cap0 ts := by
  rcases Go.Deep.open_slice Try.underlying28 hf with ⟨hcs, _⟩ | ⟨x, l, c, m, n, D, Pl, hcs, _, hl, hm, hmm, _, hx⟩
  · simp at hcs
    obtain ⟨rfl, rfl, rfl⟩ := hcs
    exact ⟨[], rfl, fun _ => ⟨rfl, rfl⟩, Nat.le_refl _, by unfold maxLen; omega, TSrc.nil _ _, fun t ht => by simp at ht⟩
  · simp at hcs
    obtain ⟨rfl, rfl, rfl⟩ := hcs
    have hlm : len0 ≤ m := by rw [hmm]; split <;> omega
    have each : ∀ i, i < len0 → ∃ q : Tok, (W.cell? (x.add (i * 3)) = some (.int .u8 q.1) ∧ W.cell? (x.add (i * 3 + 1)) = some (.int .i64 q.2.1) ∧ W.cell? (x.add (i * 3 + 2)) = some (.int .i64 q.2.2)) ∧ ((Lit.int .u8 q.1).wf = true ∧ (Lit.int .i64 q.2.1).wf = true ∧ (Lit.int .i64 q.2.2).wf = true) := by
      intro i hi
      obtain ⟨cs', g1, g2⟩ := hx i (by omega)
      rw [show Try.prog.cellsOf 25 = 3 by kernel_rfl] at g1
      obtain ⟨_, hlen, hcell⟩ := World.cells?_some g1
      obtain ⟨xs, k, hk, hxy, _, hxl, hfld⟩ := DataW.trod_struct Try.underlying25 g2
      match xs, hxl, cs', hlen with
      | [y0, y1, y2], _, [u0, u1, u2], _ =>
        have f0 := hfld 0 _ rfl
        have f1 := hfld 1 _ rfl
        have f2 := hfld 2 _ rfl
        have o3 : Try.prog.cellsOf 3 = 1 := by kernel_rfl
        have o5 : Try.prog.cellsOf 5 = 1 := by kernel_rfl
        simp [o3, o5] at f0 f1 f2
        obtain ⟨n0, e0, _, q0⟩ := DataW.trod_int Try.underlying5 f0
        obtain ⟨n1, e1, _, q1⟩ := DataW.trod_int Try.underlying3 f1
        obtain ⟨n2, e2, _, q2⟩ := DataW.trod_int Try.underlying3 f2
        injection e0 with e0
        injection e1 with e1
        injection e2 with e2
        have c0 := hcell 0 (by omega)
        have c1 := hcell 1 (by omega)
        have c2 := hcell 2 (by omega)
        subst e0 e1 e2
        rw [Go.Deep.add_add] at c0 c1 c2
        exact ⟨(n0, n1, n2), ⟨by simpa using c0, by simpa using c1, by simpa using c2⟩, q0, q1, q2⟩
    haveI : Inhabited Tok := ⟨zt⟩
    obtain ⟨f, hf⟩ := choose_lt' each
    refine ⟨(List.range len0).map f, by simp, (fun e => by cases e), hl, hm, fun hp => ?_, fun t ht => ?_⟩
    · simp at hp
      obtain ⟨b, off, spot⟩ := x
      have hc := (hf 0 hp).1.1
      have hspot : spot = none := by simpa [Addr.add] using World.cell?_spot hc
      subst hspot
      refine ⟨b, off, rfl, fun i hi => ?_⟩
      simp at hi
      obtain ⟨⟨g0, g1, g2⟩, _⟩ := hf i hi
      rw [add_o] at g0 g1 g2
      have e : ((List.range len0).map f).getD i zt = f i := by simp [List.getD, hi]
      rw [e]
      exact ⟨g0, g1, g2⟩
    · simp at ht
      obtain ⟨i, hi, rfl⟩ := ht
      exact (hf i hi).2
theorem wf_most {n : Int} (h : (Lit.int .i64 n).wf = true) : n ≤ 9223372036854775807 := by have := bounds_i64 h; omega
theorem walk (w : World) (a0 : Int) (w0 : (Lit.int .i64 a0).wf = true) (a1 : Option Addr) (len1 cap1 : Nat) (t1 : List Tok) (w1 : IsToks w a1 len1 cap1 t1) :
    Calls Try.prog 4 #[.int .i64 a0, .slice a1 len1 cap1] w fun e w' => e = .returned (.bool true) ∧ Below w.heap.size w w' := by
  by_cases h : 300 < len1
  · exact expands_long a1 len1 cap1 a0 w h (Nat.le_trans w1.le w1.le_max)
  · exact expands_walk t1 a1 len1 cap1 a0 w w1.len_eq (by omega) (wf_most w0) w1.none_z w1.src

/-! From the walk to the row. -/
set_option maxRecDepth 100000 in
theorem lifted (os : Os) (started : os.Started) (H : Type) (enc : TypeId × Value → H) :
    ReturnsInHanded {} Try.checked os 4 .any (Rows.lzExpandsSpec.pre6 enc Try.prog Try.f4 Rows.lzExpandsRow.domain false) (Rows.lzExpandsSpec.post enc Try.prog Try.f4 false true false false) := by
  refine returnsInHanded_of_change (C := Try.checked) own started (by kernel_rfl) Try.func4
    (ChangeSpec.witness6 (enc := enc) (C := Try.checked) false ⟨#[], #[.int .i64 0, .slice none 0 0], []⟩ 8 (by kernel_rfl) (by kernel_rfl) (by kernel_rfl) (by kernel_rfl)) ?_
  intro W base args ds gs before hval0 hW hcnd _
  have hval : ∀ (j : Nat) t v, Try.f4.params[j]? = some t → args[j]? = some v → Value.okWide Try.prog W .any base t v := hval0
  have hW' := hW
  obtain ⟨p, q, hA0, hV, rfl, hfz, hnd⟩ := hW
  have hA : DataW.TrodAll enc Try.prog W 0 (fun _ => true) true Try.f4.params.toList args.toList ds p := hA0
  rw [Try.params4] at hA hval
  obtain ⟨v0, vs0, d0, ds0, p0, q0, hargs, rfl, rfl, h0, r0⟩ := trodAll_cons hA
  obtain ⟨v1, vs1, d1, ds1, p1, q1, rfl, rfl, rfl, h1, r1⟩ := trodAll_cons r0
  obtain ⟨rfl, rfl, rfl⟩ := trodAll_nil r1
  obtain rfl : args = #[v0, v1] := by cases args; simp_all
  obtain ⟨rfl, rfl⟩ := trodVars_none hV
  obtain ⟨a0, rfl, rfl, rfl, w0⟩ := open_int Try.underlying3 (hval 0 3 v0 rfl rfl) h0
  obtain ⟨a1, len1, cap1, rfl⟩ := okWide_slice Try.underlying28 (hval 1 28 v1 rfl rfl)
  have k1 := h1
  have lt1 : ∀ x ∈ p1, x.block < W.heap.size := by obtain ⟨m, hm⟩ := k1; exact DataW.trod_lt m _ _ _ hm
  obtain ⟨t1, w1⟩ : ∃ ts, IsToks W a1 len1 cap1 ts := by
    obtain ⟨fuel, hf⟩ := h1
    exact open_toks (by simpa [Value.cells] using hf)
  clear hA0 hval0
  refine (walk W a0 w0 a1 len1 cap1 t1 w1).mono fun e W' ⟨he, bel⟩ => ?_
  subst he
  exact ⟨_, rfl, _, _, _, [], _, [], hW', trodAll_mk1 (shut_bool Try.underlying4 _), (trodAll_cons_mk (shut_int Try.underlying3 w0) (trodAll_cons_mk (Below.trod laidOut (by kernel_rfl) (of_decide_eq_true (by kernel_rfl)) k1 bel lt1) trodAll_mk0)), rfl, bel.frame _, fun h => by cases h⟩

theorem over : Rows.lzExpandsRow.holds Try.pinned (OpenSpec.ofChange Rows.lzExpandsSpec) :=
  OpenClaim.holds_of_wide 4 Try.f4 rfl rfl rfl rfl rfl rfl rfl ⟨rfl, rfl, rfl, rfl, rfl⟩ rfl rfl rfl rfl rfl (by kernel_rfl) Try.func4 (by kernel_rfl)
    (of_decide_eq_true (by kernel_rfl)) (by unfold Func.isWrapper; first | (rw [if_pos (by decide +kernel)]; kernel_rfl) | (rw [if_neg (by decide +kernel)]; exact ⟨rfl, rfl⟩))
    (fun os started H enc _ => lifted os started H enc)
end Go.Proofs.Ytofmoggejfopiaa.lzExpands
namespace Go.Proofs.Ytofmoggejfopiaa
/-- THE STATEMENT. -/
theorem lzExpands_holds : Rows.LzExpandsSaid := lzExpands.over
#print axioms lzExpands_holds
end Go.Proofs.Ytofmoggejfopiaa
