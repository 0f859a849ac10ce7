/-
  HuffCoding answers true, whatever lengths, symbols, bits and places come in, and leaves what was there as it was: no conditions.
  The walk lies in the texts that are imported; here the argument is opened and read again.
-/
import Derived.Test.YthpocbpleffdpaaEg
import Derived.WalkKit
import Derived.ProofKit
import Derived.OpenShut
import Derived.ShutString
import Derived.ChangeOld
import Derived.Below
import Derived.SizedLaws
import Derived.Deep.Slices
namespace Go.Proofs.Ythpocbpleffdpaa.huffCoding
open Go.ChangeShapes Go.WideShapes Go.ChangeAt Go.RowKit
open Go.ChangeMaps (open_string shut_string)
set_option linter.unusedVariables false

theorem own : ownKnob Try.prog.godebug = none := by kernel_rfl
theorem laidOut : laidOutB Try.prog = true := by kernel_rfl
theorem bytes3 : Try.prog.bytesOf 3 = 8 := by kernel_rfl
/-- The parts of a struct that came in are sized as it is. -/
theorem sized_agg {H : Type} {P : Program} {ts : List TypeId} {ds : List (DataW H)} (h : (DataW.weightsEach P ts ds).all (· ≤ reachBytes) = true) {j : Nat} {t : TypeId} {fs : Array Field} {parts : List (DataW H)} (ht : ts[j]? = some t) (hd : ds[j]? = some (.agg parts)) (hu : P.underlying t = some (.struct fs)) :
    (DataW.weightsEach P (fs.toList.map (·.type)) parts).all (· ≤ reachBytes) = true := by
  refine List.all_eq_true.2 fun n hn => ?_
  exact List.all_eq_true.1 h n (DataW.weights_mem_each ht hd n (by simp only [DataW.weights, hu]; exact hn))
/-- A slice of integers that came in. -/
theorem open_is {H : Type} {enc : TypeId × Value → H} {W : World} {held : Bool} {fuel : Nat} {u : Value} {y : DataW H × List MemPlace} (hf : DataW.trod enc Try.prog W 0 (fun _ => true) held fuel 22 [u] = some y) :
    ∃ a len cap zs, u = .slice a len cap ∧ zs.length = len ∧ Src .i64 W a zs ∧ (a = none → cap = 0) ∧ (a ≠ none → ∃ E D : List (DataW H), y.1 = .slice E D ∧ E.length + D.length = cap ∧ len ≤ cap) ∧ (a = none → len = 0) := by
  rcases open_ints Try.underlying22 Try.underlying3 (by kernel_rfl) hf with ⟨hcs, _⟩ | ⟨x, l, c, zs, hcs, _, hl, hm, hz, hd, hcell, hwz⟩
  · simp at hcs
    exact ⟨none, 0, 0, [], hcs, rfl, Src.nil _ _ _, fun _ => rfl, fun h => absurd rfl h, fun _ => rfl⟩
  · simp at hcs
    have hzc : zs.length = c := by simpa using hz
    have hlen : (zs.take l).length = l := by simp; omega
    refine ⟨some x, l, c, zs.take l, hcs, hlen, ?_, (fun e => by cases e), fun _ => ⟨lits .i64 (zs.take l), lits .i64 (zs.drop l), congrArg Prod.fst hd, by simp [lits]; omega, hl⟩, (fun e => by cases e)⟩
    intro hp
    obtain ⟨b, off, spot⟩ := x
    have hc := hcell 0 (by omega)
    have hspot : spot = none := by simpa [Addr.add] using World.cell?_spot hc
    subst hspot
    refine ⟨b, off, rfl, fun i hi => ?_⟩
    have hi2 := hcell i (by omega)
    rw [add_o] at hi2
    rw [hi2]
    have hi3 : i < l := by omega
    simp [List.getD, hi3]
/-- A slice of bytes that came in. -/
theorem open_bs {H : Type} {enc : TypeId × Value → H} {W : World} {held : Bool} {fuel : Nat} {u : Value} {y : DataW H × List MemPlace} (hf : DataW.trod enc Try.prog W 0 (fun _ => true) held fuel 50 [u] = some y) :
    ∃ a len cap zs, u = .slice a len cap ∧ zs.length = len ∧ Src .u8 W a zs ∧ Bz.Byt zs := by
  rcases open_ints Try.underlying50 Try.underlying5 (by kernel_rfl) hf with ⟨hcs, _⟩ | ⟨x, l, c, zs, hcs, _, hl, hm, hz, hd, hcell, hwz⟩
  · simp at hcs
    exact ⟨none, 0, 0, [], hcs, rfl, Src.nil _ _ _, fun z hz => by simp at hz⟩
  · simp at hcs
    have hzc : zs.length = c := by simpa using hz
    have hlen : (zs.take l).length = l := by simp; omega
    refine ⟨some x, l, c, zs.take l, hcs, hlen, ?_, ?_⟩
    · intro hp
      obtain ⟨b, off, spot⟩ := x
      have hc := hcell 0 (by omega)
      have hspot : spot = none := by simpa [Addr.add] using World.cell?_spot hc
      subst hspot
      refine ⟨b, off, rfl, fun i hi => ?_⟩
      have hi2 := hcell i (by omega)
      rw [add_o] at hi2
      rw [hi2]
      have hi3 : i < l := by omega
      simp [List.getD, hi3]
    · intro z hz
      have := bounds_u8 (hwz z (List.mem_of_mem_take hz))
      omega
set_option maxRecDepth 100000 in
theorem open_coding {H : Type} {enc : TypeId × Value → H} {W : World} {held : Bool} {fuel : Nat} {cs : Array Value} {x : DataW H × List MemPlace} (hs : cs.size = Try.prog.cellsOf 52) (hf : DataW.trod enc Try.prog W 0 (fun _ => true) held fuel 52 cs.toList = some x) :
    ∃ (a0 a1 a2 : Option Addr) (c0 c1 c2 : Nat) (zs ss B : List Int) (skip leave : Int), cs = #[.slice a0 zs.length c0, .slice a1 ss.length c1, .slice a2 B.length c2, .int .i64 skip, .int .i64 leave] ∧ Src .i64 W a0 zs ∧ Src .i64 W a1 ss ∧ Src .u8 W a2 B ∧ Bz.Byt B ∧ (a0 = none → c0 = 0) ∧ (a0 = none → zs.length = 0) ∧
      (a0 ≠ none → ∃ (E D : List (DataW H)) (r : List (DataW H)), x.1 = .agg (.slice E D :: r) ∧ E.length + D.length = c0 ∧ zs.length ≤ c0) := by
  rw [show Try.prog.cellsOf 52 = 5 by kernel_rfl] at hs
  obtain ⟨xs, k, hk, hxy, _, hxl, hfld⟩ := DataW.trod_struct Try.underlying52 hf
  have hlen : cs.toList.length = 5 := by simpa using hs
  obtain ⟨L⟩ := cs
  have hlen : L.length = 5 := hlen
  have o3 : Try.prog.cellsOf 3 = 1 := by kernel_rfl
  have o22 : Try.prog.cellsOf 22 = 1 := by kernel_rfl
  have o50 : Try.prog.cellsOf 50 = 1 := by kernel_rfl
  match xs, hxl, L, hlen with
  | [y0, y1, y2, y3, y4], _, [u0, u1, u2, u3, u4], _ =>
    have f0 := hfld 0 _ rfl
    have f1 := hfld 1 _ rfl
    have f2 := hfld 2 _ rfl
    have f3 := hfld 3 _ rfl
    have f4 := hfld 4 _ rfl
    simp [o3, o22, o50] at f0 f1 f2 f3 f4
    obtain ⟨n3, e3, _, _⟩ := DataW.trod_int Try.underlying3 f3
    obtain ⟨n4, e4, _, _⟩ := DataW.trod_int Try.underlying3 f4
    injection e3 with e3
    injection e4 with e4
    subst e3 e4
    obtain ⟨a0, l0, c0, zs, rfl, rfl, s0, h0, g0, z0⟩ := open_is f0
    obtain ⟨a1, l1, c1, ss, rfl, rfl, s1, _, _, _⟩ := open_is f1
    obtain ⟨a2, l2, c2, B, rfl, rfl, s2, hb⟩ := open_bs f2
    refine ⟨a0, a1, a2, c0, c1, c2, zs, ss, B, n3, n4, rfl, s0, s1, s2, hb, h0, z0, fun hn => ?_⟩
    obtain ⟨E, D, e1, e2, e3⟩ := g0 hn
    refine ⟨E, D, [y1.1, y2.1, y3.1, y4.1], ?_, e2, e3⟩
    rw [hxy]
    simp [e1]
/-! From the walk to the row. -/
set_option maxRecDepth 100000 in
theorem lifted (os : Os) (started : os.Started) (H : Type) (enc : TypeId × Value → H) :
    ReturnsInHanded {} Try.checked os 6 .any (Rows.huffCodingSpec.pre6 enc Try.prog Try.f6 Rows.huffCodingRow.domain false) (Rows.huffCodingSpec.post enc Try.prog Try.f6 false true false false) := by
  refine returnsInHanded_of_change_sized (C := Try.checked) own started (by kernel_rfl) Try.func6
    (ChangeSpec.witness6 (enc := enc) (C := Try.checked) false ⟨#[], #[.agg #[.slice none 0 0, .slice none 0 0, .slice none 0 0, .int .i64 0, .int .i64 0]], []⟩ 8 (by kernel_rfl) (by kernel_rfl) (by kernel_rfl) (by kernel_rfl)) ?_
  intro W base args ds gs before hval0 hW hcnd hsz0 _
  have hval : ∀ (j : Nat) t v, Try.f6.params[j]? = some t → args[j]? = some v → Value.okWide Try.prog W .any base t v := hval0
  have hW' := hW
  obtain ⟨p, q, hA0, hV, rfl, hfz, hnd⟩ := hW
  have hA : DataW.TrodAll enc Try.prog W 0 (fun _ => true) true Try.f6.params.toList args.toList ds p := hA0
  have hsz : (DataW.weightsEach Try.prog (Try.f6.params.toList ++ Rows.huffCodingSpec.plain.varTypes Try.prog) (ds ++ gs)).all (· ≤ reachBytes) = true := hsz0
  rw [Try.params6] at hA hval hsz
  obtain ⟨v0, vs0, d0, ds0, p0, q0, hargs, rfl, rfl, h0, r0⟩ := trodAll_cons hA
  obtain ⟨rfl, rfl, rfl⟩ := trodAll_nil r0
  obtain rfl : args = #[v0] := by cases args; simp_all
  obtain ⟨rfl, rfl⟩ := trodVars_none hV
  obtain ⟨cs, rfl, hcs⟩ := okWide_struct Try.underlying52 (hval 0 52 v0 rfl rfl)
  have k0 := h0
  have lt0 : ∀ x ∈ p0, x.block < W.heap.size := by obtain ⟨m, hm⟩ := k0; exact DataW.trod_lt m _ _ _ hm
  obtain ⟨a0, a1, a2, c0, c1, c2, zs, ss, B, skip, leave, rfl, s0, s1, s2, hb, hn0, hz0, hg⟩ : ∃ (a0 a1 a2 : Option Addr) (c0 c1 c2 : Nat) (zs ss B : List Int) (skip leave : Int), cs = #[.slice a0 zs.length c0, .slice a1 ss.length c1, .slice a2 B.length c2, .int .i64 skip, .int .i64 leave] ∧ Src .i64 W a0 zs ∧ Src .i64 W a1 ss ∧ Src .u8 W a2 B ∧ Bz.Byt B ∧ (a0 = none → c0 = 0) ∧ (a0 = none → zs.length = 0) ∧
      (a0 ≠ none → ∃ (E D : List (DataW H)) (r : List (DataW H)), d0 = .agg (.slice E D :: r) ∧ E.length + D.length = c0 ∧ zs.length ≤ c0) := by
    obtain ⟨fuel, hf⟩ := h0
    exact open_coding hcs (by simpa [Value.cells] using hf)
  have hl : zs.length ≤ 17592186044400 := by
    cases a0 with
    | none => rw [hz0 rfl]; omega
    | some x =>
      obtain ⟨E, D, r, rfl, h1, h2⟩ := hg (by simp)
      have h3 := sized_agg hsz (j := 0) (t := 52) rfl rfl Try.underlying52
      have h4 := sized_slice h3 (j := 0) (t := 22) (e := 3) rfl rfl Try.underlying22
      rw [bytes3, h1] at h4
      have hr : reachBytes = 140737488351232 := rfl
      omega
  clear hA0 hval0
  refine (law6_any a0 a1 a2 c0 c1 c2 zs ss B skip leave W hl s0 hn0 s1 s2 hb).mono fun e W' ⟨he, kp⟩ => ?_
  have bel : Below W.heap.size W W' := kp.below (Nat.le_refl _) (fun _ h => h.elim)
  subst he
  exact ⟨_, rfl, _, _, _, [], _, [], hW', trodAll_mk1 (shut_bool Try.underlying4 _), (trodAll_cons_mk (Below.trod laidOut (by kernel_rfl) (of_decide_eq_true (by kernel_rfl)) k0 bel lt0) trodAll_mk0), rfl, bel.frame _, fun h => by cases h⟩

theorem over : Rows.huffCodingRow.holds Try.pinned (OpenSpec.ofChange Rows.huffCodingSpec) :=
  OpenClaim.holds_of_wide 6 Try.f6 rfl rfl rfl rfl rfl rfl rfl ⟨rfl, rfl, rfl, rfl, rfl⟩ rfl rfl rfl rfl rfl (by kernel_rfl) Try.func6 (by kernel_rfl)
    (of_decide_eq_true (by kernel_rfl)) (by unfold Func.isWrapper; first | (rw [if_pos (by decide +kernel)]; kernel_rfl) | (rw [if_neg (by decide +kernel)]; exact ⟨rfl, rfl⟩))
    (fun os started H enc _ => lifted os started H enc)
end Go.Proofs.Ythpocbpleffdpaa.huffCoding
namespace Go.Proofs.Ythpocbpleffdpaa
/-- THE STATEMENT. -/
theorem huffCoding_holds : Rows.HuffCodingSaid := huffCoding.over
#print axioms huffCoding_holds
end Go.Proofs.Ythpocbpleffdpaa
