/- regions: lists in memory; copy of rows of structs; slices.Insert of one. -/
import Derived.Test.YtopnfjgkgoeleaaNc
import Derived.Laws.CopyOwn
import Derived.Laws.Externs
import Derived.ArgAppend
import Derived.Lib.Overlaps
import Derived.Lib.AppendZeros
import Derived.Lib.AppendZerosOnto
import Derived.Maps.AppendAt
import Derived.Deep.RegionLaw
namespace Go.Proofs.Ytopnfjgkgoeleaa
open Go.RowKit
set_option linter.unusedVariables false
set_option linter.unusedSimpArgs false
/-- copy of elements of several cells, into a row that is known whole. -/
theorem run_copy_rowN {P : Program} (w : World) (dT sT ty elem : TypeId) (sz : Nat) (g o dLen dCap : Nat) (a : Addr) (sLen sCap : Nat) (cur : Array Value) (t : TypeId) (cs : List Value)
    (hu : P.underlying dT = some (.slice elem)) (hs : (P.info? elem).map (·.size) = some sz)
    (hg : w.heap[g]? = some (.cells cur t (0, 0))) (m : Nat) (hm : Nat.min sLen dLen = m) (hn : cs.length = m * sz)
    (hsrc : ∀ j v, cs[j]? = some v → w.cell? (a.add j) = some v) (hfit : o + cs.length ≤ cur.size) (h1 : ∀ v ∈ cs, v.oneCell' = true) :
    (Builtin.copy_ #[dT, sT] ty #[.slice (some ⟨g, o, none⟩) dLen dCap, .slice (some a) sLen sCap]).run P w =
      .ok (goInt m) (w.setRow g (splice cur.toList o cs).toArray) := by
  have hl := run_loadCells_list (P := P) w a cs hsrc
  have hst := run_storeCells_at P g o t cs 0 cur w hg (by simpa using hfit) h1
  cases hq : P.info? elem with
  | none => simp [hq] at hs
  | some i =>
    have hi : i.size = sz := by simpa [hq] using hs
    simp [Builtin.copy_, run_underlying hu, Builtin.lenOf, Builtin.firstCells, sizeOf, typeInfo, hq, hi, hm, ← hn, hl, hst, splice]
theorem wp_copy_runI {P : Program} (w : World) {o : Oper} {a : Act} {K : Act → World → Prop} {Q : Exit → Act → World → Prop} (d s : Operand) (t t' : TypeId)
    (ho : o.op = .call { callee := .builtin .copy, args := #[d, s], argTypes := #[t, t'] }) (v u : Value) (hd : a.eval d = v) (hs : a.eval s = u) {v' : Value} {w' : World}
    (hr : (Builtin.copy_ #[t, t'] o.type #[v, u]).run P w = .ok v' w') (h : K (a.put o.dst v') w') : o.wp P a w K Q := by
  unfold Oper.wp execOp
  simp only [ho, resolve, invoke, builtin, Sem.run_bind, Sem.run_pure, Result.andThen_ok, List.map_toArray, List.map_cons, List.map_nil, hd, hs, hr]
  exact h
theorem wpList_copy_runI {P : Program} (w : World) {ops : Array Oper} {rest : List Oper} {o : Oper} {a : Act} {Q : Exit → Act → World → Prop} (hgd : o.guard = none) (d s : Operand) (t t' : TypeId)
    (ho : o.op = .call { callee := .builtin .copy, args := #[d, s], argTypes := #[t, t'] }) (v u : Value) (hd : a.eval d = v) (hs : a.eval s = u) {v' : Value} {w' : World}
    (hr : (Builtin.copy_ #[t, t'] o.type #[v, u]).run P w = .ok v' w') (h : wpList P ops Q rest (a.put o.dst v') w') : wpList P ops Q (o :: rest) a w :=
  wpList_plain hgd fun _ hK => wp_copy_runI w d s t t' ho v u hd hs hr (hK _ _ h)
theorem step_copy_runI {P : Program} {ops : Array Oper} {o : Oper} {a : Act} {w : World} {K : Act → World → Prop} {Q : Exit → Act → World → Prop} {E : Prop}
    (hg : o.guard = none) (d x : Operand) (dT sT : TypeId) (hop : o.op = Op.call { callee := Callee.builtin Builtin.copy, args := #[d, x], argTypes := #[dT, sT] })
    (v u : Value) (hd : a.eval d = v) (hx : a.eval x = u) {v' : Value} {w' : World} (hr : (Builtin.copy_ #[dT, sT] o.type #[v, u]).run P w = .ok v' w') (hK : K (a.put o.dst v') w') :
    if Region.wanted o (yielded ops a.tmps) = true then Oper.wp P o a w K Q else E := by
  have hw : Region.wanted o (yielded ops a.tmps) = true := by simp [Region.wanted, hg]
  rw [if_pos hw]
  unfold Oper.wp
  simp [execOp, hop, resolve, invoke, builtin, hd, hx, hr, Result.andThen]
  exact hK
/-- What is behind some is laid anew. -/
theorem splice_mid {α : Type} (A B C D : List α) (o : Nat) (ho : o = A.length) (hl : B.length = C.length) : splice (A ++ (B ++ D)) o C = A ++ (C ++ D) := by
  subst ho
  unfold splice
  rw [List.take_left', List.drop_append, List.drop_append]
  · rw [List.drop_eq_nil_of_le (show A.length ≤ A.length + C.length by omega), show A.length + C.length - A.length = B.length by omega, List.drop_eq_nil_of_le (Nat.le_refl _)]
    simp
  · rfl
/-- A list in memory: what is read, and, where it has room, that the room is its own. -/
def Lst (w : World) (ao : Option Addr) (c : Nat) (L : List Rn) : Prop :=
  Srcr w ao L ∧ L.length ≤ c ∧ c ≤ maxLen ∧ (ao = none → c = 0) ∧ (L.length < c → ∃ g cur, ao = some ⟨g, 0, none⟩ ∧ w.heap[g]? = some (.cells cur 46 (0, 0)) ∧ cur.size = c * 3)
/-- The block in which it has room. -/
def Rmb (ao : Option Addr) (n c k : Nat) : Prop := n < c ∧ ∃ off, ao = some ⟨k, off, none⟩
theorem Lst.own {w : World} {ao : Option Addr} {c : Nat} {L : List Rn} (h : Lst w ao c L) (hlt : L.length < c) : ∃ g cur, ao = some ⟨g, 0, none⟩ ∧ w.heap[g]? = some (.cells cur 46 (0, 0)) ∧ cur.size = c * 3 ∧ cur.toList.take (L.length * 3) = flr L ∧ g < w.heap.size := by
  obtain ⟨g, cur, rfl, hg, hs⟩ := h.2.2.2.2 hlt
  refine ⟨g, cur, rfl, hg, hs, ?_, (Array.getElem?_eq_some_iff.1 hg).1⟩
  by_cases h0 : L.length = 0
  · rw [h0, List.eq_nil_of_length_eq_zero h0]; simp [flr]
  · obtain ⟨b, off, e, hb, hc⟩ := h.1 (by omega)
    cases e
    apply List.ext_getElem?
    intro j
    by_cases hj : j < L.length * 3
    · rw [List.getElem?_take_of_lt hj]
      have hjl : j < (flr L).length := by rw [flr_len]; exact hj
      have := hc j _ (List.getElem?_eq_getElem hjl)
      rw [cell_of_row w g (0 + j) _ 46 _ hg, Nat.zero_add] at this
      rw [Array.getElem?_toList, this, List.getElem?_eq_getElem hjl]
    · rw [List.getElem?_eq_none (by rw [List.length_take]; omega), List.getElem?_eq_none (by rw [flr_len]; omega)]
theorem Lst.of_row {w : World} {g c : Nat} {cur : List Value} {L : List Rn} (hg : w.heap[g]? = some (.cells cur.toArray 46 (0, 0))) (hs : cur.length = c * 3) (ht : cur.take (L.length * 3) = flr L) (hl : L.length ≤ c) (hc : c ≤ maxLen) : Lst w (some ⟨g, 0, none⟩) c L := by
  refine ⟨fun hp => ⟨g, 0, rfl, (Array.getElem?_eq_some_iff.1 hg).1, fun j u hu => ?_⟩, hl, hc, fun e => (by cases e), fun _ => ⟨g, _, rfl, hg, by simpa using hs⟩⟩
  rw [cell_of_row w g (0 + j) _ 46 _ hg, Nat.zero_add]
  have hj : j < (flr L).length := (List.getElem?_eq_some_iff.1 hu).1
  rw [← ht, List.getElem?_take_of_lt (by rw [flr_len] at hj; exact hj)] at hu
  simpa using hu
theorem Lst.of_own {w : World} {base : Nat} {v : Value} {L : List Rn} (h : w.ownsRow base 46 3 v L.length (flr L)) (h0 : 0 < L.length) : ∃ g c, v = .slice (some ⟨g, 0, none⟩) L.length c ∧ base ≤ g ∧ Lst w (some ⟨g, 0, none⟩) c L := by
  rcases h.2 with ⟨rfl, h1⟩ | ⟨g, cap, cur, rfl, hb, hc, h1, h2, h3, h4⟩
  · omega
  · exact ⟨g, cap, rfl, hb, Lst.of_row (cur := cur.toList) (by simpa using hc) (by simpa using h3) h4 h1 h2⟩
theorem Lst.to_own {w : World} {ao : Option Addr} {c : Nat} {L : List Rn} (h : Lst w ao c L) (hlt : L.length < c) : w.ownsRow 0 46 3 (.slice ao L.length c) L.length (flr L) := by
  obtain ⟨g, cur, rfl, hg, hs, ht, _⟩ := h.own hlt
  exact ⟨flr_len L, .inr ⟨g, c, cur, rfl, Nat.zero_le _, hg, h.2.1, h.2.2.1, hs, ht⟩⟩
theorem Lst.kp {F : Nat → Prop} {w w' : World} {ao : Option Addr} {c : Nat} {L : List Rn} (h : Lst w ao c L) (k : Kp F w w') (hf : ∀ b off, ao = some ⟨b, off, none⟩ → b < w.heap.size → ¬ F b) : Lst w' ao c L := by
  refine ⟨h.1.kp k hf, h.2.1, h.2.2.1, h.2.2.2.1, fun hl => ?_⟩
  obtain ⟨g, cur, rfl, hg, hs⟩ := h.2.2.2.2 hl
  have hgl := (Array.getElem?_eq_some_iff.1 hg).1
  exact ⟨g, cur, rfl, (k.block g hgl (hf g 0 rfl hgl)).trans hg, hs⟩
theorem Lst.below {w w' : World} {ao : Option Addr} {c : Nat} {L : List Rn} (h : Lst w ao c L) (k : Below w.heap.size w w') : Lst w' ao c L := h.kp (F := fun i => w.heap.size ≤ i) ⟨k.os, k.tape, k.output, k.size, fun i hi _ => k.block i hi⟩ (fun b off _ h => by omega)
theorem Lst.nil (w : World) : Lst w none 0 [] := ⟨Srcr.nil _ _, Nat.le_refl _, by unfold maxLen; omega, fun _ => rfl, fun h => by simp at h⟩
theorem flr_ins (L : List Rn) (x : Rn) (i : Nat) : flr (L.take i ++ x :: L.drop i) = flr (L.take i) ++ (x.cl ++ flr (L.drop i)) := by simp [flr]
/-- What Insert leaves. -/
def InsR (L : List Rn) (x : Rn) (i : Nat) (ao : Option Addr) (c : Nat) (w : World) (e : Ending) (w' : World) : Prop :=
  ∃ g c', e = .returned (.slice (some ⟨g, 0, none⟩) (L.length + 1) c') ∧ Lst w' (some ⟨g, 0, none⟩) c' (L.take i ++ x :: L.drop i) ∧ Kp (Rmb ao L.length c) w w' ∧ (Rmb ao L.length c g ∨ w.heap.size ≤ g)
end Go.Proofs.Ytopnfjgkgoeleaa
