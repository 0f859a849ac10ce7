/- Long arrays by value inside a fence: read and stored whole. Whatever the program. -/
import Derived.Deep.MidRow
import Derived.TacticsIn
import Derived.Test.YthpocbpleffdpaaGen
namespace Go.Proofs.Ythpocbpleffdpaa
open Go.RowKit
variable {F : Fence} {n : Nat} {P : Program}
theorem wpListIn_load_mid {ops : Array Oper} {rest : List Oper} {op : Oper} {a : Act} {w : World} {Q : Exit → Act → World → Prop} (hgd : op.guard = none) (ty : TypeId) (x : Operand) (ho : op.op = .load ty x)
    (b o : Nat) (hx : a.eval x = .pointer (some ⟨b, o, none⟩)) (cs : List Value) (d : TypeDesc) (hc : w.rangeAt b o cs)
    (hu : P.underlying ty = some d) (hd : d.isRow = true) (hi : (P.info? ty).map (·.size) = some cs.length)
    (h : wpListIn F n P ops Q rest (a.put op.dst (.agg cs.toArray)) w) : wpListIn F n P ops Q (op :: rest) a w :=
  wpListIn_plain hgd fun K hK => by
    have hnd : ∀ c, op.op ≠ .defer c := fun c e => by rw [ho] at e; cases e
    refine ⟨fun f hf => ?_, ?_⟩
    · simp [Oper.about, ho] at hf
    · rw [Oper.semAt_eq _ _ _ hnd]
      unfold execOp
      simp only [ho, hx, Instr.loadAt, Instr.sureAddr, Sem.run_bind, Sem.run_pure, Result.andThen_ok, run_loadVar_mid w b o ty cs d hc hu hd hi]
      exact hK _ _ h
theorem wpListIn_store_mid {ops : Array Oper} {rest : List Oper} {op : Oper} {a : Act} {w : World} {Q : Exit → Act → World → Prop} (hgd : op.guard = none) (ty : TypeId) (x y : Operand) (ho : op.op = .store ty x y)
    (b o : Nat) (cells : Array Value) (hx : a.eval x = .pointer (some ⟨b, o, none⟩)) (hy : a.eval y = .agg cells)
    (ht : w.there b o cells.size) (hi : (P.info? ty).map (·.size) = some cells.size) (h1 : cells.all (·.oneCell') = true)
    (h : wpListIn F n P ops Q rest (a.put op.dst undef) (w.setCells b o cells.toList)) : wpListIn F n P ops Q (op :: rest) a w :=
  wpListIn_plain hgd fun K hK => by
    have hnd : ∀ c, op.op ≠ .defer c := fun c e => by rw [ho] at e; cases e
    refine ⟨fun f hf => ?_, ?_⟩
    · simp [Oper.about, ho] at hf
    · rw [Oper.semAt_eq _ _ _ hnd]
      unfold execOp
      simp only [ho, hx, hy, Instr.storeAt, Instr.sureAddr, Sem.run_bind, Sem.run_pure, Result.andThen_ok, run_storeVar_mid w b o ty cells ht hi h1]
      exact hK _ _ h
theorem results_cell1 {fn : Func} {p : Tmp} {ty : TypeId} (h : fn.results = #[.cell p ty]) (tmps : Array Value) (w : World) (b : Nat) {v : Value} (hp : tmps.getD p undef = .pointer (some ⟨b, 0, none⟩)) (hl : (loadVar ty ⟨b, 0, none⟩).run P w = .ok v w) :
    (results fn tmps).run P w = .ok v w := by
  have hp' : tmps[p]?.getD undef = .pointer (some ⟨b, 0, none⟩) := by simpa using hp
  simp [results, h, hp', asAddr, hl]
theorem kp_set1 (w : World) (g i : Nat) (v : Value) : Kp (fun j => j = g) w (w.setCell ⟨g, i, none⟩ v) :=
  ⟨rfl, rfl, rfl, by simp, fun k _ hk => heap_setCell_other w ⟨g, i, none⟩ k v (fun e => hk e)⟩
theorem kp_setCells (g : Nat) : ∀ (vs : List Value) (o : Nat) (w : World), Kp (fun i => i = g) w (w.setCells g o vs)
  | [], _, w => Kp.refl _ w
  | v :: r, o, w => (kp_set1 w g o v).trans (kp_setCells g r (o + 1) _) (fun _ _ e => e)
theorem Rw.there {κ : IntKind} {t : TypeId} {w : World} {g : Nat} {L : List Int} (h : Rw κ t w g L) (m : Nat) (hm : m ≤ L.length) : w.there g 0 m := fun j hj => by
  rw [Nat.zero_add]
  exact ⟨by rw [h.cell j (by omega)]; rfl, h.frozen j⟩
theorem Rw.range {κ : IntKind} {t : TypeId} {w : World} {g : Nat} {L : List Int} (h : Rw κ t w g L) : w.rangeAt g 0 (L.map (Value.int κ)) := fun j v hv => by
  have hj : j < (L.map (Value.int κ)).length := (List.getElem?_eq_some_iff.1 hv).1
  rw [Nat.zero_add, h.cell j (by simpa using hj)]
  rw [List.length_map] at hj
  rw [← hv]
  simp [List.getD, hj]
theorem ints_one (κ : IntKind) (M : List Int) : (M.map (Value.int κ)).toArray.all (·.oneCell') = true := all_oneCell_toArray (fun v hv => by
  obtain ⟨x, _, rfl⟩ := List.mem_map.1 hv
  rfl)
theorem rangeAt_kp {G : Nat → Prop} {w w' : World} {b o : Nat} {cs : List Value} (h : w.rangeAt b o cs) (k : Kp G w w') (hf : ¬ G b) : w'.rangeAt b o cs := fun j v hv => by
  have hc := h j v hv
  have hb := k.block b (block_lt_of_cell hc) hf
  unfold World.cell? at hc ⊢
  simp only [hb]
  exact hc
end Go.Proofs.Ythpocbpleffdpaa
