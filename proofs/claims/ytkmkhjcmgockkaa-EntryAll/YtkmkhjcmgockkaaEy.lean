/- entry: entries read, stored and compared inside a fence. -/
import Derived.Test.YtkmkhjcmgockkaaSq
import Derived.Test.YtkmkhjcmgockkaaEb
namespace Go.Proofs.Ytkmkhjcmgockkaa
open Go.RowKit Go.Shelf
set_option linter.unusedVariables false
variable {F : Fence} {n : Nat}
theorem wpListIn_exec {P : Program} {ops : Array Oper} {rest : List Oper} {o : Oper} {a : Act} {w w' : World} {v : Value} {Q : Exit → Act → World → Prop} (hw : Region.wanted o (yielded ops a.tmps) = true) (hnd : ∀ c, o.op ≠ .defer c) (hab : o.about P w a.eval = none)
    (he : (execOp a.eval o).run P w = .ok (.value v) w') (h : wpListIn F n P ops Q rest (a.put o.dst v) w') : wpListIn F n P ops Q (o :: rest) a w :=
  wpListIn_step fun K hK => by
    rw [if_pos hw]
    refine ⟨fun f hf => (by rw [hab] at hf; cases hf), ?_⟩
    rw [Oper.semAt_eq _ _ _ hnd, he]
    exact hK _ _ h
theorem wpListIn_load_en {ops : Array Oper} {rest : List Oper} {o : Oper} {a : Act} {w : World} {Q : Exit → Act → World → Prop} (hw : Region.wanted o (yielded ops a.tmps) = true) (x : Operand) (ho : o.op = .load 24 x) (g : Nat) (hx : a.eval x = .pointer (some ⟨g, 0, none⟩)) {e : En} (s : Eb w g e)
    (h : wpListIn F n Try.prog ops Q rest (a.put o.dst (.agg e.cs)) w) : wpListIn F n Try.prog ops Q (o :: rest) a w :=
  wpListIn_exec hw (fun c e => by rw [ho] at e; cases e) (by simp [Oper.about, ho]) (exec_load_en ho hx s) h
theorem wpListIn_eq_en {ops : Array Oper} {rest : List Oper} {o : Oper} {a : Act} {w : World} {Q : Exit → Act → World → Prop} (hw : Region.wanted o (yielded ops a.tmps) = true) (x y : Operand) (ho : o.op = .binOp .eql 24 x y 24) {h k : En} (hx : a.eval x = .agg h.cs) (hy : a.eval y = .agg k.cs) {b : Bool} (hb : eqE h k = b)
    (hk : wpListIn F n Try.prog ops Q rest (a.put o.dst (.bool b)) w) : wpListIn F n Try.prog ops Q (o :: rest) a w :=
  wpListIn_exec hw (fun c e => by rw [ho] at e; cases e) (by simp [Oper.about, ho]) (by rw [exec_eq_en ho hx hy, hb]) hk
theorem wpListIn_ne_en {ops : Array Oper} {rest : List Oper} {o : Oper} {a : Act} {w : World} {Q : Exit → Act → World → Prop} (hw : Region.wanted o (yielded ops a.tmps) = true) (x y : Operand) (ho : o.op = .binOp .neq 24 x y 24) {h k : En} (hx : a.eval x = .agg h.cs) (hy : a.eval y = .agg k.cs) {b : Bool} (hb : (!eqE h k) = b)
    (hk : wpListIn F n Try.prog ops Q rest (a.put o.dst (.bool b)) w) : wpListIn F n Try.prog ops Q (o :: rest) a w :=
  wpListIn_exec hw (fun c e => by rw [ho] at e; cases e) (by simp [Oper.about, ho]) (by rw [exec_ne_en ho hx hy, hb]) hk
theorem wpListIn_store_en {ops : Array Oper} {rest : List Oper} {o : Oper} {a : Act} {w : World} {Q : Exit → Act → World → Prop} (hw : Region.wanted o (yielded ops a.tmps) = true) (x y : Operand) (ho : o.op = .store 24 x y) (g : Nat) (hx : a.eval x = .pointer (some ⟨g, 0, none⟩)) {e e' : En} (hy : a.eval y = .agg e'.cs) (s : Eb w g e)
    (hk : ∀ w', Eb w' g e' → Kp (fun i => i = g) w w' → wpListIn F n Try.prog ops Q rest (a.put o.dst undef) w') : wpListIn F n Try.prog ops Q (o :: rest) a w :=
  wpListIn_step fun K hK => by
    rw [if_pos hw]
    refine ⟨fun f hf => (by simp [Oper.about, ho] at hf), ?_⟩
    rw [Oper.semAt_eq _ _ _ (fun c e => by rw [ho] at e; cases e)]
    unfold execOp
    simp only [ho, hx, hy, Instr.storeAt, Instr.sureAddr, Sem.run_bind, Sem.run_pure, Result.andThen_ok, run_storeVar_row w g 24 24 e.cs e'.cs s (by rw [info24]; rfl) rfl (cs_one e')]
    exact hK _ _ (hk _ (setRow_heap w g _ _ 24 _ s) (kp_setRow w g _))
end Go.Proofs.Ytkmkhjcmgockkaa
