/- maps: a look-up that tells whether it was there. -/
import Derived.Test.YtjjhkfhppoioiaaMp
import Derived.Test.YtjjhkfhppoioiaaKb
namespace Go.Proofs.Ytjjhkfhppoioiaa
open Go.RowKit
section
variable {κ : Type} [DecidableEq κ] {P : Program} {K E T : TypeId} {d : TypeDesc} {mk : κ → Value}
theorem run_lookup2_mp (ky : Ky P K d mk) (ht : P.underlying T = some (.map K E)) {w : World} {b c : Nat} {es : List (κ × Value × Nat)} (h : Mp mk w b es c) {z : Value} (hz : (zeroValue E).run P w = .ok z w) (k : κ) :
    (Instr.lookup T (.map (some b)) (mk k) true).run P w = .ok (.tuple #[(mget es k).getD z, .bool (mget es k).isSome]) w := by
  have hf := ky.find k es 0
  have hg := fidx_get es k 0
  cases hq : fidx es k 0 with
  | none =>
    rw [hq] at hf hg
    rw [← hg]
    simp [Instr.lookup, run_underlying ht, MapKept.run_getObj_map h.1, MapKept.run_checkKey ky.und (ky.is k), MapKept.run_findKey ky.und hf, hz]
  | some r =>
    rw [hq] at hf hg
    rw [← hg]
    simp [Instr.lookup, run_underlying ht, MapKept.run_getObj_map h.1, MapKept.run_checkKey ky.und (ky.is k), MapKept.run_findKey ky.und hf]
variable {w : World} {ops : Array Oper} {rest : List Oper} {o : Oper} {a : Act} {Q : Exit → Act → World → Prop}
theorem wpList_lookup2_mp (hg : o.guard = none) (m x : Operand) (hop : o.op = Op.lookup T m x true) (ky : Ky P K d mk) (ht : P.underlying T = some (.map K E)) (z : Value) (hz : (zeroValue E).run P w = .ok z w) (b c : Nat) (es : List (κ × Value × Nat))
    (hm : a.eval m = .map (some b)) (h : Mp mk w b es c) (k : κ) (hx : a.eval x = mk k) (u : Value) (v : Bool) (hu : (mget es k).getD z = u) (hv : (mget es k).isSome = v) (hK : wpList P ops Q rest (a.put o.dst (.tuple #[u, .bool v])) w) : wpList P ops Q (o :: rest) a w := by
  refine wpList_plain hg fun K' hK' => ?_
  have hrun := run_lookup2_mp ky ht h hz k
  rw [hu, hv] at hrun
  unfold Oper.wp
  simp [execOp, hop, hm, hx, hrun]
  exact hK' _ _ hK
end
theorem kp_mp {κ : Type} {mk : κ → Value} {F : Nat → Prop} {w w' : World} {b c : Nat} {es : List (κ × Value × Nat)} (h : Mp mk w b es c) (k : Kp F w w') (hf : ¬ F b) : Mp mk w' b es c := ⟨by rw [← h.1]; exact k.block b h.lt hf, h.2⟩
end Go.Proofs.Ytjjhkfhppoioiaa
