/- copy between rows of integers of any kind. -/
import Derived.Test.YtlnknkeagonmpaaGreatGen
import Derived.OwnWalkIn
import Derived.Laws.CopyOwn
import Derived.Deep.RegionLaw
namespace Go.Proofs.YtlnknkeagonmpaaGreat
open Go.RowKit

theorem run_copy_rk {κ : IntKind} {P : Program} (w : World) (dT sT ty elem : TypeId) (g o dLen dCap : Nat) (a : Addr) (sLen sCap : Nat) (L cs : List Int) (t : TypeId)
    (hu : P.underlying dT = some (.slice elem)) (hs : (P.info? elem).map (·.size) = some 1)
    (hg : Rw κ t w g L) (hn : cs.length = Nat.min sLen dLen) (hsrc : ∀ j, j < cs.length → w.cell? (a.add j) = some (.int κ (cs.getD j 0))) (hfit : o + cs.length ≤ L.length) :
    (Builtin.copy_ #[dT, sT] ty #[.slice (some ⟨g, o, none⟩) dLen dCap, .slice (some a) sLen sCap]).run P w =
      .ok (goInt cs.length) (w.setRow g ((splice L o cs).map (Value.int κ)).toArray) := by
  have h := run_copy_row (P := P) w dT sT ty elem g o dLen dCap a sLen sCap _ t (cs.map (Value.int κ)) hu hs hg (by simpa using hn) (srcs (κ := κ) hsrc) (by simpa using hfit) (ones κ cs)
  rw [h]
  simp [splice, List.map_take, List.map_drop]

theorem wpList_copy_rk {κ : IntKind} {P : Program} {w : World} {ops : Array Oper} {rest : List Oper} {o : Oper} {a : Act} {Q : Exit → Act → World → Prop} (hgd : o.guard = none) (d s : Operand) (dT sT : TypeId)
    (ho : o.op = .call { callee := .builtin .copy, args := #[d, s], argTypes := #[dT, sT] }) (elem : TypeId) (hu : P.underlying dT = some (.slice elem)) (hsz : (P.info? elem).map (·.size) = some 1)
    (dp sp : Option Addr) (dLen dCap sLen sCap : Nat) (hd : a.eval d = .slice dp dLen dCap) (hs : a.eval s = .slice sp sLen sCap)
    (g off : Nat) (t : TypeId) (L cs : List Int) (hg : Rw κ t w g L) (hn : cs.length = Nat.min sLen dLen)
    (hpos : 0 < cs.length → dp = some ⟨g, off, none⟩ ∧ ∃ ad, sp = some ad ∧ ∀ j, j < cs.length → w.cell? (ad.add j) = some (.int κ (cs.getD j 0)))
    (hfit : off + cs.length ≤ L.length)
    (h : ∀ w', Rw κ t w' g (splice L off cs) → w.grownBy w' (some g) → wpList P ops Q rest (a.put o.dst (goInt cs.length)) w') :
    wpList P ops Q (o :: rest) a w := by
  by_cases h0 : cs.length = 0
  · obtain rfl : cs = [] := List.eq_nil_of_length_eq_zero h0
    refine wpList_copy_nothing hgd d s dT sT ho elem hu hsz dp sp dLen dCap sLen sCap hd hs (by simpa using hn.symm) ?_
    exact h w (by simpa [splice] using hg) (grown_refl _ _)
  · obtain ⟨rfl, ad, rfl, hsrc⟩ := hpos (by omega)
    refine wpList_plain hgd fun K hK => ?_
    have hrun := run_copy_rk (κ := κ) (P := P) w dT sT o.type elem g off dLen dCap ad sLen sCap L cs t hu hsz hg hn hsrc hfit
    unfold Oper.wp
    simp [execOp, ho, resolve, invoke, builtin, hd, hs, hrun, Result.andThen]
    exact hK _ _ (h _ (hg.setRow _) (grown_setRow _ _))

end Go.Proofs.YtlnknkeagonmpaaGreat
