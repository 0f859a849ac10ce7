import Derived.Test.YtofmoggejfopiaaSpn
import Derived.Laws.StructEq
namespace Go.Proofs.Ytofmoggejfopiaa
open Go.RowKit
theorem run_part_int (M : List Int) (κ : IntKind) (e : TypeId) (j : Nat) (w : World) (he : Try.prog.underlying e = some (.int κ)) (hj : j < M.length) :
    (part e (M.map (Value.int κ)).toArray j).run Try.prog w = .ok (.int κ (M.getD j 0)) w := by
  simp [part, run_underlying he, isAgg, hj, List.getD, go_sem]
theorem forIn_ok {α σ : Type} (P : Program) (w : World) (init : σ) (body : α → σ → Sem (ForInStep σ)) : ∀ (L : List α), (∀ a ∈ L, (body a init).run P w = .ok (.yield init) w) → (forIn L init body).run P w = .ok init w
  | [], _ => by simp
  | a :: L, h => by
    rw [List.forIn_cons, Sem.run_bind, h a (by simp), Result.andThen_ok]
    exact forIn_ok P w init body L (fun b hb => h b (by simp [hb]))
theorem run_equalIn_arr (d : Nat) (t e : TypeId) (n : Nat) (κ : IntKind) (M : List Int) (w : World) (hu : Try.prog.underlying t = some (.array n e)) (he : Try.prog.underlying e = some (.int κ)) (hs : ∀ w, (sizeOf e).run Try.prog w = .ok 1 w) (hl : M.length = n) :
    (Op.equalIn (d + 2) t (.agg (M.map (Value.int κ)).toArray) (.agg (M.map (Value.int κ)).toArray)).run Try.prog w = .ok true w := by
  unfold Op.equalIn
  simp only [Sem.run_bind, run_underlying hu, Result.andThen_ok, hs]
  rw [Std.Legacy.Range.forIn_eq_forIn_range', forIn_ok _ _ _ _ _ (fun i hi => ?_)]
  · simp
  · have hi2 : i < n := by simp [List.mem_range'] at hi; omega
    rw [Sem.run_bind, run_part_int M κ e _ w he (by omega), Result.andThen_ok, Sem.run_bind, run_part_int M κ e _ w he (by omega), Result.andThen_ok, Sem.run_bind, run_equalIn_int w d e κ κ _ _ he]
    simp
theorem size59 (w : World) : (sizeOf 59).run Try.prog w = .ok 1 w := by simp [go_sem]
theorem eq60 (M : List Int) (hl : M.length = 286) (w : World) : (Op.equalIn 10000 60 (.agg (M.map (Value.int .u32)).toArray) (.agg (M.map (Value.int .u32)).toArray)).run Try.prog w = .ok true w := run_equalIn_arr 9998 60 59 286 .u32 M w Try.underlying60 Try.underlying59 size59 hl
theorem eq61 (M : List Int) (hl : M.length = 30) (w : World) : (Op.equalIn 10000 61 (.agg (M.map (Value.int .u32)).toArray) (.agg (M.map (Value.int .u32)).toArray)).run Try.prog w = .ok true w := run_equalIn_arr 9998 61 59 30 .u32 M w Try.underlying61 Try.underlying59 size59 hl
end Go.Proofs.Ytofmoggejfopiaa
