/- append inside a fence; what EntryAll's table of its own is. -/
import Derived.Test.YtkmkhjcmgockkaaRa
import Derived.Test.YtkmkhjcmgockkaaTw
namespace Go.Proofs.Ytkmkhjcmgockkaa
open Go.RowKit Go.Shelf
set_option linter.unusedVariables false
variable {F : Fence} {n : Nat}
theorem wpListIn_append_i {w : World} {ops : Array Oper} {rest : List Oper} {o : Oper} {a : Act} {Q : Exit → Act → World → Prop} (hgd : Region.wanted o (yielded ops a.tmps) = true) (s x : Operand)
    (ho : o.op = .call { callee := .builtin .append, args := #[s, x], argTypes := #[39, 39] })
    (base : Nat) (v : Value) (xs : List Int) (hs : a.eval s = v) (hown : OwnI w base v xs)
    (ao : Option Addr) (m c : Nat) (news : List Int) (hx : a.eval x = .slice ao m c) (hl : news.length = m) (hn : ao = none → c = 0) (hsrc : Src w ao news)
    (hb : xs.length + news.length ≤ 140737488355328) (hbase : base ≤ w.heap.size)
    (h : ∀ v' w', OwnI w' base v' (xs ++ news) → w.grownBy w' v.ownBlock → Below base w w' → wpListIn F n Try.prog ops Q rest (a.put o.dst v') w') : wpListIn F n Try.prog ops Q (o :: rest) a w := by
  obtain ⟨i0, hi, hz0, hz1, hz2⟩ := info_parts Try.info5
  subst hl
  have hlt := hown.lt
  obtain ⟨v', w', hrun, h1, h2⟩ := run_append_rw (P := Try.prog) w base 39 o.type i0 Try.underlying39 hi hz0 hz1 hz2 v xs hown ao c news hn hsrc hb hbase
  refine wpListIn_exec (v := v') (w' := w') hgd (fun c e => by rw [ho] at e; cases e) (by simp [Oper.about, ho, resolve, Target.leads]) ?_ (h v' w' h1 h2 (below_of_grown h2 _ hbase fun k hk => (hlt k hk).1))
  unfold execOp
  simp only [ho, resolve, invoke, builtin, Sem.run_bind, Sem.run_pure, Result.andThen_ok, List.map_toArray, List.map_cons, List.map_nil, hs, hx, hrun]
theorem own_slice {w : World} {base : Nat} {v : Value} {zs : List Int} (h : OwnI w base v zs) : ∃ a5 c5, v = .slice a5 zs.length c5 ∧ (a5 = none → c5 = 0) ∧ Src w a5 zs ∧ (∀ x, a5 = some x → x.spot = none) ∧ (∀ x, a5 = some x → base ≤ x.block ∧ x.off = 0 ∧ ∃ L, Rw 5 w x.block L ∧ zs.length ≤ L.length) := by
  rcases h with ⟨rfl, rfl⟩ | ⟨g, cap, tl, rfl, hb, hr, h3, h4⟩
  · exact ⟨none, 0, rfl, (fun _ => rfl), Src.nil _ _, (fun x e => by cases e), (fun x e => by cases e)⟩
  · exact ⟨some ⟨g, 0, none⟩, cap, rfl, (fun e => by cases e), row_src hr, (fun x e => by cases e; rfl), (fun x e => by cases e; exact ⟨hb, rfl, _, hr, by simp⟩)⟩
end Go.Proofs.Ytkmkhjcmgockkaa
