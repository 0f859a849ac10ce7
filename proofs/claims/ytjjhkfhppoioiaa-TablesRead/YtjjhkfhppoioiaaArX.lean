/- tables: bytes appended; rows of bytes. -/
import Derived.Test.YtjjhkfhppoioiaaAq
import Derived.Test.YtjjhkfhppoioiaaRe
import Derived.Test.YtjjhkfhppoioiaaNx
namespace Go.Proofs.Ytjjhkfhppoioiaa
open Go.RowKit
set_option linter.unusedVariables false
theorem u8_one (xs : List Int) : ∀ u ∈ xs.map (Value.int .u8), u.oneCell' = true := by
  intro u hu
  obtain ⟨z, _, rfl⟩ := List.mem_map.1 hu
  rfl
theorem src_news {w : World} {ao : Option Addr} {ys : List Int} (h : Src w ao ys) : ∀ ad, ao = some ad → ∀ j u, (ys.map (Value.int .u8))[j]? = some u → w.cell? (ad.add j) = some u := by
  rintro ad rfl j u hu
  have hj : j < ys.length := by have := (List.getElem?_eq_some_iff.1 hu).1; simpa using this
  obtain ⟨b, off, e, hc⟩ := h (by omega)
  cases e
  rw [add_o, hc j hj, ← hu]
  simp [List.getD, hj]
theorem Own.kpb {w w' : World} {base : Nat} {v : Value} {xs : List Int} (h : Own w base v xs) (k : Kp (fun i => v.ownBlock = some i) w w') (hb : base ≤ w.heap.size) : Below base w w' := k.below hb (fun i e => (World.ownsRow.lt h i e).1)
/-- append of bytes onto bytes of one's own. -/
theorem wpList_append_b {w : World} {ops : Array Oper} {rest : List Oper} {o : Oper} {a : Act} {Q : Exit → Act → World → Prop} (hgd : o.guard = none) (s x : Operand)
    (ho : o.op = .call { callee := .builtin .append, args := #[s, x], argTypes := #[26, 26] }) (base : Nat) (v : Value) (xs : List Int) (hs : a.eval s = v) (hown : Own w base v xs)
    (ao : Option Addr) (c : Nat) (ys : List Int) (m : Nat) (hm : m = ys.length) (hx : a.eval x = .slice ao m c) (hno : ao = none → m = 0 ∧ c = 0) (hS : Src w ao ys) (hl : xs.length + m ≤ 100000000) (hbase : base ≤ w.heap.size)
    (h : ∀ v' w', Own w' base v' (xs ++ ys) → Below base w w' → wpList Try.prog ops Q rest (a.put o.dst v') w') : wpList Try.prog ops Q (o :: rest) a w := by
  refine wpList_append_any hgd s x 26 ho base 5 (.int .u8 0) 1 1 Try.underlying26 Try.info5 rfl (by decide) v xs.length (xs.map (Value.int .u8)) hs hown ao m c (ys.map (Value.int .u8)) hx hno (by simp [hm]) (src_news hS) (u8_one ys) (by unfold maxLen; omega) (by omega) hbase ?_
  intro v' w' h1 h2 _
  refine h v' w' ?_ (hown.kpb h2 hbase)
  show w'.ownsRow base 5 1 v' (xs ++ ys).length ((xs ++ ys).map (Value.int .u8))
  rw [List.length_append, List.map_append, ← hm]
  exact h1
theorem OwnI.own {w : World} {base : Nat} {v : Value} {xs : List Int} (h : OwnI w base v xs) : ∃ ao c, v = .slice ao xs.length c ∧ Src w ao xs ∧ (ao = none → xs.length = 0 ∧ c = 0) := by
  rcases h with ⟨rfl, rfl⟩ | ⟨g, c, tl, rfl, _, h2, _⟩
  · exact ⟨none, 0, rfl, Src.nil _ _, fun _ => ⟨rfl, rfl⟩⟩
  · refine ⟨_, c, rfl, ?_, fun e => by cases e⟩
    exact Src.mk (fun i hi => by
      rw [Nat.zero_add, h2.cell i (by simp; omega)]
      simp [List.getD, List.getElem?_append_left hi])
end Go.Proofs.Ytjjhkfhppoioiaa
