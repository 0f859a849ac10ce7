/- A region that draws its order, walked by a plan: what only reads is taken as soon as it may come, what acts comes alone; the plan is checked once, by the kernel. Whatever the program. -/
import Derived.Test.YteenlifdamhffaaDoorRg
namespace Go.Proofs.YteenlifdamhffaaDoor

variable {P : Program} {ops : Array Oper} {Q : Exit → Act → World → Prop} {S : World → Prop} {late : List Nat}

/-- 0: it reads; 1: it acts and keeps S; 2: it acts, and what was read by S waits for it no more. -/
def wpPlan (P : Program) (ops : Array Oper) (Q : Exit → Act → World → Prop) (S : World → Prop) : List (Nat × Oper) → Act → World → Prop
  | [], a, w => Q .normal a w
  | (0, o) :: r, a, w => S w ∧ ∃ v, YieldsIf P ops S o v a ∧ wpPlan P ops Q S r (a.put o.dst v) w
  | (1, o) :: r, a, w => ∀ K' : Act → World → Prop, Shut (∀ a w', (S w → S w') → wpPlan P ops Q S r a w' → K' a w') → if Region.wanted o (yielded ops a.tmps) = true then Oper.wp P o a w K' Q else K' (a.put o.dst undef) w
  | (_, o) :: r, a, w => ∀ K' : Act → World → Prop, Shut (∀ a w', wpPlan P ops Q S r a w' → K' a w') → if Region.wanted o (yielded ops a.tmps) = true then Oper.wp P o a w K' Q else K' (a.put o.dst undef) w
def planB (ops : Array Oper) (late : List Nat) : List (Nat × Nat) → Array Bool → Bool
  | [], listed => (Region.ready .any ops listed).isEmpty
  | (0, i) :: r, listed => Region.free .any ops listed i && (Region.ready .any ops listed).contains i && lateOk .any ops late i && planB ops late r (listed.setIfInBounds i true)
  | (1, i) :: r, listed => (Region.ready .any ops listed == [i]) && planB ops late r (listed.setIfInBounds i true)
  | (_, i) :: r, listed => (Region.ready .any ops listed == [i]) && late.contains i && planB ops late r (listed.setIfInBounds i true)
theorem take_c {i : Nat} {oi : Oper} {v : Value} {fuel : Nat} {listed : Array Bool} {a : Act} {w : World} (hi : ops[i]? = some oi) (b1 : Region.noSelect ops = true) (hc : Clsd .any ops listed) (b2 : Region.free .any ops listed i = true) (b3 : (Region.ready .any ops listed).contains i = true) (b5 : lateOk .any ops late i = true)
    (hQ : ∀ c a w, Q (.panic c) (a.put oi.dst v) w → Q (.panic c) a w) (hy : YieldsIf P ops S oi v a) (hS : S w)
    (h : wpAnyG P .any ops Q S late fuel (listed.setIfInBounds i true) (a.put oi.dst v) w) : wpAnyG P .any ops Q S late (fuel + 1) listed a w := by
  refine wpAnyG_first (S' := S) hi (Region.noSelect_spec b1) hQ (fun l j hc hr hj hne w w' hw hww => hww ?_ hw) fuel listed a w hc (Region.free_spec hi b2) (by simpa using b3) hy hS h
  cases hq : late.contains j with
  | false => rfl
  | true => exact absurd hj (lateOk_not b5 hc hr hq)
theorem plan_ok (hQ : ∀ c a d v w, Q (.panic c) (a.put d v) w → Q (.panic c) a w) (hs : Region.noSelect ops = true) : ∀ (order : List (Nat × Nat)) (plan : List (Nat × Oper)) (listed : Array Bool) (a : Act) (w : World),
    Clsd .any ops listed → planB ops late order listed = true → (order.map fun p => (p.1, ops[p.2]?)) = (plan.map fun p => (p.1, some p.2)) → wpPlan P ops Q S plan a w → wpAnyG P .any ops Q S late order.length listed a w
  | [], [], listed, a, w, _, hB, _, h => by
    have hB : (Region.ready .any ops listed).isEmpty = true := hB
    exact ⟨List.isEmpty_iff.1 hB, h⟩
  | [], _ :: _, _, _, _, _, _, he, _ => by cases he
  | _ :: _, [], _, _, _, _, _, he, _ => by cases he
  | (k, i) :: order, (k', o) :: plan, listed, a, w, hc, hB, he, h => by
    simp only [List.map_cons, List.cons.injEq, Prod.mk.injEq] at he
    obtain ⟨⟨rfl, ho⟩, he⟩ := he
    match k, hB, h with
    | 0, hB, h =>
      have hB : (Region.free .any ops listed i && (Region.ready .any ops listed).contains i && lateOk .any ops late i && planB ops late order (listed.setIfInBounds i true)) = true := hB
      simp only [Bool.and_eq_true] at hB
      obtain ⟨⟨⟨b2, b3⟩, b5⟩, b6⟩ := hB
      obtain ⟨hS, v, hy, h⟩ := h
      exact take_c ho hs hc b2 b3 b5 (fun c a w h => hQ c a _ _ w h) hy hS (plan_ok hQ hs order plan _ _ w (hc.step (by simpa using b3)) b6 he h)
    | 1, hB, h =>
      have hB : ((Region.ready .any ops listed == [i]) && planB ops late order (listed.setIfInBounds i true)) = true := hB
      simp only [Bool.and_eq_true] at hB
      obtain ⟨b1, b6⟩ := hB
      have hr : Region.ready .any ops listed = [i] := by simpa using b1
      have hst := hc.step (i := i) (by rw [hr]; simp)
      refine wpAnyG_one hr ho (fun K' hK => ?_)
      exact h K' (fun a w' hw hp => hK.out a w' (fun _ => hw) (plan_ok hQ hs order plan _ _ w' hst b6 he hp))
    | k + 2, hB, h =>
      have hB : ((Region.ready .any ops listed == [i]) && late.contains i && planB ops late order (listed.setIfInBounds i true)) = true := hB
      simp only [Bool.and_eq_true] at hB
      obtain ⟨⟨b1, b2⟩, b6⟩ := hB
      have hr : Region.ready .any ops listed = [i] := by simpa using b1
      have hst := hc.step (i := i) (by rw [hr]; simp)
      refine wpAnyG_one hr ho (fun K' hK => ?_)
      exact h K' (fun a w' hp => hK.out a w' (fun hn => by rw [b2] at hn; cases hn) (plan_ok hQ hs order plan _ _ w' hst b6 he hp))
theorem clsd_start (n : Nat) : Clsd .any ops (Array.replicate n false) := by
  intro j o ho hj
  by_cases h : j < n
  · simp [Array.getD, h] at hj
  · simp [Array.getD, h] at hj
theorem wp_region_plan {id : Nat} {a : Act} {w : World} (S : World → Prop) (late : List Nat) (order : List (Nat × Nat)) (plan : List (Nat × Oper)) (hm : P.follows .mixedOrders = true)
    (hB : (Region.noSelect ops && (order.length == ops.size) && planB ops late order (Array.replicate ops.size false)) = true)
    (he : (order.map fun p => (p.1, ops[p.2]?)) = (plan.map fun p => (p.1, some p.2)))
    (hQ : ∀ c a d v w, Q (.panic c) (a.put d v) w → Q (.panic c) a w) (h : wpPlan P ops Q S plan a w.drew) : (Code.region id ops true).wp P Q a w := by
  simp only [Bool.and_eq_true] at hB
  obtain ⟨⟨b1, b2⟩, b3⟩ := hB
  have hl : order.length = ops.size := by simpa using b2
  refine wp_region_any hm (wpAny_of_G (S := S) (late := late) _ _ _ _ ?_)
  have := plan_ok hQ b1 order plan (Array.replicate ops.size false) a w.drew (clsd_start _) b3 he h
  rw [hl] at this
  exact this
/-- One that reads. -/
theorem plan_take {o : Oper} {r : List (Nat × Oper)} {a : Act} {w : World} (v : Value) (hS : S w) (hw : Region.wanted o (yielded ops a.tmps) = true) (hy : ∀ w, S w → (execOp a.eval o).run P w = .ok (.value v) w) (h : wpPlan P ops Q S r (a.put o.dst v) w) : wpPlan P ops Q S ((0, o) :: r) a w :=
  ⟨hS, v, Or.inl ⟨hw, hy⟩, h⟩
/-- One that is not wanted. -/
theorem plan_skip {o : Oper} {r : List (Nat × Oper)} {a : Act} {w : World} (hS : S w) (hw : Region.wanted o (yielded ops a.tmps) = false) (h : wpPlan P ops Q S r (a.put o.dst undef) w) : wpPlan P ops Q S ((0, o) :: r) a w :=
  ⟨hS, undef, Or.inr ⟨hw, rfl⟩, h⟩
/-- One that acts. -/
theorem plan_act {o : Oper} {r : List (Nat × Oper)} {a : Act} {w : World} (h : ∀ K' : Act → World → Prop, Shut (∀ a w', (S w → S w') → wpPlan P ops Q S r a w' → K' a w') → if Region.wanted o (yielded ops a.tmps) = true then Oper.wp P o a w K' Q else K' (a.put o.dst undef) w) : wpPlan P ops Q S ((1, o) :: r) a w := h
theorem plan_late {o : Oper} {r : List (Nat × Oper)} {a : Act} {w : World} (h : ∀ K' : Act → World → Prop, Shut (∀ a w', wpPlan P ops Q S r a w' → K' a w') → if Region.wanted o (yielded ops a.tmps) = true then Oper.wp P o a w K' Q else K' (a.put o.dst undef) w) : wpPlan P ops Q S ((2, o) :: r) a w := h
theorem plan_done {a : Act} {w : World} (h : Q .normal a w) : wpPlan P ops Q S [] a w := h
end Go.Proofs.YteenlifdamhffaaDoor
