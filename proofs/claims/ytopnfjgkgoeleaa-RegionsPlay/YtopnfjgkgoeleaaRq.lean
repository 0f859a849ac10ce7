/- A region that draws its order, walked by a plan, with calls among what is taken first: a call that leaves the world as it is and answers one value in every world that meets S. Whatever the program. -/
import Derived.Test.YtopnfjgkgoeleaaRp
namespace Go.Proofs.Ytopnfjgkgoeleaa

variable {P : Program} {ops : Array Oper} {Q : Exit → Act → World → Prop} {S : World → Prop} {late : List Nat}

/-- In every world that meets S it leaves v in its temporary and the world as it is; a call may be such a one. -/
def YieldsP (P : Program) (ops : Array Oper) (S : World → Prop) (o : Oper) (v : Value) (a : Act) : Prop :=
  (Region.wanted o (yielded ops a.tmps) = true ∧ ∀ a', execOp a'.eval o = execOp a.eval o → ∀ w, S w → ∀ (K : Act → World → Prop) (Q : Exit → Act → World → Prop), K (a'.put o.dst v) w → Oper.wp P o a' w K Q) ∨
  (Region.wanted o (yielded ops a.tmps) = false ∧ v = undef)
theorem yields_toP {o : Oper} {v : Value} {a : Act} (h : YieldsIf P ops S o v a) : YieldsP P ops S o v a :=
  h.imp (fun ⟨hw, hv⟩ => ⟨hw, fun a' he w hS K Q hK => by
    unfold Oper.wp
    rw [he, hv w hS]
    exact hK⟩) id
theorem YieldsP.wpOp {i : Nat} {o : Oper} {v : Value} {a : Act} (hi : ops[i]? = some o) (hy : YieldsP P ops S o v a)
    {K : Act → World → Prop} {w : World} (hS : S w) (h : K (a.put o.dst v) w) : wpOp P ops Q i K a w := by
  unfold Go.wpOp
  simp only [hi]
  rcases hy with ⟨hw, hv⟩ | ⟨hw, rfl⟩
  · simp only [hw, if_true]
    exact .inl (hv a rfl w hS K Q h)
  · simp only [hw, Bool.false_eq_true, if_false]; exact h
theorem YieldsP.of_same {o : Oper} {v : Value} {a a' : Act} (hy : YieldsP P ops S o v a) (he : execOp a'.eval o = execOp a.eval o)
    (hw : Region.wanted o (yielded ops a'.tmps) = Region.wanted o (yielded ops a.tmps)) : YieldsP P ops S o v a' := by
  unfold YieldsP at *
  rw [hw, he]
  exact hy
theorem wpOp_putP {j : Nat} {oi oj : Oper} {v : Value} (hj : ops[j]? = some oj) (hap : oi.apart ops oj = true)
    (hsi : ∀ cs b, oi.op ≠ .select cs b) (hsj : ∀ cs b, oj.op ≠ .select cs b)
    (hQ : ∀ c a w, Q (.panic c) (a.put oi.dst v) w → Q (.panic c) a w) {K : Act → World → Prop} {a : Act} {w : World}
    (hy : YieldsP P ops S oi v a) (h : wpOp P ops Q j K (a.put oi.dst v) w) :
    wpOp P ops Q j (fun a' w' => YieldsP P ops S oi v a' ∧ K (a'.put oi.dst v) w') a w := by
  obtain ⟨h1, h2, h3⟩ := Oper.apart_spec hap
  have keep : ∀ (a : Act), YieldsP P ops S oi v a → ∀ u, YieldsP P ops S oi v (a.put oj.dst u) := fun a hy u =>
    hy.of_same (execOp_put oi hsi a oj.dst u h3) (wanted_put oi a oj.dst u h3)
  have keepD : ∀ d, YieldsP P ops S oi v { a with defers := d :: a.defers } := fun d => hy.of_same rfl rfl
  unfold wpOp at *
  simp only [hj] at *
  rw [wanted_put oj a oi.dst v h1] at h
  split
  · rename_i hw
    simp only [hw, if_true] at h
    rcases h with h | ⟨hasks, hlets⟩
    case inr => exact .inr ⟨by unfold Oper.asks at *; rw [execOp_put oj hsj a oi.dst v h1] at hasks; exact hasks, hlets⟩
    refine .inl ?_
    unfold Oper.wp at *
    rw [execOp_put oj hsj a oi.dst v h1] at h
    generalize (execOp a.eval oj).run P w = r at *
    cases r with
    | ok n w' =>
      cases n <;> simp only [Oper.upon] at h ⊢
      case value u => exact ⟨keep a hy u, by rw [← Act.put_comm a v u h2]; exact h⟩
      case skip => exact ⟨keep a hy _, by rw [← Act.put_comm a v undef h2]; exact h⟩
      case defer d =>
        refine ⟨keep _ (keepD d) _, ?_⟩
        rw [← Act.put_comm _ v undef h2, ← Act.put_defers]
        exact h
      case enter f args =>
        refine Calls.mono h fun e w'' he => ?_
        cases e with
        | returned u => exact ⟨keep a hy u, by rw [← Act.put_comm a v u h2]; exact he⟩
        | panicked c => exact hQ _ _ _ he
        | outgrown => exact he
      case row row args => exact Rows.mono h fun u w'' he => ⟨keep a hy u, by rw [← Act.put_comm a v u h2]; exact he⟩
    | halt x w' =>
      cases x <;> simp only [Oper.upon] at h ⊢
      case panic u => exact hQ _ _ _ h
  · rename_i hw
    simp only [hw] at h
    exact ⟨keep a hy _, by rw [← Act.put_comm a v undef h2]; exact h⟩
theorem wpAnyG_firstP {md : Region.Mode} {i : Nat} {oi : Oper} {v : Value} {S' : World → Prop} (hi : ops[i]? = some oi) (hsel : ∀ (j : Nat) (o : Oper) cs b, ops[j]? = some o → o.op ≠ .select cs b)
    (hQ : ∀ c a w, Q (.panic c) (a.put oi.dst v) w → Q (.panic c) a w)
    (hd : ∀ (listed : Array Bool) (j : Nat), Clsd md ops listed → i ∈ Region.ready md ops listed → j ∈ Region.ready md ops listed → j ≠ i → ∀ w w', S' w → (late.contains j = false → S w → S w') → S' w') :
    ∀ (fuel : Nat) (listed : Array Bool) (a : Act) (w : World), Clsd md ops listed →
      (∀ j oj, ops[j]? = some oj → j ≠ i → listed.getD j true = false → (∀ e ∈ oj.after, Region.binds md e = true → e.on ≠ i) → oi.apart ops oj = true) →
      i ∈ Region.ready md ops listed → YieldsP P ops S' oi v a → S' w →
      wpAnyG P md ops Q S late fuel (listed.setIfInBounds i true) (a.put oi.dst v) w → wpAnyG P md ops Q S late (fuel + 1) listed a w := by
  intro fuel
  induction fuel with
  | zero =>
    intro listed a w _ _ hr hy hS H
    refine ⟨fun h => (by rw [h] at hr; cases hr), fun j hj => ?_⟩
    by_cases hji : j = i
    · subst hji; exact hy.wpOp hi hS ⟨fun _ h => h, H⟩
    · have := ready_mono hj hji
      rw [H.1] at this
      cases this
  | succ fuel ih =>
    intro listed a w hc hfree hr hy hS H
    refine ⟨fun h => (by rw [h] at hr; cases hr), fun j hj => ?_⟩
    by_cases hji : j = i
    · subst hji; exact hy.wpOp hi hS ⟨fun _ h => h, H⟩
    · have h1 := H.2 j (ready_mono hj hji)
      obtain ⟨hjun, oj, hoj, hall⟩ := mem_ready.1 hj
      have hnot : ∀ e ∈ oj.after, Region.binds md e = true → e.on ≠ i := fun e he hb heq => by
        have h1 := hall e he hb
        have h0 := (mem_ready.1 hr).1
        rw [heq] at h1
        rcases Nat.lt_or_ge i listed.size with h' | h'
        · simp [h'] at h0 h1; rw [h0] at h1; cases h1
        · simp [Array.getElem?_eq_none h'] at h1
      have h2 := wpOp_putP hoj (hfree j oj hoj hji hjun hnot) (fun cs b => hsel i oi cs b hi) (fun cs b => hsel j oj cs b hoj) hQ hy h1
      have hfree' : ∀ k ok, ops[k]? = some ok → k ≠ i → (listed.setIfInBounds j true).getD k true = false →
          (∀ e ∈ ok.after, Region.binds md e = true → e.on ≠ i) → oi.apart ops ok = true := fun k ok hk hki hun hno => by
        refine hfree k ok hk hki ?_ hno
        by_cases hjk : j = k
        · subst hjk; exact hjun
        · rw [getD_set_ne true hjk] at hun; exact hun
      refine wpOp_mono (fun a' w' h3 => ⟨h3.2.1, ih (listed.setIfInBounds j true) a' w' (hc.step hj) hfree' (ready_mono hr (Ne.symm hji)) h3.1 (hd listed j hc hr hj hji w w' hS h3.2.1) ?_⟩) h2
      rw [Array.setIfInBounds_comm _ _ hji]
      exact h3.2.2
theorem take_p {i : Nat} {oi : Oper} {v : Value} {fuel : Nat} {listed : Array Bool} {a : Act} {w : World} (hi : ops[i]? = some oi) (b1 : Region.noSelect ops = true) (hc : Clsd .any ops listed) (b2 : Region.free .any ops listed i = true) (b3 : (Region.ready .any ops listed).contains i = true) (b5 : lateOk .any ops late i = true)
    (hQ : ∀ c a w, Q (.panic c) (a.put oi.dst v) w → Q (.panic c) a w) (hy : YieldsP P ops S oi v a) (hS : S w)
    (h : wpAnyG P .any ops Q S late fuel (listed.setIfInBounds i true) (a.put oi.dst v) w) : wpAnyG P .any ops Q S late (fuel + 1) listed a w := by
  refine wpAnyG_firstP (S' := S) hi (Region.noSelect_spec b1) hQ (fun l j hc hr hj hne w w' hw hww => hww ?_ hw) fuel listed a w hc (Region.free_spec hi b2) (by simpa using b3) hy hS h
  cases hq : late.contains j with
  | false => rfl
  | true => exact absurd hj (lateOk_not b5 hc hr hq)
/-- 0: it reads (a call may); 1: it acts and keeps S; 2: it acts, and what was read by S waits for it no more. -/
def wpPlanP (P : Program) (ops : Array Oper) (Q : Exit → Act → World → Prop) (S : World → Prop) : List (Nat × Oper) → Act → World → Prop
  | [], a, w => Q .normal a w
  | (0, o) :: r, a, w => S w ∧ ∃ v, YieldsP P ops S o v a ∧ wpPlanP P ops Q S r (a.put o.dst v) w
  | (1, o) :: r, a, w => ∀ K' : Act → World → Prop, Shut (∀ a w', (S w → S w') → wpPlanP P ops Q S r a w' → K' a w') → if Region.wanted o (yielded ops a.tmps) = true then Oper.wp P o a w K' Q else K' (a.put o.dst undef) w
  | (_, o) :: r, a, w => ∀ K' : Act → World → Prop, Shut (∀ a w', wpPlanP P ops Q S r a w' → K' a w') → if Region.wanted o (yielded ops a.tmps) = true then Oper.wp P o a w K' Q else K' (a.put o.dst undef) w
theorem planP_ok (hQ : ∀ c a d v w, Q (.panic c) (a.put d v) w → Q (.panic c) a w) (hs : Region.noSelect ops = true) : ∀ (order : List (Nat × Nat)) (plan : List (Nat × Oper)) (listed : Array Bool) (a : Act) (w : World),
    Clsd .any ops listed → planB ops late order listed = true → (order.map fun p => (p.1, ops[p.2]?)) = (plan.map fun p => (p.1, some p.2)) → wpPlanP P ops Q S plan a w → wpAnyG P .any ops Q S late order.length listed a w
  | [], [], listed, a, w, _, hB, _, h => by
    have hB : (Region.ready .any ops listed).isEmpty = true := hB
    exact ⟨List.isEmpty_iff.1 hB, h⟩
  | [], _ :: _, _, _, _, _, _, he, _ => by cases he
  | _ :: _, [], _, _, _, _, _, he, _ => by cases he
  | (k, i) :: order, (k', o) :: plan, listed, a, w, hc, hB, he, h => by
    simp only [List.map_cons, List.cons.injEq, Prod.mk.injEq] at he
    obtain ⟨⟨rfl, ho⟩, he⟩ := he
    match k, hB, h with
    | 0, hB, h =>
      have hB : (Region.free .any ops listed i && (Region.ready .any ops listed).contains i && lateOk .any ops late i && planB ops late order (listed.setIfInBounds i true)) = true := hB
      simp only [Bool.and_eq_true] at hB
      obtain ⟨⟨⟨b2, b3⟩, b5⟩, b6⟩ := hB
      obtain ⟨hS, v, hy, h⟩ := h
      exact take_p ho hs hc b2 b3 b5 (fun c a w h => hQ c a _ _ w h) hy hS (planP_ok hQ hs order plan _ _ w (hc.step (by simpa using b3)) b6 he h)
    | 1, hB, h =>
      have hB : ((Region.ready .any ops listed == [i]) && planB ops late order (listed.setIfInBounds i true)) = true := hB
      simp only [Bool.and_eq_true] at hB
      obtain ⟨b1, b6⟩ := hB
      have hr : Region.ready .any ops listed = [i] := by simpa using b1
      have hst := hc.step (i := i) (by rw [hr]; simp)
      refine wpAnyG_one hr ho (fun K' hK => ?_)
      exact h K' (fun a w' hw hp => hK.out a w' (fun _ => hw) (planP_ok hQ hs order plan _ _ w' hst b6 he hp))
    | k + 2, hB, h =>
      have hB : ((Region.ready .any ops listed == [i]) && late.contains i && planB ops late order (listed.setIfInBounds i true)) = true := hB
      simp only [Bool.and_eq_true] at hB
      obtain ⟨⟨b1, b2⟩, b6⟩ := hB
      have hr : Region.ready .any ops listed = [i] := by simpa using b1
      have hst := hc.step (i := i) (by rw [hr]; simp)
      refine wpAnyG_one hr ho (fun K' hK => ?_)
      exact h K' (fun a w' hp => hK.out a w' (fun hn => by rw [b2] at hn; cases hn) (planP_ok hQ hs order plan _ _ w' hst b6 he hp))
theorem wp_region_planP {id : Nat} {a : Act} {w : World} (S : World → Prop) (late : List Nat) (order : List (Nat × Nat)) (plan : List (Nat × Oper)) (hm : P.follows .mixedOrders = true)
    (hB : (Region.noSelect ops && (order.length == ops.size) && planB ops late order (Array.replicate ops.size false)) = true)
    (he : (order.map fun p => (p.1, ops[p.2]?)) = (plan.map fun p => (p.1, some p.2)))
    (hQ : ∀ c a d v w, Q (.panic c) (a.put d v) w → Q (.panic c) a w) (h : wpPlanP P ops Q S plan a w.drew) : (Code.region id ops true).wp P Q a w := by
  simp only [Bool.and_eq_true] at hB
  obtain ⟨⟨b1, b2⟩, b3⟩ := hB
  have hl : order.length = ops.size := by simpa using b2
  refine wp_region_any hm (wpAny_of_G (S := S) (late := late) _ _ _ _ ?_)
  have := planP_ok hQ b1 order plan (Array.replicate ops.size false) a w.drew (clsd_start _) b3 he h
  rw [hl] at this
  exact this
/-- One that reads. -/
theorem planP_take {o : Oper} {r : List (Nat × Oper)} {a : Act} {w : World} (v : Value) (hS : S w) (hw : Region.wanted o (yielded ops a.tmps) = true) (hy : ∀ w, S w → (execOp a.eval o).run P w = .ok (.value v) w) (h : wpPlanP P ops Q S r (a.put o.dst v) w) : wpPlanP P ops Q S ((0, o) :: r) a w :=
  ⟨hS, v, yields_toP (Or.inl ⟨hw, hy⟩), h⟩
/-- A call that reads. -/
theorem planP_call {o : Oper} {r : List (Nat × Oper)} {a : Act} {w : World} (v : Value) (hS : S w) (hw : Region.wanted o (yielded ops a.tmps) = true) (f : FuncId) (args : Array Value) (he : ∀ w, (execOp a.eval o).run P w = .ok (.enter f args) w) (hy : ∀ w, S w → Calls P f args w fun e w' => e = .returned v ∧ w = w') (h : wpPlanP P ops Q S r (a.put o.dst v) w) : wpPlanP P ops Q S ((0, o) :: r) a w :=
  ⟨hS, v, Or.inl ⟨hw, fun a' ha w hS K Q hK => by
    unfold Oper.wp
    rw [ha, he w, Oper.upon_enter]
    refine (hy w hS).mono ?_
    rintro e w' ⟨rfl, rfl⟩
    exact hK⟩, h⟩
/-- One that is not wanted. -/
theorem planP_skip {o : Oper} {r : List (Nat × Oper)} {a : Act} {w : World} (hS : S w) (hw : Region.wanted o (yielded ops a.tmps) = false) (h : wpPlanP P ops Q S r (a.put o.dst undef) w) : wpPlanP P ops Q S ((0, o) :: r) a w :=
  ⟨hS, undef, Or.inr ⟨hw, rfl⟩, h⟩
/-- One that acts. -/
theorem planP_act {o : Oper} {r : List (Nat × Oper)} {a : Act} {w : World} (h : ∀ K' : Act → World → Prop, Shut (∀ a w', (S w → S w') → wpPlanP P ops Q S r a w' → K' a w') → if Region.wanted o (yielded ops a.tmps) = true then Oper.wp P o a w K' Q else K' (a.put o.dst undef) w) : wpPlanP P ops Q S ((1, o) :: r) a w := h
theorem planP_late {o : Oper} {r : List (Nat × Oper)} {a : Act} {w : World} (h : ∀ K' : Act → World → Prop, Shut (∀ a w', wpPlanP P ops Q S r a w' → K' a w') → if Region.wanted o (yielded ops a.tmps) = true then Oper.wp P o a w K' Q else K' (a.put o.dst undef) w) : wpPlanP P ops Q S ((2, o) :: r) a w := h
theorem planP_done {a : Act} {w : World} (h : Q .normal a w) : wpPlanP P ops Q S [] a w := h
end Go.Proofs.Ytopnfjgkgoeleaa
