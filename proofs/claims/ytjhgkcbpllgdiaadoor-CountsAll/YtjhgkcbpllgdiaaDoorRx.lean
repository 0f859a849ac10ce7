/- A region that draws its order, inside a fence, with calls: its orders branched by hand, each operation walked as a list of one. Whatever the program. -/
import Derived.Shelf.RegionOpen
import Derived.OwnWalkIn
namespace Go.Proofs.YtjhgkcbpllgdiaaDoor
variable {F : Fence} {n : Nat} {P : Program} {ops : Array Oper} {Q : Exit → Act → World → Prop} {md : Region.Mode} {a : Act} {w : World}
theorem wpIn_then {o : Oper} {K : Act → World → Prop} (h : o.wpIn F n P a w (wpListIn F n P ops (Exit.then K Q) []) (Exit.then K Q)) : o.wpIn F n P a w K Q := by
  unfold Oper.wpIn at *
  refine ⟨h.1, ?_⟩
  have h2 := h.2
  generalize (o.semAt F.round a.eval).run P w = r at *
  cases r with
  | ok x w' =>
    cases x with
    | enter f args =>
      refine ⟨h2.1, CallsIn.mono h2.2 ?_⟩
      intro e w'' he
      cases e <;> exact he
    | round l f tmps assign body =>
      refine ⟨h2.1, RoundIn.mono h2.2 ?_⟩
      intro e w'' he
      cases e <;> exact he
    | _ => exact h2
  | halt x w' => cases x <;> exact h2
theorem op_then {i : Nat} {o : Oper} {K : Act → World → Prop} (ho : ops[i]? = some o) (h : wpListIn F n P ops (Exit.then K Q) [o] a w) : wpOpIn F n P ops Q i K a w := by
  unfold wpOpIn
  simp only [ho]
  unfold wpListIn at h
  split
  · rename_i hw
    rw [if_pos hw] at h
    exact wpIn_then h
  · rename_i hw
    rw [if_neg hw] at h
    exact h
/-- One operation alone may come. -/
theorem any_one {i : Nat} {o : Oper} {fuel : Nat} {listed : Array Bool} (hr : Region.ready md ops listed = [i]) (ho : ops[i]? = some o) (h : wpListIn F n P ops (Exit.then (wpAnyIn F n P md ops Q fuel (listed.setIfInBounds i true)) Q) [o] a w) : wpAnyIn F n P md ops Q (fuel + 1) listed a w := by
  refine ⟨fun e => (by rw [hr] at e; cases e), fun j hj => ?_⟩
  rw [hr] at hj
  obtain rfl := List.mem_singleton.1 hj
  exact op_then ho h
/-- Two may come. -/
theorem any_two {i j : Nat} {o u : Oper} {fuel : Nat} {listed : Array Bool} (hr : Region.ready md ops listed = [i, j]) (ho : ops[i]? = some o) (hu : ops[j]? = some u) (h : wpListIn F n P ops (Exit.then (wpAnyIn F n P md ops Q fuel (listed.setIfInBounds i true)) Q) [o] a w)
    (h' : wpListIn F n P ops (Exit.then (wpAnyIn F n P md ops Q fuel (listed.setIfInBounds j true)) Q) [u] a w) : wpAnyIn F n P md ops Q (fuel + 1) listed a w := by
  refine ⟨fun e => (by rw [hr] at e; cases e), fun k hk => ?_⟩
  rw [hr] at hk
  rcases List.mem_cons.1 hk with rfl | hk
  · exact op_then ho h
  · obtain rfl := List.mem_singleton.1 hk
    exact op_then hu h'
theorem any_end {fuel : Nat} {listed : Array Bool} (hr : Region.ready md ops listed = []) (h : Q .normal a w) : wpAnyIn F n P md ops Q fuel listed a w := by
  cases fuel with
  | zero => exact ⟨hr, h⟩
  | succ k => exact ⟨fun _ => h, fun i hi => by rw [hr] at hi; cases hi⟩
end Go.Proofs.YtjhgkcbpllgdiaaDoor
