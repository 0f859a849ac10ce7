/- A region that draws its order, inside a fence and inside a round too: all its operations but the last only read, and the last waits for all others: one walk, in the order of the text. Whatever the program. -/
import Derived.Sort.BigQuietIn
import Derived.Shelf.RegionOpen
namespace Go.Proofs.YteenlifdamhffaaDoor

/-- None of them defers. -/
def noDefer (l : List Oper) : Bool := l.all (fun o => match o.op with | .defer _ => false | _ => true)
theorem noDefer_spec {l : List Oper} (h : noDefer l = true) {i : Nat} {o : Oper} (ho : l.toArray[i]? = some o) : ∀ c, o.op ≠ .defer c := by
  intro c e
  have hm : o ∈ l := by
    have := Array.mem_of_getElem? ho
    simpa using this
  have := (List.all_eq_true.1 h) o hm
  rw [e] at this
  cases this
variable {F : Fence} {n : Nat} {P : Program} {ops : Array Oper} {C : World → Prop} {md : Region.Mode}
theorem wpIn_of_quietR {o : Oper} {a : Act} {K : Act → Prop} {K' : Act → World → Prop} {Q' : Exit → Act → World → Prop} {w : World} (hnd : ∀ c, o.op ≠ .defer c) (hw : C w) (h : ∀ a w', C w' → K a → K' a w')
    (ha : o.askedIn F P a C) (hh : o.quietIn F n P a C K) : o.wpIn F n P a w K' Q' := by
  obtain ⟨v, h1, h2⟩ := hh
  have h3 := h1 w hw
  unfold Oper.quietAtIn at h3
  unfold Oper.wpIn
  refine ⟨ha w hw, ?_⟩
  rw [Oper.semAt_eq _ _ _ hnd]
  generalize (execOp a.eval o).run P w = r at *
  cases r with
  | ok x w' =>
    cases x <;> simp only [Oper.quietUponIn] at h3 <;> simp only [Oper.uponIn]
    case value u =>
      obtain ⟨e1, e2⟩ := h3
      rw [e1, e2]
      exact h _ _ hw h2
    case skip =>
      obtain ⟨e1, e2⟩ := h3
      rw [e1, ← e2]
      exact h _ _ hw h2
    case enter f args =>
      obtain ⟨e1, hd, hc⟩ := h3
      rw [e1]
      exact ⟨hd, hc.mono fun e w'' ⟨he, hw''⟩ => by subst he; exact h _ _ hw'' h2⟩
  | halt x w' => simp only [Oper.quietUponIn] at h3
theorem wpOpIn_of_qOpInR {i : Nat} {a : Act} {K : Act → Prop} {K' : Act → World → Prop} {Q' : Exit → Act → World → Prop} {w : World} (hnd : ∀ (i : Nat) (o : Oper), ops[i]? = some o → ∀ c, o.op ≠ .defer c) (hC : C w) (h : ∀ a w', C w' → K a → K' a w')
    (hh : qOpIn F n P ops C i K a) : wpOpIn F n P ops Q' i K' a w := by
  unfold qOpIn at hh
  unfold wpOpIn
  split
  · rename_i ho; simp only [ho] at hh; exact h _ _ hC hh
  · rename_i o ho
    simp only [ho] at hh
    obtain ⟨ha, hh⟩ := hh
    split
    · rename_i hw; simp only [hw, if_true] at hh; exact wpIn_of_quietR (hnd i o ho) hC h ha hh
    · rename_i hw; simp only [hw] at hh; exact ⟨ha w hC, h _ _ hC hh⟩
theorem wpAnyIn_of_quietR {Q : Act → Prop} {Q' : Exit → Act → World → Prop} (hnd : ∀ (i : Nat) (o : Oper), ops[i]? = some o → ∀ c, o.op ≠ .defer c) (hQ : ∀ a w, C w → Q a → Q' .normal a w) : ∀ (fuel : Nat) (listed : Array Bool) (a : Act) (w : World), C w →
    wpAnyQIn F n P md ops C Q fuel listed a → wpAnyIn F n P md ops Q' fuel listed a w
  | 0, _, _, _, hw, h => ⟨h.1, hQ _ _ hw h.2⟩
  | fuel + 1, _, _, _, hw, h => ⟨fun h0 => hQ _ _ hw (h.1 h0), fun i hi => wpOpIn_of_qOpInR hnd hw (fun a' w' hw' => wpAnyIn_of_quietR hnd hQ fuel _ a' w' hw') (h.2 i hi)⟩
theorem wpIn_region_quietR {id : Nat} {Q : Exit → Act → World → Prop} {a : Act} {w : World} {l : List Oper} (hm : P.follows .mixedOrders = true) (hnd : noDefer l = true) (hB : Region.lexB .any l.toArray = true)
    (h : wpQuietIn F n P l.toArray (fun w' => ∃ n, w' = w.drewN n) (fun a' => ∀ w', (∃ n, w' = w.drewN n) → Q .normal a' w') l a) : (Code.region id l.toArray true).wpIn F n P Q a w := by
  simp only [Region.lexB, Bool.and_eq_true] at hB
  refine wpIn_region_any hm (wpAnyIn_of_quietR (C := fun w' => ∃ n, w' = w.drewN n) (Q := fun a' => ∀ w', (∃ n, w' = w.drewN n) → Q .normal a' w') (fun i o ho => noDefer_spec hnd ho) (fun _ w' hw' h => h w' hw') _ _ _ _ ⟨1, rfl⟩ ?_)
  have := wpAnyQIn_lex (F := F) (n := n) (C := fun w' => ∃ n, w' = w.drewN n) (md := .any) hB.1 l.toArray.toList 0 (Array.replicate l.toArray.size false) a (by simp) (by simpa using hB.2) h
  simpa using this

/-- Whatever has come up, so has all that it waits for. -/
def Clsd (md : Region.Mode) (ops : Array Oper) (listed : Array Bool) : Prop := ∀ (j : Nat) (o : Oper), ops[j]? = some o → listed.getD j false = true → ∀ e ∈ o.after, Region.binds md e = true → listed.getD e.on false = true
/-- What an operation waits for, from step to step. -/
def anc (md : Region.Mode) (ops : Array Oper) : Nat → Nat → List Nat
  | 0, _ => []
  | f + 1, m => match ops[m]? with
    | none => []
    | some o => (o.after.toList.filter (Region.binds md)).flatMap fun e => e.on :: anc md ops f e.on
theorem anc_listed {listed : Array Bool} (hc : Clsd md ops listed) : ∀ (f m : Nat), listed.getD m false = true → ∀ i ∈ anc md ops f m, listed.getD i false = true
  | 0, _, _, i, hi => by simp [anc] at hi
  | f + 1, m, hm, i, hi => by
    unfold anc at hi
    cases ho : ops[m]? with
    | none => rw [ho] at hi; simp at hi
    | some o =>
      rw [ho] at hi
      simp only [List.mem_flatMap, List.mem_filter, Array.mem_toList_iff, List.mem_cons] at hi
      obtain ⟨e, ⟨he, hb⟩, hi⟩ := hi
      have h1 := hc m o ho hm e he hb
      rcases hi with rfl | hi
      · exact h1
      · exact anc_listed hc f e.on h1 i hi
theorem anc_ready {listed : Array Bool} (hc : Clsd md ops listed) {m : Nat} (hm : m ∈ Region.ready md ops listed) (f : Nat) : ∀ i ∈ anc md ops f m, listed.getD i false = true := by
  cases f with
  | zero => intro i hi; simp [anc] at hi
  | succ f =>
    obtain ⟨_, o, ho, hall⟩ := mem_ready.1 hm
    intro i hi
    unfold anc at hi
    rw [ho] at hi
    simp only [List.mem_flatMap, List.mem_filter, Array.mem_toList_iff, List.mem_cons] at hi
    obtain ⟨e, ⟨he, hb⟩, hi⟩ := hi
    have h1 := hall e he hb
    rcases hi with rfl | hi
    · exact h1
    · exact anc_listed hc f e.on h1 i hi
theorem Clsd.step {listed : Array Bool} (hc : Clsd md ops listed) {i : Nat} (hi : i ∈ Region.ready md ops listed) : Clsd md ops (listed.setIfInBounds i true) := by
  intro j o ho hj e he hb
  by_cases hji : i = j
  · subst hji
    obtain ⟨_, o', ho', hall⟩ := mem_ready.1 hi
    rw [ho] at ho'
    cases ho'
    exact getD_set_true (hall e he hb)
  · rw [getD_set_ne false hji] at hj
    exact getD_set_true (hc j o ho hj e he hb)
/-- The last operation waits for all others. -/
def lateB (md : Region.Mode) (ops : Array Oper) (m : Nat) : Bool := (List.range ops.size).all fun i => i == m || (anc md ops ops.size m).contains i
theorem late_not {listed : Array Bool} {m i : Nat} (hl : lateB md ops m = true) (hc : Clsd md ops listed) (hi : i ∈ Region.ready md ops listed) (hne : i ≠ m) : m ∉ Region.ready md ops listed := by
  intro hm
  obtain ⟨h0, o, ho, _⟩ := mem_ready.1 hi
  have hlt : i < ops.size := (Array.getElem?_eq_some_iff.1 ho).1
  have := (List.all_eq_true.1 hl) i (List.mem_range.2 hlt)
  rw [Bool.or_eq_true] at this
  rcases this with h | h
  · exact hne (by simpa using h)
  · have := anc_ready hc hm ops.size i (by simpa using h)
    rcases Nat.lt_or_ge i listed.size with h' | h'
    · simp [h'] at h0 this; rw [h0] at this; cases this
    · simp [Array.getElem?_eq_none h'] at this

/-- Whatever order is picked, up to the last one. -/
def wpAnyT (F : Fence) (n : Nat) (P : Program) (md : Region.Mode) (ops : Array Oper) (C : World → Prop) (m : Nat) (T : Act → Prop) : Nat → Array Bool → Act → Prop
  | 0, listed, a => (Region.ready md ops listed = [m] ∧ Region.ready md ops (listed.setIfInBounds m true) = []) ∧ T a
  | fuel + 1, listed, a => Region.ready md ops listed ≠ [] ∧ ∀ i ∈ Region.ready md ops listed, qOpIn F n P ops C i (wpAnyT F n P md ops C m T fuel (listed.setIfInBounds i true)) a
theorem wpAnyT_first {m : Nat} {T : Act → Prop} {i : Nat} {oi : Oper} {v : Value} (hl : lateB md ops m = true) (hi : ops[i]? = some oi) (him : i ≠ m) (hsel : ∀ (j : Nat) (o : Oper) cs b, ops[j]? = some o → o.op ≠ .select cs b) :
    ∀ (fuel : Nat) (listed : Array Bool) (a : Act), Clsd md ops listed →
      (∀ j oj, ops[j]? = some oj → j ≠ i → listed.getD j true = false → (∀ e ∈ oj.after, Region.binds md e = true → e.on ≠ i) → oi.apart ops oj = true) →
      i ∈ Region.ready md ops listed → YieldsQuiet F n P ops C oi v a →
      wpAnyT F n P md ops C m T fuel (listed.setIfInBounds i true) (a.put oi.dst v) → wpAnyT F n P md ops C m T (fuel + 1) listed a := by
  intro fuel
  induction fuel with
  | zero =>
    intro listed a hc _ hr hy H
    refine ⟨fun h => (by rw [h] at hr; cases hr), fun j hj => ?_⟩
    by_cases hji : j = i
    · subst hji; exact hy.qOpIn hi H
    · have h2 := ready_mono hj hji
      rw [H.1.1] at h2
      have : j = m := by simpa using h2
      subst this
      exact absurd hj (late_not hl hc hr him)
  | succ fuel ih =>
    intro listed a hc hfree hr hy H
    refine ⟨fun h => (by rw [h] at hr; cases hr), fun j hj => ?_⟩
    by_cases hji : j = i
    · subst hji; exact hy.qOpIn hi H
    · have h1 := H.2 j (ready_mono hj hji)
      obtain ⟨hjun, oj, hoj, hall⟩ := mem_ready.1 hj
      have hnot : ∀ e ∈ oj.after, Region.binds md e = true → e.on ≠ i := fun e he hb heq => by
        have h1 := hall e he hb
        have h0 := (mem_ready.1 hr).1
        rw [heq] at h1
        rcases Nat.lt_or_ge i listed.size with h' | h'
        · simp [h'] at h0 h1; rw [h0] at h1; cases h1
        · simp [Array.getElem?_eq_none h'] at h1
      have h2 := qOpIn_put hoj (hfree j oj hoj hji hjun hnot) (fun cs b => hsel i oi cs b hi) (fun cs b => hsel j oj cs b hoj) hy h1
      have hfree' : ∀ k ok, ops[k]? = some ok → k ≠ i → (listed.setIfInBounds j true).getD k true = false →
          (∀ e ∈ ok.after, Region.binds md e = true → e.on ≠ i) → oi.apart ops ok = true := fun k ok hk hki hun hno => by
        refine hfree k ok hk hki ?_ hno
        by_cases hjk : j = k
        · subst hjk; exact hjun
        · rw [getD_set_ne true hjk] at hun; exact hun
      refine qOpIn_mono (fun a' h3 => ih (listed.setIfInBounds j true) a' (hc.step hj) hfree' (ready_mono hr (Ne.symm hji)) h3.1 ?_) h2
      rw [Array.setIfInBounds_comm _ _ hji]
      exact h3.2
/-- In the order of the text, up to the last one. -/
def lexLast (md : Region.Mode) (ops : Array Oper) (m : Nat) : Nat → Nat → Array Bool → Bool
  | 0, _, listed => Region.ready md ops listed == [m] && (Region.ready md ops (listed.setIfInBounds m true)).isEmpty
  | fuel + 1, k, listed => (Region.ready md ops listed).contains k && Region.free md ops listed k && lexLast md ops m fuel (k + 1) (listed.setIfInBounds k true)
theorem wpAnyT_lex {m : Nat} {T : Act → Prop} (hl : lateB md ops m = true) (hs : Region.noSelect ops = true) : ∀ (l : List Oper) (k : Nat) (listed : Array Bool) (a : Act), k + l.length ≤ m → Clsd md ops listed → (∀ j, j < l.length → l[j]? = ops[k + j]?) →
    lexLast md ops m l.length k listed = true → wpQuietIn F n P ops C T l a → wpAnyT F n P md ops C m T l.length listed a
  | [], _, _, _, _, _, _, hB, h => ⟨by simpa [lexLast] using hB, h⟩
  | o :: l, k, listed, a, hk, hc, hl', hB, h => by
    have h0 : ops[k]? = some o := by simpa using (hl' 0 (by simp)).symm
    simp only [List.length_cons, lexLast, Bool.and_eq_true] at hB
    obtain ⟨⟨hr, hf⟩, hB'⟩ := hB
    have hst : qOpIn F n P ops C k (wpQuietIn F n P ops C T l) a := by unfold qOpIn; simp only [h0]; exact h
    obtain ⟨v, hy, hK⟩ := yieldsQuiet_of_qOpIn h0 hst
    have hr' : k ∈ Region.ready md ops listed := by simpa using hr
    exact wpAnyT_first hl h0 (by simp at hk; omega) (Region.noSelect_spec hs) l.length listed a hc (Region.free_spec h0 hf) hr' hy
      (wpAnyT_lex hl hs l (k + 1) _ _ (by simp at hk; omega) (hc.step hr') (fun j hj => by have := hl' (j + 1) (by simp; omega); simpa [Nat.add_assoc, Nat.add_comm 1 j] using this) hB' hK)
theorem wpAnyIn_of_T {m : Nat} {T : Act → Prop} {Q' : Exit → Act → World → Prop} (hnd : ∀ (i : Nat) (o : Oper), ops[i]? = some o → ∀ c, o.op ≠ .defer c) (hT : ∀ listed a w, Region.ready md ops listed = [m] → Region.ready md ops (listed.setIfInBounds m true) = [] → C w → T a → wpAnyIn F n P md ops Q' 1 listed a w) :
    ∀ (fuel : Nat) (listed : Array Bool) (a : Act) (w : World), C w → wpAnyT F n P md ops C m T fuel listed a → wpAnyIn F n P md ops Q' (fuel + 1) listed a w
  | 0, _, _, _, hw, h => hT _ _ _ h.1.1 h.1.2 hw h.2
  | fuel + 1, _, _, _, hw, h => ⟨fun h0 => absurd h0 h.1, fun i hi => wpOpIn_of_qOpInR hnd hw (fun a' w' hw' => wpAnyIn_of_T hnd hT fuel _ a' w' hw') (h.2 i hi)⟩
def lastB (l : List Oper) : Bool := noDefer l && Region.noSelect l.toArray && lateB .any l.toArray (l.length - 1) && lexLast .any l.toArray (l.length - 1) (l.length - 1) 0 (Array.replicate l.length false)
theorem wpIn_region_last {id : Nat} {Q : Exit → Act → World → Prop} {a : Act} {w : World} {l : List Oper} (hm : P.follows .mixedOrders = true) (hB : lastB l = true) (l' : List Oper) (o : Oper) (hl : l = l' ++ [o])
    (h : wpQuietIn F n P l.toArray (fun w' => ∃ n, w' = w.drewN n) (fun a' => ∀ w', (∃ n, w' = w.drewN n) → wpListIn F n P l.toArray Q [o] a' w') l' a) : (Code.region id l.toArray true).wpIn F n P Q a w := by
  simp only [lastB, Bool.and_eq_true] at hB
  obtain ⟨⟨⟨b1, b2⟩, b3⟩, b4⟩ := hB
  have hlen : l.length = l'.length + 1 := by rw [hl]; simp
  have hm1 : l.length - 1 = l'.length := by omega
  rw [hm1] at b3 b4
  refine wpIn_region_any hm ?_
  rw [show l.toArray.size = l'.length + 1 by simp [hlen]]
  refine wpAnyIn_of_T (C := fun w' => ∃ n, w' = w.drewN n) (m := l'.length) (T := fun a' => ∀ w', (∃ n, w' = w.drewN n) → wpListIn F n P l.toArray Q [o] a' w') (fun i o ho => noDefer_spec b1 ho) ?_ l'.length _ _ _ ⟨1, rfl⟩ ?_
  · intro listed a' w' hr hr2 hw hT
    have hlast : l.toArray[l'.length]? = some o := by rw [hl]; simp
    refine ⟨fun h0 => (by rw [hr] at h0; cases h0), fun i hi => ?_⟩
    rw [hr] at hi
    have : i = l'.length := by simpa using hi
    subst this
    have hT := hT w' hw
    unfold wpOpIn
    simp only [hlast]
    unfold wpListIn at hT
    split
    · rename_i hw'; simp only [hw', if_true] at hT
      exact Oper.wpIn_mono (fun a w h => ⟨hr2, h⟩) hT
    · rename_i hw'; simp only [hw'] at hT
      exact ⟨hT.1, hr2, hT.2⟩
  · refine wpAnyT_lex b3 b2 l' 0 _ a (by omega) (by intro j o ho hj; simp [Array.getElem?_replicate] at hj; split at hj <;> simp at hj) (fun j hj => by rw [hl]; simp [List.getElem?_append_left hj]) (by rw [hlen] at b4; exact b4) h
theorem wpIn_region_tail {id : Nat} {Q : Exit → Act → World → Prop} {a : Act} {w : World} {x : Oper} {l : List Oper} (hm : P.follows .mixedOrders = true) (hB : lastB (x :: l) = true)
    (h : wpQuietIn F n P (x :: l).toArray (fun w' => ∃ n, w' = w.drewN n) (fun a' => ∀ w', (∃ n, w' = w.drewN n) → wpListIn F n P (x :: l).toArray Q [(x :: l).getLast (by simp)] a' w') (x :: l).dropLast a) : (Code.region id (x :: l).toArray true).wpIn F n P Q a w :=
  wpIn_region_last hm hB _ _ (List.dropLast_concat_getLast (by simp)).symm h
theorem wp_region_tail {id : Nat} {Q : Exit → Act → World → Prop} {a : Act} {w : World} {x : Oper} {l : List Oper} (hm : P.follows .mixedOrders = true) (hB : lastB (x :: l) = true)
    (h : wpQuietIn Fence.wide 0 P (x :: l).toArray (fun w' => ∃ n, w' = w.drewN n) (fun a' => ∀ w', (∃ n, w' = w.drewN n) → wpListIn Fence.wide 0 P (x :: l).toArray Q [(x :: l).getLast (by simp)] a' w') (x :: l).dropLast a) : (Code.region id (x :: l).toArray true).wp P Q a w :=
  wpIn_wide.1 (wpIn_region_tail hm hB h)
end Go.Proofs.YteenlifdamhffaaDoor
