/- A region that draws its order: quiet operations, then one with an effect that waits for all of them, then one behind it. Whatever the program. -/
import Derived.Test.YthpocbpleffdpaaRl
namespace Go.Proofs.Ythpocbpleffdpaa
variable {F : Fence} {n : Nat} {P : Program} {ops : Array Oper} {C : World → Prop} {md : Region.Mode}
/-- The last operation waits for all others. -/
def lateB2 (md : Region.Mode) (ops : Array Oper) (m : Nat) : Bool := (List.range ops.size).all fun i => i == m || (anc md ops ops.size m).contains i || (anc md ops ops.size i).contains m
theorem late_not2 {listed : Array Bool} {m i : Nat} (hl : lateB2 md ops m = true) (hc : Clsd md ops listed) (hi : i ∈ Region.ready md ops listed) (hne : i ≠ m) : m ∉ Region.ready md ops listed := by
  intro hm
  obtain ⟨h0, o, ho, _⟩ := mem_ready.1 hi
  have hlt : i < ops.size := (Array.getElem?_eq_some_iff.1 ho).1
  have := (List.all_eq_true.1 hl) i (List.mem_range.2 hlt)
  rw [Bool.or_eq_true, Bool.or_eq_true] at this
  rcases this with (h | h) | h
  · exact hne (by simpa using h)
  · have := anc_ready hc hm ops.size i (by simpa using h)
    rcases Nat.lt_or_ge i listed.size with h' | h'
    · simp [h'] at h0 this; rw [h0] at this; cases this
    · simp [Array.getElem?_eq_none h'] at this
  · have := anc_ready hc hi ops.size m (by simpa using h)
    obtain ⟨h1, _, _, _⟩ := mem_ready.1 hm
    rcases Nat.lt_or_ge m listed.size with h' | h'
    · simp [h'] at h1 this; rw [h1] at this; cases this
    · simp [Array.getElem?_eq_none h'] at this

/-- Whatever order is picked, up to the last one. -/
def wpAnyV (F : Fence) (n : Nat) (P : Program) (md : Region.Mode) (ops : Array Oper) (C : World → Prop) (m : Nat) (T : Act → Prop) : Nat → Array Bool → Act → Prop
  | 0, listed, a => (Region.ready md ops listed = [m] ∧ Region.ready md ops (listed.setIfInBounds m true) = [m + 1] ∧ Region.ready md ops ((listed.setIfInBounds m true).setIfInBounds (m + 1) true) = []) ∧ T a
  | fuel + 1, listed, a => Region.ready md ops listed ≠ [] ∧ ∀ i ∈ Region.ready md ops listed, qOpIn F n P ops C i (wpAnyV F n P md ops C m T fuel (listed.setIfInBounds i true)) a
theorem wpAnyV_first {m : Nat} {T : Act → Prop} {i : Nat} {oi : Oper} {v : Value} (hl : lateB2 md ops m = true) (hi : ops[i]? = some oi) (him : i ≠ m) (hsel : ∀ (j : Nat) (o : Oper) cs b, ops[j]? = some o → o.op ≠ .select cs b) :
    ∀ (fuel : Nat) (listed : Array Bool) (a : Act), Clsd md ops listed →
      (∀ j oj, ops[j]? = some oj → j ≠ i → listed.getD j true = false → (∀ e ∈ oj.after, Region.binds md e = true → e.on ≠ i) → oi.apart ops oj = true) →
      i ∈ Region.ready md ops listed → YieldsQuiet F n P ops C oi v a →
      wpAnyV F n P md ops C m T fuel (listed.setIfInBounds i true) (a.put oi.dst v) → wpAnyV F n P md ops C m T (fuel + 1) listed a := by
  intro fuel
  induction fuel with
  | zero =>
    intro listed a hc _ hr hy H
    refine ⟨fun h => (by rw [h] at hr; cases hr), fun j hj => ?_⟩
    by_cases hji : j = i
    · subst hji; exact hy.qOpIn hi H
    · have h2 := ready_mono hj hji
      rw [H.1.1] at h2
      have : j = m := by simpa using h2
      subst this
      exact absurd hj (late_not2 hl hc hr him)
  | succ fuel ih =>
    intro listed a hc hfree hr hy H
    refine ⟨fun h => (by rw [h] at hr; cases hr), fun j hj => ?_⟩
    by_cases hji : j = i
    · subst hji; exact hy.qOpIn hi H
    · have h1 := H.2 j (ready_mono hj hji)
      obtain ⟨hjun, oj, hoj, hall⟩ := mem_ready.1 hj
      have hnot : ∀ e ∈ oj.after, Region.binds md e = true → e.on ≠ i := fun e he hb heq => by
        have h1 := hall e he hb
        have h0 := (mem_ready.1 hr).1
        rw [heq] at h1
        rcases Nat.lt_or_ge i listed.size with h' | h'
        · simp [h'] at h0 h1; rw [h0] at h1; cases h1
        · simp [Array.getElem?_eq_none h'] at h1
      have h2 := qOpIn_put hoj (hfree j oj hoj hji hjun hnot) (fun cs b => hsel i oi cs b hi) (fun cs b => hsel j oj cs b hoj) hy h1
      have hfree' : ∀ k ok, ops[k]? = some ok → k ≠ i → (listed.setIfInBounds j true).getD k true = false →
          (∀ e ∈ ok.after, Region.binds md e = true → e.on ≠ i) → oi.apart ops ok = true := fun k ok hk hki hun hno => by
        refine hfree k ok hk hki ?_ hno
        by_cases hjk : j = k
        · subst hjk; exact hjun
        · rw [getD_set_ne true hjk] at hun; exact hun
      refine qOpIn_mono (fun a' h3 => ih (listed.setIfInBounds j true) a' (hc.step hj) hfree' (ready_mono hr (Ne.symm hji)) h3.1 ?_) h2
      rw [Array.setIfInBounds_comm _ _ hji]
      exact h3.2
/-- In the order of the text, up to the last one. -/
def lexLast2 (md : Region.Mode) (ops : Array Oper) (m : Nat) : Nat → Nat → Array Bool → Bool
  | 0, _, listed => Region.ready md ops listed == [m] && (Region.ready md ops (listed.setIfInBounds m true) == [m + 1] && (Region.ready md ops ((listed.setIfInBounds m true).setIfInBounds (m + 1) true)).isEmpty)
  | fuel + 1, k, listed => (Region.ready md ops listed).contains k && Region.free md ops listed k && lexLast2 md ops m fuel (k + 1) (listed.setIfInBounds k true)
theorem wpAnyV_lex {m : Nat} {T : Act → Prop} (hl : lateB2 md ops m = true) (hs : Region.noSelect ops = true) : ∀ (l : List Oper) (k : Nat) (listed : Array Bool) (a : Act), k + l.length ≤ m → Clsd md ops listed → (∀ j, j < l.length → l[j]? = ops[k + j]?) →
    lexLast2 md ops m l.length k listed = true → wpQuietIn F n P ops C T l a → wpAnyV F n P md ops C m T l.length listed a
  | [], _, _, _, _, _, _, hB, h => ⟨by simpa [lexLast2] using hB, h⟩
  | o :: l, k, listed, a, hk, hc, hl', hB, h => by
    have h0 : ops[k]? = some o := by simpa using (hl' 0 (by simp)).symm
    simp only [List.length_cons, lexLast2, Bool.and_eq_true] at hB
    obtain ⟨⟨hr, hf⟩, hB'⟩ := hB
    have hst : qOpIn F n P ops C k (wpQuietIn F n P ops C T l) a := by unfold qOpIn; simp only [h0]; exact h
    obtain ⟨v, hy, hK⟩ := yieldsQuiet_of_qOpIn h0 hst
    have hr' : k ∈ Region.ready md ops listed := by simpa using hr
    exact wpAnyV_first hl h0 (by simp at hk; omega) (Region.noSelect_spec hs) l.length listed a hc (Region.free_spec h0 hf) hr' hy
      (wpAnyV_lex hl hs l (k + 1) _ _ (by simp at hk; omega) (hc.step hr') (fun j hj => by have := hl' (j + 1) (by simp; omega); simpa [Nat.add_assoc, Nat.add_comm 1 j] using this) hB' hK)
theorem wpAnyIn_of_V {m : Nat} {T : Act → Prop} {Q' : Exit → Act → World → Prop} (hnd : ∀ (i : Nat) (o : Oper), ops[i]? = some o → ∀ c, o.op ≠ .defer c) (hT : ∀ listed a w, Region.ready md ops listed = [m] → Region.ready md ops (listed.setIfInBounds m true) = [m + 1] → Region.ready md ops ((listed.setIfInBounds m true).setIfInBounds (m + 1) true) = [] → C w → T a → wpAnyIn F n P md ops Q' 2 listed a w) :
    ∀ (fuel : Nat) (listed : Array Bool) (a : Act) (w : World), C w → wpAnyV F n P md ops C m T fuel listed a → wpAnyIn F n P md ops Q' (fuel + 2) listed a w
  | 0, _, _, _, hw, h => hT _ _ _ h.1.1 h.1.2.1 h.1.2.2 hw h.2
  | fuel + 1, _, _, _, hw, h => ⟨fun h0 => absurd h0 h.1, fun i hi => wpOpIn_of_qOpInR hnd hw (fun a' w' hw' => wpAnyIn_of_V hnd hT fuel _ a' w' hw') (h.2 i hi)⟩
def lastB2 (l : List Oper) : Bool := noDefer l && Region.noSelect l.toArray && lateB2 .any l.toArray (l.length - 2) && lexLast2 .any l.toArray (l.length - 2) (l.length - 2) 0 (Array.replicate l.length false)
theorem wpIn_region_last2 {id : Nat} {Q : Exit → Act → World → Prop} {a : Act} {w : World} {l : List Oper} (hm : P.follows .mixedOrders = true) (hB : lastB2 l = true) (l' : List Oper) (o o2 : Oper) (hl : l = l' ++ [o, o2])
    (h : wpQuietIn F n P l.toArray (fun w' => ∃ n, w' = w.drewN n) (fun a' => ∀ w', (∃ n, w' = w.drewN n) → wpListIn F n P l.toArray Q [o, o2] a' w') l' a) : (Code.region id l.toArray true).wpIn F n P Q a w := by
  simp only [lastB2, Bool.and_eq_true] at hB
  obtain ⟨⟨⟨b1, b2⟩, b3⟩, b4⟩ := hB
  have hlen : l.length = l'.length + 2 := by rw [hl]; simp
  have hm1 : l.length - 2 = l'.length := by omega
  rw [hm1] at b3 b4
  refine wpIn_region_any hm ?_
  rw [show l.toArray.size = l'.length + 2 by simp [hlen]]
  refine wpAnyIn_of_V (C := fun w' => ∃ n, w' = w.drewN n) (m := l'.length) (T := fun a' => ∀ w', (∃ n, w' = w.drewN n) → wpListIn F n P l.toArray Q [o, o2] a' w') (fun i o ho => noDefer_spec b1 ho) ?_ l'.length _ _ _ ⟨1, rfl⟩ ?_
  · intro listed a' w' hr hr2 hr3 hw hT
    have hlast : l.toArray[l'.length]? = some o := by rw [hl]; simp
    have hlast2 : l.toArray[l'.length + 1]? = some o2 := by rw [hl]; simp
    refine ⟨fun h0 => (by rw [hr] at h0; cases h0), fun i hi => ?_⟩
    rw [hr] at hi
    have : i = l'.length := by simpa using hi
    subst this
    have hT := hT w' hw
    have two : ∀ a3 w3, wpListIn F n P l.toArray Q [o2] a3 w3 → wpAnyIn F n P .any l.toArray Q 1 (listed.setIfInBounds l'.length true) a3 w3 := by
      intro a3 w3 h3
      refine ⟨fun h0 => (by rw [hr2] at h0; cases h0), fun i hi => ?_⟩
      rw [hr2] at hi
      have : i = l'.length + 1 := by simpa using hi
      subst this
      unfold wpOpIn
      simp only [hlast2]
      unfold wpListIn at h3
      split
      · rename_i hw'; simp only [hw', if_true] at h3
        exact Oper.wpIn_mono (fun a w h => ⟨hr3, h⟩) h3
      · rename_i hw'; simp only [hw'] at h3
        exact ⟨h3.1, hr3, h3.2⟩
    unfold wpOpIn
    simp only [hlast]
    unfold wpListIn at hT
    split
    · rename_i hw'; simp only [hw', if_true] at hT
      exact Oper.wpIn_mono (fun a w h => two a w h) hT
    · rename_i hw'; simp only [hw'] at hT
      exact ⟨hT.1, two _ _ hT.2⟩
  · refine wpAnyV_lex b3 b2 l' 0 _ a (by omega) (by intro j o ho hj; simp [Array.getElem?_replicate] at hj; split at hj <;> simp at hj) (fun j hj => by rw [hl]; simp [List.getElem?_append_left hj]) (by rw [hlen] at b4; exact b4) h
theorem wpIn_region_two {id : Nat} {Q : Exit → Act → World → Prop} {a : Act} {w : World} {l : List Oper} (m : Nat) (hm : P.follows .mixedOrders = true) (hB : lastB2 l = true) (h2 : l.length = m + 2)
    (h : wpQuietIn F n P l.toArray (fun w' => ∃ n, w' = w.drewN n) (fun a' => ∀ w', (∃ n, w' = w.drewN n) → wpListIn F n P l.toArray Q (l.drop m) a' w') (l.take m) a) : (Code.region id l.toArray true).wpIn F n P Q a w := by
  obtain ⟨d, hx⟩ : ∃ d, d = l.drop m := ⟨_, rfl⟩
  have hd : d.length = 2 := by rw [hx, List.length_drop]; omega
  rw [← hx] at h
  obtain ⟨o, o2, he⟩ : ∃ o o2, d = [o, o2] := by
    cases d with
    | nil => simp at hd
    | cons o d =>
      cases d with
      | nil => simp at hd
      | cons o2 d =>
        cases d with
        | nil => exact ⟨o, o2, rfl⟩
        | cons _ _ => simp at hd
  have e2 : l = l.take m ++ [o, o2] := by rw [← he, hx, List.take_append_drop]
  rw [he] at h
  exact wpIn_region_last2 hm hB (l.take m) o o2 e2 h
end Go.Proofs.Ythpocbpleffdpaa
