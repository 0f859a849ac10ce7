import Derived.Test.YtnccklbnncaeoaaGreatJaa
import Derived.Sort.BigQuietIn
import Derived.Shelf.RegionOpen
import Derived.OwnWalkIn
import Derived.Laws.CopyOwn
import Derived.Deep.RegionLaw
import Derived.Maps.RangeRun
import Derived.Maps.Range
/- A region that draws its order, inside a fence and inside a round too: all its operations but the last only read, and the last waits for all others: one walk, in the order of the text. Whatever the program. -/
namespace Go.Proofs.YtnccklbnncaeoaaGreat

/-- None of them defers. -/
def noDefer (l : List Oper) : Bool := l.all (fun o => match o.op with | .defer _ => false | _ => true)
theorem noDefer_spec {l : List Oper} (h : noDefer l = true) {i : Nat} {o : Oper} (ho : l.toArray[i]? = some o) : ∀ c, o.op ≠ .defer c := by
  intro c e
  have hm : o ∈ l := by
    have := Array.mem_of_getElem? ho
    simpa using this
  have := (List.all_eq_true.1 h) o hm
  rw [e] at this
  cases this
variable {F : Fence} {n : Nat} {P : Program} {ops : Array Oper} {C : World → Prop} {md : Region.Mode}
theorem wpIn_of_quietR {o : Oper} {a : Act} {K : Act → Prop} {K' : Act → World → Prop} {Q' : Exit → Act → World → Prop} {w : World} (hnd : ∀ c, o.op ≠ .defer c) (hw : C w) (h : ∀ a w', C w' → K a → K' a w')
    (ha : o.askedIn F P a C) (hh : o.quietIn F n P a C K) : o.wpIn F n P a w K' Q' := by
  obtain ⟨v, h1, h2⟩ := hh
  have h3 := h1 w hw
  unfold Oper.quietAtIn at h3
  unfold Oper.wpIn
  refine ⟨ha w hw, ?_⟩
  rw [Oper.semAt_eq _ _ _ hnd]
  generalize (execOp a.eval o).run P w = r at *
  cases r with
  | ok x w' =>
    cases x <;> simp only [Oper.quietUponIn] at h3 <;> simp only [Oper.uponIn]
    case value u =>
      obtain ⟨e1, e2⟩ := h3
      rw [e1, e2]
      exact h _ _ hw h2
    case skip =>
      obtain ⟨e1, e2⟩ := h3
      rw [e1, ← e2]
      exact h _ _ hw h2
    case enter f args =>
      obtain ⟨e1, hd, hc⟩ := h3
      rw [e1]
      exact ⟨hd, hc.mono fun e w'' ⟨he, hw''⟩ => by subst he; exact h _ _ hw'' h2⟩
  | halt x w' => simp only [Oper.quietUponIn] at h3
theorem wpOpIn_of_qOpInR {i : Nat} {a : Act} {K : Act → Prop} {K' : Act → World → Prop} {Q' : Exit → Act → World → Prop} {w : World} (hnd : ∀ (i : Nat) (o : Oper), ops[i]? = some o → ∀ c, o.op ≠ .defer c) (hC : C w) (h : ∀ a w', C w' → K a → K' a w')
    (hh : qOpIn F n P ops C i K a) : wpOpIn F n P ops Q' i K' a w := by
  unfold qOpIn at hh
  unfold wpOpIn
  split
  · rename_i ho; simp only [ho] at hh; exact h _ _ hC hh
  · rename_i o ho
    simp only [ho] at hh
    obtain ⟨ha, hh⟩ := hh
    split
    · rename_i hw; simp only [hw, if_true] at hh; exact wpIn_of_quietR (hnd i o ho) hC h ha hh
    · rename_i hw; simp only [hw] at hh; exact ⟨ha w hC, h _ _ hC hh⟩
theorem wpAnyIn_of_quietR {Q : Act → Prop} {Q' : Exit → Act → World → Prop} (hnd : ∀ (i : Nat) (o : Oper), ops[i]? = some o → ∀ c, o.op ≠ .defer c) (hQ : ∀ a w, C w → Q a → Q' .normal a w) : ∀ (fuel : Nat) (listed : Array Bool) (a : Act) (w : World), C w →
    wpAnyQIn F n P md ops C Q fuel listed a → wpAnyIn F n P md ops Q' fuel listed a w
  | 0, _, _, _, hw, h => ⟨h.1, hQ _ _ hw h.2⟩
  | fuel + 1, _, _, _, hw, h => ⟨fun h0 => hQ _ _ hw (h.1 h0), fun i hi => wpOpIn_of_qOpInR hnd hw (fun a' w' hw' => wpAnyIn_of_quietR hnd hQ fuel _ a' w' hw') (h.2 i hi)⟩
theorem wpIn_region_quietR {id : Nat} {Q : Exit → Act → World → Prop} {a : Act} {w : World} {l : List Oper} (hm : P.follows .mixedOrders = true) (hnd : noDefer l = true) (hB : Region.lexB .any l.toArray = true)
    (h : wpQuietIn F n P l.toArray (fun w' => ∃ n, w' = w.drewN n) (fun a' => ∀ w', (∃ n, w' = w.drewN n) → Q .normal a' w') l a) : (Code.region id l.toArray true).wpIn F n P Q a w := by
  simp only [Region.lexB, Bool.and_eq_true] at hB
  refine wpIn_region_any hm (wpAnyIn_of_quietR (C := fun w' => ∃ n, w' = w.drewN n) (Q := fun a' => ∀ w', (∃ n, w' = w.drewN n) → Q .normal a' w') (fun i o ho => noDefer_spec hnd ho) (fun _ w' hw' h => h w' hw') _ _ _ _ ⟨1, rfl⟩ ?_)
  have := wpAnyQIn_lex (F := F) (n := n) (C := fun w' => ∃ n, w' = w.drewN n) (md := .any) hB.1 l.toArray.toList 0 (Array.replicate l.toArray.size false) a (by simp) (by simpa using hB.2) h
  simpa using this

/-- Whatever has come up, so has all that it waits for. -/
def Clsd (md : Region.Mode) (ops : Array Oper) (listed : Array Bool) : Prop := ∀ (j : Nat) (o : Oper), ops[j]? = some o → listed.getD j false = true → ∀ e ∈ o.after, Region.binds md e = true → listed.getD e.on false = true
/-- What an operation waits for, from step to step. -/
def anc (md : Region.Mode) (ops : Array Oper) : Nat → Nat → List Nat
  | 0, _ => []
  | f + 1, m => match ops[m]? with
    | none => []
    | some o => (o.after.toList.filter (Region.binds md)).flatMap fun e => e.on :: anc md ops f e.on
theorem anc_listed {listed : Array Bool} (hc : Clsd md ops listed) : ∀ (f m : Nat), listed.getD m false = true → ∀ i ∈ anc md ops f m, listed.getD i false = true
  | 0, _, _, i, hi => by simp [anc] at hi
  | f + 1, m, hm, i, hi => by
    unfold anc at hi
    cases ho : ops[m]? with
    | none => rw [ho] at hi; simp at hi
    | some o =>
      rw [ho] at hi
      simp only [List.mem_flatMap, List.mem_filter, Array.mem_toList_iff, List.mem_cons] at hi
      obtain ⟨e, ⟨he, hb⟩, hi⟩ := hi
      have h1 := hc m o ho hm e he hb
      rcases hi with rfl | hi
      · exact h1
      · exact anc_listed hc f e.on h1 i hi
theorem anc_ready {listed : Array Bool} (hc : Clsd md ops listed) {m : Nat} (hm : m ∈ Region.ready md ops listed) (f : Nat) : ∀ i ∈ anc md ops f m, listed.getD i false = true := by
  cases f with
  | zero => intro i hi; simp [anc] at hi
  | succ f =>
    obtain ⟨_, o, ho, hall⟩ := mem_ready.1 hm
    intro i hi
    unfold anc at hi
    rw [ho] at hi
    simp only [List.mem_flatMap, List.mem_filter, Array.mem_toList_iff, List.mem_cons] at hi
    obtain ⟨e, ⟨he, hb⟩, hi⟩ := hi
    have h1 := hall e he hb
    rcases hi with rfl | hi
    · exact h1
    · exact anc_listed hc f e.on h1 i hi
theorem Clsd.step {listed : Array Bool} (hc : Clsd md ops listed) {i : Nat} (hi : i ∈ Region.ready md ops listed) : Clsd md ops (listed.setIfInBounds i true) := by
  intro j o ho hj e he hb
  by_cases hji : i = j
  · subst hji
    obtain ⟨_, o', ho', hall⟩ := mem_ready.1 hi
    rw [ho] at ho'
    cases ho'
    exact getD_set_true (hall e he hb)
  · rw [getD_set_ne false hji] at hj
    exact getD_set_true (hc j o ho hj e he hb)
/-- The last operation waits for all others. -/
def lateB (md : Region.Mode) (ops : Array Oper) (m : Nat) : Bool := (List.range ops.size).all fun i => i == m || (anc md ops ops.size m).contains i
theorem late_not {listed : Array Bool} {m i : Nat} (hl : lateB md ops m = true) (hc : Clsd md ops listed) (hi : i ∈ Region.ready md ops listed) (hne : i ≠ m) : m ∉ Region.ready md ops listed := by
  intro hm
  obtain ⟨h0, o, ho, _⟩ := mem_ready.1 hi
  have hlt : i < ops.size := (Array.getElem?_eq_some_iff.1 ho).1
  have := (List.all_eq_true.1 hl) i (List.mem_range.2 hlt)
  rw [Bool.or_eq_true] at this
  rcases this with h | h
  · exact hne (by simpa using h)
  · have := anc_ready hc hm ops.size i (by simpa using h)
    rcases Nat.lt_or_ge i listed.size with h' | h'
    · simp [h'] at h0 this; rw [h0] at this; cases this
    · simp [Array.getElem?_eq_none h'] at this

/-- Whatever order is picked, up to the last one. -/
def wpAnyT (F : Fence) (n : Nat) (P : Program) (md : Region.Mode) (ops : Array Oper) (C : World → Prop) (m : Nat) (T : Act → Prop) : Nat → Array Bool → Act → Prop
  | 0, listed, a => (Region.ready md ops listed = [m] ∧ Region.ready md ops (listed.setIfInBounds m true) = []) ∧ T a
  | fuel + 1, listed, a => Region.ready md ops listed ≠ [] ∧ ∀ i ∈ Region.ready md ops listed, qOpIn F n P ops C i (wpAnyT F n P md ops C m T fuel (listed.setIfInBounds i true)) a
theorem wpAnyT_first {m : Nat} {T : Act → Prop} {i : Nat} {oi : Oper} {v : Value} (hl : lateB md ops m = true) (hi : ops[i]? = some oi) (him : i ≠ m) (hsel : ∀ (j : Nat) (o : Oper) cs b, ops[j]? = some o → o.op ≠ .select cs b) :
    ∀ (fuel : Nat) (listed : Array Bool) (a : Act), Clsd md ops listed →
      (∀ j oj, ops[j]? = some oj → j ≠ i → listed.getD j true = false → (∀ e ∈ oj.after, Region.binds md e = true → e.on ≠ i) → oi.apart ops oj = true) →
      i ∈ Region.ready md ops listed → YieldsQuiet F n P ops C oi v a →
      wpAnyT F n P md ops C m T fuel (listed.setIfInBounds i true) (a.put oi.dst v) → wpAnyT F n P md ops C m T (fuel + 1) listed a := by
  intro fuel
  induction fuel with
  | zero =>
    intro listed a hc _ hr hy H
    refine ⟨fun h => (by rw [h] at hr; cases hr), fun j hj => ?_⟩
    by_cases hji : j = i
    · subst hji; exact hy.qOpIn hi H
    · have h2 := ready_mono hj hji
      rw [H.1.1] at h2
      have : j = m := by simpa using h2
      subst this
      exact absurd hj (late_not hl hc hr him)
  | succ fuel ih =>
    intro listed a hc hfree hr hy H
    refine ⟨fun h => (by rw [h] at hr; cases hr), fun j hj => ?_⟩
    by_cases hji : j = i
    · subst hji; exact hy.qOpIn hi H
    · have h1 := H.2 j (ready_mono hj hji)
      obtain ⟨hjun, oj, hoj, hall⟩ := mem_ready.1 hj
      have hnot : ∀ e ∈ oj.after, Region.binds md e = true → e.on ≠ i := fun e he hb heq => by
        have h1 := hall e he hb
        have h0 := (mem_ready.1 hr).1
        rw [heq] at h1
        rcases Nat.lt_or_ge i listed.size with h' | h'
        · simp [h'] at h0 h1; rw [h0] at h1; cases h1
        · simp [Array.getElem?_eq_none h'] at h1
      have h2 := qOpIn_put hoj (hfree j oj hoj hji hjun hnot) (fun cs b => hsel i oi cs b hi) (fun cs b => hsel j oj cs b hoj) hy h1
      have hfree' : ∀ k ok, ops[k]? = some ok → k ≠ i → (listed.setIfInBounds j true).getD k true = false →
          (∀ e ∈ ok.after, Region.binds md e = true → e.on ≠ i) → oi.apart ops ok = true := fun k ok hk hki hun hno => by
        refine hfree k ok hk hki ?_ hno
        by_cases hjk : j = k
        · subst hjk; exact hjun
        · rw [getD_set_ne true hjk] at hun; exact hun
      refine qOpIn_mono (fun a' h3 => ih (listed.setIfInBounds j true) a' (hc.step hj) hfree' (ready_mono hr (Ne.symm hji)) h3.1 ?_) h2
      rw [Array.setIfInBounds_comm _ _ hji]
      exact h3.2
/-- In the order of the text, up to the last one. -/
def lexLast (md : Region.Mode) (ops : Array Oper) (m : Nat) : Nat → Nat → Array Bool → Bool
  | 0, _, listed => Region.ready md ops listed == [m] && (Region.ready md ops (listed.setIfInBounds m true)).isEmpty
  | fuel + 1, k, listed => (Region.ready md ops listed).contains k && Region.free md ops listed k && lexLast md ops m fuel (k + 1) (listed.setIfInBounds k true)
theorem wpAnyT_lex {m : Nat} {T : Act → Prop} (hl : lateB md ops m = true) (hs : Region.noSelect ops = true) : ∀ (l : List Oper) (k : Nat) (listed : Array Bool) (a : Act), k + l.length ≤ m → Clsd md ops listed → (∀ j, j < l.length → l[j]? = ops[k + j]?) →
    lexLast md ops m l.length k listed = true → wpQuietIn F n P ops C T l a → wpAnyT F n P md ops C m T l.length listed a
  | [], _, _, _, _, _, _, hB, h => ⟨by simpa [lexLast] using hB, h⟩
  | o :: l, k, listed, a, hk, hc, hl', hB, h => by
    have h0 : ops[k]? = some o := by simpa using (hl' 0 (by simp)).symm
    simp only [List.length_cons, lexLast, Bool.and_eq_true] at hB
    obtain ⟨⟨hr, hf⟩, hB'⟩ := hB
    have hst : qOpIn F n P ops C k (wpQuietIn F n P ops C T l) a := by unfold qOpIn; simp only [h0]; exact h
    obtain ⟨v, hy, hK⟩ := yieldsQuiet_of_qOpIn h0 hst
    have hr' : k ∈ Region.ready md ops listed := by simpa using hr
    exact wpAnyT_first hl h0 (by simp at hk; omega) (Region.noSelect_spec hs) l.length listed a hc (Region.free_spec h0 hf) hr' hy
      (wpAnyT_lex hl hs l (k + 1) _ _ (by simp at hk; omega) (hc.step hr') (fun j hj => by have := hl' (j + 1) (by simp; omega); simpa [Nat.add_assoc, Nat.add_comm 1 j] using this) hB' hK)
theorem wpAnyIn_of_T {m : Nat} {T : Act → Prop} {Q' : Exit → Act → World → Prop} (hnd : ∀ (i : Nat) (o : Oper), ops[i]? = some o → ∀ c, o.op ≠ .defer c) (hT : ∀ listed a w, Region.ready md ops listed = [m] → Region.ready md ops (listed.setIfInBounds m true) = [] → C w → T a → wpAnyIn F n P md ops Q' 1 listed a w) :
    ∀ (fuel : Nat) (listed : Array Bool) (a : Act) (w : World), C w → wpAnyT F n P md ops C m T fuel listed a → wpAnyIn F n P md ops Q' (fuel + 1) listed a w
  | 0, _, _, _, hw, h => hT _ _ _ h.1.1 h.1.2 hw h.2
  | fuel + 1, _, _, _, hw, h => ⟨fun h0 => absurd h0 h.1, fun i hi => wpOpIn_of_qOpInR hnd hw (fun a' w' hw' => wpAnyIn_of_T hnd hT fuel _ a' w' hw') (h.2 i hi)⟩
def lastB (l : List Oper) : Bool := noDefer l && Region.noSelect l.toArray && lateB .any l.toArray (l.length - 1) && lexLast .any l.toArray (l.length - 1) (l.length - 1) 0 (Array.replicate l.length false)
theorem wpIn_region_last {id : Nat} {Q : Exit → Act → World → Prop} {a : Act} {w : World} {l : List Oper} (hm : P.follows .mixedOrders = true) (hB : lastB l = true) (l' : List Oper) (o : Oper) (hl : l = l' ++ [o])
    (h : wpQuietIn F n P l.toArray (fun w' => ∃ n, w' = w.drewN n) (fun a' => ∀ w', (∃ n, w' = w.drewN n) → wpListIn F n P l.toArray Q [o] a' w') l' a) : (Code.region id l.toArray true).wpIn F n P Q a w := by
  simp only [lastB, Bool.and_eq_true] at hB
  obtain ⟨⟨⟨b1, b2⟩, b3⟩, b4⟩ := hB
  have hlen : l.length = l'.length + 1 := by rw [hl]; simp
  have hm1 : l.length - 1 = l'.length := by omega
  rw [hm1] at b3 b4
  refine wpIn_region_any hm ?_
  rw [show l.toArray.size = l'.length + 1 by simp [hlen]]
  refine wpAnyIn_of_T (C := fun w' => ∃ n, w' = w.drewN n) (m := l'.length) (T := fun a' => ∀ w', (∃ n, w' = w.drewN n) → wpListIn F n P l.toArray Q [o] a' w') (fun i o ho => noDefer_spec b1 ho) ?_ l'.length _ _ _ ⟨1, rfl⟩ ?_
  · intro listed a' w' hr hr2 hw hT
    have hlast : l.toArray[l'.length]? = some o := by rw [hl]; simp
    refine ⟨fun h0 => (by rw [hr] at h0; cases h0), fun i hi => ?_⟩
    rw [hr] at hi
    have : i = l'.length := by simpa using hi
    subst this
    have hT := hT w' hw
    unfold wpOpIn
    simp only [hlast]
    unfold wpListIn at hT
    split
    · rename_i hw'; simp only [hw', if_true] at hT
      exact Oper.wpIn_mono (fun a w h => ⟨hr2, h⟩) hT
    · rename_i hw'; simp only [hw'] at hT
      exact ⟨hT.1, hr2, hT.2⟩
  · refine wpAnyT_lex b3 b2 l' 0 _ a (by omega) (by intro j o ho hj; simp [Array.getElem?_replicate] at hj; split at hj <;> simp at hj) (fun j hj => by rw [hl]; simp [List.getElem?_append_left hj]) (by rw [hlen] at b4; exact b4) h
theorem wpIn_region_tail {id : Nat} {Q : Exit → Act → World → Prop} {a : Act} {w : World} {x : Oper} {l : List Oper} (hm : P.follows .mixedOrders = true) (hB : lastB (x :: l) = true)
    (h : wpQuietIn F n P (x :: l).toArray (fun w' => ∃ n, w' = w.drewN n) (fun a' => ∀ w', (∃ n, w' = w.drewN n) → wpListIn F n P (x :: l).toArray Q [(x :: l).getLast (by simp)] a' w') (x :: l).dropLast a) : (Code.region id (x :: l).toArray true).wpIn F n P Q a w :=
  wpIn_region_last hm hB _ _ (List.dropLast_concat_getLast (by simp)).symm h
theorem wp_region_tail {id : Nat} {Q : Exit → Act → World → Prop} {a : Act} {w : World} {x : Oper} {l : List Oper} (hm : P.follows .mixedOrders = true) (hB : lastB (x :: l) = true)
    (h : wpQuietIn Fence.wide 0 P (x :: l).toArray (fun w' => ∃ n, w' = w.drewN n) (fun a' => ∀ w', (∃ n, w' = w.drewN n) → wpListIn Fence.wide 0 P (x :: l).toArray Q [(x :: l).getLast (by simp)] a' w') (x :: l).dropLast a) : (Code.region id (x :: l).toArray true).wp P Q a w :=
  wpIn_wide.1 (wpIn_region_tail hm hB h)
end Go.Proofs.YtnccklbnncaeoaaGreat
/- copy between rows of bytes, inside a fence too. Whatever the program. -/
namespace Go.Proofs.YtnccklbnncaeoaaGreat
open Go.RowKit

theorem run_copy_rw {P : Program} (w : World) (dT sT ty elem : TypeId) (g o dLen dCap : Nat) (a : Addr) (sLen sCap : Nat) (L cs : List Int) (t : TypeId)
    (hu : P.underlying dT = some (.slice elem)) (hs : (P.info? elem).map (·.size) = some 1)
    (hg : Rw .u8 t w g L) (hn : cs.length = Nat.min sLen dLen) (hsrc : ∀ j, j < cs.length → w.cell? (a.add j) = some (.int .u8 (cs.getD j 0))) (hfit : o + cs.length ≤ L.length) :
    (Builtin.copy_ #[dT, sT] ty #[.slice (some ⟨g, o, none⟩) dLen dCap, .slice (some a) sLen sCap]).run P w =
      .ok (goInt cs.length) (w.setRow g ((splice L o cs).map (Value.int .u8)).toArray) := by
  have h := run_copy_row (P := P) w dT sT ty elem g o dLen dCap a sLen sCap _ t (cs.map (Value.int .u8)) hu hs hg (by simpa using hn) (srcs (κ := .u8) hsrc) (by simpa using hfit) (ones .u8 cs)
  rw [h]
  simp [splice, List.map_take, List.map_drop]

/-- copy as one step of a region that draws its order. -/
theorem step_copy_rw {P : Program} {ops : Array Oper} {o : Oper} {a : Act} {w : World} {K : Act → World → Prop} {Q : Exit → Act → World → Prop} {E : Prop} (hgd : o.guard = none) (d s : Operand) (dT sT : TypeId)
    (ho : o.op = .call { callee := .builtin .copy, args := #[d, s], argTypes := #[dT, sT] }) (elem : TypeId) (hu : P.underlying dT = some (.slice elem)) (hsz : (P.info? elem).map (·.size) = some 1)
    (g off dLen dCap : Nat) (ad : Addr) (sLen sCap : Nat) (hd : a.eval d = .slice (some ⟨g, off, none⟩) dLen dCap) (hs : a.eval s = .slice (some ad) sLen sCap)
    (t : TypeId) (L cs : List Int) (hg : Rw .u8 t w g L) (hn : cs.length = Nat.min sLen dLen) (hsrc : ∀ j, j < cs.length → w.cell? (ad.add j) = some (.int .u8 (cs.getD j 0))) (hfit : off + cs.length ≤ L.length)
    (h : ∀ w', Rw .u8 t w' g (splice L off cs) → w.grownBy w' (some g) → K (a.put o.dst (goInt cs.length)) w') :
    if Region.wanted o (yielded ops a.tmps) = true then Oper.wp P o a w K Q else E := by
  have hw : Region.wanted o (yielded ops a.tmps) = true := by simp [Region.wanted, hgd]
  rw [if_pos hw]
  have hrun := run_copy_rw (P := P) w dT sT o.type elem g off dLen dCap ad sLen sCap L cs t hu hsz hg hn hsrc hfit
  unfold Oper.wp
  simp [execOp, ho, resolve, invoke, builtin, hd, hs, hrun, Result.andThen]
  exact h _ (hg.setRow _) (grown_setRow _ _)

/-- copy as one step of a list of operations; nothing may go over, and then no address is asked. -/
theorem wpList_copy_rw {P : Program} {w : World} {ops : Array Oper} {rest : List Oper} {o : Oper} {a : Act} {Q : Exit → Act → World → Prop} (hgd : o.guard = none) (d s : Operand) (dT sT : TypeId)
    (ho : o.op = .call { callee := .builtin .copy, args := #[d, s], argTypes := #[dT, sT] }) (elem : TypeId) (hu : P.underlying dT = some (.slice elem)) (hsz : (P.info? elem).map (·.size) = some 1)
    (dp sp : Option Addr) (dLen dCap sLen sCap : Nat) (hd : a.eval d = .slice dp dLen dCap) (hs : a.eval s = .slice sp sLen sCap)
    (g off : Nat) (t : TypeId) (L cs : List Int) (hg : Rw .u8 t w g L) (hn : cs.length = Nat.min sLen dLen)
    (hpos : 0 < cs.length → dp = some ⟨g, off, none⟩ ∧ ∃ ad, sp = some ad ∧ ∀ j, j < cs.length → w.cell? (ad.add j) = some (.int .u8 (cs.getD j 0)))
    (hfit : off + cs.length ≤ L.length)
    (h : ∀ w', Rw .u8 t w' g (splice L off cs) → w.grownBy w' (some g) → wpList P ops Q rest (a.put o.dst (goInt cs.length)) w') :
    wpList P ops Q (o :: rest) a w := by
  by_cases h0 : cs.length = 0
  · obtain rfl : cs = [] := List.eq_nil_of_length_eq_zero h0
    refine wpList_copy_nothing hgd d s dT sT ho elem hu hsz dp sp dLen dCap sLen sCap hd hs (by simpa using hn.symm) ?_
    exact h w (by simpa [splice] using hg) (grown_refl _ _)
  · obtain ⟨rfl, ad, rfl, hsrc⟩ := hpos (by omega)
    refine wpList_plain hgd fun K hK => ?_
    have hrun := run_copy_rw (P := P) w dT sT o.type elem g off dLen dCap ad sLen sCap L cs t hu hsz hg hn hsrc hfit
    unfold Oper.wp
    simp [execOp, ho, resolve, invoke, builtin, hd, hs, hrun, Result.andThen]
    exact hK _ _ (h _ (hg.setRow _) (grown_setRow _ _))

/-- copy as one step of a list of operations; nothing may go over, and then no address is asked. -/
theorem wpListIn_copy_rw {F : Fence} {nF : Nat} {P : Program} {w : World} {ops : Array Oper} {rest : List Oper} {o : Oper} {a : Act} {Q : Exit → Act → World → Prop} (hgd : o.guard = none) (d s : Operand) (dT sT : TypeId)
    (ho : o.op = .call { callee := .builtin .copy, args := #[d, s], argTypes := #[dT, sT] }) (elem : TypeId) (hu : P.underlying dT = some (.slice elem)) (hsz : (P.info? elem).map (·.size) = some 1)
    (dp sp : Option Addr) (dLen dCap sLen sCap : Nat) (hd : a.eval d = .slice dp dLen dCap) (hs : a.eval s = .slice sp sLen sCap)
    (g off : Nat) (t : TypeId) (L cs : List Int) (hg : Rw .u8 t w g L) (hn : cs.length = Nat.min sLen dLen)
    (hpos : 0 < cs.length → dp = some ⟨g, off, none⟩ ∧ ∃ ad, sp = some ad ∧ ∀ j, j < cs.length → w.cell? (ad.add j) = some (.int .u8 (cs.getD j 0)))
    (hfit : off + cs.length ≤ L.length)
    (h : ∀ w', Rw .u8 t w' g (splice L off cs) → w.grownBy w' (some g) → wpListIn F nF P ops Q rest (a.put o.dst (goInt cs.length)) w') :
    wpListIn F nF P ops Q (o :: rest) a w := by
  refine wpListIn_plain hgd fun K hK => ?_
  have fin : ∃ w', (Builtin.copy_ #[dT, sT] o.type #[.slice dp dLen dCap, .slice sp sLen sCap]).run P w = .ok (goInt cs.length) w' ∧ Rw .u8 t w' g (splice L off cs) ∧ w.grownBy w' (some g) := by
    by_cases h0 : cs.length = 0
    · obtain rfl : cs = [] := List.eq_nil_of_length_eq_zero h0
      refine ⟨w, ?_, by simpa [splice] using hg, grown_refl _ _⟩
      exact run_copy_none (P := P) w dT sT o.type elem dp sp dLen dCap sLen sCap hu hsz (by simpa using hn.symm)
    · obtain ⟨rfl, ad, rfl, hsrc⟩ := hpos (by omega)
      exact ⟨_, run_copy_rw (P := P) w dT sT o.type elem g off dLen dCap ad sLen sCap L cs t hu hsz hg hn hsrc hfit, hg.setRow _, grown_setRow _ _⟩
  obtain ⟨w', hrun, r1, r2⟩ := fin
  unfold Oper.wpIn
  refine ⟨by simp [Oper.about, ho, resolve, Target.leads, Sem.run_pure], ?_⟩
  rw [Oper.semAt_plain F _ _ (by rw [ho]; intro c hc'; cases hc')]
  simp [execOp, ho, resolve, invoke, builtin, hd, hs, hrun, Result.andThen]
  exact hK _ _ (h _ r1 r2)
theorem run_convert_rw {P : Program} (w : World) (src dst e : TypeId) (hs : P.underlying src = some (.slice e)) (he : P.underlying e = some (.int .u8)) (hd : P.underlying dst = some .string)
    (ao : Option Addr) (len cap : Nat) (xs : List Int) (hlen : xs.length = len) (hpos : 0 < len → ∃ b off, ao = some ⟨b, off, none⟩ ∧ ∀ i, i < len → w.cell? ⟨b, off + i, none⟩ = some (.int .u8 (xs.getD i 0))) :
    (convert src dst (.slice ao len cap)).run P w = .ok (.string (strOfNums xs)) w := by
  by_cases h0 : len = 0
  · subst h0
    obtain rfl : xs = [] := List.eq_nil_of_length_eq_zero hlen
    cases ao with
    | none => rw [run_convert_bytes_nil w src e hs he 0 cap dst hd]; rfl
    | some a =>
      rw [run_convert_bytes_string w src dst e _ 0 cap hs he hd, run_bytesToString w a 0 cap [] (by simp [loadCells, loadCellsFrom])]
      rfl
  · obtain ⟨b, off, rfl, hc⟩ := hpos (by omega)
    exact run_convert_bytes_arg w src e hs he b off len cap xs hlen hc dst hd
end Go.Proofs.YtnccklbnncaeoaaGreat
/- Files as plain functions: pieces over bytes, sectors, where bytes are cut. -/
namespace Go.Proofs.YtnccklbnncaeoaaGreat

/-- How many of n bytes from a on lie in a's sector. -/
def cutl (a n : Nat) : Nat := min (512 - a % 512) n
def pcsF : Nat → Nat → Nat → List (Nat × Nat)
  | 0, _, _ => []
  | f + 1, a, n => if n = 0 then [] else (a, cutl a n) :: pcsF f (a + cutl a n) (n - cutl a n)
/-- The pieces of n bytes from a on: where, and how many. -/
def pcs (a n : Nat) : List (Nat × Nat) := pcsF n a n
theorem cutl_pos {a n : Nat} (h : 0 < n) : 1 ≤ cutl a n := by unfold cutl; omega
theorem cutl_le (a n : Nat) : cutl a n ≤ n := by unfold cutl; omega
theorem cutl_sec (a n : Nat) : a % 512 + cutl a n ≤ 512 := by unfold cutl; omega
theorem pcsF_fuel (f g a n : Nat) (hf : n ≤ f) (hg : n ≤ g) : pcsF f a n = pcsF g a n := by
  induction f generalizing g a n with
  | zero =>
    obtain rfl : n = 0 := by omega
    cases g <;> simp [pcsF]
  | succ f ih =>
    cases g with
    | zero => obtain rfl : n = 0 := by omega
              simp [pcsF]
    | succ g =>
      unfold pcsF
      by_cases h : n = 0
      · simp [h]
      · rw [if_neg h, if_neg h]
        have := cutl_pos (a := a) (n := n) (by omega)
        rw [ih g _ _ (by omega) (by omega)]
theorem pcs_zero (a : Nat) : pcs a 0 = [] := rfl
theorem pcs_step (a n : Nat) (h : 0 < n) : pcs a n = (a, cutl a n) :: pcs (a + cutl a n) (n - cutl a n) := by
  have hc := cutl_pos (a := a) h
  have hl := cutl_le a n
  unfold pcs
  cases n with
  | zero => omega
  | succ n =>
    rw [pcsF, if_neg (by omega)]
    rw [pcsF_fuel n (n + 1 - cutl a (n + 1)) _ _ (by omega) (by omega)]
theorem pcs_mem (n a : Nat) (x : Nat × Nat) (h : x ∈ pcs a n) : a ≤ x.1 ∧ x.1 + x.2 ≤ a + n ∧ 1 ≤ x.2 ∧ x.1 % 512 + x.2 ≤ 512 := by
  induction n using Nat.strongRecOn generalizing a with
  | _ n ih =>
    by_cases h0 : n = 0
    · subst h0; rw [pcs_zero] at h; cases h
    · have hc := cutl_pos (a := a) (n := n) (by omega)
      have hl := cutl_le a n
      have hs := cutl_sec a n
      rw [pcs_step a n (by omega)] at h
      rcases List.mem_cons.1 h with rfl | h
      · exact ⟨Nat.le_refl _, by simp; omega, hc, hs⟩
      · have := ih (n - cutl a n) (by omega) _ h
        exact ⟨by omega, by omega, this.2.2⟩
theorem pcs_len (n a : Nat) : (pcs a n).length ≤ n := by
  induction n using Nat.strongRecOn generalizing a with
  | _ n ih =>
    by_cases h0 : n = 0
    · subst h0; rw [pcs_zero]; simp
    · have hc := cutl_pos (a := a) (n := n) (by omega)
      have hl := cutl_le a n
      rw [pcs_step a n (by omega), List.length_cons]
      have := ih (n - cutl a n) (by omega) (a + cutl a n)
      omega
theorem pcs_cover (n a i : Nat) (h1 : a ≤ i) (h2 : i < a + n) : ∃ x ∈ pcs a n, x.1 ≤ i ∧ i < x.1 + x.2 := by
  induction n using Nat.strongRecOn generalizing a with
  | _ n ih =>
    have hc := cutl_pos (a := a) (n := n) (by omega)
    have hl := cutl_le a n
    rw [pcs_step a n (by omega)]
    by_cases h : i < a + cutl a n
    · exact ⟨_, List.mem_cons_self, h1, h⟩
    · obtain ⟨x, hx, h3⟩ := ih (n - cutl a n) (by omega) (a + cutl a n) (by omega) (by omega)
      exact ⟨x, List.mem_cons_of_mem _ hx, h3⟩

/-- A piece over bytes. -/
def ov (f : Nat → Int) (p : Nat × List Int) : Nat → Int := fun i => if p.1 ≤ i ∧ i < p.1 + p.2.length then p.2.getD (i - p.1) 0 else f i
def ovs (f : Nat → Int) (ps : List (Nat × List Int)) : Nat → Int := ps.foldl ov f
theorem ovs_nil (f : Nat → Int) : ovs f [] = f := rfl
theorem ovs_snoc (f : Nat → Int) (ps : List (Nat × List Int)) (p : Nat × List Int) : ovs f (ps ++ [p]) = ov (ovs f ps) p := by simp [ovs]
theorem ovs_append (f : Nat → Int) (ps qs : List (Nat × List Int)) : ovs f (ps ++ qs) = ovs (ovs f ps) qs := by simp [ovs]
/-- Sector k. -/
def sec (f : Nat → Int) (k : Nat) : List Int := (List.range 512).map fun i => f (512 * k + i)
theorem sec_len (f : Nat → Int) (k : Nat) : (sec f k).length = 512 := by simp [sec]
theorem sec_get (f : Nat → Int) (k i : Nat) (h : i < 512) : (sec f k).getD i 0 = f (512 * k + i) := by simp [sec, List.getD, h]
theorem sec_ext {f g : Nat → Int} {k : Nat} : sec f k = sec g k ↔ ∀ i, i < 512 → f (512 * k + i) = g (512 * k + i) := by
  constructor
  · intro h i hi
    rw [← sec_get f k i hi, ← sec_get g k i hi, h]
  · intro h
    apply List.ext_getElem (by simp [sec_len])
    intro i h1 h2
    have hi : i < 512 := by simpa [sec_len] using h1
    simp [sec, h i hi]
theorem sec_ov_other (f : Nat → Int) (p : Nat × List Int) (k : Nat) (hp : p.1 % 512 + p.2.length ≤ 512) (h : k ≠ p.1 / 512) : sec (ov f p) k = sec f k := by
  rw [sec_ext]
  intro i hi
  unfold ov
  rw [if_neg]
  omega
theorem ext_getD {xs ys : List Int} (hl : xs.length = ys.length) (h : ∀ i, i < xs.length → xs.getD i 0 = ys.getD i 0) : xs = ys := by
  apply List.ext_getElem hl
  intro i h1 h2
  have := h i h1
  simpa [List.getD, h1, h2] using this
theorem getD_splice (L cs : List Int) (o i : Nat) (h : o + cs.length ≤ L.length) : (splice L o cs).getD i 0 = if o ≤ i ∧ i < o + cs.length then cs.getD (i - o) 0 else L.getD i 0 := by
  unfold splice
  simp only [List.getD_eq_getElem?_getD]
  by_cases ha : i < o
  · rw [List.getElem?_append_left (by simp; omega), if_neg (by omega), List.getElem?_take_of_lt ha]
  · rw [List.getElem?_append_right (by simp; omega)]
    have e : i - (List.take o L).length = i - o := by simp; omega
    rw [e]
    by_cases hb : i < o + cs.length
    · rw [List.getElem?_append_left (by omega), if_pos (by omega)]
    · rw [List.getElem?_append_right (by omega), if_neg (by omega), List.getElem?_drop]
      rw [show o + cs.length + (i - o - cs.length) = i by omega]
theorem sec_ov_same (f : Nat → Int) (p : Nat × List Int) (hp : p.1 % 512 + p.2.length ≤ 512) : splice (sec f (p.1 / 512)) (p.1 % 512) p.2 = sec (ov f p) (p.1 / 512) := by
  have hl : (splice (sec f (p.1 / 512)) (p.1 % 512) p.2).length = 512 := by rw [length_splice _ _ _ (by rw [sec_len]; exact hp), sec_len]
  refine ext_getD (by rw [hl, sec_len]) fun i hi => ?_
  rw [hl] at hi
  rw [getD_splice _ _ _ _ (by rw [sec_len]; exact hp), sec_get _ _ _ hi, sec_get _ _ _ hi]
  unfold ov
  have e : 512 * (p.1 / 512) + i - p.1 = i - p.1 % 512 := by omega
  by_cases hc : p.1 % 512 ≤ i ∧ i < p.1 % 512 + p.2.length
  · rw [if_pos hc, if_pos (by omega), e]
  · rw [if_neg hc, if_neg (by omega)]
def zero (_ : Nat) : Int := 0
theorem sec_zero (k : Nat) : sec zero k = List.replicate 512 0 := by
  unfold sec zero
  rw [List.map_const']
  rw [List.length_range]
end Go.Proofs.YtnccklbnncaeoaaGreat
/- Bytes that never change (Bs), and a piece put over a sector (put). -/
namespace Go.Proofs.YtnccklbnncaeoaaGreat
open Go.RowKit

theorem Tryz.info5 : (Tryz.prog.info? 5).map (fun i => (i.zero, i.size, i.bytes)) = some (some (.int .u8 0), 1, 1) := by kernel_rfl
theorem info5s : (Tryz.prog.info? 5).map (·.size) = some 1 := by kernel_rfl
theorem hmix : Tryz.prog.follows .mixedOrders = true := by kernel_rfl
theorem drewN_kp (F : Nat → Prop) (w : World) (n : Nat) : Kp F w (w.drewN n) := by
  induction n generalizing w with
  | zero => exact Kp.refl _ _
  | succ n ih => exact (ih w).drew

/-- A struct's cells. -/
def St (t : TypeId) (w : World) (g : Nat) (cs : Array Value) : Prop := w.heap[g]? = some (.cells cs t (0, 0))
theorem St.cell {t : TypeId} {w : World} {g : Nat} {cs : Array Value} (h : St t w g cs) (i : Nat) : w.cell? ⟨g, i, none⟩ = cs[i]? := cell_of_row w g i _ t _ h
theorem St.frozen {t : TypeId} {w : World} {g : Nat} {cs : Array Value} (h : St t w g cs) (i : Nat) : w.frozen? ⟨g, i, none⟩ = false := frozen_of_row w g i _ t h
theorem St.lt {t : TypeId} {w : World} {g : Nat} {cs : Array Value} (h : St t w g cs) : g < w.heap.size := (Array.getElem?_eq_some_iff.1 h).1
theorem St.set {t : TypeId} {w : World} {g : Nat} {cs : Array Value} (h : St t w g cs) (i : Nat) (v : Value) : St t (w.setCell ⟨g, i, none⟩ v) g (cs.set! i v) := by
  unfold St
  rw [heap_setCell_same w g i _ t _ h]; simp
theorem St.kp {t : TypeId} {F : Nat → Prop} {w w' : World} {g : Nat} {cs : Array Value} (h : St t w g cs) (k : Kp F w w') (hf : ¬ F g) : St t w' g cs := by
  unfold St; rw [k.block g h.lt hf]; exact h
theorem St.below {t : TypeId} {w w' : World} {g B : Nat} {cs : Array Value} (h : St t w g cs) (k : Below B w w') (hg : g < B) : St t w' g cs := by
  unfold St; rw [k.block g hg]; exact h
theorem St.new (t : TypeId) (w : World) (cs : Array Value) : St t (w.alloc (.cells cs t)) w.heap.size cs := heap_alloc_new w _
theorem kp_setCell (w : World) (g i : Nat) (v : Value) (F : Nat → Prop) (hF : F g) : Kp F w (w.setCell ⟨g, i, none⟩ v) :=
  ⟨rfl, rfl, rfl, by simp, fun k _ hk => heap_setCell_other w ⟨g, i, none⟩ k v (fun e => hk (by rw [e]; exact hF))⟩
/-- A slice that reads as these bytes, in a block of which D holds. -/
def Bs (D : Nat → Prop) (w : World) (v : Value) (xs : List Int) : Prop :=
  ∃ g off cap, v = .slice (some ⟨g, off, none⟩) xs.length cap ∧ D g ∧ g < w.heap.size ∧ xs.length ≤ cap ∧ cap ≤ maxLen ∧ ∀ i, i < xs.length → w.cell? ⟨g, off + i, none⟩ = some (.int .u8 (xs.getD i 0))
theorem Bs.kp {D F : Nat → Prop} {w w' : World} {v : Value} {xs : List Int} (h : Bs D w v xs) (k : Kp F w w') (hd : ∀ i, D i → ¬ F i) : Bs D w' v xs := by
  obtain ⟨g, off, cap, rfl, hg, hl, h1, h2, hc⟩ := h
  refine ⟨g, off, cap, rfl, hg, Nat.lt_of_lt_of_le hl k.size, h1, h2, fun i hi => ?_⟩
  rw [← hc i hi]
  have hb := k.block g hl (hd g hg)
  unfold World.cell?
  simp only [hb]
theorem Bs.mono {D D' : Nat → Prop} {w : World} {v : Value} {xs : List Int} (h : Bs D w v xs) (hd : ∀ i, i < w.heap.size → D i → D' i) : Bs D' w v xs := by
  obtain ⟨g, off, cap, rfl, hg, hl, h1, h2, hc⟩ := h
  exact ⟨g, off, cap, rfl, hd g hl hg, hl, h1, h2, hc⟩
theorem kp_mp {κ : Type} {mk : κ → Value} {F : Nat → Prop} {w w' : World} {b c : Nat} {es : List (κ × Value × Nat)} (h : Mp mk w b es c) (k : Kp F w w') (hf : ¬ F b) : Mp mk w' b es c := h.of_block (k.block b h.lt hf)
theorem kp_cell {F : Nat → Prop} {w w' : World} {g i : Nat} {v : Value} (k : Kp F w w') (h : w.cell? ⟨g, i, none⟩ = some v) (hf : ¬ F g) : w'.cell? ⟨g, i, none⟩ = some v := by
  rw [← h]
  have hb := k.block g (block_lt_of_cell h) hf
  unfold World.cell?
  simp only [hb]
theorem kp_frozen {F : Nat → Prop} {w w' : World} {g i : Nat} (k : Kp F w w') (hl : g < w.heap.size) (hf : ¬ F g) : w'.frozen? ⟨g, i, none⟩ = w.frozen? ⟨g, i, none⟩ := by
  have hb := k.block g hl hf
  unfold World.frozen?
  simp only [hb]
set_option maxRecDepth 100000 in
set_option maxHeartbeats 1000000 in
/-- A whole sector. -/
theorem put_whole (m c p k : Nat) (es : List (Int × Value × Nat)) (ao : Option Addr) (cap : Nat) (w : World) (hm : Mp (Value.int .i64) w m es c) (hp : p = 512 * k) (hpb : p ≤ 1000000000000) :
    Calls Tryz.prog 161 #[.map (some m), .agg #[.int .i64 p, .slice ao 512 cap]] w fun e w' => e = .returned (.tuple #[]) ∧ Mp (Value.int .i64) w' m (mput es k (.slice ao 512 cap) c) (mclk es k c) ∧ Kp (fun i => i = m) w w' := by
  have hk : (p : Int) / 512 = (k : Int) := by omega
  have HM : Hid (Mp (Value.int .i64) (w.alloc (.cells #[.int .i64 p, .slice ao 512 cap] 215)) m es c) := kp_mp (F := fun _ => False) hm ((Kp.refl _ _).alloc _) (fun h => h)
  clear hm hp
  go_enter Tryz.func161, Tryz.ntmps161
  go_wp2_with (first | (at_mapUpdate; refine wpList_update_mp rfl _ _ _ rfl (ky_int Tryz.underlying2) Tryz.underlying161 m c es rfl HM.out (k : Int) rfl _ rfl ?_; intro w1 m1 g1))
  refine bodyPost_ret (results_none rfl _ _ _) rfl ?_
  exact ⟨rfl, m1, ((Kp.refl _ _).alloc _).trans (Kp.of_grown (F := fun i => i = m) g1 (fun i e => by cases e; rfl)) (fun _ _ h => h)⟩
theorem splice_all (L cs : List Int) (h : cs.length = L.length) : splice L 0 cs = cs := by
  unfold splice
  rw [List.take_zero, List.nil_append, Nat.zero_add, h, List.drop_length, List.append_nil]
set_option maxRecDepth 100000 in
set_option maxHeartbeats 2000000 in
/-- A part of a sector. -/
theorem put_part (D : Nat → Prop) (m c p k r n g off cap : Nat) (es : List (Int × Value × Nat)) (xs old : List Int) (w : World) (hm : Mp (Value.int .i64) w m es c) (hp : p = 512 * k + r) (hnx : n = xs.length) (hr : r + n ≤ 512) (hl : n < 512) (hl1 : 1 ≤ n) (hpb : p ≤ 1000000000000)
    (hgl : g < w.heap.size) (hcs : ∀ i, i < xs.length → w.cell? ⟨g, off + i, none⟩ = some (.int .u8 (xs.getD i 0))) (hol : old.length = 512) (ho : ∀ u, mget es k = some u → Bs D w u old) (hn : mget es k = none → old = List.replicate 512 0) :
    Calls Tryz.prog 161 #[.map (some m), .agg #[.int .i64 p, .slice (some ⟨g, off, none⟩) n cap]] w fun e w' => e = .returned (.tuple #[]) ∧ ∃ v', Mp (Value.int .i64) w' m (mput es k v' c) (mclk es k c) ∧ Bs (fun i => w.heap.size ≤ i) w' v' (splice old r xs) ∧ Kp (fun i => i = m) w w' := by
  have hk : (p : Int) / 512 = (k : Int) := by omega
  have hrr : (p : Int) % 512 = (r : Int) := by omega
  have hr5 : r < 512 := by omega
  have hmlt := hm.lt
  have HM0 : Hid (Mp (Value.int .i64) w m es c) := hm
  have hlb : ((n : Int) == 512) = false := beq_eq_false_iff_ne.2 (by omega)
  have HN : Hid (n = xs.length) := hnx
  obtain ⟨u, hu⟩ : ∃ u, u = (mget es (k : Int)).getD (.slice none 0 0) := ⟨_, rfl⟩
  have HU : Hid ((mget es (k : Int)).getD (.slice none 0 0) = u) := hu.symm
  obtain ⟨Z, hZ⟩ : ∃ Z : List Int, List.replicate 512 0 = Z := ⟨_, rfl⟩
  have HZ : Hid (List.replicate 512 (0 : Int) = Z) := hZ
  have HZL : Hid (Z.length = 512) := by show _ = _; rw [← hZ, List.length_replicate]
  have HC : Hid (∀ i, i < xs.length → w.cell? ⟨g, off + i, none⟩ = some (.int .u8 (xs.getD i 0))) := hcs
  have HOL : Hid (old.length = 512) := hol
  -- what is copied of the old sector
  obtain ⟨us, ul, uc, ua, HUS, HUE, HUL⟩ : ∃ (us : List Int) (ul uc : Nat) (ua : Option Addr), Hid (u = .slice ua ul uc ∧ us.length = Nat.min ul 512 ∧ (0 < us.length → ∃ g2 off2, ua = some ⟨g2, off2, none⟩ ∧ g2 < w.heap.size ∧ ∀ j, j < us.length → w.cell? ⟨g2, off2 + j, none⟩ = some (.int .u8 (us.getD j 0)))) ∧ Hid (splice Z 0 us = old) ∧ Hid (us.length ≤ 512) := by
    cases hq : mget es (k : Int) with
    | none =>
      refine ⟨[], 0, 0, none, ?_, ?_, ?_⟩
      · exact ⟨by rw [hu, hq]; rfl, rfl, fun h => absurd h (by simp)⟩
      · show _ = _; rw [hn hq, hZ]; simp [splice]
      · show _ ≤ _; simp
    | some u0 =>
      obtain ⟨g2, off2, cap2, h1, h2, h3, h4, h5, h6⟩ := ho u0 hq
      refine ⟨old, 512, cap2, some ⟨g2, off2, none⟩, ?_, ?_, ?_⟩
      · refine ⟨by rw [hu, hq, ← hol]; exact h1, by rw [hol]; rfl, fun _ => ⟨_, _, rfl, h3, h6⟩⟩
      · show _ = _; exact splice_all _ _ (by rw [hol, HZL.out])
      · show _ ≤ _; rw [hol]; exact Nat.le_refl _
  obtain ⟨rfl, hue1, hue2⟩ := HUS.out
  have HU1 : Hid (us.length = Nat.min ul 512) := hue1
  have HU2 : Hid (0 < us.length → ∃ g2 off2, ua = some ⟨g2, off2, none⟩ ∧ g2 < w.heap.size ∧ ∀ j, j < us.length → w.cell? ⟨g2, off2 + j, none⟩ = some (.int .u8 (us.getD j 0))) := hue2
  clear hm hp hnx hcs hol ho hn hu hZ hue1 hue2 HUS
  have HU3 : ∀ w1, Hid (Below w.heap.size w w1) → 0 < us.length → ∃ ad, ua = some ad ∧ ∀ j, j < us.length → w1.cell? (ad.add j) = some (.int .u8 (us.getD j 0)) := by
    intro w1 hb hp
    obtain ⟨g2, off2, e, h3, h4⟩ := HU2.out hp
    refine ⟨_, e, fun j hj => ?_⟩
    rw [add_o]
    exact (hb.out.cell (p := ⟨g2, off2 + j, none⟩) h3).trans (h4 j hj)
  have HST : Hid (St 215 (w.alloc (.cells #[.int .i64 p, .slice (some ⟨g, off, none⟩) n cap] 215)) w.heap.size #[.int .i64 p, .slice (some ⟨g, off, none⟩) n cap]) := St.new 215 w _
  go_enter Tryz.func161, Tryz.ntmps161
  go_wp2_with (first | (at_make; refine wpList_make_rw (κ := .u8) 47 5 1 Tryz.underlying47 Tryz.info5 (by decide) rfl _ _ rfl 512 rfl rfl (by omega) ?_; intro w1 r1 b1; rw [HZ.out, World.size_alloc] at r1; have B1 : Hid (Below w.heap.size w w1) := ((Below.refl _ w).alloc (Nat.le_refl _) _).trans (b1.mono (by simp)); have R1 : Hid (Rw .u8 5 w1 (w.heap.size + 1) Z) := r1; have S1 : Hid (St 215 w1 w.heap.size #[.int .i64 p, .slice (some ⟨g, off, none⟩) n cap]) := HST.out.below b1 (by simp); clear r1 b1) | (at_lookup; refine wpList_lookup_mp rfl _ _ rfl (ky_int Tryz.underlying2) Tryz.underlying161 (.slice none 0 0) (Tryz.zeroValue47 _) m c es rfl (kp_mp (F := fun _ => False) HM0.out (Kp.of_below B1.out) (fun h => h)) (k : Int) rfl _ HU.out ?_) | (refine wpList_copy_rw rfl (.tmp 18) (.tmp 21) 47 47 rfl 5 Tryz.underlying47 info5s _ _ _ _ _ _ rfl rfl (w.heap.size + 1) 0 5 Z us R1.out HU1.out (fun h => ⟨rfl, HU3 w1 B1 h⟩) (by rw [HZL.out, Nat.zero_add]; exact HUL.out) ?_; intro w2 r2 g2; rw [HUE.out] at r2; have R2 : Hid (Rw .u8 5 w2 (w.heap.size + 1) old) := r2; have B2 : Hid (Below w.heap.size w w2) := B1.out.grown g2 B1.out.size (fun j e => by cases e; omega); have S2 := S1.out.kp (F := fun i => i = w.heap.size + 1) (Kp.of_grown g2 (fun i e => by cases e; rfl)) (by omega); clear r2 g2 R1 B1))
  go_frame
  have c0 : w2.cell? ⟨w.heap.size, 0, none⟩ = some (.int .i64 p) := S2.cell 0
  have c1 : w2.cell? ⟨w.heap.size, 1, none⟩ = some (.slice (some ⟨g, off, none⟩) n cap) := S2.cell 1
  have hr6 : ¬ 512 = r := by omega
  clear S2 S1 HST
  refine wp_region_tail hmix (by kernel_rfl) ?_
  dsimp only [List.dropLast, List.getLast]
  repeat (gi_big_quiet_step (fail))
  refine wpQuietIn_nil ?_
  intro _ hw'
  obtain ⟨nq, hw2⟩ := hw'
  subst hw2
  refine wpListIn_copy_rw rfl (.tmp 27) (.tmp 29) 47 47 rfl 5 Tryz.underlying47 info5s _ _ _ _ _ _ rfl rfl (w.heap.size + 1) r 5 old xs (R2.out.kp (F := fun _ => False) (drewN_kp _ _ _) (fun h => h)) (by rw [← HN.out]; exact (Nat.min_eq_left (by omega)).symm) (fun _ => ⟨rfl, _, rfl, fun j hj => ?_⟩) (by rw [HOL.out, ← HN.out]; omega) ?_
  · rw [add_o]
    have hc := HC.out j hj
    exact kp_cell (F := fun _ => False) (drewN_kp _ _ _) ((B2.out.cell (p := ⟨g, off + j, none⟩) hgl).trans hc) (fun h => h)
  intro w3 r3 g3
  have K3 : Hid (Kp (fun i => i = w.heap.size + 1) w2 w3) := (drewN_kp _ _ _).trans (Kp.of_grown (F := fun i => i = w.heap.size + 1) g3 (fun i e => by cases e; rfl)) (fun _ _ h => h)
  have HM3 : Hid (Mp (Value.int .i64) w3 m es c) := kp_mp (kp_mp (F := fun _ => False) HM0.out (Kp.of_below B2.out) (fun h => h)) K3.out (by omega)
  have R3 : Hid (Rw .u8 5 w3 (w.heap.size + 1) (splice old r xs)) := r3
  clear r3 g3 c0 c1
  unfold wpListIn
  go_frame
  go_wp2_with (first | (at_mapUpdate; refine wpList_update_mp rfl _ _ _ rfl (ky_int Tryz.underlying2) Tryz.underlying161 m c es rfl HM3.out (k : Int) rfl (.slice (some ⟨w.heap.size + 1, 0, none⟩) 512 512) rfl ?_; intro w4 m4 g4))
  go_end0
  have hs : (splice old r xs).length = 512 := by rw [length_splice _ _ _ (by rw [HOL.out, ← HN.out]; omega), HOL.out]
  have hz := B2.out.size
  have R4 := R3.out.grown g4 (by intro e; cases e; omega)
  refine ⟨rfl, _, m4, ⟨w.heap.size + 1, 0, 512, by rw [hs], by omega, R4.lt, by rw [hs]; exact Nat.le_refl _, by unfold maxLen; omega, fun i hi => R4.cells i hi⟩, ?_⟩
  exact (((Kp.of_below B2.out).trans K3.out (fun i hi h => by omega)).trans (Kp.of_grown (F := fun i => i = m) g4 (fun i e => by cases e; rfl)) (fun i _ h => h))
/-- A piece put over its sector. -/
theorem put_any (D : Nat → Prop) (m c p k r : Nat) (es : List (Int × Value × Nat)) (xs old : List Int) (v : Value) (w : World) (hm : Mp (Value.int .i64) w m es c) (hp : p = 512 * k + r) (hr : r + xs.length ≤ 512) (hl1 : 1 ≤ xs.length) (hpb : p ≤ 1000000000000)
    (hv : Bs D w v xs) (hol : old.length = 512) (ho : ∀ u, mget es k = some u → Bs D w u old) (hn : mget es k = none → old = List.replicate 512 0) (hDm : ¬ D m) :
    Calls Tryz.prog 161 #[.map (some m), .agg #[.int .i64 p, v]] w fun e w' => e = .returned (.tuple #[]) ∧ ∃ v', Mp (Value.int .i64) w' m (mput es k v' c) (mclk es k c) ∧ Bs (fun i => D i ∨ w.heap.size ≤ i) w' v' (splice old r xs) ∧ Kp (fun i => i = m) w w' := by
  have hv' := hv
  obtain ⟨g, off, cap, rfl, hD, hgl, _, _, hcs⟩ := hv
  by_cases hl : xs.length = 512
  · have hr0 : r = 0 := by omega
    subst hr0
    rw [hl] at hv' ⊢
    refine (put_whole m c p k es (some ⟨g, off, none⟩) cap w hm (by omega) hpb).mono ?_
    rintro e w' ⟨rfl, h1, h2⟩
    refine ⟨rfl, _, h1, ?_, h2⟩
    rw [splice_all _ _ (by rw [hl, hol])]
    exact (hv'.kp h2 (fun i hi e => hDm (by rw [← e]; exact hi))).mono (fun i _ h => .inl h)
  · refine (put_part D m c p k r xs.length g off cap es xs old w hm hp rfl hr (by omega) hl1 hpb hgl hcs hol ho hn).mono ?_
    rintro e w' ⟨rfl, v', h1, h2, h3⟩
    exact ⟨rfl, v', h1, h2.mono (fun i _ h => .inr h), h3⟩
end Go.Proofs.YtnccklbnncaeoaaGreat
/- A range over a map that is kept as a list of entries. Whatever the program. -/
namespace Go.Proofs.YtnccklbnncaeoaaGreat
open Go.ChangeMaps Go.MapKept

/-- The iterator at r over the map bm has handed out ds. -/
structure Mi {κ : Type} (w : World) (r bm c : Nat) (es ds : List (κ × Value × Nat)) : Prop where
  it : ∃ seen : Array Nat, w.heap[r]? = some (.mapIter (some bm) c seen c) ∧ seen.toList = ds.map (·.2.2)
  nd : ds.Nodup
  sub : ∀ e ∈ ds, e ∈ es
theorem Mi.lt {κ : Type} {w : World} {r bm c : Nat} {es ds : List (κ × Value × Nat)} (h : Mi w r bm c es ds) : r < w.heap.size := by
  obtain ⟨s, h1, _⟩ := h.it
  exact (Array.getElem?_eq_some_iff.1 h1).1
theorem Mi.kp {κ : Type} {F : Nat → Prop} {w w' : World} {r bm c : Nat} {es ds : List (κ × Value × Nat)} (h : Mi w r bm c es ds) (k : Kp F w w') (hf : ¬ F r) : Mi w' r bm c es ds := by
  have hl := h.lt
  obtain ⟨s, h1, h2⟩ := h.it
  exact ⟨⟨s, (k.block r hl hf).trans h1, h2⟩, h.nd, h.sub⟩
theorem run_range_mp {κ : Type} {P : Program} {K E T : TypeId} {mk : κ → Value} (ht : P.underlying T = some (.map K E)) {w : World} {b c : Nat} {es : List (κ × Value × Nat)} (h : Mp mk w b es c) :
    (Instr.range T (.map (some b))).run P w = .ok (.pointer (some ⟨w.heap.size, 0, none⟩)) (w.alloc (.mapIter (some b) c #[] c)) := run_range_map w T K E b _ c ht h.1
theorem mi_new {κ : Type} (w : World) (bm c : Nat) (es : List (κ × Value × Nat)) : Mi (w.alloc (.mapIter (some bm) c #[] c)) w.heap.size bm c es [] :=
  ⟨⟨#[], Go.heap_alloc_new w _, rfl⟩, List.nodup_nil, fun _ h => by cases h⟩
theorem born_inj_mp {κ : Type} {es : List (κ × Value × Nat)} {c : Nat} (h : Kok es c) {a b : κ × Value × Nat} (ha : a ∈ es) (hb : b ∈ es) (e : a.2.2 = b.2.2) : a = b := by
  have hn := h.2.1
  clear h
  induction es with
  | nil => cases ha
  | cons x es ih =>
    simp only [List.map_cons, List.nodup_cons, List.mem_map, not_exists, not_and] at hn
    rcases List.mem_cons.1 ha with h1 | h1 <;> rcases List.mem_cons.1 hb with h2 | h2
    · rw [h1, h2]
    · exact absurd (h1 ▸ e.symm) (hn.1 b h2)
    · exact absurd (h2 ▸ e) (hn.1 a h1)
    · exact ih h1 h2 hn.2
theorem nd_of_map {α β : Type} (f : α → β) : ∀ l : List α, (l.map f).Nodup → l.Nodup
  | [], _ => List.nodup_nil
  | x :: l, h => by
    rw [List.map_cons, List.nodup_cons] at h
    exact List.nodup_cons.2 ⟨fun hm => h.1 (List.mem_map.2 ⟨x, hm, rfl⟩), nd_of_map f l h.2⟩
theorem kok_nodup {κ : Type} {es : List (κ × Value × Nat)} {c : Nat} (h : Kok es c) : es.Nodup := by
  exact nd_of_map _ es h.2.1
/-- The next one: all have come, or one comes that has not yet. -/
theorem Mi.next {κ : Type} {P : Program} {mk : κ → Value} {w : World} {r bm c : Nat} {es ds : List (κ × Value × Nat)} (h : Mi w r bm c es ds) (hm : Mp mk w bm es c) (hne : r ≠ bm) (ty : TypeId) :
    (ds.Perm es ∧ (Instr.next (.pointer (some ⟨r, 0, none⟩)) false ty).run P w = .ok (.tuple #[.bool false]) w) ∨
    ∃ e w', e ∈ es ∧ e ∉ ds ∧ (Instr.next (.pointer (some ⟨r, 0, none⟩)) false ty).run P w = .ok (.tuple #[.bool true, mk e.1, e.2.1]) w' ∧ Mi w' r bm c es (ds ++ [e]) ∧ Kp (fun i => i = r) w w' ∧ (Instr.entry (.pointer (some ⟨r, 0, none⟩))).run P w' = .ok (.tuple #[mk e.1, e.2.1]) w' := by
  obtain ⟨seen, h1, h2⟩ := h.it
  have hold : ∀ x ∈ ((es.map (ent mk)).toArray).toList, x.born < c := by
    intro x hx
    simp only [List.mem_map] at hx
    obtain ⟨e, he, rfl⟩ := hx
    exact hm.2.2.2 e he
  have hcon : ∀ b, seen.contains b = true ↔ b ∈ ds.map (·.2.2) := by
    intro b
    rw [← h2, Array.mem_toList_iff, Array.contains_iff_mem]
  rcases run_next_at (P := P) w ty r bm c c seen _ c h1 hm.1 hold (Nat.le_refl _) with ⟨h0, hrun⟩ | ⟨e, he, w1, hal, hrun⟩
  · refine .inl ⟨?_, hrun⟩
    refine (List.perm_ext_iff_of_nodup h.nd (kok_nodup hm.2)).2 (fun a => ⟨h.sub a, fun ha => ?_⟩)
    have := all_seen _ seen h0 (ent mk a) (by simp; exact ⟨_, _, _, ha, rfl⟩)
    rw [hcon] at this
    obtain ⟨b, hb, he⟩ := List.mem_map.1 this
    have := born_inj_mp hm.2 (h.sub b hb) ha he
    rw [← this]; exact hb
  · obtain ⟨hem, hes⟩ := mem_left he
    simp only [List.mem_map] at hem
    obtain ⟨a, ha, rfl⟩ := hem
    have hnd : a ∉ ds := by
      intro h3
      have : seen.contains a.2.2 = true := (hcon _).2 (List.mem_map.2 ⟨a, h3, rfl⟩)
      rw [show (ent mk a).born = a.2.2 from rfl, this] at hes
      cases hes
    have hr1 : w1.heap[r]? = some (.mapIter (some bm) c seen c) := by rcases hal with rfl | rfl <;> exact h1
    have hb1 : w1.heap[bm]? = some (.map (es.map (ent mk)).toArray c) := by rcases hal with rfl | rfl <;> exact hm.1
    have hset := heap_set (o' := .mapIter (some bm) c (seen.push (ent mk a).born) c) hr1
    have hb' := (hset.2 bm (fun e1 => hne e1.symm)).trans hb1
    refine .inr ⟨a, _, ha, hnd, hrun, ⟨⟨_, hset.1, ?_⟩, ?_, ?_⟩, ?_, run_entry_at _ r bm c seen _ c (ent mk a) hset.1 hb' (by simp; exact ⟨_, _, _, ha, rfl⟩) ?_⟩
    · rw [Array.toList_push, h2]; simp [ent]
    · rw [List.nodup_append]
      refine ⟨h.nd, by simp, fun x hx y hy e => ?_⟩
      rw [List.mem_singleton.1 hy] at e
      exact hnd (e ▸ hx)
    · intro x hx
      rcases List.mem_append.1 hx with hx | hx
      · exact h.sub x hx
      · rw [List.mem_singleton.1 hx]; exact ha
    · rcases hal with rfl | rfl <;> exact ⟨rfl, rfl, rfl, by simp [setBlock], fun i _ hi => hset.2 i hi⟩
    · have := hm.2.2.1
      simpa [List.map_map, Function.comp_def, ent] using this
end Go.Proofs.YtnccklbnncaeoaaGreat
