/- Who waits for whom: plain mathematics. It names no program. -/
namespace Go.Proofs.YtnccklbnncaeoaaGreat
set_option linter.unusedVariables false

/-- By one step or several. -/
def Rn (W : Nat → List Nat) : Nat → Nat → Nat → Prop
  | 0, a, b => b ∈ W a
  | n + 1, a, b => ∃ c, c ∈ W a ∧ Rn W n c b
def Rch (W : Nat → List Nat) (a b : Nat) : Prop := ∃ n, Rn W n a b
theorem Rch.one {W : Nat → List Nat} {a b : Nat} (h : b ∈ W a) : Rch W a b := ⟨0, h⟩
theorem Rch.step {W : Nat → List Nat} {a b c : Nat} (h : b ∈ W a) (k : Rch W b c) : Rch W a c := by
  obtain ⟨n, hn⟩ := k
  exact ⟨n + 1, b, h, hn⟩
theorem Rch.ind {W : Nat → List Nat} {motive : ∀ a b, Rch W a b → Prop} (one : ∀ {a b : Nat} (h : b ∈ W a), motive a b (.one h)) (step : ∀ {a b c : Nat} (h : b ∈ W a) (k : Rch W b c) (ih : motive b c k), motive a c (.step h k)) {a b : Nat} (h : Rch W a b) : motive a b h := by
  obtain ⟨n, hn⟩ := h
  induction n generalizing a with
  | zero => exact one hn
  | succ n ih =>
    obtain ⟨c, h1, h2⟩ := hn
    exact step h1 ⟨n, h2⟩ (ih h2)
theorem Rch.trans {W : Nat → List Nat} {a b c : Nat} (h : Rch W a b) (k : Rch W b c) : Rch W a c := by
  induction h using Rch.ind with
  | one h => exact .step h k
  | step h _ ih => exact .step h (ih k)
theorem Rch.last {W : Nat → List Nat} {a b : Nat} (h : Rch W a b) : ∃ c, b ∈ W c ∧ (c = a ∨ Rch W a c) := by
  induction h using Rch.ind with
  | one h => exact ⟨_, h, .inl rfl⟩
  | step h _ ih =>
    obtain ⟨c, h1, h2⟩ := ih
    refine ⟨c, h1, .inr ?_⟩
    rcases h2 with rfl | h2
    · exact .one h
    · exact .step h h2
theorem Rch.mono {W V : Nat → List Nat} (hs : ∀ a b, b ∈ W a → b ∈ V a) {a b : Nat} (h : Rch W a b) : Rch V a b := by
  induction h using Rch.ind with
  | one h => exact .one (hs _ _ h)
  | step h _ ih => exact .step (hs _ _ h) ih
/-- There is a height that falls with each step: nobody waits for itself. -/
def Ranked (W : Nat → List Nat) : Prop := ∃ rk : Nat → Nat, ∀ a b, b ∈ W a → rk b < rk a
theorem Ranked.sub {W V : Nat → List Nat} (h : Ranked W) (hs : ∀ a b, b ∈ V a → b ∈ W a) : Ranked V := by
  obtain ⟨rk, h⟩ := h
  exact ⟨rk, fun a b hb => h a b (hs a b hb)⟩
theorem Ranked.none {W : Nat → List Nat} (h : ∀ a, W a = []) : Ranked W := ⟨fun _ => 0, fun a b hb => by rw [h] at hb; cases hb⟩
theorem Ranked.irr {W : Nat → List Nat} (h : Ranked W) (a : Nat) : ¬ Rch W a a := by
  obtain ⟨rk, h⟩ := h
  have : ∀ x y, Rch W x y → rk y < rk x := by
    intro x y hxy
    induction hxy using Rch.ind with
    | one hb => exact h _ _ hb
    | step hb _ ih => exact Nat.lt_trans ih (h _ _ hb)
  exact fun hr => Nat.lt_irrefl _ (this _ _ hr)
/-- One more step from p to o, where o does not lead to p. -/
theorem Ranked.add {W V : Nat → List Nat} {p o : Nat} (h : Ranked W) (hn : ¬ Rch W o p) (hp : o ≠ p) (hV : ∀ a b, b ∈ V a → b ∈ W a ∨ (a = p ∧ b = o)) : Ranked V := by
  obtain ⟨rk, h⟩ := h
  have hex : ∀ x, ∃ n, ((x = p ∨ Rch W x p) → n = rk x + rk o + 1) ∧ (¬ (x = p ∨ Rch W x p) → n = rk x) := fun x => by
    by_cases hx : x = p ∨ Rch W x p
    · exact ⟨_, fun _ => rfl, fun e => absurd hx e⟩
    · exact ⟨_, fun e => absurd e hx, fun _ => rfl⟩
  refine ⟨fun x => (hex x).choose, fun a b hb => ?_⟩
  have ha1 := (hex a).choose_spec
  have hb1 := (hex b).choose_spec
  dsimp only
  rcases hV a b hb with h1 | ⟨rfl, rfl⟩
  · have h2 := h a b h1
    by_cases hb' : b = p ∨ Rch W b p
    · have ha : a = p ∨ Rch W a p := by
        rcases hb' with rfl | hb'
        · exact .inr (.one h1)
        · exact .inr (.step h1 hb')
      rw [hb1.1 hb', ha1.1 ha]
      omega
    · rw [hb1.2 hb']
      by_cases ha : a = p ∨ Rch W a p
      · rw [ha1.1 ha]; omega
      · rw [ha1.2 ha]; exact h2
  · have hb' : ¬ (b = a ∨ Rch W b a) := fun x => x.elim hp hn
    rw [hb1.2 hb', ha1.1 (.inl rfl)]
    omega
/-- A search that is done, and has not come to o: nobody behind leads to it. -/
theorem dfs_none {W : Nat → List Nat} {p o : Nat} {S : Nat → Prop} (h1 : ∀ x ∈ W p, x ≠ o ∧ S x) (h2 : ∀ y, S y → ∀ x ∈ W y, x ≠ o ∧ S x) : ¬ Rch W p o := by
  have : ∀ a b, Rch W a b → (∀ x ∈ W a, x ≠ o ∧ S x) → b ≠ o := by
    intro a b hr
    induction hr using Rch.ind with
    | one hb => exact fun h => (h _ hb).1
    | step hb _ ih => exact fun h => ih (h2 _ (h _ hb).2)
  exact fun hr => this _ _ hr h1 rfl
/-- Those who stand at or below a bound, counted; a list that grows by one that was not there. -/
theorem miss_lt {K S : List Nat} {x : Nat} (hx : x ∈ K) (hs : x ∉ S) : (K.filter (fun k => decide (k ∉ x :: S))).length < (K.filter (fun k => decide (k ∉ S))).length := by
  have hsub : ∀ l : List Nat, (l.filter (fun k => decide (k ∉ x :: S))).length ≤ (l.filter (fun k => decide (k ∉ S))).length := by
    intro l
    induction l with
    | nil => exact Nat.le_refl _
    | cons a l ih =>
      by_cases h1 : a ∉ x :: S
      · have h2 : a ∉ S := fun h => h1 (List.mem_cons_of_mem _ h)
        rw [List.filter_cons_of_pos (by simpa using h1), List.filter_cons_of_pos (by simpa using h2)]
        simpa using ih
      · rw [List.filter_cons_of_neg (by simpa using h1)]
        by_cases h2 : a ∉ S
        · rw [List.filter_cons_of_pos (by simpa using h2), List.length_cons]; omega
        · rw [List.filter_cons_of_neg (by simpa using h2)]; exact ih
  obtain ⟨l1, l2, rfl⟩ := List.append_of_mem hx
  rw [List.filter_append, List.filter_append, List.length_append, List.length_append, List.filter_cons_of_neg (by simp), List.filter_cons_of_pos (by simpa using hs), List.length_cons]
  have := hsub l1
  have := hsub l2
  omega
end Go.Proofs.YtnccklbnncaeoaaGreat
