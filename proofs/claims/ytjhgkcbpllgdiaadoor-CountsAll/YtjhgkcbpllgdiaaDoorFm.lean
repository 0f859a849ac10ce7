/- Plain mathematics of runs of counts that are 0. -/
import Derived.Test.YtjhgkcbpllgdiaaDoorCm
namespace Go.Proofs.YtjhgkcbpllgdiaaDoor
open Go.RowKit
/-- Count i. -/
def ct (zs : List Int) (W i : Nat) : Int := nb zs (i * W) W
/-- n counts from a on are 0. -/
def Run (zs : List Int) (W a n : Nat) : Prop := ∀ t, a ≤ t → t < a + n → ct zs W t = 0
/-- What Free tells. -/
def FreeR (zs : List Int) (W F n many : Nat) (X E : Int) : Prop :=
  (∃ a : Nat, F ≤ a ∧ a + n ≤ many ∧ Run zs W a n ∧ (∀ b, F ≤ b → b < a → ¬ Run zs W b n) ∧ X = (a : Int) ∧ E = 0) ∨ ((∀ b, F ≤ b → b + n ≤ many → ¬ Run zs W b n) ∧ X = 0 ∧ E = 7)
theorem FreeR.one {zs : List Int} {W F n many : Nat} {X E X' E' : Int} (h : FreeR zs W F n many X E) (h' : FreeR zs W F n many X' E') : X = X' ∧ E = E' := by
  rcases h with ⟨a, h1, h2, h3, h4, rfl, rfl⟩ | ⟨h1, rfl, rfl⟩
  · rcases h' with ⟨a', g1, g2, g3, g4, rfl, rfl⟩ | ⟨g1, rfl, rfl⟩
    · refine ⟨?_, rfl⟩
      rcases Nat.lt_trichotomy a a' with h | h | h
      · exact absurd h3 (g4 a h1 h)
      · rw [h]
      · exact absurd g3 (h4 a' g1 h)
    · exact absurd h3 (g1 a h1 h2)
  · rcases h' with ⟨a', g1, g2, g3, g4, rfl, rfl⟩ | ⟨g1, rfl, rfl⟩
    · exact absurd g3 (h1 a' g1 g2)
    · exact ⟨rfl, rfl⟩
/-- The program's search. -/
structure FrI (zs : List Int) (W F n many first i : Nat) : Prop where
  f : F ≤ first
  fi : first ≤ i
  im : i ≤ many
  lt : i < first + n
  run : Run zs W first (i - first)
  no : ∀ b, F ≤ b → b < first → ¬ Run zs W b n
theorem FrI.start {zs : List Int} {W F n many : Nat} (h : F ≤ many) (hn : 0 < n) : FrI zs W F n many F F :=
  ⟨Nat.le_refl _, Nat.le_refl _, h, by omega, fun t h1 h2 => by omega, fun b h1 h2 => by omega⟩
theorem FrI.hit {zs : List Int} {W F n many first i : Nat} (h : FrI zs W F n many first i) (hi : i < many) (hn : 0 < n) (hc : ct zs W i ≠ 0) : FrI zs W F n many (i + 1) (i + 1) := by
  have := h.f
  have := h.fi
  have hl := h.lt
  refine ⟨by omega, Nat.le_refl _, by omega, by omega, fun t h1 h2 => by omega, fun b h1 h2 hr => ?_⟩
  by_cases hb : b < first
  · exact h.no b h1 hb hr
  · exact hc (hr i (by omega) (by omega))
theorem FrI.zero {zs : List Int} {W F n many first i : Nat} (h : FrI zs W F n many first i) (hi : i < many) (hc : ct zs W i = 0) (hne : i - first ≠ n - 1) : FrI zs W F n many first (i + 1) := by
  have := h.f
  have := h.fi
  have hl := h.lt
  refine ⟨h.f, by omega, by omega, by omega, fun t h1 h2 => ?_, h.no⟩
  by_cases ht : t = i
  · rw [ht]; exact hc
  · exact h.run t h1 (by omega)
theorem FrI.found {zs : List Int} {W F n many first i : Nat} (h : FrI zs W F n many first i) (hi : i < many) (hn : 0 < n) (hc : ct zs W i = 0) (he : i - first = n - 1) : FreeR zs W F n many (first : Int) 0 := by
  have := h.fi
  refine .inl ⟨first, h.f, by omega, fun t h1 h2 => ?_, h.no, rfl, rfl⟩
  by_cases ht : t = i
  · rw [ht]; exact hc
  · exact h.run t h1 (by omega)
theorem FrI.fin {zs : List Int} {W F n many first : Nat} (h : FrI zs W F n many first many) : FreeR zs W F n many 0 7 := by
  refine .inr ⟨fun b h1 h2 hr => ?_, rfl, rfl⟩
  have hl := h.lt
  exact h.no b h1 (by omega) hr
end Go.Proofs.YtjhgkcbpllgdiaaDoor
