/- tables: what a list is gone through by: each one good, that is, no zero one, and no name twice. -/
import Derived.Test.YtjjhkfhppoioiaaTm
namespace Go.Proofs.Ytjjhkfhppoioiaa
open Go.RowKit
set_option linter.unusedVariables false
section
variable {E : Type}
def Gd (z : E) (nm : E → ByteArray) (el : Nat → E) (i : Nat) : Prop := el i ≠ z ∧ ∀ j, j < i → nm (el j) ≠ nm (el i)
theorem chose {p : Nat → E → Prop} (h : ∀ i, ∃ q, p i q) : ∃ f : Nat → E, ∀ i, p i (f i) := ⟨fun i => (h i).choose, fun i => (h i).choose_spec⟩
/-- What is put of a list: the zero one where one may not be. -/
def El (may : E → Prop) (z : E) (l : List E) (el : Nat → E) : Prop := ∀ i, (may (l.getD i z) ∧ el i = l.getD i z) ∨ (¬ may (l.getD i z) ∧ el i = z)
theorem El.ex (may : E → Prop) (z : E) (l : List E) : ∃ el, El may z l el := chose (p := fun i q => (may (l.getD i z) ∧ q = l.getD i z) ∨ (¬ may (l.getD i z) ∧ q = z)) (fun i => by
  by_cases h : may (l.getD i z)
  · exact ⟨l.getD i z, .inl ⟨h, rfl⟩⟩
  · exact ⟨z, .inr ⟨h, rfl⟩⟩)
theorem nodup_of {nm : E → ByteArray} {l : List E} (z : E) (h : ∀ i, i < l.length → ∀ j, j < i → nm (l.getD j z) ≠ nm (l.getD i z)) : (l.map nm).Nodup := by
  rw [List.nodup_iff_pairwise_ne, List.pairwise_iff_getElem]
  intro i j hi hj hij
  rw [List.length_map] at hi hj
  have := h j hj i hij
  simpa [List.getD, hi, hj] using this
theorem nodup_at {nm : E → ByteArray} {l : List E} (z : E) (h : (l.map nm).Nodup) (i : Nat) (hi : i < l.length) (j : Nat) (hj : j < i) : nm (l.getD j z) ≠ nm (l.getD i z) := by
  rw [List.nodup_iff_pairwise_ne, List.pairwise_iff_getElem] at h
  have := h j i (by rw [List.length_map]; omega) (by rw [List.length_map]; omega) hj
  have hj' : j < l.length := by omega
  simpa [List.getD, hi, hj'] using this
theorem getD_in (l : List E) (i : Nat) (z : E) (h : i < l.length) : l.getD i z ∈ l := by rw [getD_lt l i z h]; exact List.getElem_mem h
theorem El.lst {may : E → Prop} {nm : E → ByteArray} {z : E} {l : List E} {el : Nat → E} (hz : ¬ may z) (h : El may z l el) : (∀ i, i < l.length → Gd z nm el i) ↔ Lst may nm l := by
  constructor
  · intro g
    have hm : ∀ i, i < l.length → may (l.getD i z) ∧ el i = l.getD i z := by
      intro i hi
      rcases h i with h1 | ⟨_, h2⟩
      · exact h1
      · exact absurd h2 (g i hi).1
    refine ⟨?_, nodup_of z ?_⟩
    · intro e he
      obtain ⟨i, hi, rfl⟩ := List.getElem_of_mem he
      have := (hm i hi).1
      rwa [getD_lt l i z hi] at this
    · intro i hi j hj
      rw [← (hm i hi).2, ← (hm j (by omega)).2]
      exact (g i hi).2 j hj
  · rintro ⟨h1, h2⟩ i hi
    have hm : ∀ i, i < l.length → el i = l.getD i z := by
      intro i hi
      rcases h i with ⟨_, h3⟩ | ⟨h3, _⟩
      · exact h3
      · exact absurd (h1 _ (getD_in l i z hi)) h3
    refine ⟨?_, ?_⟩
    · rw [hm i hi]
      intro e
      exact hz (e ▸ h1 _ (getD_in l i z hi))
    · intro j hj
      rw [hm i hi, hm j (by omega)]
      exact nodup_at z h2 i hi j hj
/-- How bytes are read, one behind the other. -/
def rst (rd : Bool × List Int → E × (Bool × List Int)) (xs : List Int) : Nat → Bool × List Int
  | 0 => (false, xs)
  | i + 1 => (rd (rst rd xs i)).2
def Rl (may : E → Prop) (z : E) (rd : Bool × List Int → E × (Bool × List Int)) (xs : List Int) (el : Nat → E) : Prop :=
  ∀ i, ((rd (rst rd xs i)).2.1 = false ∧ may (rd (rst rd xs i)).1 ∧ el i = (rd (rst rd xs i)).1) ∨ (¬ ((rd (rst rd xs i)).2.1 = false ∧ may (rd (rst rd xs i)).1) ∧ el i = z)
theorem Rl.ex (may : E → Prop) (z : E) (rd : Bool × List Int → E × (Bool × List Int)) (xs : List Int) : ∃ el, Rl may z rd xs el := chose (p := fun i q => ((rd (rst rd xs i)).2.1 = false ∧ may (rd (rst rd xs i)).1 ∧ q = (rd (rst rd xs i)).1) ∨ (¬ ((rd (rst rd xs i)).2.1 = false ∧ may (rd (rst rd xs i)).1) ∧ q = z)) (fun i => by
  by_cases h : (rd (rst rd xs i)).2.1 = false ∧ may (rd (rst rd xs i)).1
  · exact ⟨_, .inl ⟨h.1, h.2, rfl⟩⟩
  · exact ⟨z, .inr ⟨h, rfl⟩⟩)
variable {may : E → Prop} {nm : E → ByteArray} {z : E} {enc : E → List Int} {rd : Bool × List Int → E × (Bool × List Int)} {xs : List Int} {el : Nat → E}
theorem Rl.one (h : Rl may z rd xs el) {i : Nat} (hg : el i ≠ z) : (rd (rst rd xs i)).2.1 = false ∧ may (el i) ∧ el i = (rd (rst rd xs i)).1 := by
  rcases h i with ⟨h1, h2, h3⟩ | ⟨_, h3⟩
  · exact ⟨h1, h3 ▸ h2, h3⟩
  · exact absurd h3 hg
theorem Rl.good (hinv : ∀ xs ys e, Byt xs → rd (false, xs) = (e, (false, ys)) → may e → xs = enc e ++ ys ∧ Byt ys) (hb : Byt xs) (h : Rl may z rd xs el) : ∀ n, (∀ i, i < n → el i ≠ z) → (rst rd xs n).1 = false ∧ Byt (rst rd xs n).2 ∧ xs = encs enc ((List.range n).map el) ++ (rst rd xs n).2
  | 0, _ => ⟨rfl, hb, by simp [encs, rst]⟩
  | n + 1, hg => by
    obtain ⟨h1, h2, h3⟩ := Rl.good hinv hb h n (fun i hi => hg i (by omega))
    obtain ⟨k1, k2, k3⟩ := h.one (hg n (by omega))
    have hst : rst rd xs n = (false, (rst rd xs n).2) := by rw [← h1]
    have hq : rd (false, (rst rd xs n).2) = (el n, (false, (rst rd xs (n + 1)).2)) := by
      rw [← hst, k3]
      show rd (rst rd xs n) = ((rd (rst rd xs n)).1, false, (rd (rst rd xs n)).2.2)
      rw [← k1]
    obtain ⟨m1, m2⟩ := hinv _ _ _ h2 hq k2
    refine ⟨k1, m2, ?_⟩
    rw [List.range_succ, List.map_append, List.map_singleton, encs_append, encs_one, List.append_assoc, ← m1]
    exact h3
theorem Rl.lst (hinv : ∀ xs ys e, Byt xs → rd (false, xs) = (e, (false, ys)) → may e → xs = enc e ++ ys ∧ Byt ys) (hb : Byt xs) (h : Rl may z rd xs el) {n : Nat} (hn : n ≤ 64) (hg : ∀ i, i < n → Gd z nm el i) (he : (rst rd xs n).2 = []) : IsL may nm enc xs n ((List.range n).map el) := by
  obtain ⟨h1, h2, h3⟩ := h.good hinv hb n (fun i hi => (hg i hi).1)
  refine ⟨⟨?_, nodup_of z ?_⟩, by simp, by simpa using hn, by rw [he, List.append_nil] at h3; exact h3⟩
  · intro e hm
    obtain ⟨i, hi, rfl⟩ := List.mem_map.1 hm
    exact (h.one (hg i (by simpa using hi)).1).2.1
  · intro i hi j hj
    simp only [List.length_map, List.length_range] at hi
    have hj' : j < n := by omega
    have := (hg i hi).2 j hj
    simpa [List.getD, hi, hj'] using this
theorem Rl.states (henc : ∀ e ys, may e → rd (false, enc e ++ ys) = (e, (false, ys))) : ∀ (l : List E) (xs ys : List Int), (∀ e ∈ l, may e) → xs = encs enc l ++ ys → ∀ i, i ≤ l.length → rst rd xs i = (false, encs enc (l.drop i) ++ ys) := by
  intro l xs ys hm hx i
  induction i with
  | zero => intro _; simp [rst, hx]
  | succ i ih =>
    intro hi
    have h := ih (by omega)
    show (rd (rst rd xs i)).2 = _
    rw [h, List.drop_eq_getElem_cons (show i < l.length by omega), encs_cons, List.append_assoc, henc _ _ (hm _ (List.getElem_mem _))]
theorem Rl.back (henc : ∀ e ys, may e → rd (false, enc e ++ ys) = (e, (false, ys))) (hz : ¬ may z) (h : Rl may z rd xs el) {n : Nat} {l : List E} (hl : IsL may nm enc xs n l) : (∀ i, i < n → Gd z nm el i) ∧ (rst rd xs n).2 = [] := by
  obtain ⟨h1, h2, h3, h4⟩ := hl
  have hn : l.length = n := by omega
  have hst := Rl.states henc l xs [] h1.1 (by rw [List.append_nil]; exact h4)
  have hel : ∀ i, i < n → el i = l.getD i z := by
    intro i hi
    have hi' : i < l.length := by omega
    have hr : rd (rst rd xs i) = (l.getD i z, (false, encs enc (l.drop (i + 1)) ++ [])) := by
      rw [hst i (by omega), List.drop_eq_getElem_cons hi', encs_cons, List.append_assoc, henc _ _ (h1.1 _ (List.getElem_mem _)), getD_lt l i z hi']
    rcases h i with ⟨_, _, h5⟩ | ⟨h5, _⟩
    · rw [h5, hr]
    · rw [hr] at h5
      exact absurd ⟨rfl, h1.1 _ (getD_in l i z hi')⟩ h5
  refine ⟨fun i hi => ⟨?_, fun j hj => ?_⟩, ?_⟩
  · rw [hel i hi]
    intro e
    exact hz (e ▸ h1.1 _ (getD_in l i z (by omega)))
  · rw [hel i hi, hel j (by omega)]
    exact nodup_at z h1.2 i (by omega) j hj
  · rw [hst n (by omega), ← hn, List.drop_length]
    rfl
end
end Go.Proofs.Ytjjhkfhppoioiaa
