/- Rows of one's own that are appended to: what a slice of bytes reads as (Src), what a call owns (Own), and append as one step over them. -/
import Derived.Test.YtjjhkfhppoioiaaRef
import Derived.Laws.AppendOwnNone
namespace Go.Proofs.Ytjjhkfhppoioiaa
open Go.RowKit

/-- The bytes that lie at an address (asked only where there are any). -/
def Src (w : World) (ao : Option Addr) (zs : List Int) : Prop := 0 < zs.length → ∃ b off, ao = some ⟨b, off, none⟩ ∧ ∀ i, i < zs.length → w.cell? ⟨b, off + i, none⟩ = some (.int .u8 (zs.getD i 0))
/-- A slice of the call's own, and the bytes that it holds. -/
def Own (w : World) (base : Nat) (v : Value) (xs : List Int) : Prop := w.ownsRow base 5 1 v xs.length (xs.map (Value.int .u8))
/-- A slice that reads as these bytes. -/
def Str (w : World) (v : Value) (xs : List Int) : Prop := ∃ ao cap, v = .slice ao xs.length cap ∧ Src w ao xs

theorem Src.below {w w' : World} {ao : Option Addr} {zs : List Int} (h : Src w ao zs) (hb : Below w.heap.size w w') : Src w' ao zs := by
  intro hp
  obtain ⟨b, off, e, hc⟩ := h hp
  refine ⟨b, off, e, fun i hi => ?_⟩
  have hci := hc i hi
  have hlt := block_lt_of_cell hci
  rw [← hci]
  exact hb.cell hlt
theorem Src.nil (w : World) (ao : Option Addr) : Src w ao [] := fun h => absurd h (by simp)
theorem Src.at {w : World} {b off : Nat} {zs : List Int} (h : Src w (some ⟨b, off, none⟩) zs) : ∀ i, i < zs.length → w.cell? ⟨b, off + i, none⟩ = some (.int .u8 (zs.getD i 0)) := by
  intro i hi
  obtain ⟨b', off', e, hc⟩ := h (by omega)
  cases e
  exact hc i hi
theorem Src.mk {w : World} {b off : Nat} {zs : List Int} (h : ∀ i, i < zs.length → w.cell? ⟨b, off + i, none⟩ = some (.int .u8 (zs.getD i 0))) : Src w (some ⟨b, off, none⟩) zs := fun _ => ⟨b, off, rfl, h⟩
theorem Src.take {w : World} {b off : Nat} {zs : List Int} (h : Src w (some ⟨b, off, none⟩) zs) (n : Nat) : Src w (some ⟨b, off, none⟩) (zs.take n) := by
  refine Src.mk fun i hi => ?_
  have hi2 : i < n ∧ i < zs.length := by simp at hi; omega
  rw [h.at i hi2.2]
  simp [List.getD, hi2.1]
theorem Src.drop {w : World} {b off : Nat} {zs : List Int} (h : Src w (some ⟨b, off, none⟩) zs) (n : Nat) : Src w (some ⟨b, off + n, none⟩) (zs.drop n) := by
  refine Src.mk fun i hi => ?_
  have hi2 : n + i < zs.length := by simp at hi; omega
  rw [Nat.add_assoc, h.at (n + i) hi2]
  simp [List.getD]

theorem Own.str {w : World} {base : Nat} {v : Value} {xs : List Int} (h : Own w base v xs) : ∃ ao cap, v = .slice ao xs.length cap ∧ Src w ao xs ∧ xs.length ≤ cap ∧ (ao = none → cap = 0) ∧ (∀ g, v.ownBlock = some g → base ≤ g ∧ g < w.heap.size) := by
  have hlt := h.lt
  rcases h.2 with ⟨rfl, h2⟩ | ⟨g, cap, cur, rfl, h2, h3, h4, h5, h6, h7⟩
  · have hx : xs = [] := List.eq_nil_of_length_eq_zero h2
    subst hx
    exact ⟨none, 0, rfl, Src.nil _ _, Nat.le_refl _, fun _ => rfl, hlt⟩
  · refine ⟨_, cap, rfl, Src.mk fun i hi => ?_, h4, fun e => (by cases e), hlt⟩
    have hc := World.ownsRow.cells h (g := g) rfl i (.int .u8 (xs.getD i 0)) (by simp [List.getD, hi])
    rw [Nat.zero_add, ← add_z]
    exact hc
theorem Own.toStr {w : World} {base : Nat} {v : Value} {xs : List Int} (h : Own w base v xs) : Str w v xs := by
  obtain ⟨ao, cap, e, hs, _⟩ := h.str
  exact ⟨ao, cap, e, hs⟩
theorem Own.nil (w : World) (base : Nat) : Own w base (.slice none 0 0) [] := World.ownsRow_nil w base 5 1
theorem Own.below {w w' : World} {base : Nat} {v : Value} {xs : List Int} (h : Own w base v xs) (hb : Below w.heap.size w w') : Own w' base v xs :=
  World.ownsRow.kept h (grown_of_below (row := none) hb) (by cases hv : v.ownBlock <;> simp)

/-- append of bytes onto a row of one's own, as one step. -/
theorem wpList_append_rw {w : World} {ops : Array Oper} {rest : List Oper} {o : Oper} {a : Act} {Q : Exit → Act → World → Prop} (hgd : o.guard = none) (s x : Operand)
    (ho : o.op = .call { callee := .builtin .append, args := #[s, x], argTypes := #[26, 26] })
    (base : Nat) (v : Value) (xs : List Int) (hs : a.eval s = v) (hown : Own w base v xs)
    (ao : Option Addr) (m c : Nat) (news : List Int) (hx : a.eval x = .slice ao m c) (hl : news.length = m) (hn : ao = none → c = 0) (hsrc : Src w ao news)
    (hb : xs.length + news.length ≤ 140737488355328) (hbase : base ≤ w.heap.size)
    (h : ∀ v' w', Own w' base v' (xs ++ news) → w.grownBy w' v.ownBlock → Below base w w' → wpList Try.prog ops Q rest (a.put o.dst v') w') : wpList Try.prog ops Q (o :: rest) a w := by
  obtain ⟨i0, hi, hz0, hz1, hz2⟩ := info_parts Try.info5
  subst hl
  have hlt := hown.lt
  cases ao with
  | none =>
    have hz : news.length = 0 := by
      by_cases h0 : 0 < news.length
      · obtain ⟨b, off, e, _⟩ := hsrc h0; cases e
      · omega
    obtain rfl : news = [] := List.eq_nil_of_length_eq_zero hz
    obtain rfl : c = 0 := hn rfl
    refine wpList_append_own_none hgd s x 26 ho base 5 i0 1 Try.underlying26 hi v xs.length _ hs hown hx ?_
    exact h v w (by simpa using hown) (grown_refl _ _) (Below.refl _ _)
  | some ad =>
    refine wpList_append_own _ hgd s x 26 ho base 5 i0 (.int .u8 0) 1 1 Try.underlying26 hi hz0 hz1 hz2 rfl (by decide) v xs.length _ hs hown ad news.length c (news.map (Value.int .u8)) hx (by simp) (srcs ?_) (ones _) (by unfold maxLen; omega) (by omega) hbase ?_
    · intro j hj
      obtain ⟨b, off, e, hc⟩ := hsrc (by omega)
      cases e
      rw [add_o]
      exact hc j hj
    · intro v' w' h1 h2 _
      refine h v' w' ?_ h2 (below_of_grown h2 _ hbase fun k hk => (hlt k hk).1)
      unfold Own
      simpa using h1

end Go.Proofs.Ytjjhkfhppoioiaa
