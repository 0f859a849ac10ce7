/- Plain mathematics of counts told one by one, and put into another width. -/
import Derived.Test.YtjhgkcbpllgdiaaDoorFm
namespace Go.Proofs.YtjhgkcbpllgdiaaDoor
open Go.RowKit
set_option linter.unusedVariables false
/-- The places below k of the counts that are not 0. -/
def nzs (zs : List Int) (W : Nat) : Nat → List Nat
  | 0 => []
  | k + 1 => if ct zs W k = 0 then nzs zs W k else nzs zs W k ++ [k]
theorem nzs_mem {zs : List Int} {W k i : Nat} : i ∈ nzs zs W k ↔ i < k ∧ ct zs W i ≠ 0 := by
  induction k with
  | zero => simp [nzs]
  | succ k ih =>
    unfold nzs
    split
    · rename_i h
      rw [ih]
      constructor
      · rintro ⟨h1, h2⟩; exact ⟨by omega, h2⟩
      · rintro ⟨h1, h2⟩
        refine ⟨?_, h2⟩
        by_cases e : i = k
        · subst e; exact absurd h h2
        · omega
    · rename_i h
      rw [List.mem_append, ih]
      constructor
      · rintro (⟨h1, h2⟩ | h1)
        · exact ⟨by omega, h2⟩
        · have : i = k := by simpa using h1
          subst this
          exact ⟨by omega, h⟩
      · rintro ⟨h1, h2⟩
        by_cases e : i = k
        · exact .inr (by simp [e])
        · exact .inl ⟨by omega, h2⟩
theorem nzs_len (zs : List Int) (W k : Nat) : (nzs zs W k).length ≤ k := by
  induction k with
  | zero => simp [nzs]
  | succ k ih =>
    unfold nzs
    split
    · omega
    · simp; omega
theorem ct_b (zs : List Int) (W i : Nat) : 0 ≤ ct zs W i ∧ ct zs W i < 2 ^ W := nb_b _ _ _
/-- Counts at these places put into noughts of another width. -/
def wl (zs : List Int) (W V n : Nat) (L : List Nat) : List Int := L.foldl (fun a i => sb a (i * V) V (ct zs W i)) (List.replicate n 0)
theorem wl_nil (zs : List Int) (W V n : Nat) : wl zs W V n [] = List.replicate n 0 := rfl
theorem wl_snoc (zs : List Int) (W V n : Nat) (L : List Nat) (i : Nat) : wl zs W V n (L ++ [i]) = sb (wl zs W V n L) (i * V) V (ct zs W i) := by simp [wl, List.foldl_append]
theorem wl_len (zs : List Int) (W V n : Nat) (L : List Nat) : (wl zs W V n L).length = n := by
  have h : ∀ (L : List Nat) (a : List Int), (L.foldl (fun a i => sb a (i * V) V (ct zs W i)) a).length = a.length := by
    intro L
    induction L with
    | nil => intro a; rfl
    | cons i L ih => intro a; rw [List.foldl_cons, ih, sb_len]
  rw [wl, h, List.length_replicate]
theorem wl_byt (zs : List Int) (W V n : Nat) (L : List Nat) : Byt (wl zs W V n L) := by
  have h : ∀ (L : List Nat) (a : List Int), Byt a → Byt (L.foldl (fun a i => sb a (i * V) V (ct zs W i)) a) := by
    intro L
    induction L with
    | nil => intro a h; exact h
    | cons i L ih => intro a h; rw [List.foldl_cons]; exact ih _ (sb_byt h _ _ _)
  exact h L _ (Byt.rep n)
/-- How many bytes M counts of V bits want. -/
def rm (M V : Nat) : Nat := (M * V + 7) / 8
theorem rm_fit {M V i : Nat} (h : i < M) : i * V + V ≤ 8 * rm M V := by
  have h1 : (i + 1) * V ≤ M * V := Nat.mul_le_mul_right V h
  rw [Nat.add_mul, Nat.one_mul] at h1
  unfold rm
  omega
theorem ct_far {n V i j : Nat} (h : i ≠ j) : i * V + V ≤ j * V ∨ j * V + V ≤ i * V := by
  rcases Nat.lt_or_gt_of_ne h with h | h
  · left
    have := Nat.mul_le_mul_right V h
    rw [Nat.succ_mul] at this
    exact this
  · right
    have := Nat.mul_le_mul_right V h
    rw [Nat.succ_mul] at this
    exact this
/-- The counts in the other width. -/
theorem wl_ct {zs : List Int} {W V M : Nat} (hf : ∀ i, i < M → ct zs W i < 2 ^ V) (j : Nat) (hj : j ≤ M) (k : Nat) (hk : k * V + V ≤ 8 * rm M V) : ct (wl zs W V (rm M V) (nzs zs W j)) V k = if k < j then ct zs W k else 0 := by
  induction j with
  | zero =>
    rw [if_neg (by omega), nzs, wl_nil]
    exact nb_zero (fun t _ => bt_rep _ _)
  | succ j ih =>
    have ih := ih (by omega)
    unfold nzs
    split
    · rename_i h0
      rw [ih]
      by_cases e : k = j
      · subst e; rw [if_neg (by omega), if_pos (by omega), h0]
      · by_cases h : k < j
        · rw [if_pos h, if_pos (by omega)]
        · rw [if_neg h, if_neg (by omega)]
    · rename_i h0
      rw [wl_snoc]
      have hb := ct_b zs W j
      have hfit := rm_fit (V := V) (show j < M by omega)
      by_cases e : k = j
      · subst e
        rw [if_pos (by omega)]
        exact nb_sb (wl_byt _ _ _ _ _) (by rw [wl_len]; exact hfit) hb.1 (hf k (by omega))
      · have hne := nb_sb_ne (wl_byt zs W V (rm M V) (nzs zs W j)) (k := j * V) (n := V) (k' := k * V) (n' := V) (by rw [wl_len]; exact hfit) (ct zs W j) (ct_far (n := 0) e)
        unfold ct at hne ih ⊢
        rw [hne, ih]
        by_cases h : k < j
        · rw [if_pos h, if_pos (by omega)]
        · rw [if_neg h, if_neg (by omega)]
/-- What Widen tells. -/
def WidR (zs : List Int) (W V M : Nat) (R : List Int) (E : Int) : Prop :=
  ((∀ i, i < M → ct zs W i ≤ 2 ^ V - 1) ∧ R = wl zs W V (rm M V) (nzs zs W M) ∧ E = 0) ∨ ((∃ i, i < M ∧ 2 ^ V - 1 < ct zs W i) ∧ R = [] ∧ E = 3)
theorem WidR.one {zs : List Int} {W V M : Nat} {R R' : List Int} {E E' : Int} (h : WidR zs W V M R E) (h' : WidR zs W V M R' E') : R = R' ∧ E = E' := by
  rcases h with ⟨h1, rfl, rfl⟩ | ⟨⟨i, h1, h2⟩, rfl, rfl⟩
  · rcases h' with ⟨g1, rfl, rfl⟩ | ⟨⟨i, g1, g2⟩, rfl, rfl⟩
    · exact ⟨rfl, rfl⟩
    · have := h1 i g1; omega
  · rcases h' with ⟨g1, rfl, rfl⟩ | ⟨_, rfl, rfl⟩
    · have := g1 i h1; omega
    · exact ⟨rfl, rfl⟩
/-- There and back. -/
theorem wid_back {zs : List Int} {W V M : Nat} {R B : List Int} {E : Int} (hV : 0 < V) (h : WidR zs W V M R 0) (hb : WidR R V W (8 * R.length / V) B E) : E = 0 ∧ (∀ i, i < M → i * W + W ≤ 8 * B.length ∧ ct B W i = ct zs W i) := by
  rcases h with ⟨h1, rfl, _⟩ | ⟨_, _, h0⟩
  case inr => omega
  have hf : ∀ i, i < M → ct zs W i < 2 ^ V := fun i hi => by have := h1 i hi; omega
  rw [wl_len] at hb
  have hMM : M ≤ 8 * rm M V / V := by
    rw [Nat.le_div_iff_mul_le hV]
    unfold rm
    omega
  have hk : ∀ i, i < 8 * rm M V / V → i * V + V ≤ 8 * rm M V := fun i hi => by
    have h2 : (i + 1) * V ≤ 8 * rm M V / V * V := Nat.mul_le_mul_right V hi
    have h3 := Nat.div_mul_le_self (8 * rm M V) V
    rw [Nat.add_mul, Nat.one_mul] at h2
    omega
  have hct : ∀ i, i < 8 * rm M V / V → ct (wl zs W V (rm M V) (nzs zs W M)) V i = if i < M then ct zs W i else 0 := fun i hi => wl_ct hf M (Nat.le_refl _) i (hk i hi)
  have hlt : ∀ i, i < 8 * rm M V / V → ct (wl zs W V (rm M V) (nzs zs W M)) V i < 2 ^ W := fun i hi => by
    rw [hct i hi]
    split
    · exact (ct_b _ _ _).2
    · exact Int.pow_pos (by omega)
  rcases hb with ⟨g1, rfl, rfl⟩ | ⟨⟨i, g1, g2⟩, _, _⟩
  · refine ⟨rfl, fun i hi => ?_⟩
    have hfit := rm_fit (V := W) (show i < 8 * rm M V / V by omega)
    refine ⟨by rw [wl_len]; exact hfit, ?_⟩
    rw [wl_ct hlt _ (Nat.le_refl _) i hfit, if_pos (by omega), hct i (by omega), if_pos hi]
  · have := hlt i g1; omega
end Go.Proofs.YtjhgkcbpllgdiaaDoor
