/- later: mathematics of how many bytes: counted place by place. -/
import Derived.Test.YtgfondgejimkkaaMu
namespace Go.Proofs.Ytgfondgejimkkaa
set_option linter.unusedVariables false
set_option linter.unusedSimpArgs false
theorem tog_is {l M : List Rn} (h : ∀ x ∈ l, Mayr x) (k : Can M) (hb : ∀ p, Bt l p ↔ Bt M p) : tog l = M := can_uniq (tog_ok h).1 k (fun p => ((tog_ok h).2 p).trans (hb p))
/-- How many of n places from a on are so. -/
def cnt (f : Int → Bool) (a : Int) : Nat → Int
  | 0 => 0
  | n + 1 => cnt f a n + (if f (a + n) = true then 1 else 0)
def inb (x : Rn) (p : Int) : Bool := decide (x.a ≤ p) && decide (p < x.e)
def btb (L : List Rn) (p : Int) : Bool := L.any (fun x => inb x p)
theorem inb_iff {x : Rn} {p : Int} : inb x p = true ↔ Inr x p := by simp [inb, Inr]
theorem btb_iff {L : List Rn} {p : Int} : btb L p = true ↔ Bt L p := by
  unfold btb Bt
  simp only [List.any_eq_true, inb_iff]
theorem cnt_nonneg (f : Int → Bool) (a : Int) (n : Nat) : 0 ≤ cnt f a n := by
  induction n with
  | zero => exact Int.le_refl _
  | succ n ih => unfold cnt; split <;> omega
theorem cnt_sub {f g h : Int → Bool} {a : Int} {n : Nat} (k : ∀ p, a ≤ p → p < a + n → f p = true → g p = true ∨ h p = true) : cnt f a n ≤ cnt g a n + cnt h a n := by
  induction n with
  | zero => exact Int.le_refl _
  | succ n ih =>
    have := ih (fun p h1 h2 => k p h1 (by omega))
    unfold cnt
    have hk := k (a + n) (by omega) (by omega)
    by_cases e1 : f (a + n) = true
    · rcases hk e1 with e2 | e2
      · rw [if_pos e1, if_pos e2]; split <;> omega
      · rw [if_pos e1, if_pos e2]; split <;> omega
    · rw [if_neg e1]; split <;> split <;> omega
theorem cnt_le {f g : Int → Bool} {a : Int} {n : Nat} (k : ∀ p, a ≤ p → p < a + n → f p = true → g p = true) : cnt f a n ≤ cnt g a n := by
  induction n with
  | zero => exact Int.le_refl _
  | succ n ih =>
    have := ih (fun p h1 h2 => k p h1 (by omega))
    unfold cnt
    have hk := k (a + n) (by omega) (by omega)
    by_cases e1 : f (a + n) = true
    · rw [if_pos e1, if_pos (hk e1)]; omega
    · rw [if_neg e1]; split <;> omega
theorem cnt_congr {f g : Int → Bool} {a : Int} {n : Nat} (k : ∀ p, a ≤ p → p < a + n → (f p = true ↔ g p = true)) : cnt f a n = cnt g a n :=
  Int.le_antisymm (cnt_le (fun p h1 h2 h => (k p h1 h2).1 h)) (cnt_le (fun p h1 h2 h => (k p h1 h2).2 h))
theorem cnt_or {f g : Int → Bool} {a : Int} {n : Nat} (k : ∀ p, ¬ (f p = true ∧ g p = true)) : cnt (fun p => f p || g p) a n = cnt f a n + cnt g a n := by
  induction n with
  | zero => rfl
  | succ n ih =>
    unfold cnt
    rw [ih]
    have hk := k (a + n)
    by_cases e1 : f (a + n) = true
    · by_cases e2 : g (a + n) = true
      · exact absurd ⟨e1, e2⟩ hk
      · rw [if_pos e1, if_neg e2, if_pos (by simp [e1])]; omega
    · by_cases e2 : g (a + n) = true
      · rw [if_neg e1, if_pos e2, if_pos (by simp [e2])]; omega
      · rw [if_neg e1, if_neg e2, if_neg (by simp [e1, e2])]; omega
theorem cnt_one {y : Rn} (hy : y.a ≤ y.e) (a : Int) (n : Nat) : cnt (inb y) a n = max 0 (min (a + n) y.e - max a y.a) := by
  induction n with
  | zero => unfold cnt; omega
  | succ n ih =>
    unfold cnt
    rw [ih]
    by_cases e : inb y (a + n) = true
    · rw [if_pos e]
      rw [inb_iff] at e
      unfold Inr at e
      omega
    · rw [if_neg e]
      rw [inb_iff] at e
      unfold Inr at e
      omega
theorem cnt_ov {x y : Rn} (hx : Mayr x) (hy : Mayr y) : cnt (inb y) x.a x.n.toNat = ov x y := by
  rw [cnt_one (by have := hy.lt; omega)]
  unfold Mayr at hx
  unfold ov
  have : x.a + (x.n.toNat : Int) = x.e := by unfold Rn.e; omega
  rw [this]
theorem cnt_ovl {L : List Rn} {x : Rn} (hx : Mayr x) (h : Ap L) : cnt (btb L) x.a x.n.toNat = ovl L x := by
  induction L with
  | nil =>
    have : ∀ n, cnt (btb []) x.a n = 0 := fun n => by
      induction n with
      | zero => rfl
      | succ n ih => unfold cnt; rw [ih]; simp [btb]
    exact this _
  | cons y L ih =>
    have h2 := ih (h.sub (List.sublist_cons_self _ _))
    rw [ovl_cons, ← h2, ← cnt_ov hx (h.1 y (by simp))]
    have : btb (y :: L) = fun p => inb y p || btb L p := by funext p; simp [btb]
    rw [this]
    refine cnt_or (fun p hp => ?_)
    obtain ⟨h3, h4⟩ := hp
    rw [inb_iff] at h3
    rw [btb_iff] at h4
    obtain ⟨z, hz, h5⟩ := h4
    have h6 := (List.pairwise_cons.1 h.2).1 z hz
    unfold Inr at h3 h5
    unfold Aprt at h6
    omega
theorem cnt_all {x : Rn} (hx : Mayr x) : cnt (inb x) x.a x.n.toNat = x.n := by
  rw [cnt_ov hx hx]
  unfold ov
  unfold Mayr at hx
  have : x.e = x.a + x.n := rfl
  omega
/-- One that waits is wholly there. -/
theorem ovl_self {L : List Rn} {x : Rn} (h : Ap L) (hx : x ∈ L) : ovl L x = x.n := by
  have hm := h.1 x hx
  rw [← cnt_ovl hm h]
  refine (cnt_congr (g := inb x) (fun p h1 h2 => ?_)).trans (cnt_all hm)
  rw [btb_iff, inb_iff]
  unfold Mayr at hm
  constructor
  · intro _
    unfold Inr Rn.e
    omega
  · intro hi
    exact ⟨x, hx, hi⟩
/-- Nothing lies just ahead of it, or behind it. -/
theorem ovl_around {L : List Rn} {x y : Rn} (h : Ap L) (hx : x ∈ L) (hy : Mayr y) (h1 : x.a - 1 ≤ y.a) (h2 : y.a ≤ x.a) (h3 : x.e ≤ y.e) (h4 : y.e ≤ x.e + 1) : ovl L y = x.n := by
  have hm := h.1 x hx
  rw [← cnt_ovl hy h]
  refine (cnt_congr (g := inb x) (fun p k1 k2 => ?_)).trans ?_
  · rw [btb_iff, inb_iff]
    constructor
    · rintro ⟨z, hz, hi⟩
      by_cases e : z = x
      · rw [← e]; exact hi
      · have ha : Aprt z x := by
          by_cases hh : Aprt z x
          · exact hh
          · exact absurd (h.mem_eq hz hx hh) e
        have hzm := h.1 z hz
        have hye : y.a + (y.n.toNat : Int) = y.e := by unfold Mayr at hy; unfold Rn.e; omega
        unfold Inr at hi ⊢
        unfold Aprt at ha
        omega
    · intro hi
      exact ⟨x, hx, hi⟩
  · rw [cnt_ov hy hm]
    unfold ov
    unfold Mayr at hm
    have : x.e = x.a + x.n := rfl
    omega
theorem ovl_gone {L : List Rn} {x : Rn} (hx : Mayr x) (h : Can L) : ovl (lss L x) x = 0 := by
  rw [← cnt_ovl hx (lss_can hx h).ap]
  refine Int.le_antisymm ?_ (cnt_nonneg _ _ _)
  have : cnt (fun _ => false) x.a x.n.toNat = 0 := by
    generalize x.n.toNat = n
    induction n with
    | zero => rfl
    | succ n ih => unfold cnt; rw [ih]; simp
  rw [← this]
  refine cnt_le (fun p h1 h2 hb => ?_)
  rw [btb_iff, (lss_facts hx h.1).2.1] at hb
  unfold Inr Rn.e at hb
  unfold Mayr at hx
  omega
theorem ovl_bound {L : List Rn} {x : Rn} (hx : Mayr x) (h : Ap L) : 0 ≤ ovl L x ∧ ovl L x ≤ x.n := by
  rw [← cnt_ovl hx h]
  refine ⟨cnt_nonneg _ _ _, ?_⟩
  have := cnt_all hx
  rw [← this]
  refine Int.le_trans (cnt_le (g := inb x) (fun p h1 h2 _ => ?_)) (by rw [this]; exact Int.le_of_eq this)
  rw [inb_iff]
  unfold Mayr at hx
  unfold Inr Rn.e
  omega
/-- What some cuts together may take of a run. -/
def ovs (x : Rn) (C : List Rn) : Int := (C.map (ov x)).foldr (· + ·) 0
theorem ovs_cons (x c : Rn) (C : List Rn) : ovs x (c :: C) = ov x c + ovs x C := rfl
theorem ovs_snoc (x c : Rn) (C : List Rn) : ovs x (C ++ [c]) = ovs x C + ov x c := by
  induction C with
  | nil => simp [ovs]
  | cons d C ih => rw [List.cons_append, ovs_cons, ovs_cons, ih]; omega
theorem ov_le {x c : Rn} (hx : Mayr x) (hc : Mayr c) : 0 ≤ ov x c ∧ ov x c ≤ x.n := by
  unfold ov
  unfold Mayr at hx hc
  have : x.e = x.a + x.n := rfl
  omega
theorem ovs_le {x : Rn} {C : List Rn} (hx : Mayr x) (hC : ∀ c ∈ C, Mayr c) : 0 ≤ ovs x C ∧ ovs x C ≤ x.n * C.length := by
  induction C with
  | nil => simp [ovs]
  | cons d C ih =>
    have h1 := ov_le hx (hC d (by simp))
    have h2 := ih (fun c hc => hC c (by simp [hc]))
    rw [ovs_cons]
    simp only [List.length_cons]
    have h3 : x.n * ((C.length + 1 : Nat) : Int) = x.n * (C.length : Int) + x.n := by
      rw [Int.natCast_add, Int.mul_add]; simp
    rw [h3]
    omega
theorem left_ge {x : Rn} {A C : List Rn} (hx : Mayr x) (hA : Ap A) (hC : ∀ c ∈ C, Mayr c) (k : ∀ p, Inr x p → Bt A p ∨ Bt C p) : x.n - ovs x C ≤ ovl A x := by
  have hcs : cnt (btb C) x.a x.n.toNat ≤ ovs x C := by
    clear k
    induction C with
    | nil =>
      have : ∀ n, cnt (btb []) x.a n = 0 := fun n => by
        induction n with
        | zero => rfl
        | succ n ih => unfold cnt; rw [ih]; simp [btb]
      rw [this]; exact Int.le_refl _
    | cons c C ih =>
      have h1 := ih (fun d hd => hC d (by simp [hd]))
      rw [ovs_cons, ← cnt_ov hx (hC c (by simp))]
      refine Int.le_trans (cnt_sub (g := inb c) (h := btb C) (fun p _ _ hp => ?_)) (by omega)
      simpa [btb] using hp
  have h1 : cnt (inb x) x.a x.n.toNat ≤ cnt (btb A) x.a x.n.toNat + cnt (btb C) x.a x.n.toNat := cnt_sub (fun p _ _ hp => by
    rw [inb_iff] at hp
    rw [btb_iff, btb_iff]
    exact k p hp)
  rw [cnt_all hx, cnt_ovl hx hA] at h1
  omega
end Go.Proofs.Ytgfondgejimkkaa
