/- later: mathematics of what is put, cut, asked and taken off. -/
import Derived.Test.YtgfondgejimkkaaMt
namespace Go.Proofs.Ytgfondgejimkkaa
open Go.RowKit
set_option linter.unusedVariables false
theorem gd {L : List Rn} {i : Nat} (h : i < L.length) : L.getD i zRn = L[i] := by simp [List.getD, h]
theorem gd_mem {L : List Rn} {i : Nat} (h : i < L.length) : L.getD i zRn ∈ L := by rw [gd h]; exact List.getElem_mem h
/-- They share a byte. -/
def ovb (x y : Rn) : Bool := decide (y.a < x.e) && decide (x.a < y.e)
theorem ovb_iff {x y : Rn} (hx : Mayr x) (hy : Mayr y) : ovb x y = true ↔ ∃ p, Inr x p ∧ Inr y p := by
  have h1 := hx.lt
  have h2 := hy.lt
  unfold ovb Inr
  simp
  constructor
  · intro h
    by_cases h3 : x.a ≤ y.a
    · exact ⟨y.a, by omega, by omega⟩
    · exact ⟨x.a, by omega, by omega⟩
  · rintro ⟨p, h3, h4⟩
    omega
def shr (l : List Rn) (x : Rn) : Bool := l.any (fun y => ovb x y)
theorem shr_iff {l : List Rn} {x : Rn} (hl : ∀ y ∈ l, Mayr y) (hx : Mayr x) : shr l x = true ↔ ∃ p, Inr x p ∧ Bt l p := by
  unfold shr
  rw [List.any_eq_true]
  constructor
  · rintro ⟨y, hy, h⟩
    obtain ⟨p, h1, h2⟩ := (ovb_iff hx (hl y hy)).1 h
    exact ⟨p, h1, y, hy, h2⟩
  · rintro ⟨p, h1, y, hy, h2⟩
    exact ⟨y, hy, (ovb_iff hx (hl y hy)).2 ⟨p, h1, h2⟩⟩
theorem Can.lt {L : List Rn} (h : Can L) {i j : Nat} (hij : i < j) (hj : j < L.length) : (L.getD i zRn).e < (L.getD j zRn).a := by
  rw [gd (by omega), gd hj]
  exact (List.pairwise_iff_getElem.1 h.2) i j (by omega) hj hij
theorem Can.may {L : List Rn} (h : Can L) {i : Nat} (hi : i < L.length) : Mayr (L.getD i zRn) := h.1 _ (gd_mem hi)
theorem shr_search {l : List Rn} (h : Can l) {x : Rn} {i : Nat} (hi : i ≤ l.length) (h1 : ∀ j, j < i → (l.getD j zRn).e ≤ x.a) (h2 : i < l.length → x.a < (l.getD i zRn).e) :
    shr l x = (decide (i < l.length) && decide ((l.getD i zRn).a < x.e)) := by
  rw [Bool.eq_iff_iff]
  unfold shr ovb
  simp only [List.any_eq_true, Bool.and_eq_true, decide_eq_true_eq]
  constructor
  · rintro ⟨y, hy, h3, h4⟩
    obtain ⟨j, hj, e⟩ := List.getElem_of_mem hy
    rw [← gd hj] at e
    have hij : i ≤ j := by
      apply Nat.le_of_not_lt
      intro hlt
      have := h1 j hlt
      rw [e] at this
      omega
    refine ⟨by omega, ?_⟩
    by_cases he : i = j
    · rw [he, e]; exact h3
    · have := h.lt (i := i) (j := j) (by omega) hj
      have := (h.may (i := i) (by omega)).lt
      rw [e] at *
      omega
  · rintro ⟨h3, h4⟩
    exact ⟨_, gd_mem h3, h4, h2 h3⟩

/-- What is left of y when x is taken out. -/
def wo (x y : Rn) : List Rn := (if y.a < min y.e x.a then [⟨y.a, min y.e x.a - y.a⟩] else []) ++ (if max y.a x.e < y.e then [⟨max y.a x.e, y.e - max y.a x.e⟩] else [])
def wow (x y : Rn) : List Rn := (if y.a < x.a then [⟨y.a, x.a - y.a⟩] else []) ++ (if x.e < y.e then [⟨x.e, y.e - x.e⟩] else [])
theorem wow_wo {x y : Rn} (h : ovb x y = true) : wow x y = wo x y := by
  unfold ovb at h
  simp at h
  unfold wow wo
  rw [Int.min_eq_right (by omega), Int.max_eq_right (by omega)]
theorem wo_out {x y : Rn} (hx : Mayr x) (hy : Mayr y) (h : ovb x y = false) : wo x y = [y] := by
  have h1 := hx.lt
  have h2 := hy.lt
  have h3 : y.e ≤ x.a ∨ x.e ≤ y.a := by unfold ovb at h; simp at h; omega
  unfold wo
  rcases h3 with h3 | h3
  · rw [Int.min_eq_left h3, Int.max_eq_right (by omega), if_pos h2, if_neg (by omega)]
    simp only [List.append_nil, List.cons.injEq, and_true]
    exact Rn.ext' rfl (by show y.e - y.a = y.n; unfold Rn.e; omega)
  · rw [Int.min_eq_right (by omega), Int.max_eq_left h3, if_neg (by omega), if_pos h2]
    simp only [List.nil_append, List.cons.injEq, and_true]
    exact Rn.ext' rfl (by show y.e - y.a = y.n; unfold Rn.e; omega)
/-- How many bytes they share. -/
def ov (x y : Rn) : Int := max 0 (min x.e y.e - max x.a y.a)
theorem wo_facts {x y : Rn} (hx : Mayr x) (hy : Mayr y) : Can (wo x y) ∧ (∀ z ∈ wo x y, y.a ≤ z.a ∧ z.e ≤ y.e) ∧ (∀ p, Bt (wo x y) p ↔ Inr y p ∧ ¬ Inr x p) ∧ sz (wo x y) = y.n - ov x y := by
  have h1 := hx.lt
  have h2 := hy.lt
  have e1 : (⟨y.a, min y.e x.a - y.a⟩ : Rn).e = min y.e x.a := by show y.a + (min y.e x.a - y.a) = _; omega
  have e2 : (⟨max y.a x.e, y.e - max y.a x.e⟩ : Rn).e = y.e := by show max y.a x.e + (y.e - max y.a x.e) = _; omega
  have m1 : y.a < min y.e x.a → Mayr ⟨y.a, min y.e x.a - y.a⟩ := fun h => by
    unfold Mayr at *
    rw [e1]
    dsimp only
    omega
  have m2 : max y.a x.e < y.e → Mayr ⟨max y.a x.e, y.e - max y.a x.e⟩ := fun h => by
    unfold Mayr at *
    rw [e2]
    dsimp only
    omega
  have hn : y.n = y.e - y.a := by unfold Rn.e; omega
  unfold wo
  by_cases c1 : y.a < min y.e x.a
  · by_cases c2 : max y.a x.e < y.e
    · rw [if_pos c1, if_pos c2]
      refine ⟨⟨fun z hz => ?_, ?_⟩, fun z hz => ?_, fun p => ?_, ?_⟩
      · simp at hz
        rcases hz with rfl | rfl
        · exact m1 c1
        · exact m2 c2
      · simp only [List.singleton_append, List.pairwise_cons, List.mem_singleton, forall_eq, e1]
        refine ⟨by omega, ?_⟩
        simp
      · simp at hz
        rcases hz with rfl | rfl
        · rw [e1]; dsimp only; omega
        · rw [e2]; dsimp only; omega
      · rw [List.singleton_append, bt_cons, bt_cons]
        unfold Inr
        rw [e1, e2]
        simp only [Bt.nil, or_false]
        omega
      · rw [List.singleton_append, sz_cons, sz_cons, sz_nil]
        unfold ov
        dsimp only
        omega
    · rw [if_pos c1, if_neg c2]
      refine ⟨⟨fun z hz => ?_, by simp⟩, fun z hz => ?_, fun p => ?_, ?_⟩
      · simp at hz
        rw [hz]
        exact m1 c1
      · simp at hz
        rw [hz, e1]
        dsimp only
        omega
      · rw [List.append_nil, bt_cons]
        unfold Inr
        rw [e1]
        simp only [Bt.nil, or_false]
        omega
      · rw [List.append_nil, sz_cons, sz_nil]
        unfold ov
        dsimp only
        omega
  · by_cases c2 : max y.a x.e < y.e
    · rw [if_neg c1, if_pos c2]
      refine ⟨⟨fun z hz => ?_, by simp⟩, fun z hz => ?_, fun p => ?_, ?_⟩
      · simp at hz
        rw [hz]
        exact m2 c2
      · simp at hz
        rw [hz, e2]
        dsimp only
        omega
      · rw [List.nil_append, bt_cons]
        unfold Inr
        rw [e2]
        simp only [Bt.nil, or_false]
        omega
      · rw [List.nil_append, sz_cons, sz_nil]
        unfold ov
        dsimp only
        omega
    · rw [if_neg c1, if_neg c2]
      refine ⟨Can.nil, fun z hz => by simp at hz, fun p => ?_, ?_⟩
      · simp only [List.append_nil]
        unfold Inr
        constructor
        · intro h; exact absurd h Bt.nil
        · intro h; omega
      · simp only [List.append_nil, sz_nil]
        unfold ov
        omega
/-- Runs without the bytes of one. -/
def lss (L : List Rn) (x : Rn) : List Rn := L.flatMap (wo x)
def ovl (L : List Rn) (x : Rn) : Int := (L.map (ov x)).foldr (· + ·) 0
theorem lss_cons (y : Rn) (L : List Rn) (x : Rn) : lss (y :: L) x = wo x y ++ lss L x := by unfold lss; simp
theorem ovl_cons (y : Rn) (L : List Rn) (x : Rn) : ovl (y :: L) x = ov x y + ovl L x := rfl
theorem lss_facts {L : List Rn} {x : Rn} (hx : Mayr x) (h : ∀ y ∈ L, Mayr y) : (∀ z ∈ lss L x, ∃ y ∈ L, y.a ≤ z.a ∧ z.e ≤ y.e) ∧ (∀ p, Bt (lss L x) p ↔ Bt L p ∧ ¬ Inr x p) ∧ sz (lss L x) = sz L - ovl L x := by
  induction L with
  | nil => exact ⟨fun z hz => by simp [lss] at hz, fun p => ⟨fun h => absurd h Bt.nil, fun h => absurd h.1 Bt.nil⟩, rfl⟩
  | cons y L ih =>
    obtain ⟨h1, h2, h3⟩ := ih (fun z hz => h z (by simp [hz]))
    obtain ⟨_, k2, k3, k4⟩ := wo_facts hx (h y (by simp))
    rw [lss_cons]
    refine ⟨fun z hz => ?_, fun p => ?_, ?_⟩
    · rcases List.mem_append.1 hz with hz | hz
      · exact ⟨y, by simp, k2 z hz⟩
      · obtain ⟨y', hy', e⟩ := h1 z hz
        exact ⟨y', by simp [hy'], e⟩
    · rw [bt_append, k3, h2, bt_cons]
      constructor
      · rintro (⟨a, b⟩ | ⟨a, b⟩)
        · exact ⟨Or.inl a, b⟩
        · exact ⟨Or.inr a, b⟩
      · rintro ⟨a | a, b⟩
        · exact Or.inl ⟨a, b⟩
        · exact Or.inr ⟨a, b⟩
    · rw [sz_append, sz_cons, k4, h3, ovl_cons]
      omega
theorem lss_can {L : List Rn} {x : Rn} (hx : Mayr x) (h : Can L) : Can (lss L x) := by
  induction L with
  | nil => exact Can.nil
  | cons y L ih =>
    have hc := ih h.tail
    obtain ⟨k1, k2, _, _⟩ := wo_facts hx (h.1 y (by simp))
    have hl := (lss_facts hx (L := L) (fun z hz => h.1 z (by simp [hz]))).1
    rw [lss_cons]
    refine ⟨fun z hz => ?_, List.pairwise_append.2 ⟨k1.2, hc.2, fun z hz u hu => ?_⟩⟩
    · rcases List.mem_append.1 hz with hz | hz
      · exact k1.1 z hz
      · exact hc.1 z hz
    · obtain ⟨y', hy', e1, e2⟩ := hl u hu
      have := (List.pairwise_cons.1 h.2).1 y' hy'
      have := k2 z hz
      omega
theorem lss_ap {R : List Rn} {x : Rn} (hx : Mayr x) (h : Ap R) : Ap (lss R x) ∧ srt (lss R x) = lss (srt R) x := by
  have hc := lss_can hx (srt_can h)
  have hp : (lss (srt R) x).Perm (lss R x) := List.Perm.flatMap_right (wo x) (srt_perm R)
  exact ⟨hc.ap.perm hp, by rw [srt_of_perm (hc.ap.perm hp) hp.symm, srt_id hc]⟩
theorem cut_perm {R : List Rn} {x : Rn} (hx : Mayr x) (h : ∀ y ∈ R, Mayr y) : (R.filter (fun y => !ovb x y) ++ (R.filter (ovb x)).flatMap (wow x)).Perm (lss R x) := by
  induction R with
  | nil => exact List.Perm.refl _
  | cons y R ih =>
    have ih := ih (fun z hz => h z (by simp [hz]))
    rw [lss_cons]
    cases ho : ovb x y with
    | true =>
      rw [List.filter_cons_of_neg (by simp [ho]), List.filter_cons_of_pos ho, List.flatMap_cons, wow_wo ho]
      refine List.Perm.trans ?_ (List.Perm.append_left _ ih)
      rw [← List.append_assoc, ← List.append_assoc]
      exact List.Perm.append_right _ List.perm_append_comm
    | false =>
      rw [List.filter_cons_of_pos (by simp [ho]), List.filter_cons_of_neg (by simp [ho]), wo_out hx (h y (by simp)) ho]
      exact List.Perm.cons _ ih
/-- They touch. -/
def tch (l : List Rn) (y : Rn) : Bool := l.any (fun x => decide (y.e = x.a) || decide (y.a = x.e))
theorem tch_iff {l : List Rn} {y : Rn} : tch l y = true ↔ ∃ x ∈ l, y.e = x.a ∨ y.a = x.e := by
  unfold tch
  rw [List.any_eq_true]
  simp
theorem tog_may {l : List Rn} (h : ∀ x ∈ l, Mayr x) : ∀ x ∈ tog l, Mayr x := (tog_ok h).1.1
theorem may_app {A B : List Rn} (h : ∀ x ∈ A, Mayr x) (k : ∀ x ∈ B, Mayr x) : ∀ x ∈ A ++ B, Mayr x := fun x hx => by
  rcases List.mem_append.1 hx with hx | hx
  · exact h x hx
  · exact k x hx
theorem may_fil {A : List Rn} (h : ∀ x ∈ A, Mayr x) (f : Rn → Bool) : ∀ x ∈ A.filter f, Mayr x := fun x hx => h x (List.mem_filter.1 hx).1
theorem bt_one {L : List Rn} {x : Rn} {p : Int} (hx : x ∈ L) (h : Inr x p) : Bt L p := ⟨x, hx, h⟩
/-- A run of a list in order, told by a byte in it and one beside it that is in none. -/
theorem can_edge {L : List Rn} (h : Can L) {p : Int} (hp : Bt L p) : (¬ Bt L (p + 1) → ∃ x ∈ L, x.e = p + 1) ∧ (¬ Bt L (p - 1) → ∃ x ∈ L, x.a = p) := by
  obtain ⟨x, hx, h1, h2⟩ := hp
  refine ⟨fun hn => ⟨x, hx, ?_⟩, fun hn => ⟨x, hx, ?_⟩⟩
  · apply Int.le_antisymm
    · apply Int.le_of_not_gt
      intro hlt
      exact hn ⟨x, hx, by omega, by omega⟩
    · omega
  · apply Int.le_antisymm h1
    apply Int.le_of_not_gt
    intro hlt
    exact hn ⟨x, hx, by omega, by omega⟩
section
variable {R l : List Rn}
def pf1 (l : List Rn) : List Rn := tog l
def pf2 (R l : List Rn) : List Rn := tog (pf1 l ++ R.filter (shr (pf1 l)))
def pf3 (R l : List Rn) : List Rn := tog (pf2 R l ++ R.filter (tch (pf2 R l)))
def prest (R l : List Rn) : List Rn := R.filter (fun y => !(shr (pf1 l) y || tch (pf2 R l) y))
theorem pf_facts (hR : Ap R) (hl : ∀ x ∈ l, Mayr x) :
    (Can (pf1 l) ∧ ∀ p, Bt (pf1 l) p ↔ Bt l p) ∧ (Can (pf2 R l) ∧ ∀ p, Bt (pf2 R l) p ↔ Bt l p ∨ Bt (R.filter (shr (pf1 l))) p) ∧ (Can (pf3 R l) ∧ ∀ p, Bt (pf3 R l) p ↔ Bt (pf2 R l) p ∨ Bt (R.filter (tch (pf2 R l))) p) := by
  obtain ⟨a1, a2⟩ := tog_ok hl
  obtain ⟨b1, b2⟩ := tog_ok (may_app a1.1 (may_fil hR.1 (shr (pf1 l))))
  obtain ⟨c1, c2⟩ := tog_ok (may_app b1.1 (may_fil hR.1 (tch (pf2 R l))))
  refine ⟨⟨a1, a2⟩, ⟨b1, fun p => ?_⟩, ⟨c1, fun p => ?_⟩⟩
  · rw [show Bt (pf2 R l) p ↔ _ from b2 p, bt_append, a2]
  · rw [show Bt (pf3 R l) p ↔ _ from c2 p, bt_append]
    exact Iff.rfl
/-- What lies within does not lie beside. -/
theorem put_apart (hR : Ap R) (hl : ∀ x ∈ l, Mayr x) {y : Rn} (hy : y ∈ R) (h : shr (pf1 l) y = true) : tch (pf2 R l) y = false := by
  obtain ⟨⟨a1, a2⟩, ⟨b1, b2⟩, _⟩ := pf_facts hR hl
  have hy2 : ∀ p, Inr y p → Bt (pf2 R l) p := fun p hp => (b2 p).2 (Or.inr ⟨y, List.mem_filter.2 ⟨hy, h⟩, hp⟩)
  have hlt := (hR.1 y hy).lt
  cases ht : tch (pf2 R l) y with
  | false => rfl
  | true =>
    exfalso
    obtain ⟨x, hx, he | he⟩ := tch_iff.1 ht
    · obtain ⟨z, hz, h1, h2⟩ := hy2 (y.e - 1) ⟨by omega, by omega⟩
      have hxm := (b1.1 x hx).lt
      have hne : z ≠ x := by intro e; subst e; omega
      have : ¬ Aprt z x := by unfold Aprt; omega
      exact hne (b1.ap.mem_eq hz hx this)
    · obtain ⟨z, hz, h1, h2⟩ := hy2 y.a ⟨Int.le_refl _, hlt⟩
      have hxm := (b1.1 x hx).lt
      have hne : z ≠ x := by intro e; subst e; omega
      have : ¬ Aprt z x := by unfold Aprt; omega
      exact hne (b1.ap.mem_eq hz hx this)
theorem put_ap (hR : Ap R) (hl : ∀ x ∈ l, Mayr x) : Ap (prest R l ++ pf3 R l) ∧ ∀ p, Bt (prest R l ++ pf3 R l) p ↔ Bt R p ∨ Bt l p := by
  obtain ⟨⟨a1, a2⟩, ⟨b1, b2⟩, ⟨c1, c2⟩⟩ := pf_facts hR hl
  refine ⟨⟨may_app (may_fil hR.1 _) c1.1, List.pairwise_append.2 ⟨hR.2.filter _, c1.ap.2, fun y hy x hx => ?_⟩⟩, fun p => ?_⟩
  · obtain ⟨hyR, hyn⟩ := List.mem_filter.1 hy
    simp only [Bool.not_eq_true', Bool.or_eq_false_iff] at hyn
    obtain ⟨n1, n2⟩ := hyn
    have hym := (hR.1 y hyR).lt
    have hxm := (c1.1 x hx).lt
    -- no byte of y is near a byte of x
    have near : ∀ p q, Inr y p → Inr x q → (q = p ∨ q = p + 1 ∨ q = p - 1) → False := by
      intro p q hp hq hpq
      have hq3 : Bt (pf3 R l) q := ⟨x, hx, hq⟩
      have far : ∀ z ∈ R, Inr z q → z = y := fun z hz hzq => by
        refine hR.mem_eq hz hyR ?_
        unfold Aprt
        unfold Inr at hp hzq
        omega
      rcases (c2 q).1 hq3 with hq2 | ⟨z, hz, hzq⟩
      · rcases (b2 q).1 hq2 with hql | ⟨z, hz, hzq⟩
        · -- q is a byte that was put
          have hyq : ¬ Inr y q := fun h => by
            have := (shr_iff a1.1 (hR.1 y hyR)).2 ⟨q, h, (a2 q).2 hql⟩
            rw [n1] at this
            cases this
          have hp2 : ¬ Bt (pf2 R l) p := by
            intro hb
            rcases (b2 p).1 hb with h | ⟨z, hz, hzp⟩
            · have := (shr_iff a1.1 (hR.1 y hyR)).2 ⟨p, hp, (a2 p).2 h⟩
              rw [n1] at this
              cases this
            · obtain ⟨hzR, hzs⟩ := List.mem_filter.1 hz
              have : z = y := hR.mem_eq hzR hyR (by unfold Aprt; unfold Inr at hp hzp; omega)
              rw [this, n1] at hzs
              cases hzs
          rcases hpq with e | e | e
          · exact hyq (by rw [e]; exact hp)
          · obtain ⟨u, hu, eu⟩ := (can_edge b1 hq2).2 (by rw [e]; simpa using hp2)
            have : tch (pf2 R l) y = true := tch_iff.2 ⟨u, hu, Or.inl (by unfold Inr at hp hyq; omega)⟩
            rw [n2] at this
            cases this
          · obtain ⟨u, hu, eu⟩ := (can_edge b1 hq2).1 (by rw [e]; simpa using hp2)
            have : tch (pf2 R l) y = true := tch_iff.2 ⟨u, hu, Or.inr (by unfold Inr at hp hyq; omega)⟩
            rw [n2] at this
            cases this
        · obtain ⟨hzR, hzs⟩ := List.mem_filter.1 hz
          rw [far z hzR hzq, n1] at hzs
          cases hzs
      · obtain ⟨hzR, hzs⟩ := List.mem_filter.1 hz
        rw [far z hzR hzq, n2] at hzs
        cases hzs
    unfold Aprt
    by_cases h1 : y.e < x.a
    · exact Or.inl h1
    · by_cases h2 : x.e < y.a
      · exact Or.inr h2
      · exfalso
        by_cases h3 : y.a ≤ x.a
        · by_cases h4 : y.e = x.a
          · exact near (y.e - 1) x.a ⟨by omega, by omega⟩ ⟨by omega, by omega⟩ (by omega)
          · exact near x.a x.a ⟨by omega, by omega⟩ ⟨by omega, by omega⟩ (by omega)
        · by_cases h4 : x.e = y.a
          · exact near y.a (x.e - 1) ⟨by omega, by omega⟩ ⟨by omega, by omega⟩ (by omega)
          · exact near y.a y.a ⟨by omega, by omega⟩ ⟨by omega, by omega⟩ (by omega)
  · rw [bt_append, c2, b2]
    constructor
    · rintro (⟨y, hy, h⟩ | (h | ⟨y, hy, h⟩) | ⟨y, hy, h⟩)
      · exact Or.inl ⟨y, (List.mem_filter.1 hy).1, h⟩
      · exact Or.inr h
      · exact Or.inl ⟨y, (List.mem_filter.1 hy).1, h⟩
      · exact Or.inl ⟨y, (List.mem_filter.1 hy).1, h⟩
    · rintro (⟨y, hy, h⟩ | h)
      · cases h1 : shr (pf1 l) y with
        | true => exact Or.inr (Or.inl (Or.inr ⟨y, List.mem_filter.2 ⟨hy, h1⟩, h⟩))
        | false =>
          cases h2 : tch (pf2 R l) y with
          | true => exact Or.inr (Or.inr ⟨y, List.mem_filter.2 ⟨hy, h2⟩, h⟩)
          | false => exact Or.inl ⟨y, List.mem_filter.2 ⟨hy, by simp [h1, h2]⟩, h⟩
      · exact Or.inr (Or.inl (Or.inl h))
/-- So what waits then is this. -/
theorem put_is (hR : Ap R) (hl : ∀ x ∈ l, Mayr x) : srt (prest R l ++ pf3 R l) = tog (srt R ++ l) := by
  obtain ⟨h1, h2⟩ := put_ap hR hl
  obtain ⟨k1, k2⟩ := tog_ok (may_app (srt_can hR).1 hl)
  exact srt_eq h1 k1 (fun p => by rw [h2, k2, bt_append, bt_perm (srt_perm R)])
end
end Go.Proofs.Ytgfondgejimkkaa
