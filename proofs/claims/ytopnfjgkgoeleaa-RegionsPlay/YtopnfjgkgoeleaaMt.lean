/- regions: plain mathematics of lists of regions in order: what one that is put makes of them, what is asked, what is free. -/
import Derived.WalkKit
namespace Go.Proofs.Ytopnfjgkgoeleaa
open Go.RowKit
set_option linter.unusedVariables false
/-- A region: kind, place, length. -/
structure Rn where
  k : Int
  a : Int
  n : Int
def zRn : Rn := ⟨0, 0, 0⟩
def Rn.e (x : Rn) : Int := x.a + x.n
theorem Rn.ext' {x y : Rn} (h1 : x.k = y.k) (h2 : x.a = y.a) (h3 : x.n = y.n) : x = y := by cases x; cases y; simp_all
def Mayr (x : Rn) : Prop := 1 ≤ x.k ∧ x.k ≤ 16 ∧ 0 ≤ x.a ∧ 1 ≤ x.n ∧ x.a + x.n ≤ 72057594037927936
def mayb (x : Rn) : Bool := decide (1 ≤ x.k) && (decide (x.k ≤ 16) && (decide (0 ≤ x.a) && (decide (1 ≤ x.n) && decide (x.a + x.n ≤ 72057594037927936))))
theorem mayb_iff (x : Rn) : mayb x = true ↔ Mayr x := by simp [mayb, Mayr]
theorem mayb_false {x : Rn} (h : mayb x = false) : ¬ Mayr x := fun hm => by rw [(mayb_iff x).2 hm] at h; cases h
def Srt (L : List Rn) : Prop := (∀ x ∈ L, Mayr x) ∧ L.Pairwise (fun x y => x.e ≤ y.a)
theorem Srt.nil : Srt [] := ⟨fun x h => by simp at h, List.Pairwise.nil⟩
theorem gd {L : List Rn} {i : Nat} (h : i < L.length) : L.getD i zRn = L[i] := by simp [List.getD, h]
theorem gd_mem {L : List Rn} {i : Nat} (h : i < L.length) : L.getD i zRn ∈ L := by rw [gd h]; exact List.getElem_mem h
theorem Srt.may {L : List Rn} (h : Srt L) {i : Nat} (hi : i < L.length) : Mayr (L.getD i zRn) := h.1 _ (gd_mem hi)
theorem Srt.lt {L : List Rn} (h : Srt L) {i j : Nat} (hij : i < j) (hj : j < L.length) : (L.getD i zRn).e ≤ (L.getD j zRn).a := by
  rw [gd (by omega), gd hj]
  exact (List.pairwise_iff_getElem.1 h.2) i j (by omega) hj hij
theorem Srt.tail {x : Rn} {L : List Rn} (h : Srt (x :: L)) : Srt L := ⟨fun y hy => h.1 y (by simp [hy]), (List.pairwise_cons.1 h.2).2⟩
theorem Srt.sub {L M : List Rn} (h : Srt L) (s : M.Sublist L) : Srt M := ⟨fun x hx => h.1 x (s.subset hx), h.2.sublist s⟩

/-- The first that ends beyond a place. -/
def bey (L : List Rn) (p : Int) : Nat := L.findIdx (fun x => decide (p < x.e))
def IsB (L : List Rn) (p : Int) (i : Nat) : Prop := i ≤ L.length ∧ (∀ j, j < i → (L.getD j zRn).e ≤ p) ∧ (∀ j, i ≤ j → j < L.length → p < (L.getD j zRn).e)
theorem IsB.uniq {L : List Rn} {p : Int} {i j : Nat} (h : IsB L p i) (k : IsB L p j) : i = j := by
  rcases Nat.lt_trichotomy i j with hl | he | hg
  · have := h.2.2 i (Nat.le_refl _) (by have := k.1; omega)
    have := k.2.1 i hl
    omega
  · exact he
  · have := k.2.2 j (Nat.le_refl _) (by have := h.1; omega)
    have := h.2.1 j hg
    omega
theorem bey_is {L : List Rn} (h : Srt L) (p : Int) : IsB L p (bey L p) := by
  refine ⟨List.findIdx_le_length, fun j hj => ?_, fun j h1 h2 => ?_⟩
  · have hl : bey L p ≤ L.length := List.findIdx_le_length
    have := List.not_of_lt_findIdx hj
    rw [gd (by omega)]
    simpa using this
  · have hb : bey L p < L.length := by omega
    have hp : p < (L.getD (bey L p) zRn).e := by
      have := @List.findIdx_getElem _ (fun x : Rn => decide (p < x.e)) L hb
      rw [gd hb]
      exact of_decide_eq_true this
    by_cases e : j = bey L p
    · rw [e]; exact hp
    · have := h.lt (i := bey L p) (j := j) (by omega) h2
      have := h.may h2
      unfold Mayr at this
      unfold Rn.e at *
      omega
theorem bey_le (L : List Rn) (p : Int) : bey L p ≤ L.length := List.findIdx_le_length
theorem bey_eq {L : List Rn} (h : Srt L) {p : Int} {i : Nat} (k : IsB L p i) : bey L p = i := (bey_is h p).uniq k

/-- Two are apart. -/
def Apt (x y : Rn) : Prop := x.e ≤ y.a ∨ y.e ≤ x.a
theorem Apt.symm {x y : Rn} (h : Apt x y) : Apt y x := h.elim Or.inr Or.inl
/-- By which error one more is refused; 0: it is not. -/
def plE (L : List Rn) (x : Rn) : Int := if L.length = 65536 then 6 else if bey L x.a < L.length ∧ (L.getD (bey L x.a) zRn).a < x.e then 220 else 0
def ins (L : List Rn) (x : Rn) : List Rn := L.take (bey L x.a) ++ x :: L.drop (bey L x.a)
theorem ins_len (L : List Rn) (x : Rn) : (ins L x).length = L.length + 1 := by
  have := bey_le L x.a
  simp [ins]; omega
theorem ins_perm (L : List Rn) (x : Rn) : (ins L x).Perm (x :: L) := by
  unfold ins
  refine List.perm_middle.trans ?_
  rw [List.take_append_drop]
theorem plE_apt {L : List Rn} (h : Srt L) {x : Rn} (hx : Mayr x) (hl : L.length < 65536) : plE L x = 0 ↔ ∀ y ∈ L, Apt x y := by
  have hb := bey_is h x.a
  unfold plE
  rw [if_neg (by omega)]
  constructor
  · intro h0 y hy
    obtain ⟨j, hj, rfl⟩ := List.getElem_of_mem hy
    rw [← gd hj]
    by_cases hjb : j < bey L x.a
    · exact Or.inr (hb.2.1 j hjb)
    · have hlt : bey L x.a < L.length := by omega
      have : ¬ (L.getD (bey L x.a) zRn).a < x.e := fun h => by rw [if_pos ⟨hlt, h⟩] at h0; omega
      refine Or.inl ?_
      by_cases e : j = bey L x.a
      · rw [e]; omega
      · have := h.lt (i := bey L x.a) (j := j) (by omega) hj
        have := h.may hlt
        unfold Mayr at this
        unfold Rn.e at *
        omega
  · intro hap
    rw [if_neg]
    rintro ⟨hlt, h2⟩
    have := hap _ (gd_mem hlt)
    have h3 := hb.2.2 _ (Nat.le_refl _) hlt
    rcases this with h | h <;> omega
theorem plE_cases (L : List Rn) (x : Rn) : plE L x = 6 ∨ plE L x = 220 ∨ plE L x = 0 := by
  unfold plE
  split
  · exact Or.inl rfl
  · split
    · exact Or.inr (Or.inl rfl)
    · exact Or.inr (Or.inr rfl)
theorem plE_len {L : List Rn} {x : Rn} (h : plE L x = 0) : L.length ≠ 65536 := fun e => by unfold plE at h; rw [if_pos e] at h; omega
theorem ins_srt {L : List Rn} (h : Srt L) {x : Rn} (hx : Mayr x) (h0 : plE L x = 0) (hl : L.length < 65536) : Srt (ins L x) := by
  have hb := bey_is h x.a
  have hap := (plE_apt h hx hl).1 h0
  refine ⟨fun y hy => ?_, ?_⟩
  · rcases List.mem_cons.1 ((ins_perm L x).mem_iff.1 hy) with rfl | h1
    · exact hx
    · exact h.1 y h1
  · unfold ins
    rw [List.pairwise_append]
    refine ⟨h.2.sublist (List.take_sublist _ _), List.pairwise_cons.2 ⟨fun y hy => ?_, h.2.sublist (List.drop_sublist _ _)⟩, fun y hy z hz => ?_⟩
    · obtain ⟨j, hj, rfl⟩ := List.getElem_of_mem hy
      simp only [List.length_drop] at hj
      rw [List.getElem_drop, ← gd (by omega)]
      have h1 := hb.2.2 (bey L x.a + j) (by omega) (by omega)
      rcases hap _ (gd_mem (i := bey L x.a + j) (by omega)) with h2 | h2
      · exact h2
      · omega
    · obtain ⟨i, hi, rfl⟩ := List.getElem_of_mem hy
      simp only [List.length_take] at hi
      rw [List.getElem_take, ← gd (by omega)]
      rcases List.mem_cons.1 hz with rfl | h1
      · exact hb.2.1 i (by omega)
      · obtain ⟨j, hj, rfl⟩ := List.getElem_of_mem h1
        simp only [List.length_drop] at hj
        rw [List.getElem_drop, ← gd (by omega)]
        exact h.lt (by omega) (by omega)
/-- Two that are in order and have the same members are the same. -/
theorem srt_perm {L M : List Rn} (h : Srt L) (k : Srt M) (p : L.Perm M) : L = M := by
  induction L generalizing M with
  | nil => exact (List.nil_perm.1 p).symm
  | cons x L ih =>
    cases M with
    | nil => exact absurd p.length_eq (by simp)
    | cons y M =>
      have hxy : x = y := by
        have h1 : x ∈ y :: M := p.mem_iff.1 (by simp)
        have h2 : y ∈ x :: L := p.mem_iff.2 (by simp)
        rcases List.mem_cons.1 h1 with e | h1
        · exact e
        rcases List.mem_cons.1 h2 with e | h2
        · exact e.symm
        have g1 := (List.pairwise_cons.1 h.2).1 y h2
        have g2 := (List.pairwise_cons.1 k.2).1 x h1
        have m1 := h.1 x (by simp)
        have m2 := k.1 y (by simp)
        unfold Mayr at m1 m2
        unfold Rn.e at g1 g2
        omega
      subst hxy
      rw [ih h.tail k.tail ((List.perm_cons x).1 p)]
theorem srt_apt {L : List Rn} (h : Srt L) : L.Pairwise Apt := h.2.imp (fun {a b} h => Or.inl h)

/-- Many, one by one: what there is then, how many were put, the error. -/
def wth (L : List Rn) : List Rn → List Rn × Nat × Int
  | [] => (L, 0, 0)
  | x :: r => if plE L x = 0 then ((wth (ins L x) r).1, (wth (ins L x) r).2.1 + 1, (wth (ins L x) r).2.2) else (L, 0, plE L x)
theorem wth_le (L r : List Rn) : (wth L r).2.1 ≤ r.length := by
  induction r generalizing L with
  | nil => simp [wth]
  | cons x r ih =>
    simp only [wth]
    split
    · have := ih (ins L x); simp only [List.length_cons]; omega
    · simp
theorem wth_ok {L r : List Rn} (h : Srt L) (hr : ∀ x ∈ r, Mayr x) (hl : L.length ≤ 65536) : Srt (wth L r).1 ∧ (wth L r).1.length ≤ 65536 := by
  induction r generalizing L with
  | nil => exact ⟨h, hl⟩
  | cons x r ih =>
    simp only [wth]
    split
    · rename_i h0
      have hn := plE_len h0
      exact ih (ins_srt h (hr x (by simp)) h0 (by omega)) (fun y hy => hr y (by simp [hy])) (by rw [ins_len]; omega)
    · exact ⟨h, hl⟩

/-- The first, of a kind that is not left out, in which one of n bytes lies. -/
def ovr (L : List Rn) (p n : Int) (m : Int → Bool) : Option Rn := if n = 0 then none else L.find? (fun x => decide (p < x.e) && (decide (x.a < p + n) && !m x.k))
def orz (o : Option Rn) : Rn := o.getD zRn
theorem find_at {L : List Rn} {f : Rn → Bool} {i : Nat} (hi : i < L.length) (h1 : f (L.getD i zRn) = true) (h2 : ∀ j, j < i → f (L.getD j zRn) = false) : L.find? f = some (L.getD i zRn) := by
  rw [List.find?_eq_some_iff_getElem]
  refine ⟨h1, i, hi, (gd hi).symm, fun j hj => ?_⟩
  have := h2 j hj
  rw [gd (by omega)] at this
  simpa using this
theorem find_no {L : List Rn} {f : Rn → Bool} (h2 : ∀ j, j < L.length → f (L.getD j zRn) = false) : L.find? f = none := by
  rw [List.find?_eq_none]
  intro x hx
  obtain ⟨j, hj, rfl⟩ := List.getElem_of_mem hx
  have := h2 j hj
  rw [gd hj] at this
  simpa using this

/-- The least multiple from a place on. -/
def mul (p s : Int) : Int := if 0 < p % s then p - p % s + s else p
def fr (n s : Int) : Int → List Rn → Int
  | p, [] => p
  | p, x :: r => if n ≤ x.a - p then p else fr n s (mul x.e s) r
def fre (L : List Rn) (p n s : Int) : Int := fr n s (mul p s) (L.drop (bey L (mul p s)))
theorem mul_ge {p s : Int} (hs : 1 ≤ s) (hp : 0 ≤ p) : p ≤ mul p s ∧ mul p s < p + s ∧ mul p s % s = 0 := by
  unfold mul
  have h1 := Int.emod_nonneg p (show s ≠ 0 by omega)
  have h2 := Int.emod_lt_of_pos p (show 0 < s by omega)
  split
  · refine ⟨by omega, by omega, ?_⟩
    rw [Int.add_emod_right]
    have : p - p % s = s * (p / s) := by have := Int.emod_add_mul_ediv p s; omega
    rw [this]
    exact Int.mul_emod_right s _
  · exact ⟨by omega, by omega, by omega⟩
theorem mul_least {p s q : Int} (hs : 1 ≤ s) (hp : 0 ≤ p) (hq : p ≤ q) (hd : q % s = 0) : mul p s ≤ q := by
  have ⟨h1, h2, h3⟩ := mul_ge hs hp
  by_cases h : q < mul p s
  · exfalso
    have e1 := Int.emod_add_mul_ediv q s
    have e2 := Int.emod_add_mul_ediv (mul p s) s
    rw [hd] at e1
    rw [h3] at e2
    have g1 : s * (q / s) < s * (mul p s / s) := by omega
    have g2 : q / s < mul p s / s := Int.lt_of_mul_lt_mul_left g1 (by omega)
    have g3 : s * (q / s + 1) ≤ s * (mul p s / s) := Int.mul_le_mul_of_nonneg_left (by omega) (by omega)
    rw [Int.mul_add] at g3
    omega
  · omega
/-- n bytes from a place on lie in no region. -/
def Fr (L : List Rn) (p n : Int) : Prop := ∀ x ∈ L, x.e ≤ p ∨ p + n ≤ x.a
/-- The least multiple from a place on at which n bytes are free. -/
def Fst (L : List Rn) (p n s q : Int) : Prop := p ≤ q ∧ q % s = 0 ∧ Fr L q n ∧ ∀ t, p ≤ t → t < q → t % s = 0 → ¬ Fr L t n
theorem Fst.uniq {L : List Rn} {p n s q q' : Int} (h : Fst L p n s q) (k : Fst L p n s q') : q = q' := by
  rcases Int.lt_trichotomy q q' with hl | he | hg
  · exact absurd h.2.2.1 (k.2.2.2 q h.1 hl h.2.1)
  · exact he
  · exact absurd k.2.2.1 (h.2.2.2 q' k.1 hg k.2.1)
/-- What is in the way at a place is so at every place from there up to its end. -/
theorem fr_fst {L : List Rn} (h : Srt L) {n s p : Int} (hs : 1 ≤ s) (hn : 1 ≤ n) (hp : 0 ≤ p) (i : Nat) (hi : i ≤ L.length) (q : Int) (hq : p ≤ q) (hq0 : q % s = 0) (h1 : ∀ j, j < i → (L.getD j zRn).e ≤ q)
    (hall : ∀ t, p ≤ t → t < q → t % s = 0 → ¬ Fr L t n) (h3 : i < L.length → q < (L.getD i zRn).e ∨ 0 < i ∧ q = mul (L.getD (i - 1) zRn).e s) : Fst L p n s (fr n s q (L.drop i)) := by
  induction hk : L.length - i generalizing i q with
  | zero =>
    have : i = L.length := by omega
    rw [List.drop_eq_nil_of_le (by omega), fr]
    refine ⟨hq, hq0, fun x hx => ?_, hall⟩
    obtain ⟨j, hj, rfl⟩ := List.getElem_of_mem hx
    rw [← gd hj]
    exact Or.inl (h1 j (by omega))
  | succ m ih =>
    have hil : i < L.length := by omega
    rw [List.drop_eq_getElem_cons hil, ← gd hil, fr]
    have hm := h.may hil
    have hmm := hm
    unfold Mayr at hm
    split
    · rename_i hle
      refine ⟨hq, hq0, fun x hx => ?_, hall⟩
      obtain ⟨j, hj, rfl⟩ := List.getElem_of_mem hx
      rw [← gd hj]
      by_cases hji : j < i
      · exact Or.inl (h1 j hji)
      · by_cases e : j = i
        · rw [e]; exact Or.inr (by omega)
        · have := h.lt (i := i) (j := j) (by omega) hj
          unfold Rn.e at this
          exact Or.inr (by omega)
    · rename_i hle
      have he0 : 0 ≤ (L.getD i zRn).e := by unfold Rn.e; omega
      have ⟨g1, g2, g3⟩ := mul_ge hs he0
      by_cases hlt : q < (L.getD i zRn).e
      · refine ih (i + 1) (by omega) (mul (L.getD i zRn).e s) (by omega) g3 ?_ ?_ ?_ (by omega)
        · intro j hj
          by_cases e : j = i
          · rw [e]; exact g1
          · have := h1 j (by omega); omega
        · intro t ht1 ht2 ht3
          by_cases hq2 : t < q
          · exact hall t ht1 hq2 ht3
          · intro hF
            rcases hF _ (gd_mem hil) with h5 | h5
            · exact absurd (mul_least hs he0 h5 ht3) (by omega)
            · have : q ≤ t := by omega
              have : (L.getD i zRn).a - q < n := by omega
              omega
        · intro h5
          refine Or.inr ⟨by omega, ?_⟩
          simp
      · have hqq : q = mul (L.getD i zRn).e s := by
          rcases h3 hil with h5 | ⟨h5, h6⟩
          · omega
          · have hil1 : i - 1 < L.length := by omega
            have hm1 := h.may hil1
            unfold Mayr at hm1
            have he1 : 0 ≤ (L.getD (i - 1) zRn).e := by unfold Rn.e; omega
            have ⟨k1, k2, k3⟩ := mul_ge hs he1
            have hlt2 := h.lt (i := i - 1) (j := i) (by omega) hil
            have a1 : mul (L.getD (i - 1) zRn).e s ≤ mul (L.getD i zRn).e s := mul_least hs he1 (by unfold Rn.e at *; omega) g3
            have a2 : mul (L.getD i zRn).e s ≤ q := mul_least hs he0 (by omega) hq0
            omega
        rw [← hqq]
        refine ih (i + 1) (by omega) q hq hq0 ?_ hall ?_ (by omega)
        · intro j hj
          by_cases e : j = i
          · rw [e]; omega
          · exact h1 j (by omega)
        · intro h5
          refine Or.inr ⟨by omega, ?_⟩
          simpa using hqq
theorem fre_fst {L : List Rn} (h : Srt L) {n s p : Int} (hs : 1 ≤ s) (hn : 1 ≤ n) (hp : 0 ≤ p) : Fst L p n s (fre L p n s) := by
  have ⟨g1, g2, g3⟩ := mul_ge hs hp
  have hb := bey_is h (mul p s)
  refine fr_fst h hs hn hp _ hb.1 _ g1 g3 hb.2.1 ?_ (fun hl => Or.inl (hb.2.2 _ (Nat.le_refl _) hl))
  intro t h1 h2 h3
  exact absurd (mul_least hs hp h1 h3) (by omega)

/-- The runs of bytes below a place that lie in no region. -/
def gps (u : Int) : Int → List Rn → List (Int × Int)
  | p, [] => if p < u then [(p, u - p)] else []
  | p, x :: r => if u ≤ x.a then (if p < u then [(p, u - p)] else []) else if p < x.a then (p, x.a - p) :: gps u x.e r else gps u x.e r
def endL (L : List Rn) : Int := (L.getLastD zRn).e
def sumL (L : List Rn) : Int := (L.map Rn.n).foldr (· + ·) 0
def cntK (L : List Rn) (k : Int) : Nat := (L.filter (fun x => x.k == k)).length
def sumK (L : List Rn) (k : Int) : Int := sumL (L.filter (fun x => x.k == k))
theorem sumL_perm {L M : List Rn} (p : L.Perm M) : sumL L = sumL M := by
  induction p with
  | nil => rfl
  | cons x _ ih => simp only [sumL, List.map_cons, List.foldr_cons] at ih ⊢; omega
  | swap x y l => simp only [sumL, List.map_cons, List.foldr_cons]; omega
  | trans _ _ h1 h2 => exact h1.trans h2
end Go.Proofs.Ytopnfjgkgoeleaa
