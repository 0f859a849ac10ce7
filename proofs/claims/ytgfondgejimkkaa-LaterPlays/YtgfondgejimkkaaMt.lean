/- later: plain mathematics of runs: their bytes, lists of runs that do not meet, in order or not; what is put, cut and put together. -/
import Derived.WalkKit
namespace Go.Proofs.Ytgfondgejimkkaa
open Go.RowKit
set_option linter.unusedVariables false
/-- A run: place, length. -/
structure Rn where
  a : Int
  n : Int
def zRn : Rn := ⟨0, 0⟩
def Rn.e (x : Rn) : Int := x.a + x.n
theorem Rn.ext' {x y : Rn} (h1 : x.a = y.a) (h2 : x.n = y.n) : x = y := by cases x; cases y; simp_all
theorem Rn.ext_e {x y : Rn} (h1 : x.a = y.a) (h2 : x.e = y.e) : x = y := Rn.ext' h1 (by unfold Rn.e at h2; omega)
def Mayr (x : Rn) : Prop := 0 ≤ x.a ∧ 1 ≤ x.n ∧ x.e ≤ 72057594037927936
def mayb (x : Rn) : Bool := decide (0 ≤ x.a) && (decide (1 ≤ x.n) && decide (x.a ≤ 72057594037927936 - x.n))
theorem mayb_iff (x : Rn) : mayb x = true ↔ Mayr x := by simp [mayb, Mayr, Rn.e]; omega
theorem mayb_false {x : Rn} (h : mayb x = false) : ¬ Mayr x := fun hm => by rw [(mayb_iff x).2 hm] at h; cases h
theorem Mayr.lt {x : Rn} (h : Mayr x) : x.a < x.e := by unfold Mayr at h; unfold Rn.e; omega
def Inr (x : Rn) (p : Int) : Prop := x.a ≤ p ∧ p < x.e
/-- The bytes of a list of runs. -/
def Bt (L : List Rn) (p : Int) : Prop := ∃ x ∈ L, Inr x p
theorem Bt.nil {p : Int} : ¬ Bt [] p := fun ⟨x, h, _⟩ => by simp at h
theorem bt_cons {x : Rn} {L : List Rn} {p : Int} : Bt (x :: L) p ↔ Inr x p ∨ Bt L p := by
  unfold Bt; simp
theorem bt_append {A B : List Rn} {p : Int} : Bt (A ++ B) p ↔ Bt A p ∨ Bt B p := by
  unfold Bt
  constructor
  · rintro ⟨x, hx, hp⟩
    rcases List.mem_append.1 hx with h | h
    · exact Or.inl ⟨x, h, hp⟩
    · exact Or.inr ⟨x, h, hp⟩
  · rintro (⟨x, hx, hp⟩ | ⟨x, hx, hp⟩)
    · exact ⟨x, List.mem_append.2 (Or.inl hx), hp⟩
    · exact ⟨x, List.mem_append.2 (Or.inr hx), hp⟩
theorem bt_perm {A B : List Rn} (h : A.Perm B) {p : Int} : Bt A p ↔ Bt B p := by
  unfold Bt
  constructor
  · rintro ⟨x, hx, hp⟩; exact ⟨x, h.mem_iff.1 hx, hp⟩
  · rintro ⟨x, hx, hp⟩; exact ⟨x, h.mem_iff.2 hx, hp⟩
/-- A byte lies between them. -/
def Aprt (x y : Rn) : Prop := x.e < y.a ∨ y.e < x.a
theorem Aprt.symm {x y : Rn} (h : Aprt x y) : Aprt y x := Or.symm h
def Ap (L : List Rn) : Prop := (∀ x ∈ L, Mayr x) ∧ L.Pairwise Aprt
def Can (L : List Rn) : Prop := (∀ x ∈ L, Mayr x) ∧ L.Pairwise (fun x y => x.e < y.a)
theorem Can.nil : Can [] := ⟨fun x h => by simp at h, List.Pairwise.nil⟩
theorem Ap.nil : Ap [] := ⟨fun x h => by simp at h, List.Pairwise.nil⟩
theorem Can.ap {L : List Rn} (h : Can L) : Ap L := ⟨h.1, h.2.imp (fun h => Or.inl h)⟩
theorem Ap.perm {A B : List Rn} (h : Ap A) (p : A.Perm B) : Ap B :=
  ⟨fun x hx => h.1 x (p.mem_iff.2 hx), (p.pairwise_iff (fun {x y} h => Aprt.symm h)).1 h.2⟩
theorem Ap.sub {A B : List Rn} (h : Ap A) (p : B.Sublist A) : Ap B := ⟨fun x hx => h.1 x (p.subset hx), h.2.sublist p⟩
theorem Can.sub {A B : List Rn} (h : Can A) (p : B.Sublist A) : Can B := ⟨fun x hx => h.1 x (p.subset hx), h.2.sublist p⟩
theorem Can.tail {x : Rn} {L : List Rn} (h : Can (x :: L)) : Can L := h.sub (List.sublist_cons_self _ _)
/-- Two of them that share a byte, or touch, are one place of the list. -/
theorem Ap.eq {L : List Rn} (h : Ap L) {i j : Nat} (hi : i < L.length) (hj : j < L.length) (hn : ¬ Aprt L[i] L[j]) : i = j := by
  rcases Nat.lt_trichotomy i j with hl | he | hg
  · exact absurd ((List.pairwise_iff_getElem.1 h.2) i j hi hj hl) hn
  · exact he
  · exact absurd ((List.pairwise_iff_getElem.1 h.2) j i hj hi hg).symm hn
theorem Ap.nodup {L : List Rn} (h : Ap L) : L.Nodup := by
  refine List.Pairwise.imp_of_mem ?_ h.2
  intro x y hx hy hxy e
  subst e
  have := (h.1 x hx).lt
  unfold Aprt at hxy
  omega
theorem Ap.mem_eq {L : List Rn} (h : Ap L) {x y : Rn} (hx : x ∈ L) (hy : y ∈ L) (hn : ¬ Aprt x y) : x = y := by
  obtain ⟨i, hi, e1⟩ := List.getElem_of_mem hx
  obtain ⟨j, hj, e2⟩ := List.getElem_of_mem hy
  have := h.eq hi hj (by rw [e1, e2]; exact hn)
  subst this
  rw [← e1, ← e2]
/-- A list in order is told by its bytes. -/
theorem can_uniq {L M : List Rn} (h : Can L) (k : Can M) (hb : ∀ p, Bt L p ↔ Bt M p) : L = M := by
  induction L generalizing M with
  | nil =>
    cases M with
    | nil => rfl
    | cons y M =>
      have := (k.1 y (by simp)).lt
      exact absurd ((hb y.a).2 ⟨y, by simp, Int.le_refl _, this⟩) Bt.nil
  | cons x L ih =>
    cases M with
    | nil =>
      have := (h.1 x (by simp)).lt
      exact absurd ((hb x.a).1 ⟨x, by simp, Int.le_refl _, this⟩) Bt.nil
    | cons y M =>
      have hx := (h.1 x (by simp)).lt
      have hy := (k.1 y (by simp)).lt
      have h1 : ∀ z ∈ L, x.e < z.a := (List.pairwise_cons.1 h.2).1
      have h2 : ∀ z ∈ M, y.e < z.a := (List.pairwise_cons.1 k.2).1
      have low1 : ∀ p, Bt (x :: L) p → x.a ≤ p := by
        intro p hp
        rcases bt_cons.1 hp with hp | ⟨z, hz, hp⟩
        · exact hp.1
        · have := h1 z hz; have := hp.1; omega
      have low2 : ∀ p, Bt (y :: M) p → y.a ≤ p := by
        intro p hp
        rcases bt_cons.1 hp with hp | ⟨z, hz, hp⟩
        · exact hp.1
        · have := h2 z hz; have := hp.1; omega
      have ea : x.a = y.a := by
        have := low2 x.a ((hb x.a).1 (bt_cons.2 (Or.inl ⟨Int.le_refl _, hx⟩)))
        have := low1 y.a ((hb y.a).2 (bt_cons.2 (Or.inl ⟨Int.le_refl _, hy⟩)))
        omega
      have n1 : ¬ Bt (x :: L) x.e := by
        intro hp
        rcases bt_cons.1 hp with hp | ⟨z, hz, hp⟩
        · have := hp.2; omega
        · have := h1 z hz; have := hp.1; omega
      have n2 : ¬ Bt (y :: M) y.e := by
        intro hp
        rcases bt_cons.1 hp with hp | ⟨z, hz, hp⟩
        · have := hp.2; omega
        · have := h2 z hz; have := hp.1; omega
      have ee : x.e = y.e := by
        rcases Int.lt_trichotomy x.e y.e with hl | he | hg
        · exact absurd ((hb x.e).2 (bt_cons.2 (Or.inl ⟨by omega, hl⟩))) n1
        · exact he
        · exact absurd ((hb y.e).1 (bt_cons.2 (Or.inl ⟨by omega, hg⟩))) n2
      have exy : x = y := Rn.ext_e ea ee
      subst exy
      rw [ih h.tail k.tail (fun p => ?_)]
      constructor
      · rintro ⟨z, hz, hp⟩
        rcases bt_cons.1 ((hb p).1 (bt_cons.2 (Or.inr ⟨z, hz, hp⟩))) with hq | hq
        · have := h1 z hz; have := hp.1; have := hq.2; omega
        · exact hq
      · rintro ⟨z, hz, hp⟩
        rcases bt_cons.1 ((hb p).2 (bt_cons.2 (Or.inr ⟨z, hz, hp⟩))) with hq | hq
        · have := h2 z hz; have := hp.1; have := hq.2; omega
        · exact hq
/-- The list in order. -/
def srt (L : List Rn) : List Rn := L.mergeSort (fun x y => decide (x.a ≤ y.a))
theorem srt_perm (L : List Rn) : (srt L).Perm L := List.mergeSort_perm _ _
theorem srt_can {L : List Rn} (h : Ap L) : Can (srt L) := by
  have hs : (srt L).Pairwise (fun x y => decide (x.a ≤ y.a) = true) := List.pairwise_mergeSort (fun a b c h1 h2 => by simp at *; omega) (fun a b => by simp; omega) L
  have ha := h.perm (srt_perm L).symm
  refine ⟨ha.1, ?_⟩
  refine List.Pairwise.imp_of_mem ?_ (hs.and ha.2)
  rintro x y hx hy ⟨h1, h2⟩
  have := (ha.1 x hx).lt
  have := (ha.1 y hy).lt
  simp at h1
  unfold Aprt at h2
  omega
theorem srt_eq {L M : List Rn} (h : Ap L) (k : Can M) (hb : ∀ p, Bt L p ↔ Bt M p) : srt L = M :=
  can_uniq (srt_can h) k (fun p => (bt_perm (srt_perm L)).trans (hb p))
theorem srt_id {M : List Rn} (k : Can M) : srt M = M := srt_eq k.ap k (fun _ => Iff.rfl)
theorem srt_of_perm {L M : List Rn} (h : Ap L) (p : L.Perm M) : srt L = srt M :=
  srt_eq h (srt_can (h.perm p)) (fun q => (bt_perm p).trans (bt_perm (srt_perm M)).symm)
/-- How many bytes. -/
def sz (L : List Rn) : Int := (L.map Rn.n).foldr (· + ·) 0
theorem sz_nil : sz [] = 0 := rfl
theorem sz_cons (x : Rn) (L : List Rn) : sz (x :: L) = x.n + sz L := rfl
theorem sz_append (A B : List Rn) : sz (A ++ B) = sz A + sz B := by
  induction A with
  | nil => simp [sz]
  | cons x A ih => rw [List.cons_append, sz_cons, sz_cons, ih]; omega
theorem sz_perm {A B : List Rn} (h : A.Perm B) : sz A = sz B := by
  induction h with
  | nil => rfl
  | cons x _ ih => rw [sz_cons, sz_cons, ih]
  | swap x y l => simp only [sz_cons]; omega
  | trans _ _ h1 h2 => rw [h1, h2]
theorem sz_pos {L : List Rn} (h : ∀ x ∈ L, Mayr x) : 0 ≤ sz L := by
  induction L with
  | nil => exact Int.le_refl _
  | cons x L ih =>
    have := ih (fun y hy => h y (by simp [hy]))
    have hx := h x (by simp)
    unfold Mayr at hx
    rw [sz_cons]
    omega
/-- They all lie below the greatest place. -/
theorem can_sz {L : List Rn} (h : Can L) {p : Int} (hp : ∀ x ∈ L, p ≤ x.a) (hp0 : p ≤ 72057594037927936) : sz L ≤ 72057594037927936 - p := by
  induction L generalizing p with
  | nil => rw [sz_nil]; omega
  | cons x L ih =>
    have hx := h.1 x (by simp)
    have h1 := (List.pairwise_cons.1 h.2).1
    unfold Mayr at hx
    have := ih h.tail (p := x.e) (fun y hy => Int.le_of_lt (h1 y hy)) (by omega)
    have := hp x (by simp)
    rw [sz_cons]
    unfold Rn.e at *
    omega
theorem ap_sz {L : List Rn} (h : Ap L) : 0 ≤ sz L ∧ sz L ≤ 72057594037927936 := by
  refine ⟨sz_pos h.1, ?_⟩
  rw [← sz_perm (srt_perm L)]
  have := can_sz (srt_can h) (p := 0) (fun x hx => by have := (srt_can h).1 x hx; unfold Mayr at this; omega) (by omega)
  omega

/-- One more, behind or onto the last one. -/
def mst (out : List Rn) (x : Rn) : List Rn :=
  match out.getLast? with
  | none => [x]
  | some y => if y.e < x.a then out ++ [x] else out.dropLast ++ [⟨y.a, max y.e x.e - y.a⟩]
theorem mst_nil (x : Rn) : mst [] x = [x] := rfl
theorem mst_snoc (A : List Rn) (y x : Rn) : mst (A ++ [y]) x = if y.e < x.a then A ++ [y] ++ [x] else A ++ [⟨y.a, max y.e x.e - y.a⟩] := by
  unfold mst
  simp
theorem can_snoc {A : List Rn} {y : Rn} (h : Can A) (hy : Mayr y) (hl : ∀ z ∈ A, z.e < y.a) : Can (A ++ [y]) := by
  refine ⟨fun x hx => ?_, List.pairwise_append.2 ⟨h.2, by simp, fun x hx z hz => ?_⟩⟩
  · rcases List.mem_append.1 hx with hx | hx
    · exact h.1 x hx
    · simp at hx; rw [hx]; exact hy
  · simp at hz; rw [hz]; exact hl x hx
theorem mst_ok {out : List Rn} {x : Rn} (h : Can out) (hx : Mayr x) (hl : ∀ y ∈ out, y.a ≤ x.a) :
    Can (mst out x) ∧ (∀ p, Bt (mst out x) p ↔ Bt out p ∨ Inr x p) ∧ (∀ y ∈ mst out x, y.a ≤ x.a) := by
  rcases List.eq_nil_or_concat out with rfl | ⟨A, y, rfl⟩
  · rw [mst_nil]
    refine ⟨⟨fun z hz => by simp at hz; rw [hz]; exact hx, by simp⟩, fun p => ?_, fun z hz => by simp at hz; rw [hz]; exact Int.le_refl _⟩
    rw [bt_cons]
    constructor
    · rintro (h | h)
      · exact Or.inr h
      · exact Or.inl h
    · rintro (h | h)
      · exact absurd h Bt.nil
      · exact Or.inl h
  · rw [List.concat_eq_append] at h hl ⊢
    rw [mst_snoc]
    have hA : Can A := h.sub (List.sublist_append_left _ _)
    have hAy : ∀ z ∈ A, z.e < y.a := fun z hz => (List.pairwise_append.1 h.2).2.2 z hz y (by simp)
    have hy := h.1 y (by simp)
    have hya := hl y (by simp)
    split
    · rename_i hlt
      refine ⟨can_snoc h hx (fun z hz => ?_), fun p => ?_, fun z hz => ?_⟩
      · rcases List.mem_append.1 hz with hz | hz
        · have := hAy z hz; have := hy.lt; omega
        · simp at hz; rw [hz]; exact hlt
      · rw [bt_append, bt_cons]
        simp [Bt.nil]
      · rcases List.mem_append.1 hz with hz | hz
        · exact hl z hz
        · simp at hz; rw [hz]; exact Int.le_refl _
    · rename_i hnl
      have ee : (⟨y.a, max y.e x.e - y.a⟩ : Rn).e = max y.e x.e := by show y.a + (max y.e x.e - y.a) = max y.e x.e; omega
      have hm : Mayr ⟨y.a, max y.e x.e - y.a⟩ := by
        have := hy.lt
        unfold Mayr at hy hx ⊢
        rw [ee]
        dsimp only
        omega
      refine ⟨can_snoc hA hm hAy, fun p => ?_, fun z hz => ?_⟩
      · rw [bt_append, bt_append, bt_cons, bt_cons]
        have : Inr ⟨y.a, max y.e x.e - y.a⟩ p ↔ Inr y p ∨ Inr x p := by
          unfold Inr
          rw [ee]
          dsimp only
          omega
        rw [this]
        simp only [Bt.nil, or_false]
        exact or_assoc.symm
      · rcases List.mem_append.1 hz with hz | hz
        · exact hl z (by simp [hz])
        · simp at hz; rw [hz]; exact hya
theorem mst_len (out : List Rn) (x : Rn) : (mst out x).length ≤ out.length + 1 := by
  rcases List.eq_nil_or_concat out with rfl | ⟨A, y, rfl⟩
  · rw [mst_nil]; simp
  · rw [List.concat_eq_append, mst_snoc]
    split <;> simp
/-- All of a list, one behind the other. -/
def mrg (l : List Rn) : List Rn := l.foldl mst []
theorem mrg_snoc (l : List Rn) (x : Rn) : mrg (l ++ [x]) = mst (mrg l) x := by unfold mrg; simp
theorem mrg_ok {l : List Rn} (h : ∀ x ∈ l, Mayr x) (hs : l.Pairwise (fun x y => x.a ≤ y.a)) : Can (mrg l) ∧ (∀ p, Bt (mrg l) p ↔ Bt l p) ∧ (∀ z, (∀ x ∈ l, x.a ≤ z) → ∀ y ∈ mrg l, y.a ≤ z) ∧ (mrg l).length ≤ l.length := by
  suffices H : ∀ r : List Rn, r.reverse = l → _ by exact H l.reverse (by simp)
  intro r
  induction r generalizing l with
  | nil =>
    rintro rfl
    exact ⟨Can.nil, fun p => Iff.rfl, fun z _ y hy => by simp [mrg] at hy, Nat.le_refl _⟩
  | cons x r ih =>
    rintro rfl
    rw [List.reverse_cons] at h hs ⊢
    obtain ⟨h1, h2, h3, h4⟩ := ih (l := r.reverse) (fun y hy => h y (by simp at hy; simp [hy])) ((List.pairwise_append.1 hs).1) rfl
    have hl : ∀ y ∈ mrg r.reverse, y.a ≤ x.a := h3 x.a (fun y hy => (List.pairwise_append.1 hs).2.2 y hy x (by simp))
    obtain ⟨k1, k2, k3⟩ := mst_ok h1 (h x (by simp)) hl
    rw [mrg_snoc]
    refine ⟨k1, fun p => ?_, fun z hz y hy => ?_, ?_⟩
    · rw [k2, h2, bt_append, bt_cons]
      simp [Bt.nil]
    · have := k3 y hy
      have := hz x (by simp)
      omega
    · have := mst_len (mrg r.reverse) x
      simp at *
      omega
/-- The bytes of all of them, as long as can be, in order. -/
def tog (l : List Rn) : List Rn := mrg (l.mergeSort (fun x y => decide (x.a ≤ y.a)))
theorem tog_ok {l : List Rn} (h : ∀ x ∈ l, Mayr x) : Can (tog l) ∧ (∀ p, Bt (tog l) p ↔ Bt l p) := by
  have hs : (l.mergeSort (fun x y => decide (x.a ≤ y.a))).Pairwise (fun x y => decide (x.a ≤ y.a) = true) := List.pairwise_mergeSort (fun a b c h1 h2 => by simp at *; omega) (fun a b => by simp; omega) l
  have hp := List.mergeSort_perm l (fun x y => decide (x.a ≤ y.a))
  obtain ⟨h1, h2, _, _⟩ := mrg_ok (fun x hx => h x (hp.mem_iff.1 hx)) (hs.imp (fun h => by simpa using h))
  exact ⟨h1, fun p => (h2 p).trans (bt_perm hp)⟩
/-- Whatever order equals come in. -/
theorem mrg_tog {l s : List Rn} (h : ∀ x ∈ l, Mayr x) (hp : s.Perm l) (hs : s.Pairwise (fun x y => x.a ≤ y.a)) : mrg s = tog l := by
  obtain ⟨h1, h2, _, _⟩ := mrg_ok (l := s) (fun x hx => h x (hp.mem_iff.1 hx)) hs
  obtain ⟨k1, k2⟩ := tog_ok h
  exact can_uniq h1 k1 (fun p => (h2 p).trans ((bt_perm hp).trans (k2 p).symm))
theorem tog_can {L : List Rn} (h : Ap L) : tog L = srt L := by
  obtain ⟨k1, k2⟩ := tog_ok h.1
  exact can_uniq k1 (srt_can h) (fun p => (k2 p).trans (bt_perm (srt_perm L)).symm)
end Go.Proofs.Ytgfondgejimkkaa
