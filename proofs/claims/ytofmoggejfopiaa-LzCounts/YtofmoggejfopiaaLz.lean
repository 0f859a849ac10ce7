/- Plain mathematics of matches: which one is the longest and nearest, how links of three bytes lead to it, which tokens bytes have. No program is named here. -/
import Derived.WalkKit
namespace Go.Proofs.Ytofmoggejfopiaa

/-- n bytes from the place p on stand d ahead, too. -/
def Mt (b : Nat → Int) (p d n : Nat) : Prop := ∀ j, j < n → b (p + j - d) = b (p + j)
theorem Mt.mono {b : Nat → Int} {p d n m : Nat} (h : Mt b p d n) (hm : m ≤ n) : Mt b p d m := fun j hj => h j (by omega)
theorem Mt.zero (b : Nat → Int) (p d : Nat) : Mt b p d 0 := fun j hj => absurd hj (by omega)
theorem Mt.succ {b : Nat → Int} {p d n : Nat} (h : Mt b p d n) (e : b (p + n - d) = b (p + n)) : Mt b p d (n + 1) := fun j hj => by
  by_cases hn : j = n
  · rw [hn]; exact e
  · exact h j (by omega)
theorem Mt.last {b : Nat → Int} {p d n : Nat} (h : Mt b p d (n + 1)) : b (p + n - d) = b (p + n) := h n (by omega)

/-- The longest match at p of more than k bytes, of m at most and at distances from 1 to D, has n bytes and the distance d; 0 and 0: there is none. -/
def IsL (b : Nat → Int) (m p D k n d : Nat) : Prop :=
  (n = 0 ∧ d = 0 ∧ ∀ e, 1 ≤ e → e ≤ D → k + 1 ≤ m → ¬ Mt b p e (k + 1)) ∨
  (k < n ∧ n ≤ m ∧ 1 ≤ d ∧ d ≤ D ∧ Mt b p d n ∧ (∀ e, 1 ≤ e → e < d → ¬ Mt b p e n) ∧ ∀ e, 1 ≤ e → e ≤ D → n + 1 ≤ m → ¬ Mt b p e (n + 1))
theorem IsL.uniq {b : Nat → Int} {m p D k n d n' d' : Nat} (h : IsL b m p D k n d) (h' : IsL b m p D k n' d') : n = n' ∧ d = d' := by
  rcases h with ⟨rfl, rfl, h1⟩ | ⟨a1, a2, a3, a4, a5, a6, a7⟩
  · rcases h' with ⟨rfl, rfl, _⟩ | ⟨c1, c2, c3, c4, c5, c6, c7⟩
    · exact ⟨rfl, rfl⟩
    · exact absurd (c5.mono (by omega)) (h1 d' c3 c4 (by omega))
  · rcases h' with ⟨rfl, rfl, h1⟩ | ⟨c1, c2, c3, c4, c5, c6, c7⟩
    · exact absurd (a5.mono (by omega)) (h1 d a3 a4 (by omega))
    · have hn : n = n' := by
        rcases Nat.lt_trichotomy n n' with h | h | h
        · exact absurd (c5.mono (by omega)) (a7 d' c3 c4 (by omega))
        · exact h
        · exact absurd (a5.mono (by omega)) (c7 d a3 a4 (by omega))
      subst hn
      refine ⟨rfl, ?_⟩
      rcases Nat.lt_trichotomy d d' with h | h | h
      · exact absurd a5 (c6 d a3 h)
      · exact h
      · exact absurd c5 (a6 d' c3 h)
theorem IsL.more {b : Nat → Int} {m p D j k n d : Nat} (h : IsL b m p D j n d) (hk : j ≤ k) : IsL b m p D k (if k < n then n else 0) (if k < n then d else 0) := by
  by_cases hn : k < n
  · rw [if_pos hn, if_pos hn]
    rcases h with ⟨rfl, rfl, h1⟩ | ⟨a1, a2, a3, a4, a5, a6, a7⟩
    · omega
    · exact .inr ⟨hn, a2, a3, a4, a5, a6, a7⟩
  · rw [if_neg hn, if_neg hn]
    rcases h with ⟨rfl, rfl, h1⟩ | ⟨a1, a2, a3, a4, a5, a6, a7⟩
    · exact .inl ⟨rfl, rfl, fun e h2 h3 h4 h5 => h1 e h2 h3 (by omega) (h5.mono (by omega))⟩
    · exact .inl ⟨rfl, rfl, fun e h2 h3 h4 h5 => a7 e h2 h3 (by omega) (h5.mono (by omega))⟩

/-- How many bytes, of m, stand d ahead. -/
def cnt (b : Nat → Int) (p d : Nat) : Nat → Nat
  | 0 => 0
  | m + 1 => if cnt b p d m = m ∧ b (p + m - d) = b (p + m) then m + 1 else cnt b p d m
theorem cnt_le (b : Nat → Int) (p d m : Nat) : cnt b p d m ≤ m := by
  induction m with
  | zero => simp [cnt]
  | succ m ih => unfold cnt; split <;> omega
theorem cnt_mt (b : Nat → Int) (p d m : Nat) : Mt b p d (cnt b p d m) := by
  induction m with
  | zero => exact Mt.zero _ _ _
  | succ m ih =>
    unfold cnt
    split
    · rename_i h
      rw [h.1] at ih
      exact ih.succ h.2
    · exact ih
theorem cnt_max {b : Nat → Int} {p d m n : Nat} (h : Mt b p d n) (hn : n ≤ m) : n ≤ cnt b p d m := by
  induction m with
  | zero => simp [cnt]; omega
  | succ m ih =>
    by_cases he : n = m + 1
    · subst he
      have h2 := ih
      unfold cnt
      have h3 : cnt b p d m = m := by
        have h4 : ∀ q, q ≤ m → cnt b p d q = q := by
          intro q hq
          induction q with
          | zero => rfl
          | succ q ihq => unfold cnt; rw [if_pos ⟨ihq (by omega), h q (by omega)⟩]
        exact h4 m (Nat.le_refl _)
      rw [if_pos ⟨h3, h m (by omega)⟩]
      exact Nat.le_refl _
    · have := ih (by omega)
      unfold cnt
      split <;> omega
theorem cnt_eq {b : Nat → Int} {p d m n : Nat} (h : Mt b p d n) (hn : n ≤ m) (hx : n = m ∨ b (p + n - d) ≠ b (p + n)) : cnt b p d m = n := by
  have h1 := cnt_max h hn
  rcases hx with rfl | hx
  · have := cnt_le b p d n; omega
  · by_cases h2 : n < cnt b p d m
    · exact absurd ((cnt_mt b p d m).mono (show n + 1 ≤ _ by omega)).last hx
    · omega

/-- How long a match at p may be. -/
def mst (N p : Nat) : Nat := min 258 (N - p)
/-- The best one of the distances up to D. -/
def scan (b : Nat → Int) (m p : Nat) : Nat → Nat × Nat
  | 0 => (0, 0)
  | D + 1 => if 3 ≤ cnt b p (D + 1) m ∧ (scan b m p D).1 < cnt b p (D + 1) m then (cnt b p (D + 1) m, D + 1) else scan b m p D
theorem scan_is (b : Nat → Int) (m p D : Nat) : IsL b m p D 2 (scan b m p D).1 (scan b m p D).2 := by
  induction D with
  | zero => exact .inl ⟨rfl, rfl, fun e h1 h2 => by omega⟩
  | succ D ih =>
    unfold scan
    generalize hs : scan b m p D = s at ih ⊢
    have hl := cnt_le b p (D + 1) m
    split
    · rename_i h
      refine .inr ⟨by show 2 < cnt b p (D + 1) m; omega, hl, by show 1 ≤ D + 1; omega, Nat.le_refl _, cnt_mt _ _ _ _, fun e h1 h2 hm => ?_, fun e h1 h2 h3 hm => ?_⟩
      · have h2' : e ≤ D := by have : e < D + 1 := h2; omega
        dsimp only at hm
        rcases ih with ⟨_, _, i1⟩ | ⟨_, _, _, _, _, _, i7⟩
        · exact i1 e h1 h2' (by omega) (hm.mono (by omega))
        · exact i7 e h1 h2' (by omega) (hm.mono (by omega))
      · dsimp only at hm h3
        by_cases he : e = D + 1
        · subst he
          have := cnt_max hm h3
          omega
        · rcases ih with ⟨_, _, i1⟩ | ⟨_, _, _, _, _, _, i7⟩
          · exact i1 e h1 (by omega) (by omega) (hm.mono (by omega))
          · exact i7 e h1 (by omega) (by omega) (hm.mono (by omega))
    · rename_i h
      rcases ih with ⟨i1, i2, i3⟩ | ⟨i1, i2, i3, i4, i5, i6, i7⟩
      · refine .inl ⟨i1, i2, fun e h1 h2 h3 hm => ?_⟩
        by_cases he : e = D + 1
        · subst he
          have := cnt_max hm h3
          rw [i1] at h
          omega
        · exact i3 e h1 (by omega) h3 hm
      · refine .inr ⟨i1, i2, i3, by omega, i5, i6, fun e h1 h2 h3 hm => ?_⟩
        by_cases he : e = D + 1
        · subst he
          have := cnt_max hm h3
          omega
        · exact i7 e h1 (by omega) h3 hm

/-- The longest match at p. -/
def lng (b : Nat → Int) (N p : Nat) : Nat × Nat := scan b (mst N p) p (min p 32768)
theorem lng_is (b : Nat → Int) (N p : Nat) : IsL b (mst N p) p (min p 32768) 2 (lng b N p).1 (lng b N p).2 := scan_is _ _ _ _
/-- The longest match at p, if it has more than k bytes. -/
def lngk (b : Nat → Int) (N p k : Nat) : Nat × Nat := if k < (lng b N p).1 then lng b N p else (0, 0)
theorem lngk_of {b : Nat → Int} {N p k n d : Nat} (hk : 2 ≤ k) (h : IsL b (mst N p) p (min p 32768) k n d) : lngk b N p k = (n, d) := by
  have h1 := (lng_is b N p).more hk
  have h2 := h1.uniq h
  unfold lngk
  by_cases hc : k < (lng b N p).1
  · rw [if_pos hc] at h2 ⊢
    rw [if_pos hc] at h2
    exact Prod.ext h2.1 h2.2
  · rw [if_neg hc] at h2 ⊢
    rw [if_neg hc] at h2
    exact Prod.ext h2.1 h2.2
theorem lng_cases (b : Nat → Int) (N p : Nat) : lng b N p = (0, 0) ∨ (3 ≤ (lng b N p).1 ∧ (lng b N p).1 ≤ mst N p ∧ 1 ≤ (lng b N p).2 ∧ (lng b N p).2 ≤ p ∧ (lng b N p).2 ≤ 32768 ∧ Mt b p (lng b N p).2 (lng b N p).1) := by
  rcases lng_is b N p with ⟨h1, h2, _⟩ | ⟨h1, h2, h3, h4, h5, _⟩
  · exact .inl (Prod.ext h1 h2)
  · exact .inr ⟨by omega, h2, h3, by omega, by omega, h5⟩
theorem lngk_two (b : Nat → Int) (N p : Nat) : lngk b N p 2 = lng b N p := by
  unfold lngk
  rcases lng_cases b N p with h | h
  · rw [h]; simp
  · rw [if_pos (by omega)]
theorem lng_end (b : Nat → Int) (N p : Nat) (h : N ≤ p + 2) : lng b N p = (0, 0) := by
  rcases lng_cases b N p with h1 | ⟨h1, h2, _⟩
  · exact h1
  · unfold mst at h2; omega

/-! Links -/

def Tri (b : Nat → Int) (q r : Nat) : Prop := b q = b r ∧ b (q + 1) = b (r + 1) ∧ b (q + 2) = b (r + 2)
theorem Tri.symm {b : Nat → Int} {q r : Nat} (h : Tri b q r) : Tri b r q := ⟨h.1.symm, h.2.1.symm, h.2.2.symm⟩
theorem Tri.trans {b : Nat → Int} {q r s : Nat} (h : Tri b q r) (k : Tri b r s) : Tri b q s := ⟨h.1.trans k.1, h.2.1.trans k.2.1, h.2.2.trans k.2.2⟩
theorem Mt.tri {b : Nat → Int} {p d n f : Nat} (h : Mt b p d n) (hf : f + 3 ≤ n) (hd : d ≤ p + f) : Tri b (p + f - d) (p + f) := by
  refine ⟨h f (by omega), ?_, ?_⟩
  · have := h (f + 1) (by omega)
    rw [show p + f - d + 1 = p + (f + 1) - d by omega, this]; rfl
  · have := h (f + 2) (by omega)
    rw [show p + f - d + 2 = p + (f + 2) - d by omega, this]; rfl
/-- L tells how far back the last place with the same three bytes is (0: beyond the window). -/
def Linked (b : Nat → Int) (N : Nat) (L : Nat → Nat) : Prop :=
  (∀ q, q + 3 ≤ N → L q ≠ 0 → L q ≤ q ∧ Tri b (q - L q) q) ∧ ∀ q d, q + 3 ≤ N → 1 ≤ d → d ≤ q → d ≤ 32768 → Tri b (q - d) q → L q ≠ 0 ∧ L q ≤ d
def Lk (b : Nat → Int) (N : Nat) (L : Nat → Nat) : Prop := (∀ q, L q = 1) ∨ Linked b N L
/-- Where a trail is: f: whose links are followed, s: of how many the links were looked at, r: how far back it is, n: how long a match there is already. -/
def Tr (b : Nat → Int) (p : Nat) (L : Nat → Nat) (n f s r : Nat) : Prop := f + 2 ≤ n ∧ s + 1 ≤ n ∧ ((∀ q, L q = 1) ∨ (r ≤ p + f ∧ Tri b (p + f - r) (p + f)))
/-- Between r0 and r there is no match of more than n bytes. -/
def Sk (b : Nat → Int) (p n r0 r : Nat) : Prop := ∀ d, r0 < d → d < r → d ≤ p → d ≤ 32768 → ¬ Mt b p d (n + 1)
/-- Beyond r0 there is none. -/
def No (b : Nat → Int) (p n r0 : Nat) : Prop := ∀ d, r0 < d → d ≤ p → d ≤ 32768 → ¬ Mt b p d (n + 1)
theorem Tr.start (b : Nat → Int) (p : Nat) (L : Nat → Nat) (n : Nat) (hn : 2 ≤ n) : Tr b p L n 0 0 0 := ⟨by omega, by omega, .inr ⟨by omega, ⟨rfl, rfl, rfl⟩⟩⟩
theorem Tr.grow {b : Nat → Int} {p : Nat} {L : Nat → Nat} {n f s r n' : Nat} (h : Tr b p L n f s r) (hn : n ≤ n') : Tr b p L n' f s r := ⟨by have := h.1; omega, by have := h.2.1; omega, h.2.2⟩
theorem step_no {b : Nat → Int} {N p : Nat} {L : Nat → Nat} {n f s r : Nat} (hL : Lk b N L) (h : Tr b p L n f s r) (hN : p + n + 1 ≤ N) (h0 : L (p + f - r) = 0) : No b p n r := by
  intro d h1 h2 h3 hm
  obtain ⟨hf, hs, ht⟩ := h
  rcases hL with hL | ⟨_, hL⟩
  · rw [hL] at h0; omega
  · rcases ht with ht | ⟨hr, ht⟩
    · rw [ht] at h0; omega
    · have h4 := hm.tri (f := f) (by omega) (by omega)
      have h5 := hL (p + f - r) (d - r) (by omega) (by omega) (by omega) (by omega) (by
        rw [show p + f - r - (d - r) = p + f - d by omega]
        exact h4.trans ht.symm)
      exact h5.1 h0
theorem step_sk {b : Nat → Int} {N p : Nat} {L : Nat → Nat} {n f s r : Nat} (hL : Lk b N L) (h : Tr b p L n f s r) (hN : p + n + 1 ≤ N) (h0 : L (p + f - r) ≠ 0) : Tr b p L n f s (r + L (p + f - r)) ∧ Sk b p n r (r + L (p + f - r)) := by
  obtain ⟨hf, hs, ht⟩ := h
  rcases hL with hL | ⟨hL1, hL2⟩
  · refine ⟨⟨hf, hs, .inl hL⟩, fun d h1 h2 => ?_⟩
    rw [hL] at h2; omega
  · rcases ht with ht | ⟨hr, ht⟩
    · refine ⟨⟨hf, hs, .inl ht⟩, fun d h1 h2 => ?_⟩
      rw [ht] at h2; omega
    · have h6 := hL1 (p + f - r) (by omega) h0
      refine ⟨⟨hf, hs, .inr ⟨by omega, ?_⟩⟩, fun d h1 h2 h3 h4 hm => ?_⟩
      · rw [show p + f - (r + L (p + f - r)) = p + f - r - L (p + f - r) by omega]
        exact h6.2.trans ht
      · have h5 := hL2 (p + f - r) (d - r) (by omega) (by omega) (by omega) (by omega) (by
          rw [show p + f - r - (d - r) = p + f - d by omega]
          exact (hm.tri (by omega) (by omega)).trans ht.symm)
        omega
theorem look_no {b : Nat → Int} {N p : Nat} {L : Nat → Nat} {n s r : Nat} (hL : Lk b N L) (hs : s + 1 < n) (hN : p + n + 1 ≤ N) (h0 : L (p + s) = 0) : No b p n r := by
  intro d h1 h2 h3 hm
  rcases hL with hL | ⟨_, hL⟩
  · rw [hL] at h0; omega
  · exact (hL (p + s) d (by omega) (by omega) (by omega) h3 (hm.tri (by omega) (by omega))).1 h0
theorem look_far {b : Nat → Int} {N p : Nat} {L : Nat → Nat} {n s r r0 : Nat} (hL : Lk b N L) (hs : s + 1 < n) (hN : p + n + 1 ≤ N) (hr0 : r0 < r) (h0 : r < L (p + s)) : Tr b p L n s (s + 1) (L (p + s)) ∧ Sk b p n r0 (L (p + s)) := by
  rcases hL with hL | ⟨hL1, hL2⟩
  · rw [hL] at h0; omega
  · have h6 := hL1 (p + s) (by omega) (by omega)
    refine ⟨⟨by omega, by omega, .inr h6⟩, fun d h1 h2 h3 h4 hm => ?_⟩
    have h5 := hL2 (p + s) d (by omega) (by omega) (by omega) h4 (hm.tri (by omega) (by omega))
    omega
theorem look_on {b : Nat → Int} {p : Nat} {L : Nat → Nat} {n f s r : Nat} (h : Tr b p L n f s r) (hs : s + 1 < n) : Tr b p L n f (s + 1) r := ⟨h.1, by omega, h.2.2⟩
theorem no_of_sk {b : Nat → Int} {p n r0 r : Nat} (h : Sk b p n r0 r) (hr : ¬ r ≤ min p 32768) : No b p n r0 := fun d h1 h2 h3 => h d h1 (by omega) h2 h3

/-- What the search has come to: n the length, d the distance, r how far back it is. -/
def Srch (b : Nat → Int) (m p k n d r : Nat) : Prop :=
  k ≤ n ∧ n < m ∧ ((d = 0 ∧ n = k) ∨ (k < n ∧ 1 ≤ d ∧ d ≤ r ∧ r ≤ min p 32768 ∧ Mt b p d n ∧ ∀ e, 1 ≤ e → e < d → ¬ Mt b p e n)) ∧ ∀ e, 1 ≤ e → e ≤ r → e ≤ p → e ≤ 32768 → ¬ Mt b p e (n + 1)
theorem Srch.start (b : Nat → Int) (m p k : Nat) (h : k < m) : Srch b m p k k 0 0 := ⟨Nat.le_refl _, h, .inl ⟨rfl, rfl⟩, fun e h1 h2 => by omega⟩
theorem Srch.fin {b : Nat → Int} {m p k n d r : Nat} (h : Srch b m p k n d r) (hn : No b p n r) : IsL b m p (min p 32768) k (if d = 0 then 0 else n) d := by
  obtain ⟨h1, h2, h3, h4⟩ := h
  have hall : ∀ e, 1 ≤ e → e ≤ min p 32768 → ¬ Mt b p e (n + 1) := fun e e1 e2 => by
    by_cases he : e ≤ r
    · exact h4 e e1 he (by omega) (by omega)
    · exact hn e (by omega) (by omega) (by omega)
  rcases h3 with ⟨rfl, rfl⟩ | ⟨a1, a2, a3, a4, a5, a6⟩
  · exact .inl ⟨by simp, rfl, fun e e1 e2 _ => hall e e1 e2⟩
  · rw [if_neg (by omega)]
    exact .inr ⟨a1, by omega, a2, by omega, a5, a6, fun e e1 e2 _ => hall e e1 e2⟩
/-- On to r', where the match is none that is longer. -/
theorem Srch.skip {b : Nat → Int} {m p k n d r r' : Nat} (h : Srch b m p k n d r) (hs : Sk b p n r r') (hr : r < r') (hr' : r' ≤ min p 32768) (hno : ¬ Mt b p r' (n + 1)) : Srch b m p k n d r' := by
  obtain ⟨h1, h2, h3, h4⟩ := h
  refine ⟨h1, h2, ?_, fun e e1 e2 e3 e4 => ?_⟩
  · rcases h3 with h3 | ⟨a1, a2, a3, a4, a5, a6⟩
    · exact .inl h3
    · exact .inr ⟨a1, a2, by omega, hr', a5, a6⟩
  · by_cases he : e ≤ r
    · exact h4 e e1 he e3 e4
    · by_cases he2 : e = r'
      · rw [he2]; exact hno
      · exact hs e (by omega) (by omega) e3 e4
/-- At r', with a longer one: which has n' bytes and no more. -/
theorem Srch.found {b : Nat → Int} {m p k n d r r' n' : Nat} (h : Srch b m p k n d r) (hs : Sk b p n r r') (hr : r < r') (hr' : r' ≤ min p 32768) (hn : n < n') (hm : Mt b p r' n') :
    (n' < m → b (p + n' - r') ≠ b (p + n') → Srch b m p k n' r' r') ∧ (n' = m → IsL b m p (min p 32768) k m r') := by
  obtain ⟨h1, h2, h3, h4⟩ := h
  have hlt : ∀ e, 1 ≤ e → e < r' → ¬ Mt b p e n' := fun e e1 e2 hx => by
    by_cases he : e ≤ r
    · exact h4 e e1 he (by omega) (by omega) (hx.mono (by omega))
    · exact hs e (by omega) e2 (by omega) (by omega) (hx.mono (by omega))
  refine ⟨fun c1 c2 => ⟨by omega, c1, .inr ⟨by omega, by omega, Nat.le_refl _, hr', hm, hlt⟩, fun e e1 e2 e3 e4 hx => ?_⟩, fun c => ?_⟩
  · by_cases he : e = r'
    · subst he; exact c2 hx.last
    · exact hlt e e1 (by omega) (hx.mono (by omega))
  · subst c
    exact .inr ⟨by omega, Nat.le_refl _, by omega, hr', hm, hlt, fun e _ _ h => by omega⟩

/-! Tokens -/

/-- The token at p: how many bytes, how far back; 0 and 0: the byte. -/
def tk (b : Nat → Int) (N : Nat) (a : Bool) (p : Nat) : Nat × Nat :=
  if (lng b N p).1 = 0 ∨ (a = true ∧ (lng b N p).1 < (lng b N (p + 1)).1) then (0, 0) else lng b N p
theorem tk_cases (b : Nat → Int) (N : Nat) (a : Bool) (p : Nat) : tk b N a p = (0, 0) ∨ (tk b N a p = lng b N p ∧ 3 ≤ (lng b N p).1 ∧ (lng b N p).1 ≤ mst N p ∧ 1 ≤ (lng b N p).2 ∧ (lng b N p).2 ≤ p ∧ (lng b N p).2 ≤ 32768 ∧ Mt b p (lng b N p).2 (lng b N p).1) := by
  unfold tk
  split
  · exact .inl rfl
  · rename_i h
    rcases lng_cases b N p with h1 | h1
    · rw [h1] at h; simp at h
    · exact .inr ⟨rfl, h1⟩
theorem tk_le (b : Nat → Int) (N : Nat) (a : Bool) (p : Nat) : (tk b N a p).1 ≤ 258 ∧ (tk b N a p).2 ≤ 32768 ∧ (tk b N a p).2 ≤ p ∧ (p < N → p + max 1 (tk b N a p).1 ≤ N) := by
  rcases tk_cases b N a p with h | ⟨h, h1, h2, h3, h4, h5, h6⟩
  · rw [h]; simp; omega
  · rw [h]
    unfold mst at h2
    exact ⟨by omega, h5, h4, fun _ => by omega⟩
/-- The place of the token of the number k. -/
def ps (b : Nat → Int) (N : Nat) (a : Bool) : Nat → Nat
  | 0 => 0
  | k + 1 => ps b N a k + max 1 (tk b N a (ps b N a k)).1
/-- A token: its byte, its length, its distance. -/
abbrev Tok := Int × Int × Int
def tokAt (b : Nat → Int) (N : Nat) (a : Bool) (p : Nat) : Tok := if (tk b N a p).1 = 0 then (b p, 0, 0) else (0, ((tk b N a p).1 : Int), ((tk b N a p).2 : Int))
/-- The first k tokens. -/
def tks (b : Nat → Int) (N : Nat) (a : Bool) : Nat → List Tok
  | 0 => []
  | k + 1 => tks b N a k ++ [tokAt b N a (ps b N a k)]
theorem tks_len (b : Nat → Int) (N : Nat) (a : Bool) (k : Nat) : (tks b N a k).length = k := by
  induction k with
  | zero => rfl
  | succ k ih => simp [tks, ih]
theorem ps_ge (b : Nat → Int) (N : Nat) (a : Bool) (k : Nat) : k ≤ ps b N a k := by
  induction k with
  | zero => simp [ps]
  | succ k ih => simp only [ps]; omega
theorem ps_lt (b : Nat → Int) (N : Nat) (a : Bool) (k : Nat) : ps b N a k < ps b N a (k + 1) := by simp only [ps]; omega
theorem ps_mono (b : Nat → Int) (N : Nat) (a : Bool) {i k : Nat} (h : i ≤ k) : ps b N a i ≤ ps b N a k := by
  induction k with
  | zero => rw [show i = 0 by omega]; exact Nat.le_refl _
  | succ k ih =>
    by_cases hi : i = k + 1
    · rw [hi]; exact Nat.le_refl _
    · have := ih (by omega)
      have := ps_lt b N a k
      omega
theorem ps_le {b : Nat → Int} {N : Nat} {a : Bool} {k : Nat} (h : ps b N a k < N) : ps b N a (k + 1) ≤ N := (tk_le b N a _).2.2.2 h
/-- There are just k tokens. -/
def Many (b : Nat → Int) (N : Nat) (a : Bool) (k : Nat) : Prop := ps b N a k = N
theorem Many.uniq {b : Nat → Int} {N : Nat} {a : Bool} {i k : Nat} (h : Many b N a i) (h' : Many b N a k) : i = k := by
  unfold Many at h h'
  rcases Nat.lt_trichotomy i k with c | c | c
  · have := ps_mono b N a (show i + 1 ≤ k by omega)
    have := ps_lt b N a i
    omega
  · exact c
  · have := ps_mono b N a (show k + 1 ≤ i by omega)
    have := ps_lt b N a k
    omega
theorem many_ex (b : Nat → Int) (N : Nat) (a : Bool) : ∃ k, k ≤ N ∧ Many b N a k := by
  have h : ∀ j, ∃ k, k ≤ N ∧ (Many b N a k ∨ (j ≤ k ∧ ps b N a k < N)) := by
    intro j
    induction j with
    | zero =>
      by_cases h0 : N = 0
      · exact ⟨0, by omega, .inl (by unfold Many; rw [h0]; rfl)⟩
      · exact ⟨0, by omega, .inr ⟨by omega, by show 0 < N; omega⟩⟩
    | succ j ih =>
      obtain ⟨k, hk, h1 | ⟨h1, h2⟩⟩ := ih
      · exact ⟨k, hk, .inl h1⟩
      · have h3 := ps_le h2
        have h4 := ps_ge b N a (k + 1)
        by_cases h5 : ps b N a (k + 1) = N
        · exact ⟨k + 1, by omega, .inl h5⟩
        · exact ⟨k + 1, by omega, .inr ⟨by omega, by omega⟩⟩
  obtain ⟨k, hk, h1 | ⟨h1, h2⟩⟩ := h N
  · exact ⟨k, hk, h1⟩
  · have := ps_ge b N a k
    omega
end Go.Proofs.Ytofmoggejfopiaa
