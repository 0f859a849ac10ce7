import Derived.WalkKit
/- Heaps, plain mathematics: places and keys; what down, up, Pop, Push and Init of container/heap keep. Rows as lists of blocks, and their swaps. -/
namespace Go.Proofs.YtnccklbnncaeoaaGreat

/-- Two places changed. -/
def sw {α : Type} (g : Nat → α) (i j : Nat) : Nat → α := fun k => if k = i then g j else if k = j then g i else g k
/-- From lo on, nobody is less than its parent. -/
def Hx (g : Nat → Nat) (lo n : Nat) : Prop := ∀ k, 0 < k → k < n → lo ≤ (k - 1) / 2 → g ((k - 1) / 2) ≤ g k
/-- The same but for the children of i. -/
def Hd (g : Nat → Nat) (lo n i : Nat) : Prop := lo ≤ i ∧ (∀ k, 0 < k → k < n → lo ≤ (k - 1) / 2 → (k - 1) / 2 ≠ i → g ((k - 1) / 2) ≤ g k) ∧ (∀ k, 0 < k → k < n → (k - 1) / 2 = i → 0 < i → lo ≤ (i - 1) / 2 → g ((i - 1) / 2) ≤ g k)
/-- The same but for j itself. -/
def Hu (g : Nat → Nat) (n j : Nat) : Prop := (∀ k, 0 < k → k < n → k ≠ j → g ((k - 1) / 2) ≤ g k) ∧ (∀ k, 0 < k → k < n → (k - 1) / 2 = j → 0 < j → g ((j - 1) / 2) ≤ g k)

theorem Hd.fin {g : Nat → Nat} {lo n i : Nat} (h : Hd g lo n i) (hc : ∀ k, 0 < k → k < n → (k - 1) / 2 = i → g i ≤ g k) : Hx g lo n := by
  intro k h0 hn hl
  by_cases e : (k - 1) / 2 = i
  · rw [e]; exact hc k h0 hn e
  · exact h.2.1 k h0 hn hl e

theorem Hd.step {g : Nat → Nat} {lo n i j : Nat} (h : Hd g lo n i) (hj : j = 2 * i + 1 ∨ j = 2 * i + 2) (hjn : j < n) (hlt : g j ≤ g i) (hc : ∀ k, 0 < k → k < n → (k - 1) / 2 = i → g j ≤ g k) : Hd (sw g i j) lo n j := by
  have hpj : (j - 1) / 2 = i := by omega
  refine ⟨by have := h.1; omega, fun k h0 hn hl hne => ?_, fun k h0 hn hp hj0 hl => ?_⟩
  · by_cases hpi : (k - 1) / 2 = i
    · unfold sw
      rw [if_pos hpi]
      by_cases hkj : k = j
      · rw [if_neg (by omega), if_pos hkj]; exact hlt
      · rw [if_neg (by omega), if_neg hkj]; exact hc k h0 hn hpi
    · have hkj : k ≠ j := fun e => hpi (by rw [e]; exact hpj)
      unfold sw
      rw [if_neg hpi, if_neg hne]
      by_cases hki : k = i
      · subst hki
        rw [if_pos rfl]
        exact h.2.2 j (by omega) hjn hpj h0 hl
      · rw [if_neg hki, if_neg hkj]
        exact h.2.1 k h0 hn hl hpi
  · have hl2 : lo ≤ (k - 1) / 2 := by have := h.1; omega
    have := h.2.1 k h0 hn hl2 (by omega)
    unfold sw
    rw [hpj, if_pos rfl, if_neg (by omega), if_neg (by omega), ← hp]
    exact this

theorem Hu.fin {g : Nat → Nat} {n j : Nat} (h : Hu g n j) (hc : j = 0 ∨ g ((j - 1) / 2) ≤ g j) : Hx g 0 n := by
  intro k h0 hn _
  by_cases e : k = j
  · subst e
    rcases hc with e | hc
    · omega
    · exact hc
  · exact h.1 k h0 hn e

theorem Hu.step {g : Nat → Nat} {n j : Nat} (h : Hu g n j) (h0 : 0 < j) (hjn : j < n) (hlt : g j ≤ g ((j - 1) / 2)) : Hu (sw g ((j - 1) / 2) j) n ((j - 1) / 2) := by
  refine ⟨fun k hk0 hn hne => ?_, fun k hk0 hn hp hp0 => ?_⟩
  · unfold sw
    rw [if_neg hne]
    by_cases hkj : k = j
    · rw [if_pos hkj, hkj, if_pos rfl]; exact hlt
    · rw [if_neg hkj]
      by_cases hpp : (k - 1) / 2 = (j - 1) / 2
      · rw [if_pos hpp]
        have := h.1 k hk0 hn hkj
        rw [hpp] at this
        omega
      · rw [if_neg hpp]
        by_cases hpj : (k - 1) / 2 = j
        · rw [if_pos hpj]
          exact h.2 k hk0 hn hpj h0
        · rw [if_neg hpj]
          exact h.1 k hk0 hn hkj
  · have hpp := h.1 ((j - 1) / 2) hp0 (by omega) (by omega)
    unfold sw
    rw [if_neg (by omega), if_neg (by omega), if_neg (by omega)]
    by_cases hkj : k = j
    · rw [if_pos hkj]; exact hpp
    · rw [if_neg hkj]
      have := h.1 k hk0 hn hkj
      rw [hp] at this
      omega

theorem Hu.of {g : Nat → Nat} {n : Nat} (h : Hx g 0 n) : Hu g (n + 1) n :=
  ⟨fun k h0 hn hne => h k h0 (by omega) (by omega), fun k h0 hn hp _ => by omega⟩
theorem Hd.pop {g : Nat → Nat} {n : Nat} (h : Hx g 0 (n + 1)) : Hd (sw g 0 n) 0 n 0 := by
  refine ⟨Nat.le_refl _, fun k h0 hn _ hne => ?_, fun k _ _ _ h0 _ => absurd h0 (by omega)⟩
  unfold sw
  rw [if_neg hne, if_neg (by omega), if_neg (by omega), if_neg (by omega)]
  exact h k h0 (by omega) (by omega)
theorem Hd.init {g : Nat → Nat} {n i : Nat} (h : Hx g (i + 1) n) : Hd g i n i :=
  ⟨Nat.le_refl _, fun k h0 hn hl hne => h k h0 hn (by omega), fun k _ _ _ h0 hl => by omega⟩
theorem Hx.last (g : Nat → Nat) {lo n : Nat} (h : n / 2 ≤ lo) : Hx g lo n := fun k h0 hn hl => by omega
theorem Hx.least {g : Nat → Nat} {n : Nat} (h : Hx g 0 n) : ∀ k, k < n → g 0 ≤ g k := by
  intro k
  induction k using Nat.strongRecOn with
  | ind k ih =>
    intro hk
    by_cases h0 : k = 0
    · rw [h0]; exact Nat.le_refl _
    · exact Nat.le_trans (ih ((k - 1) / 2) (by omega) (by omega)) (h k (by omega) hk (by omega))
theorem Hx.congr {g f : Nat → Nat} {lo n : Nat} (h : Hx g lo n) (e : ∀ k, k < n → f k = g k) : Hx f lo n := by
  intro k h0 hn hl
  rw [e k hn, e _ (by omega)]
  exact h k h0 hn hl
theorem Hd.congr {g f : Nat → Nat} {lo n i : Nat} (h : Hd g lo n i) (e : ∀ k, k < n → f k = g k) : Hd f lo n i :=
  ⟨h.1, fun k h0 hn hl hne => by rw [e k hn, e _ (by omega)]; exact h.2.1 k h0 hn hl hne, fun k h0 hn hp hi hl => by rw [e k hn, e _ (by omega)]; exact h.2.2 k h0 hn hp hi hl⟩

/-- A row with two places changed. -/
def lsw (L : List Nat) (i j : Nat) : List Nat := (L.set i (L.getD j 0)).set j (L.getD i 0)
theorem lsw_length (L : List Nat) (i j : Nat) : (lsw L i j).length = L.length := by simp [lsw]
theorem lsw_getD (L : List Nat) (i j : Nat) (hi : i < L.length) (hj : j < L.length) (k : Nat) : (lsw L i j).getD k 0 = sw (fun k => L.getD k 0) i j k := by
  unfold lsw sw
  simp only [List.getD, List.getElem?_set, List.length_set]
  by_cases h1 : j = k
  · subst h1
    simp [hj]
    by_cases h2 : j = i
    · subst h2; simp [hj]
    · simp [h2]
  · simp only [h1, if_false]
    by_cases h2 : i = k
    · subst h2; simp [hi]
    · simp [h2, Ne.symm h1, Ne.symm h2]
theorem lsw_perm (L : List Nat) (i j : Nat) (hi : i < L.length) (hj : j < L.length) : (lsw L i j).Perm L := by
  have h := List.set_set_perm (as := L) hi hj
  unfold lsw
  simpa [List.getD, hi, hj] using h
/-- The keys of a row's places. -/
def kf (c : Nat → Nat) (L : List Nat) : Nat → Nat := fun k => c (L.getD k 0)
theorem kf_lsw (c : Nat → Nat) (L : List Nat) (i j : Nat) (hi : i < L.length) (hj : j < L.length) : kf c (lsw L i j) = sw (kf c L) i j := by
  funext k
  unfold kf
  rw [lsw_getD L i j hi hj]
  unfold sw
  split
  · rfl
  · split <;> rfl
/-- What down and up leave: the same blocks, from n on in the same places. -/
structure Mv (n : Nat) (L L' : List Nat) : Prop where
  perm : L'.Perm L
  rest : ∀ k, n ≤ k → L'.getD k 0 = L.getD k 0
theorem Mv.refl (n : Nat) (L : List Nat) : Mv n L L := ⟨List.Perm.refl _, fun _ _ => rfl⟩
theorem Mv.len {n : Nat} {L L' : List Nat} (h : Mv n L L') : L'.length = L.length := h.perm.length_eq
theorem Mv.sw {n : Nat} {L L' : List Nat} (h : Mv n L L') {i j : Nat} (hi : i < n) (hj : j < n) (hn : n ≤ L.length) : Mv n L (lsw L' i j) := by
  have hl := h.len
  refine ⟨(lsw_perm L' i j (by omega) (by omega)).trans h.perm, fun k hk => ?_⟩
  rw [lsw_getD L' i j (by omega) (by omega), Go.Proofs.YtnccklbnncaeoaaGreat.sw, if_neg (by omega), if_neg (by omega)]
  exact h.rest k hk
theorem Mv.trans {n : Nat} {L M N : List Nat} (h : Mv n L M) (k : Mv n M N) : Mv n L N := ⟨k.perm.trans h.perm, fun i hi => (k.rest i hi).trans (h.rest i hi)⟩


theorem Hd.rem {g : Nat → Nat} {n i : Nat} (h : Hx g 0 (n + 1)) (hi : i < n) (hg : i = 0 ∨ g ((i - 1) / 2) ≤ g n) : Hd (sw g i n) 0 n i := by
  refine ⟨Nat.zero_le _, fun k h0 hn _ hne => ?_, fun k h0 hn hp hi0 _ => ?_⟩
  · unfold sw
    rw [if_neg hne, if_neg (by omega)]
    by_cases hk : k = i
    · rw [if_pos hk]
      rcases hg with e | hg
      · omega
      · rw [hk]; exact hg
    · rw [if_neg hk, if_neg (by omega)]
      exact h k h0 (by omega) (by omega)
  · unfold sw
    rw [if_neg (by omega), if_neg (by omega), if_neg (by omega), if_neg (by omega)]
    have h1 := h i hi0 (by omega) (by omega)
    have h2 := h k h0 (by omega) (by omega)
    rw [hp] at h2
    omega
theorem Hu.rem {g : Nat → Nat} {n i : Nat} (h : Hx g 0 (n + 1)) (hi : i < n) (h0 : 0 < i) (hg : g n < g ((i - 1) / 2)) : Hu (sw g i n) n i ∧ ∀ k, 0 < k → k < n → (k - 1) / 2 = i → sw g i n i ≤ sw g i n k := by
  have hpar := h i h0 (by omega) (by omega)
  have hch : ∀ k, 0 < k → k < n → (k - 1) / 2 = i → g ((i - 1) / 2) ≤ g k := fun k k0 kn kp => by
    have := h k k0 (by omega) (by omega)
    rw [kp] at this
    omega
  refine ⟨⟨fun k k0 kn kne => ?_, fun k k0 kn kp _ => ?_⟩, fun k k0 kn kp => ?_⟩
  · unfold sw
    rw [if_neg kne, if_neg (show ¬ k = n by omega)]
    by_cases e : (k - 1) / 2 = i
    · rw [if_pos e]
      have := hch k k0 kn e
      omega
    · rw [if_neg e, if_neg (by omega)]
      exact h k k0 (by omega) (by omega)
  · unfold sw
    rw [if_neg (by omega), if_neg (by omega), if_neg (by omega), if_neg (by omega)]
    exact hch k k0 kn kp
  · unfold sw
    rw [if_pos rfl, if_neg (by omega), if_neg (by omega)]
    have := hch k k0 kn kp
    omega
theorem Hu.ofx {g : Nat → Nat} {n i : Nat} (h : Hx g 0 n) (hi : i < n) : Hu g n i := by
  refine ⟨fun k h0 hn _ => h k h0 hn (by omega), fun k h0 hn hp hi0 => ?_⟩
  have h1 := h i hi0 hi (by omega)
  have h2 := h k h0 hn (by omega)
  rw [hp] at h2
  omega
/-- What is left when the last one is taken off. -/
theorem rem_parts {L L3 : List Nat} {n i : Nat} (hn : L.length = n + 1) (hi : i < n) (M3 : Mv n (lsw L i n) L3) : ∃ N, L3 = N ++ [L.getD i 0] ∧ N.length = n ∧ (L.getD i 0 :: N).Perm L := by
  have hl : L3.length = n + 1 := (M3.len.trans (lsw_length L i n)).trans hn
  have hne : L3 ≠ [] := fun e => by rw [e] at hl; simp at hl
  have hp : L3.Perm L := M3.perm.trans (lsw_perm L i n (by omega) (by omega))
  have hb : L3.getD n 0 = L.getD i 0 := by
    rw [M3.rest n (Nat.le_refl _), lsw_getD L i n (by omega) (by omega)]
    unfold sw
    rw [if_neg (by omega), if_pos rfl]
  have e1 := List.dropLast_concat_getLast hne
  have e2 : L3.getLast hne = L.getD i 0 := by
    rw [← hb, List.getLast_eq_getElem]
    simp [List.getD, hl]
  rw [e2] at e1
  refine ⟨L3.dropLast, e1.symm, by simp [hl], ?_⟩
  refine List.Perm.trans ?_ hp
  refine List.Perm.trans (List.perm_append_singleton _ _).symm ?_
  rw [e1]
theorem last_parts {L : List Nat} {n : Nat} (hn : L.length = n + 1) : ∃ N, L = N ++ [L.getD n 0] ∧ N.length = n ∧ (L.getD n 0 :: N).Perm L := by
  have hne : L ≠ [] := fun e => by rw [e] at hn; simp at hn
  have e1 := List.dropLast_concat_getLast hne
  have e2 : L.getLast hne = L.getD n 0 := by
    rw [List.getLast_eq_getElem]
    simp [List.getD, hn]
  rw [e2] at e1
  refine ⟨L.dropLast, e1.symm, by simp [hn], ?_⟩
  refine List.Perm.trans (List.perm_append_singleton _ _).symm ?_
  rw [e1]
theorem kf_front (c : Nat → Nat) (N : List Nat) (b k : Nat) (hk : k < N.length) : kf c N k = kf c (N ++ [b]) k := by
  simp [kf, List.getD, List.getElem?_append_left hk]
end Go.Proofs.YtnccklbnncaeoaaGreat
