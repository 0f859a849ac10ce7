/- Heaps: one is taken out of the midst. -/
import Derived.Test.YtgfondgejimkkaaHp
namespace Go.Proofs.Ytgfondgejimkkaa
theorem Hd.rem {g : Nat → Nat} {n i : Nat} (h : Hx g 0 (n + 1)) (hi : i < n) (hg : i = 0 ∨ g ((i - 1) / 2) ≤ g n) : Hd (sw g i n) 0 n i := by
  refine ⟨Nat.zero_le _, fun k h0 hn _ hne => ?_, fun k h0 hn hp hi0 _ => ?_⟩
  · unfold sw
    rw [if_neg hne, if_neg (by omega)]
    by_cases hk : k = i
    · rw [if_pos hk]
      rcases hg with e | hg
      · omega
      · rw [hk]; exact hg
    · rw [if_neg hk, if_neg (by omega)]
      exact h k h0 (by omega) (by omega)
  · unfold sw
    rw [if_neg (by omega), if_neg (by omega), if_neg (by omega), if_neg (by omega)]
    have h1 := h i hi0 (by omega) (by omega)
    have h2 := h k h0 (by omega) (by omega)
    rw [hp] at h2
    omega
theorem Hu.rem {g : Nat → Nat} {n i : Nat} (h : Hx g 0 (n + 1)) (hi : i < n) (h0 : 0 < i) (hg : g n < g ((i - 1) / 2)) : Hu (sw g i n) n i ∧ ∀ k, 0 < k → k < n → (k - 1) / 2 = i → sw g i n i ≤ sw g i n k := by
  have hpar := h i h0 (by omega) (by omega)
  have hch : ∀ k, 0 < k → k < n → (k - 1) / 2 = i → g ((i - 1) / 2) ≤ g k := fun k k0 kn kp => by
    have := h k k0 (by omega) (by omega)
    rw [kp] at this
    omega
  refine ⟨⟨fun k k0 kn kne => ?_, fun k k0 kn kp _ => ?_⟩, fun k k0 kn kp => ?_⟩
  · unfold sw
    rw [if_neg kne, if_neg (show ¬ k = n by omega)]
    by_cases e : (k - 1) / 2 = i
    · rw [if_pos e]
      have := hch k k0 kn e
      omega
    · rw [if_neg e, if_neg (by omega)]
      exact h k k0 (by omega) (by omega)
  · unfold sw
    rw [if_neg (by omega), if_neg (by omega), if_neg (by omega), if_neg (by omega)]
    exact hch k k0 kn kp
  · unfold sw
    rw [if_pos rfl, if_neg (by omega), if_neg (by omega)]
    have := hch k k0 kn kp
    omega
theorem Hu.ofx {g : Nat → Nat} {n i : Nat} (h : Hx g 0 n) (hi : i < n) : Hu g n i := by
  refine ⟨fun k h0 hn _ => h k h0 hn (by omega), fun k h0 hn hp hi0 => ?_⟩
  have h1 := h i hi0 hi (by omega)
  have h2 := h k h0 hn (by omega)
  rw [hp] at h2
  omega
/-- What is left when the last one is taken off. -/
theorem rem_parts {L L3 : List Nat} {n i : Nat} (hn : L.length = n + 1) (hi : i < n) (M3 : Mv n (lsw L i n) L3) : ∃ N, L3 = N ++ [L.getD i 0] ∧ N.length = n ∧ (L.getD i 0 :: N).Perm L := by
  have hl : L3.length = n + 1 := (M3.len.trans (lsw_length L i n)).trans hn
  have hne : L3 ≠ [] := fun e => by rw [e] at hl; simp at hl
  have hp : L3.Perm L := M3.perm.trans (lsw_perm L i n (by omega) (by omega))
  have hb : L3.getD n 0 = L.getD i 0 := by
    rw [M3.rest n (Nat.le_refl _), lsw_getD L i n (by omega) (by omega)]
    unfold sw
    rw [if_neg (by omega), if_pos rfl]
  have e1 := List.dropLast_concat_getLast hne
  have e2 : L3.getLast hne = L.getD i 0 := by
    rw [← hb, List.getLast_eq_getElem]
    simp [List.getD, hl]
  rw [e2] at e1
  refine ⟨L3.dropLast, e1.symm, by simp [hl], ?_⟩
  refine List.Perm.trans ?_ hp
  refine List.Perm.trans (List.perm_append_singleton _ _).symm ?_
  rw [e1]
theorem last_parts {L : List Nat} {n : Nat} (hn : L.length = n + 1) : ∃ N, L = N ++ [L.getD n 0] ∧ N.length = n ∧ (L.getD n 0 :: N).Perm L := by
  have hne : L ≠ [] := fun e => by rw [e] at hn; simp at hn
  have e1 := List.dropLast_concat_getLast hne
  have e2 : L.getLast hne = L.getD n 0 := by
    rw [List.getLast_eq_getElem]
    simp [List.getD, hn]
  rw [e2] at e1
  refine ⟨L.dropLast, e1.symm, by simp [hn], ?_⟩
  refine List.Perm.trans (List.perm_append_singleton _ _).symm ?_
  rw [e1]
theorem kf_front (c : Nat → Nat) (N : List Nat) (b k : Nat) (hk : k < N.length) : kf c N k = kf c (N ++ [b]) k := by
  simp [kf, List.getD, List.getElem?_append_left hk]
end Go.Proofs.Ytgfondgejimkkaa
