/- The lengths that the coins tell: all that is wanted of them. -/
import Derived.Test.YthpocbpleffdpaaMj
namespace Go.Proofs.Ythpocbpleffdpaa.Pm
set_option linter.unusedVariables false
def sp1 (zs : List Int) (S : List Nd × List Nat) : List Nd × List Nat :=
  ((prs (S.2.length / 2) (S.1 ++ lv zs zs.length, S.2, [])).1, lnum zs S.1.length ++ (prs (S.2.length / 2) (S.1 ++ lv zs zs.length, S.2, [])).2.2)
def spS (zs : List Int) : Nat → List Nd × List Nat
  | 0 => (lv zs zs.length, List.range (pos zs).length)
  | t + 1 => sp1 zs (spS zs t)
theorem spS_lv {zs : List Int} (hl : zs.length ≤ 320) : ∀ t, t ≤ 1000 → Lv zs t (spS zs t).1 (spS zs t).2
  | 0, _ => lv_zero zs hl
  | t + 1, h => lv_step (spS_lv hl t (by omega)) hl (by omega)
theorem lvs_pos {zs : List Int} {F : List Nd} (h : Wf F) (hf : ∀ k, k < F.length → (F.getD k nd0).2.2 = none → sy F k ∈ pos zs) : ∀ n k d, k < n → k < F.length → ∀ x ∈ lvs F k d, x.1 ∈ pos zs
  | 0, k, d, hk, _, _, _ => by omega
  | n + 1, k, d, hk, hkF, x, hx => by
    cases e : (F.getD k nd0).2.2 with
    | none =>
      rw [lvs_leaf d e] at hx
      have : x = ((F.getD k nd0).2.1, d) := by simpa using hx
      rw [this]
      exact hf k hkF e
    | some p =>
      obtain ⟨_, h3, h4⟩ := wf_kid h e
      rw [lvs_node h d e] at hx
      rcases List.mem_append.1 hx with hx | hx
      · exact lvs_pos h hf n p.1 (d + 1) (by omega) (by omega) x hx
      · exact lvs_pos h hf n p.2 (d + 1) (by omega) (by omega) x hx
theorem tl_not {zs : List Int} {F : List Nd} (h : Wf F) (hf : ∀ k, k < F.length → (F.getD k nd0).2.2 = none → sy F k ∈ pos zs) {k s : Nat} (hk : k < F.length) (hs : s ∉ pos zs) : tl F k s = 0 := by
  unfold tl
  rw [List.filter_eq_nil_iff.2]
  · rfl
  · intro x hx
    have := lvs_pos h hf (k + 1) k 0 (by omega) hk x hx
    simp only [decide_eq_true_eq]
    intro e
    exact hs (e ▸ this)
/-- What weighs as much as the whole at one depth does so at each. -/
theorem kraft_any (l : List Nat) (f : Nat → Nat) {L D : Nat} (hL : ∀ s ∈ l, f s ≤ L) (hD : ∀ s ∈ l, f s ≤ D) (h : (l.map (fun s => 2 ^ (L - f s))).sum = 2 ^ L) : (l.map (fun s => 2 ^ (D - f s))).sum = 2 ^ D := by
  have key : ∀ l : List Nat, (∀ s ∈ l, f s ≤ L) → (∀ s ∈ l, f s ≤ D) → (l.map (fun s => 2 ^ (D - f s))).sum * 2 ^ L = (l.map (fun s => 2 ^ (L - f s))).sum * 2 ^ D := by
    intro l
    induction l with
    | nil => intro _ _; simp
    | cons a l ih =>
      intro h1 h2
      have ih := ih (fun s hs => h1 s (by simp [hs])) (fun s hs => h2 s (by simp [hs]))
      have a1 := h1 a (by simp)
      have a2 := h2 a (by simp)
      have : 2 ^ (D - f a) * 2 ^ L = 2 ^ (L - f a) * 2 ^ D := by rw [← Nat.pow_add, ← Nat.pow_add]; congr 1; omega
      simp only [List.map_cons, List.sum_cons, Nat.add_mul]
      omega
  have h1 := key l hL hD
  rw [h, Nat.mul_comm] at h1
  exact Nat.eq_of_mul_eq_mul_left (Nat.two_pow_pos L) h1
theorem map_idx (l : List Nat) (g : Nat → Nat) : l.map g = (List.range l.length).map (fun j => g (l.getD j 0)) := by
  apply List.ext_getElem
  · simp
  · intro i h1 h2
    simp only [List.getElem_map, List.getElem_range]
    rw [List.getD_eq_getElem?_getD, List.getElem?_eq_getElem (by simpa using h1)]
    rfl
theorem spent_hz {zs Z : List Int} {L : Nat} (hl : zs.length ≤ 320) (h2 : 2 ≤ (pos zs).length) (hL1 : 1 ≤ L) (hL2 : L ≤ 1000) (hr : 2 * (pos zs).length - 2 ≤ (row (base zs) (L - 1)).length) (hZl : Z.length = zs.length)
    (hZ : ∀ i, i < zs.length → Z.getD i 0 = ((tsum (spS zs (L - 1)).1 (pks (spS zs (L - 1)).1 (2 * (pos zs).length - 2) (spS zs (L - 1)).2) i : Nat) : Int)) :
    Hz zs Z ∧ ltot zs Z = ps (row (base zs) (L - 1)) (2 * (pos zs).length - 2) ∧ (∀ s ∈ pos zs, (Z.getD s 0).toNat ≤ L) ∧ ∀ s ∈ pos zs, ∀ s' ∈ pos zs, cnv zs s' < cnv zs s → Z.getD s 0 ≤ Z.getD s' 0 := by
  have hv := spS_lv hl (L - 1) (by omega)
  obtain ⟨F, hF⟩ : ∃ F, F = (spS zs (L - 1)).1 := ⟨_, rfl⟩
  obtain ⟨K, hK⟩ : ∃ K, K = (spS zs (L - 1)).2 := ⟨_, rfl⟩
  rw [← hF, ← hK] at hv hZ
  have hlen := hv.len
  have hb63 : ∀ k ∈ K, k < 9223372036854775808 := fun k hk => by have := hv.kl k hk; have := hv.bd; omega
  have hpk : pks F (2 * (pos zs).length - 2) K = (isk F K).take (2 * (pos zs).length - 2) := by rw [pks_take _ K.length K (by omega), pks_isk hv.asc hb63]
  rw [hpk] at hZ
  have hbl := base_plen zs
  have hol := ordS_len zs
  have hZo : ∀ j (hj : j < (ordS zs).length), Z.getD (ordS zs)[j] 0 = ((lev (base zs) (L - 1) (2 * (base zs).length - 2) j : Nat) : Int) := by
    intro j hj
    have hm : (ordS zs)[j] ∈ pos zs := (ordS_perm zs).mem_iff.1 (List.getElem_mem _)
    rw [hZ _ (pos_mem.1 hm).1, hv.ta _ (by omega) j hj, hbl]
  have hsj : ∀ s ∈ pos zs, ∃ j, ∃ (hj : j < (ordS zs).length), (ordS zs)[j] = s := fun s hs => by
    obtain ⟨j, hj, e⟩ := List.mem_iff_getElem.1 ((ordS_perm zs).mem_iff.2 hs)
    exact ⟨j, hj, e⟩
  obtain ⟨k1, k2⟩ := lev_kraft (W := base zs) (srt_srt _) (base_pos zs) (by omega) (t := L - 1) (by rw [hbl]; exact hr)
  rw [show L - 1 + 1 = L by omega] at k1
  have hle : ∀ s ∈ pos zs, (Z.getD s 0).toNat ≤ L := fun s hs => by
    obtain ⟨j, hj, rfl⟩ := hsj s hs
    rw [hZo j hj, Int.toNat_natCast]
    have := lev_le (base zs) (L - 1) (2 * (base zs).length - 2) j
    omega
  have hgd : ∀ j, j < (ordS zs).length → ∃ hj : j < (ordS zs).length, (ordS zs).getD j 0 = (ordS zs)[j] := fun j hj => ⟨hj, by rw [List.getD_eq_getElem?_getD, List.getElem?_eq_getElem hj]; rfl⟩
  refine ⟨⟨hZl, ?_, ?_, ?_⟩, ?_, hle, ?_⟩
  · intro i hi
    by_cases hil : i < zs.length
    · rw [hZ i hil]
      have : tsum F ((isk F K).take (2 * (pos zs).length - 2)) i = 0 := by
        unfold tsum
        have e : ((isk F K).take (2 * (pos zs).length - 2)).map (fun x => tl F x i) = ((isk F K).take (2 * (pos zs).length - 2)).map (fun _ => 0) := List.map_congr_left (fun x hx => tl_not hv.wf hv.lf (hv.kl x ((isk_perm F K).mem_iff.1 (List.mem_of_mem_take hx))) hi)
        rw [e, sum_zeros]
      rw [this]
      rfl
    · rw [List.getD_eq_getElem?_getD, List.getElem?_eq_none (by omega)]
      rfl
  · intro s hs
    obtain ⟨j, hj, rfl⟩ := hsj s hs
    rw [hZo j hj]
    have := k2 j (by omega)
    omega
  · intro D hD
    refine kraft_any (pos zs) (fun s => (Z.getD s 0).toNat) hle hD ?_
    rw [← ((ordS_perm zs).map (fun s => 2 ^ (L - (Z.getD s 0).toNat))).sum_nat, map_idx, hol, ← hbl, ← k1]
    congr 1
    refine List.map_congr_left (fun j hj => ?_)
    have hj2 := List.mem_range.1 hj
    obtain ⟨hj3, e⟩ := hgd j (by omega)
    rw [e, hZo j hj3, Int.toNat_natCast]
  · unfold ltot
    rw [← ((ordS_perm zs).map (fun s => cnv zs s * (Z.getD s 0).toNat)).sum_nat, map_idx, hol, ← hbl, ← lev_cost (W := base zs) (srt_srt _) (L - 1) (2 * (base zs).length - 2) (by rw [ar_len, hbl]; exact hr)]
    congr 1
    refine List.map_congr_left (fun j hj => ?_)
    have hj2 := List.mem_range.1 hj
    obtain ⟨hj3, e⟩ := hgd j (by omega)
    rw [e, hZo j hj3, Int.toNat_natCast]
    congr 1
    rw [← ordS_base, List.getD_eq_getElem?_getD, List.getElem?_map, List.getElem?_eq_getElem hj3]
    rfl
  · intro s hs s' hs' hc
    obtain ⟨j, hj, rfl⟩ := hsj s hs
    obtain ⟨j', hj', rfl⟩ := hsj s' hs'
    rw [hZo j hj, hZo j' hj']
    have hjj : j' < j := by
      rcases Nat.lt_or_ge j' j with h | h
      · exact h
      · exfalso
        have hsb : Srt ((ordS zs).map (cnv zs)) := by rw [ordS_base]; exact srt_srt _
        have h5 : cnv zs (ordS zs)[j] ≤ cnv zs (ordS zs)[j'] := by
          rcases Nat.lt_or_ge j j' with h6 | h6
          · have := List.pairwise_iff_getElem.1 hsb j j' (by simpa using hj) (by simpa using hj') h6
            simpa using this
          · have : j = j' := by omega
            subst this
            exact Nat.le_refl _
        omega
    have := lev_mono (base zs) (L - 1) (2 * (base zs).length - 2) j' j (by omega)
    omega
end Go.Proofs.Ythpocbpleffdpaa.Pm
