/- The next row of trees of coins; the lengths at the end. -/
import Derived.Test.YthpocbpleffdpaaMi
namespace Go.Proofs.Ythpocbpleffdpaa.Pm
set_option linter.unusedVariables false
theorem pr_at : ∀ (l : List Nat) (j : Nat), 2 * j + 1 < l.length → (pr l)[j]? = some (l.getD (2 * j) 0 + l.getD (2 * j + 1) 0)
  | [], j, h => by simp at h
  | [a], j, h => by simp at h
  | a :: b :: l, 0, h => by simp [Pm.pr]
  | a :: b :: l, j + 1, h => by
    have := pr_at l j (by simp at h; omega)
    rw [show 2 * (j + 1) = 2 * j + 2 by omega]
    simpa [Pm.pr] using this
theorem pr_ext (V : List Nat) (g : Nat → Nat) (h : ∀ q, q < V.length / 2 → g q = V.getD (2 * q) 0 + V.getD (2 * q + 1) 0) : (List.range (V.length / 2)).map g = pr V := by
  apply List.ext_getElem?
  intro i
  by_cases hi : i < V.length / 2
  · rw [List.getElem?_map, List.getElem?_eq_getElem (by simpa using hi), pr_at V i (by omega)]
    simp only [List.getElem_range, Option.map_some]
    rw [h i hi]
  · rw [List.getElem?_eq_none (by simpa using hi), List.getElem?_eq_none (by rw [pr_len]; omega)]
theorem getD_map {f : Nat → Nat} {l : List Nat} {i : Nat} (hi : i < l.length) : (l.map f).getD i 0 = f (l.getD i 0) := by
  rw [List.getD_eq_getElem?_getD, List.getD_eq_getElem?_getD, List.getElem?_map, List.getElem?_eq_getElem hi]
  rfl
theorem getD_mem {l : List Nat} {i : Nat} (hi : i < l.length) : l.getD i 0 ∈ l := by
  rw [List.getD_eq_getElem?_getD, List.getElem?_eq_getElem hi]
  exact List.getElem_mem _
theorem lv_step {zs : List Int} {t : Nat} {F : List Nd} {K : List Nat} (h : Lv zs t F K) (hl : zs.length ≤ 320) (ht : t ≤ 1000) :
    Lv zs (t + 1) (prs (K.length / 2) (F ++ lv zs zs.length, K, [])).1 (lnum zs F.length ++ (prs (K.length / 2) (F ++ lv zs zs.length, K, [])).2.2) := by
  have hp := pos_le zs
  have hKF : ∀ k ∈ K, k < (F ++ lv zs zs.length).length := fun k hk => by have := h.kl k hk; rw [List.length_append]; omega
  obtain ⟨e1, e2⟩ := prs_eq (K.length / 2) (F ++ lv zs zs.length) K [] (by omega) hKF
  rw [e1, e2, List.nil_append]
  clear e1 e2
  have hb63 : ∀ k ∈ K, k < 9223372036854775808 := fun k hk => by have := h.kl k hk; have := h.bd; omega
  have hsk : pks F K.length K = isk F K := pks_isk h.asc hb63
  have hP : pks (F ++ lv zs zs.length) (2 * (K.length / 2)) K = (isk F K).take (2 * (K.length / 2)) := by rw [pks_app _ h.kl, pks_take _ K.length K (by omega), hsk]
  rw [hP]
  have hskl : (isk F K).length = K.length := isk_len F K
  have hskm : ∀ x ∈ isk F K, x < F.length := fun x hx => h.kl x ((isk_perm F K).mem_iff.1 hx)
  generalize hS : isk F K = sk at *
  have hPm : ∀ x ∈ sk.take (2 * (K.length / 2)), x < F.length := fun x hx => hskm x (List.mem_of_mem_take hx)
  have hpn : pnd (F ++ lv zs zs.length) (sk.take (2 * (K.length / 2))) = pnd F (sk.take (2 * (K.length / 2))) := pnd_app hPm
  rw [hpn]
  have hlen1 : (F ++ lv zs zs.length).length = F.length + (pos zs).length := by rw [List.length_append, lv_plen]
  have hplen : (pnd F (sk.take (2 * (K.length / 2)))).length = K.length / 2 := by rw [pnd_len, List.length_take]; omega
  obtain ⟨F2, hF2⟩ : ∃ F2, F2 = F ++ lv zs zs.length ++ pnd F (sk.take (2 * (K.length / 2))) := ⟨_, rfl⟩
  rw [← hF2]
  have hlen2 : F2.length = F.length + (pos zs).length + K.length / 2 := by rw [hF2, List.length_append, hlen1, hplen]
  have hnode : ∀ q, q < K.length / 2 → F2.getD (F.length + (pos zs).length + q) nd0 = jnd F (sk.getD (2 * q) 0) (sk.getD (2 * q + 1) 0) := by
    intro q hq
    rw [hF2, List.getD_eq_getElem?_getD, List.getElem?_append_right (by rw [hlen1]; omega), hlen1, Nat.add_sub_cancel_left, ← List.getD_eq_getElem?_getD, pnd_get _ _ _ (by rw [List.length_take]; omega)]
    congr 1
    · rw [List.getD_eq_getElem?_getD, List.getD_eq_getElem?_getD, List.getElem?_take_of_lt (by omega)]
    · rw [List.getD_eq_getElem?_getD, List.getD_eq_getElem?_getD, List.getElem?_take_of_lt (by omega)]
  have hold : ∀ k, k < F.length → F2.getD k nd0 = F.getD k nd0 := fun k hk => by rw [hF2, List.append_assoc, get_app hk]
  have hlfk : ∀ k, F.length ≤ k → k < F.length + (pos zs).length → F2.getD k nd0 = (cnv zs ((pos zs).getD (k - F.length) 0), (pos zs).getD (k - F.length) 0, none) := by
    intro k h1 h2
    have := lnum_get (zs := zs) (F0 := F) (X := pnd F (sk.take (2 * (K.length / 2)))) (i := k - F.length) (by omega)
    rw [show F.length + (k - F.length) = k by omega] at this
    rw [hF2, this, List.getD_eq_getElem?_getD, List.getElem?_eq_getElem (by omega)]
    rfl
  have wf2 : Wf F2 := by
    intro k hk p e
    by_cases h1 : k < F.length
    · rw [hold k h1] at e
      exact h.wf k h1 p e
    · by_cases h2 : k < F.length + (pos zs).length
      · rw [hlfk k (by omega) h2] at e
        cases e
      · have hq : k - (F.length + (pos zs).length) < K.length / 2 := by omega
        have := hnode _ hq
        rw [show F.length + (pos zs).length + (k - (F.length + (pos zs).length)) = k by omega] at this
        rw [this] at e
        cases e
        have g1 := hskm _ (getD_mem (l := sk) (i := 2 * (k - (F.length + (pos zs).length))) (by omega))
        have g2 := hskm _ (getD_mem (l := sk) (i := 2 * (k - (F.length + (pos zs).length)) + 1) (by omega))
        exact ⟨by simp only; omega, by simp only; omega⟩
  have hNn : (List.range (K.length / 2)).map (fun i => (F ++ lv zs zs.length).length + i) = (List.range (K.length / 2)).map (fun i => F.length + (pos zs).length + i) := by rw [hlen1]
  rw [hNn]
  have hcoN : ((List.range (K.length / 2)).map (fun i => F.length + (pos zs).length + i)).map (co F2) = pr (sk.map (co F)) := by
    rw [List.map_map]
    have := pr_ext (sk.map (co F)) (fun q => co F2 (F.length + (pos zs).length + q)) (fun q hq => by
      rw [List.length_map, hskl] at hq
      rw [getD_map (by omega), getD_map (by omega)]
      unfold co
      rw [hnode q hq]
      rfl)
    rw [List.length_map, hskl] at this
    exact this
  have htlN : ∀ s, ((List.range (K.length / 2)).map (fun i => F.length + (pos zs).length + i)).map (fun x => tl F2 x s) = pr (sk.map (fun x => tl F x s)) := by
    intro s
    rw [List.map_map]
    have := pr_ext (sk.map (fun x => tl F x s)) (fun q => tl F2 (F.length + (pos zs).length + q) s) (fun q hq => by
      rw [List.length_map, hskl] at hq
      rw [getD_map (by omega), getD_map (by omega)]
      have g1 := hskm _ (getD_mem (l := sk) (i := 2 * q) (by omega))
      have g2 := hskm _ (getD_mem (l := sk) (i := 2 * q + 1) (by omega))
      rw [tl_node wf2 (p := (sk.getD (2 * q) 0, sk.getD (2 * q + 1) 0)) s (by rw [hnode q hq]; rfl)]
      simp only
      rw [hF2, List.append_assoc, tl_app h.wf _ _ g1, tl_app h.wf _ _ g2])
    rw [List.length_map, hskl] at this
    exact this
  have hcs0 : sk.map (co F) = row (base zs) t := by
    have := congrArg (List.map (·.1)) h.cs
    rw [List.map_map, ar_row, hS] at this
    exact this
  have hfkN : ((List.range (K.length / 2)).map (fun i => F.length + (pos zs).length + i)).map (fk F2) = (pr ((Ar (base zs) t).map (·.1))).map (fun x => (x, false)) := by
    have key : ∀ l : List Nat, (∀ x ∈ l, fk F2 x = (co F2 x, false)) → l.map (fk F2) = (l.map (co F2)).map (fun x => (x, false)) := by
      intro l h
      rw [List.map_map]
      exact List.map_congr_left h
    rw [ar_row, ← hcs0, ← hcoN]
    refine key _ (fun x hx => ?_)
    obtain ⟨q, hq, rfl⟩ := List.mem_map.1 hx
    unfold fk
    rw [hnode q (List.mem_range.1 hq)]
    rfl
  obtain ⟨hl1, hl2, hl3⟩ := leaf_row (F0 := F) hF2
  have hiskA : isk F2 (lnum zs F.length ++ (List.range (K.length / 2)).map (fun i => F.length + (pos zs).length + i)) = mgk (co F2) (isk F2 (lnum zs F.length)) ((List.range (K.length / 2)).map (fun i => F.length + (pos zs).length + i)) := mgk_app _ _ _ _
  have hcs : (isk F2 (lnum zs F.length ++ (List.range (K.length / 2)).map (fun i => F.length + (pos zs).length + i))).map (fk F2) = Ar (base zs) (t + 1) := by
    rw [hiskA, mgk_mapf (c := co F2) (c' := fun x : Nat × Bool => x.1) (f := fk F2) _ _ (fun x _ => rfl), hl2, hfkN]
    rfl
  have hLl : (isk F2 (lnum zs F.length)).length = (pos zs).length := by rw [isk_len]; unfold lnum; rw [List.length_map, List.length_range]
  refine ⟨wf2, ?_, ?_, ?_, ?_, hcs, ?_⟩
  · refine List.pairwise_append.2 ⟨asc_add _ _, asc_add _ _, fun a ha b hb => ?_⟩
    have := lnum_mem ha
    obtain ⟨i, _, rfl⟩ := List.mem_map.1 hb
    omega
  · intro k hk
    rcases List.mem_append.1 hk with hk | hk
    · have := lnum_mem hk; omega
    · obtain ⟨i, hi, rfl⟩ := List.mem_map.1 hk
      have := List.mem_range.1 hi
      omega
  · have h1 := h.bd
    have h2 := h.len
    have h3 := row_two (base zs) t
    rw [base_plen] at h3
    omega
  · intro k hk e
    by_cases h1 : k < F.length
    · unfold sy
      rw [hold k h1] at e ⊢
      exact h.lf k h1 e
    · by_cases h2 : k < F.length + (pos zs).length
      · unfold sy
        rw [hlfk k (by omega) h2]
        exact getD_mem (by omega)
      · have hq : k - (F.length + (pos zs).length) < K.length / 2 := by omega
        have := hnode _ hq
        rw [show F.length + (pos zs).length + (k - (F.length + (pos zs).length)) = k by omega] at this
        rw [this] at e
        cases e
  · intro k hk j hj
    have hPr := pref_all (c := co F2) (xs := isk F2 (lnum zs F.length)) (mgk_srk List.Pairwise.nil) _ ((List.range (K.length / 2)).map (fun i => F.length + (pos zs).length + i)) rfl (by
      have : Srt (((List.range (K.length / 2)).map (fun i => F.length + (pos zs).length + i)).map (co F2)) := by
        rw [hcoN, hcs0]
        exact pr_srt (row_srt (srt_srt _) t)
      exact List.pairwise_map.1 this)
    rw [← hiskA] at hPr
    obtain ⟨e, p, g1, g2, g3, g4, _, _⟩ := hPr k (by rw [isk_len]; exact hk)
    have hen : en (base zs) (t + 1) k = e := by
      unfold en
      rw [← hcs, ← List.map_take, ((g4.map (fk F2)).filter _).length_eq, List.map_append, List.filter_append, List.length_append, List.map_take, List.map_take, hl2, hfkN, ← List.map_take, ← List.map_take, tag_cnt, tag_cnt, List.length_take, base_plen]
      rw [hLl] at g2
      simp
      omega
    rw [lev_succ, hen, show k - e = p by omega]
    have g5 : tsum F2 ((isk F2 (lnum zs F.length ++ (List.range (K.length / 2)).map (fun i => F.length + (pos zs).length + i))).take k) (ordS zs)[j] = tsum F2 ((isk F2 (lnum zs F.length)).take e) (ordS zs)[j] + tsum F2 (((List.range (K.length / 2)).map (fun i => F.length + (pos zs).length + i)).take p) (ordS zs)[j] := by
      unfold tsum
      rw [(g4.map _).sum_nat, List.map_append, List.sum_append]
    have g6 : tsum F2 (((List.range (K.length / 2)).map (fun i => F.length + (pos zs).length + i)).take p) (ordS zs)[j] = tsum F (sk.take (2 * p)) (ordS zs)[j] := by
      unfold tsum
      rw [List.map_take, htlN]
      rw [List.length_map, List.length_range] at g3
      have := ps_pr (sk.map (fun x => tl F x (ordS zs)[j])) p (by rw [List.length_map, hskl]; omega)
      unfold ps at this
      rw [this, List.map_take]
    rw [g5, g6, leaf_sum hF2 e j hj]
    rw [List.length_map, List.length_range] at g3
    have g7 := h.ta (2 * p) (by omega) j hj
    rw [hS] at g7
    rw [g7]
end Go.Proofs.Ythpocbpleffdpaa.Pm
