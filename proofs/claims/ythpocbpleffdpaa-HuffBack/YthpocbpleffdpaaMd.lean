/- Mathematics of Huffman's lengths: what they cost, how they weigh, that they make a whole tree. -/
import Derived.Test.YthpocbpleffdpaaMc
namespace Go.Proofs.Ythpocbpleffdpaa.Pm
set_option linter.unusedVariables false
/-- The symbols that come at all. -/
def pos (zs : List Int) : List Nat := (List.range zs.length).filter (fun j => decide (0 < zs.getD j 0))
def cnv (zs : List Int) (s : Nat) : Nat := (zs.getD s 0).toNat
/-- Their counts, rising. -/
def base (zs : List Int) : List Nat := srt ((pos zs).map (cnv zs))
theorem pos_mem {zs : List Int} {s : Nat} : s ∈ pos zs ↔ s < zs.length ∧ 0 < zs.getD s 0 := by simp [pos]
theorem pos_nodup (zs : List Int) : (pos zs).Nodup := List.nodup_range.filter _
theorem pos_le (zs : List Int) : (pos zs).length ≤ zs.length := by
  have := List.length_filter_le (fun j => decide (0 < zs.getD j 0)) (List.range zs.length)
  rw [List.length_range] at this
  exact this
theorem lv_pos (zs : List Int) : lv zs zs.length = (pos zs).map (fun j => (cnv zs j, j, none)) := rfl
theorem lv_plen (zs : List Int) : (lv zs zs.length).length = (pos zs).length := by rw [lv_pos, List.length_map]
theorem fm_single {α β : Type} {f : α → List β} {g : α → β} : ∀ {K : List α}, (∀ k ∈ K, f k = [g k]) → K.flatMap f = K.map g
  | [], _ => rfl
  | a :: K, h => by rw [List.flatMap_cons, h a (by simp), fm_single (fun k hk => h k (by simp [hk]))]; rfl
structure Iv (zs : List Int) (F : List Nd) (K : List Nat) : Prop where
  wf : Wf F
  kl : ∀ k ∈ K, k < F.length
  pt : ((K.flatMap (fun k => lvs F k 0)).map (·.1)).Perm (pos zs)
  co : ∀ k ∈ K, (F.getD k nd0).1 = ((lvs F k 0).map (fun x => cnv zs x.1)).sum
  bd : F.length + K.length ≤ 1000000
def G (zs : List Int) (F : List Nd) (K : List Nat) : Nat := ((K.flatMap (fun k => lvs F k 0)).map (fun x => cnv zs x.1 * x.2)).sum
def costs (F : List Nd) (K : List Nat) : List Nat := K.map (fun k => (F.getD k nd0).1)
theorem lv_get {zs : List Int} {k : Nat} (hk : k < (pos zs).length) : (lv zs zs.length).getD k nd0 = (cnv zs (pos zs)[k], (pos zs)[k], none) := by
  rw [lv_pos, List.getD_eq_getElem?_getD, List.getElem?_map, List.getElem?_eq_getElem hk]
  rfl
theorem lv_leaf (zs : List Int) (k : Nat) : ((lv zs zs.length).getD k nd0).2.2 = none := by
  by_cases hk : k < (pos zs).length
  · rw [lv_get hk]
  · rw [List.getD_eq_getElem?_getD, List.getElem?_eq_none (by rw [lv_plen]; omega)]
    rfl
theorem range_get {α : Type} (l : List α) (f : Nat → α) (h : ∀ k (hk : k < l.length), f k = l[k]) : (List.range l.length).map f = l := by
  apply List.ext_getElem
  · simp
  · intro i h1 h2
    simp only [List.getElem_map, List.getElem_range]
    exact h i h2
theorem iv_start (zs : List Int) (hl : zs.length ≤ 400000) : Iv zs (lv zs zs.length) (List.range (lv zs zs.length).length) ∧ G zs (lv zs zs.length) (List.range (lv zs zs.length).length) = 0 ∧ srt (costs (lv zs zs.length) (List.range (lv zs zs.length).length)) = base zs := by
  have hf : ∀ k ∈ List.range (lv zs zs.length).length, lvs (lv zs zs.length) k 0 = [(((lv zs zs.length).getD k nd0).2.1, 0)] := fun k _ => lvs_leaf 0 (lv_leaf zs k)
  have hp := pos_le zs
  refine ⟨⟨?_, ?_, ?_, ?_, ?_⟩, ?_, ?_⟩
  · intro k hk p e
    rw [lv_leaf] at e
    cases e
  · intro k hk
    exact List.mem_range.1 hk
  · rw [fm_single hf, List.map_map, lv_plen]
    have : (List.range (pos zs).length).map ((fun x : Nat × Nat => x.1) ∘ fun k => (((lv zs zs.length).getD k nd0).2.1, 0)) = pos zs := range_get (pos zs) _ (fun k hk => by simp only [Function.comp]; rw [lv_get hk])
    rw [this]
  · intro k hk
    have hk' : k < (pos zs).length := by have := List.mem_range.1 hk; rwa [lv_plen] at this
    rw [hf k hk, lv_get hk']
    simp
  · rw [List.length_range, lv_plen]; omega
  · unfold G
    rw [fm_single hf, List.map_map]
    generalize List.range (lv zs zs.length).length = R
    induction R with
    | nil => rfl
    | cons a R ih =>
      rw [List.map_cons, List.sum_cons, ih]
      simp [Function.comp]
  · unfold base costs
    congr 1
    rw [lv_plen]
    have e : (List.range (pos zs).length) = (List.range ((pos zs).map (cnv zs)).length) := by rw [List.length_map]
    rw [e]
    exact range_get _ _ (fun k hk => by
      have hk' : k < (pos zs).length := by simpa using hk
      rw [lv_get hk', List.getElem_map])
theorem sum_up (zs : List Int) : ∀ l : List (Nat × Nat), ((l.map (fun x => (x.1, x.2 + 1))).map (fun x => cnv zs x.1 * x.2)).sum = (l.map (fun x => cnv zs x.1 * x.2)).sum + (l.map (fun x => cnv zs x.1)).sum
  | [] => rfl
  | x :: l => by
    have ih := sum_up zs l
    simp only [List.map_cons, List.sum_cons, Nat.mul_add, Nat.mul_one] at ih ⊢
    omega
theorem fst_up (l : List (Nat × Nat)) : (l.map (fun x => (x.1, x.2 + 1))).map (·.1) = l.map (·.1) := by rw [List.map_map]; rfl
theorem mn_cost {F : List Nd} {K : List Nat} (h : K ≠ []) (hK : ∀ k ∈ K, k < 9223372036854775808) : mn F K ∈ K ∧ ∀ x ∈ K, (F.getD (mn F K) nd0).1 ≤ (F.getD x nd0).1 := by
  obtain ⟨h1, h2⟩ := mn_mem F h
  refine ⟨h1, fun x hx => ?_⟩
  have h3 := h2 x hx
  have h4 := hK _ h1
  have h5 := hK _ hx
  unfold ky at h3
  omega
theorem fm_perm {α β : Type} {f : α → List β} : ∀ {l m : List α}, l.Perm m → (l.flatMap f).Perm (m.flatMap f) := fun h => by
  induction h with
  | nil => exact List.Perm.refl _
  | cons x _ ih => rw [List.flatMap_cons, List.flatMap_cons]; exact ih.append_left _
  | swap x y l =>
    simp only [List.flatMap_cons]
    rw [← List.append_assoc, ← List.append_assoc]
    exact List.perm_append_comm.append_right _
  | trans _ _ ih1 ih2 => exact ih1.trans ih2
theorem fm_congr {α β : Type} {f g : α → List β} : ∀ {l : List α}, (∀ x ∈ l, f x = g x) → l.flatMap f = l.flatMap g
  | [], _ => rfl
  | a :: l, h => by rw [List.flatMap_cons, List.flatMap_cons, h a (by simp), fm_congr (fun x hx => h x (by simp [hx]))]
theorem iv_step {zs : List Int} {F : List Nd} {K : List Nat} (h : Iv zs F K) (h2 : 2 ≤ K.length) (n : Nat) :
    Iv zs (jn (F, K)).1 (jn (F, K)).2 ∧ G zs (jn (F, K)).1 (jn (F, K)).2 + huf n (srt (costs (jn (F, K)).1 (jn (F, K)).2)) = G zs F K + huf (n + 1) (srt (costs F K)) ∧ (jn (F, K)).2.length + 1 = K.length := by
  have hb : ∀ k ∈ K, k < 9223372036854775808 := fun k hk => by have := h.kl k hk; have := h.bd; omega
  obtain ⟨a1, a2⟩ := mn_cost (F := F) (K := K) (fun e => by rw [e] at h2; simp at h2) hb
  have l1 := List.length_erase_of_mem a1
  obtain ⟨b1, b2⟩ := mn_cost (F := F) (K := K.erase (mn F K)) (fun e => by rw [e] at l1; simp at l1; omega) (fun k hk => hb k (List.mem_of_mem_erase hk))
  have l2 := List.length_erase_of_mem b1
  show Iv zs (F ++ [jnd F (mn F K) (mn F (K.erase (mn F K)))]) (F.length :: (K.erase (mn F K)).erase (mn F (K.erase (mn F K)))) ∧ G zs (F ++ [jnd F (mn F K) (mn F (K.erase (mn F K)))]) (F.length :: (K.erase (mn F K)).erase (mn F (K.erase (mn F K)))) + huf n (srt (costs (F ++ [jnd F (mn F K) (mn F (K.erase (mn F K)))]) (F.length :: (K.erase (mn F K)).erase (mn F (K.erase (mn F K)))))) = _ ∧ (F.length :: (K.erase (mn F K)).erase (mn F (K.erase (mn F K)))).length + 1 = K.length
  have pk : K.Perm (mn F K :: mn F (K.erase (mn F K)) :: (K.erase (mn F K)).erase (mn F (K.erase (mn F K)))) := (List.perm_cons_erase a1).trans ((List.perm_cons_erase b1).cons _)
  have bK := List.mem_of_mem_erase b1
  have rK : ∀ k ∈ (K.erase (mn F K)).erase (mn F (K.erase (mn F K))), k ∈ K := fun k hk => List.mem_of_mem_erase (List.mem_of_mem_erase hk)
  generalize hR : (K.erase (mn F K)).erase (mn F (K.erase (mn F K))) = R at *
  generalize hbb : mn F (K.erase (mn F K)) = b at *
  generalize haa : mn F K = a at *
  have ha := h.kl a a1
  have hb1 := h.kl b bK
  have wf' := wf_more h.wf ha hb1
  have enew : (F ++ [jnd F a b]).getD F.length nd0 = jnd F a b := by simp [List.getD]
  have lnew : lvs (F ++ [jnd F a b]) F.length 0 = (lvs F a 0).map (fun x => (x.1, x.2 + 1)) ++ (lvs F b 0).map (fun x => (x.1, x.2 + 1)) := by
    rw [lvs_node wf' (p := (a, b)) 0 (by rw [enew]; rfl), lvs_more h.wf _ _ ha, lvs_more h.wf _ _ hb1, lvs_up, lvs_up]
  have lold : R.flatMap (fun k => lvs (F ++ [jnd F a b]) k 0) = R.flatMap (fun k => lvs F k 0) := fm_congr (fun k hk => lvs_more h.wf _ _ (h.kl k (rK k hk)))
  have pf := fm_perm (f := fun k => lvs F k 0) pk
  simp only [List.flatMap_cons] at pf
  have pl := pk.length_eq
  simp only [List.length_cons] at pl
  refine ⟨⟨wf', ?_, ?_, ?_, ?_⟩, ?_, by simp only [List.length_cons]; omega⟩
  · intro k hk
    rw [List.length_append, List.length_singleton]
    rcases List.mem_cons.1 hk with rfl | hk
    · omega
    · have := h.kl k (rK k hk); omega
  · refine List.Perm.trans ?_ h.pt
    rw [List.flatMap_cons, lnew, lold]
    refine List.Perm.trans ?_ (pf.map (·.1)).symm
    simp only [List.map_append, fst_up, List.append_assoc]
    exact List.Perm.refl _
  · intro k hk
    rcases List.mem_cons.1 hk with rfl | hk
    · rw [enew, lnew, List.map_append, List.sum_append, List.map_map, List.map_map]
      show (F.getD a nd0).1 + (F.getD b nd0).1 = _
      rw [h.co a a1, h.co b bK]
      rfl
    · have hkF := h.kl k (rK k hk)
      rw [getD_front hkF, lvs_more h.wf _ _ hkF]
      exact h.co k (rK k hk)
  · have := h.bd
    rw [List.length_append, List.length_singleton, List.length_cons]
    omega
  · have eG : G zs F K = ((lvs F a 0).map (fun x => cnv zs x.1 * x.2)).sum + (((lvs F b 0).map (fun x => cnv zs x.1 * x.2)).sum + ((R.flatMap (fun k => lvs F k 0)).map (fun x => cnv zs x.1 * x.2)).sum) := by
      unfold G
      rw [(pf.map _).sum_nat, List.map_append, List.map_append, List.sum_append, List.sum_append]
    have eG' : G zs (F ++ [jnd F a b]) (F.length :: R) = ((lvs F a 0).map (fun x => cnv zs x.1 * x.2)).sum + ((lvs F a 0).map (fun x => cnv zs x.1)).sum + (((lvs F b 0).map (fun x => cnv zs x.1 * x.2)).sum + ((lvs F b 0).map (fun x => cnv zs x.1)).sum) + ((R.flatMap (fun k => lvs F k 0)).map (fun x => cnv zs x.1 * x.2)).sum := by
      unfold G
      rw [List.flatMap_cons, lnew, lold, List.map_append, List.map_append, List.sum_append, List.sum_append, sum_up, sum_up]
    have ec : srt (costs F K) = (F.getD a nd0).1 :: (F.getD b nd0).1 :: srt (costs F R) := by
      refine srt_uniq (srt_srt _) ?_ ?_
      · have hRy : ∀ y ∈ srt (costs F R), ∃ k ∈ R, y = (F.getD k nd0).1 := fun y hy => by
          have := (srt_perm _).mem_iff.1 hy
          obtain ⟨k, hk, e⟩ := List.mem_map.1 this
          exact ⟨k, hk, e.symm⟩
        have hRb : ∀ k ∈ R, k ∈ K.erase a := fun k hk => by
          rw [← hR] at hk
          exact List.mem_of_mem_erase hk
        refine List.pairwise_cons.2 ⟨fun y hy => ?_, List.pairwise_cons.2 ⟨fun y hy => ?_, srt_srt _⟩⟩
        · rcases List.mem_cons.1 hy with rfl | hy
          · exact a2 b bK
          · obtain ⟨k, hk, rfl⟩ := hRy y hy
            exact a2 k (rK k hk)
        · obtain ⟨k, hk, rfl⟩ := hRy y hy
          exact b2 k (hRb k hk)
      · refine (srt_perm _).trans ?_
        refine (pk.map (fun k => (F.getD k nd0).1)).trans ?_
        exact ((srt_perm (costs F R)).symm.cons _).cons _
    have ec' : costs (F ++ [jnd F a b]) (F.length :: R) = ((F.getD a nd0).1 + (F.getD b nd0).1) :: costs F R := by
      unfold costs
      rw [List.map_cons, enew]
      congr 1
      exact List.map_congr_left (fun k hk => by rw [getD_front (h.kl k (rK k hk))])
    rw [ec', ec, eG, eG']
    simp only [huf, srt]
    have c1 := h.co a a1
    have c2 := h.co b bK
    omega
theorem iv_all {zs : List Int} : ∀ (n : Nat) (F : List Nd) (K : List Nat), Iv zs F K → K.length = n + 1 → Iv zs (jns n (F, K)).1 (jns n (F, K)).2 ∧ (jns n (F, K)).2.length = 1 ∧ G zs (jns n (F, K)).1 (jns n (F, K)).2 = G zs F K + huf n (srt (costs F K))
  | 0, F, K, h, hl => ⟨h, hl, by simp [jns, huf]⟩
  | n + 1, F, K, h, hl => by
    obtain ⟨h1, h2, h3⟩ := iv_step h (by omega) n
    have h4 : (jn (F, K)).2.length = n + 1 := by omega
    obtain ⟨g1, g2, g3⟩ := iv_all n (jn (F, K)).1 (jn (F, K)).2 h1 h4
    refine ⟨g1, g2, ?_⟩
    show G zs (jns n (jn (F, K))).1 (jns n (jn (F, K))).2 = _
    rw [← h2]
    exact g3
end Go.Proofs.Ythpocbpleffdpaa.Pm
