/- Huffman's lengths: all that is wanted of them. -/
import Derived.Test.YthpocbpleffdpaaMd
namespace Go.Proofs.Ythpocbpleffdpaa.Pm
set_option linter.unusedVariables false
/-- Lengths that weigh just as much as the whole. -/
structure Hz (zs l : List Int) : Prop where
  len : l.length = zs.length
  zero : ∀ i, i ∉ pos zs → l.getD i 0 = 0
  one : ∀ s ∈ pos zs, 1 ≤ l.getD s 0
  kraft : ∀ D, (∀ s ∈ pos zs, (l.getD s 0).toNat ≤ D) → ((pos zs).map (fun s => 2 ^ (D - (l.getD s 0).toNat))).sum = 2 ^ D
def ltot (zs l : List Int) : Nat := ((pos zs).map (fun s => cnv zs s * (l.getD s 0).toNat)).sum
def lcnt (zs l : List Int) (d : Nat) : Nat := ((pos zs).filter (fun s => decide ((l.getD s 0).toNat = d))).length
theorem hzl_many {zs : List Int} (hl : zs.length ≤ 400000) (h2 : 2 ≤ (pos zs).length) :
    Hz zs (hzl zs) ∧ ltot zs (hzl zs) = huf ((pos zs).length - 1) (base zs) ∧ (∀ s ∈ pos zs, (hzl zs).getD s 0 + 1 ≤ ((pos zs).length : Int)) ∧
    ∃ nc : Nat → Nat, nc 0 = 1 ∧ (∀ d, nc (d + 1) + 2 * lcnt zs (hzl zs) d = 2 * nc d) ∧ ∀ d, (pos zs).length ≤ d → nc d = 0 := by
  obtain ⟨i0, g0, c0⟩ := iv_start zs hl
  have hN : (lv zs zs.length).length = (pos zs).length := lv_plen zs
  have e0 : hzl zs = snk (jns ((lv zs zs.length).length - 1) (lv zs zs.length, List.range (lv zs zs.length).length)).1 (jns ((lv zs zs.length).length - 1) (lv zs zs.length, List.range (lv zs zs.length).length)).1.length (mn (jns ((lv zs zs.length).length - 1) (lv zs zs.length, List.range (lv zs zs.length).length)).1 (jns ((lv zs zs.length).length - 1) (lv zs zs.length, List.range (lv zs zs.length).length)).2) 0 (List.replicate zs.length 0) := by
    unfold hzl
    rw [if_neg (by omega), if_neg (by omega)]
  obtain ⟨i1, l1, g1⟩ := iv_all ((lv zs zs.length).length - 1) _ _ i0 (by rw [List.length_range]; omega)
  rw [g0, c0, hN] at g1
  rw [hN] at e0 i1 l1
  generalize jns ((pos zs).length - 1) (lv zs zs.length, List.range (pos zs).length) = S at *
  obtain ⟨F, K⟩ := S
  obtain ⟨r, rfl⟩ : ∃ r, K = [r] := by
    match K, l1 with
    | [r], _ => exact ⟨r, rfl⟩
  simp only at e0 i1 g1
  have hr := i1.kl r (by simp)
  have em : mn F [r] = r := rfl
  rw [em, show (0 : Int) = ((0 : Nat) : Int) from rfl, snk_lvd, lvd_fuel i1.wf F.length (r + 1) r 0 hr (by omega)] at e0
  have hpt := i1.pt
  simp only [List.flatMap_cons, List.flatMap_nil, List.append_nil] at hpt
  have hG : ((lvs F r 0).map (fun x => cnv zs x.1 * x.2)).sum = huf ((pos zs).length - 1) (base zs) := by
    have : G zs F [r] = ((lvs F r 0).map (fun x => cnv zs x.1 * x.2)).sum := by unfold G; simp
    omega
  change hzl zs = (lvs F r 0).foldl (fun Z x => Z.set x.1 (x.2 : Int)) (List.replicate zs.length ((0 : Nat) : Int)) at e0
  have hnd : ((lvs F r 0).map (·.1)).Nodup := hpt.nodup_iff.2 (pos_nodup zs)
  have hin : ∀ x ∈ lvs F r 0, x.1 ∈ pos zs := fun x hx => hpt.mem_iff.1 (List.mem_map.2 ⟨x, hx, rfl⟩)
  have hval : ∀ x ∈ lvs F r 0, (hzl zs).getD x.1 0 = (x.2 : Int) := fun x hx => by
    rw [e0]
    exact fset_in _ _ hnd (fun y hy => by rw [List.length_replicate]; exact (pos_mem.1 (hin y hy)).1) x hx
  have hlf : (lvs F r 0).length = (pos zs).length := by have := hpt.length_eq; rwa [List.length_map] at this
  have hpm : (lvs F r 0).Perm ((pos zs).map (fun s => (s, ((hzl zs).getD s 0).toNat))) := by
    have e : lvs F r 0 = ((lvs F r 0).map (·.1)).map (fun s => (s, ((hzl zs).getD s 0).toNat)) := by
      rw [List.map_map]
      conv => lhs; rw [← List.map_id (lvs F r 0)]
      refine List.map_congr_left (fun x hx => ?_)
      simp only [Function.comp, id]
      rw [hval x hx, Int.toNat_natCast]
    conv => lhs; rw [e]
    exact hpt.map _
  have hmem : ∀ s ∈ pos zs, (s, ((hzl zs).getD s 0).toNat) ∈ lvs F r 0 := fun s hs => hpm.mem_iff.2 (List.mem_map.2 ⟨s, hs, rfl⟩)
  have hge : ∀ s ∈ pos zs, ∃ e : Nat, (hzl zs).getD s 0 = (e : Int) ∧ (s, e) ∈ lvs F r 0 := fun s hs => by
    have h1 := hmem s hs
    have h3 := hval _ h1
    exact ⟨_, h3, h1⟩
  have hroot : ∀ x ∈ lvs F r 0, 1 ≤ x.2 := by
    intro x hx
    cases e : (F.getD r nd0).2.2 with
    | none =>
      rw [lvs_leaf 0 e] at hlf
      simp at hlf
      omega
    | some p =>
      rw [lvs_node i1.wf 0 e] at hx
      rcases List.mem_append.1 hx with hx | hx
      · exact lvs_ge F _ _ _ x hx
      · exact lvs_ge F _ _ _ x hx
  refine ⟨⟨?_, ?_, ?_, ?_⟩, ?_, ?_, nct F (r + 1) r, nct_top F r r, ?_, ?_⟩
  · rw [e0, fset_len, List.length_replicate]
  · intro i hi
    rw [e0, fset_not _ _ _ (fun h => hi (hpt.mem_iff.1 h)), List.getD_eq_getElem?_getD, List.getElem?_replicate]
    split <;> rfl
  · intro s hs
    obtain ⟨e, h1, h3⟩ := hge s hs
    have := hroot _ h3
    simp only at this
    omega
  · intro D hD
    have := lvs_kraft i1.wf D (r + 1) r 0 (by omega) (fun x hx => by
      have := hD x.1 (hin x hx)
      rw [hval x hx, Int.toNat_natCast] at this
      exact this)
    rw [Nat.sub_zero] at this
    rw [← this]
    have h4 := (hpm.map (fun x => 2 ^ (D - x.2))).sum_nat
    rw [h4, List.map_map]
    rfl
  · unfold ltot
    rw [← hG, (hpm.map (fun x => cnv zs x.1 * x.2)).sum_nat, List.map_map]
    rfl
  · intro s hs
    obtain ⟨e, h1, h3⟩ := hge s hs
    have := (lvs_depth i1.wf (r + 1) r (by omega)).2 _ h3
    simp only at this
    omega
  · intro d
    have := nct_step i1.wf (r + 1) r d (by omega)
    have h4 : ((lvs F r 0).filter (fun x => decide (x.2 = d))).length = lcnt zs (hzl zs) d := by
      unfold lcnt
      rw [(hpm.filter _).length_eq, List.filter_map, List.length_map]
      rfl
    rw [h4] at this
    exact this
  · intro d hd
    exact nct_deep i1.wf (r + 1) r d (by omega) (by omega)
/-- One symbol alone has one bit. -/
theorem hzl_one {zs : List Int} {s : Nat} (h : pos zs = [s]) : hzl zs = (List.replicate zs.length 0).set s 1 := by
  have hN : (lv zs zs.length).length = 1 := by rw [lv_plen, h]; rfl
  unfold hzl
  rw [if_neg (by omega), if_pos hN, hN]
  have e : mn (lv zs zs.length) (List.range 1) = 0 := rfl
  have e2 : (lv zs zs.length).getD 0 nd0 = (cnv zs s, s, none) := by
    have := lv_get (zs := zs) (k := 0) (by rw [h]; simp)
    rw [this]
    simp [h]
  rw [e]
  unfold snk
  rw [e2]
  rfl
theorem hzl_none {zs : List Int} (h : pos zs = []) : hzl zs = List.replicate zs.length 0 := by
  unfold hzl
  rw [if_pos (by rw [lv_plen, h]; rfl)]
/-- Items of lengths. -/
def its (zs l : List Int) : List (Nat × Nat) := (pos zs).map (fun s => (cnv zs s, (l.getD s 0).toNat))
theorem its_bas (zs l : List Int) : bas (its zs l) = base zs := by
  unfold bas its base
  rw [List.map_map]
  rfl
/-- No lengths of at most L bits cost less than the coins' way. -/
theorem hz_opt {zs l : List Int} (h : Hz zs l) {L : Nat} (hL1 : 1 ≤ L) (hL : ∀ s ∈ pos zs, (l.getD s 0).toNat ≤ L) :
    2 * (pos zs).length - 2 ≤ (row (base zs) (L - 1)).length ∧ ps (row (base zs) (L - 1)) (2 * (pos zs).length - 2) ≤ ltot zs l := by
  have h1 := opt (its zs l) L hL1 (fun x hx => by
    obtain ⟨s, hs, rfl⟩ := List.mem_map.1 hx
    exact hL s hs) (by
    have := h.kraft L hL
    unfold its
    rw [List.map_map]
    exact Nat.le_of_eq this)
  rw [its_bas] at h1
  have e : (its zs l).length = (pos zs).length := by unfold its; rw [List.length_map]
  rw [e] at h1
  refine ⟨h1.1, ?_⟩
  have := h1.2
  unfold its at this
  rw [List.map_map] at this
  exact this
/-- What Huffman's lengths cost is what the coins' way costs, wherever they fit. -/
theorem hzl_cost {zs : List Int} (hl : zs.length ≤ 400000) (h2 : 2 ≤ (pos zs).length) {L : Nat} (hL1 : 1 ≤ L) (hL : ∀ s ∈ pos zs, ((hzl zs).getD s 0).toNat ≤ L) :
    2 * (pos zs).length - 2 ≤ (row (base zs) (L - 1)).length ∧ ltot zs (hzl zs) = ps (row (base zs) (L - 1)) (2 * (pos zs).length - 2) := by
  obtain ⟨h, hc, _, _⟩ := hzl_many hl h2
  obtain ⟨h3, h4⟩ := hz_opt h hL1 hL
  refine ⟨h3, Nat.le_antisymm ?_ h4⟩
  rw [hc]
  have hb : (base zs).length = (pos zs).length - 1 + 1 := by unfold base; rw [(srt_perm _).length_eq, List.length_map]; omega
  have e : 2 * (pos zs).length - 2 = 2 * ((pos zs).length - 1) := by omega
  rw [e] at h3 ⊢
  exact low _ _ _ (srt_srt _) hb h3
/-- No other lengths that weigh as much cost less than Huffman's. -/
theorem hzl_least {zs l : List Int} (hl : zs.length ≤ 400000) (h2 : 2 ≤ (pos zs).length) (h : Hz zs l) : ltot zs (hzl zs) ≤ ltot zs l := by
  obtain ⟨_, hc, _, _⟩ := hzl_many hl h2
  obtain ⟨L, hL1, hL⟩ : ∃ L, 1 ≤ L ∧ ∀ s ∈ pos zs, (l.getD s 0).toNat ≤ L := by
    have : ∀ q : List Nat, ∃ L, 1 ≤ L ∧ ∀ s ∈ q, (l.getD s 0).toNat ≤ L := by
      intro q
      induction q with
      | nil => exact ⟨1, Nat.le_refl _, fun s hs => by simp at hs⟩
      | cons a q ih =>
        obtain ⟨L, g1, g2⟩ := ih
        refine ⟨max L (l.getD a 0).toNat, by omega, fun s hs => ?_⟩
        rcases List.mem_cons.1 hs with rfl | hs
        · omega
        · have := g2 s hs; omega
    exact this _
  obtain ⟨h3, h4⟩ := hz_opt h hL1 hL
  have hb : (base zs).length = (pos zs).length - 1 + 1 := by unfold base; rw [(srt_perm _).length_eq, List.length_map]; omega
  have e : 2 * (pos zs).length - 2 = 2 * ((pos zs).length - 1) := by omega
  rw [e] at h3 h4
  rw [hc]
  exact Nat.le_trans (low _ _ _ (srt_srt _) hb h3) h4
end Go.Proofs.Ythpocbpleffdpaa.Pm
