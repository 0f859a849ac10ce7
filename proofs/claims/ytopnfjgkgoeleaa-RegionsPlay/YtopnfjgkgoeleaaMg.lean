/- regions: mathematics of gaps. -/
import Derived.Test.YtopnfjgkgoeleaaMo
namespace Go.Proofs.Ytopnfjgkgoeleaa
open Go.RowKit
set_option linter.unusedVariables false
set_option linter.unusedSimpArgs false
def sumG (l : List (Int × Int)) : Int := (l.map (·.2)).foldr (· + ·) 0
theorem sumG_cons (g : Int × Int) (l : List (Int × Int)) : sumG (g :: l) = g.2 + sumG l := rfl
theorem sumL_cons (x : Rn) (l : List Rn) : sumL (x :: l) = x.n + sumL l := rfl
/-- Regions and gaps together are all. -/
theorem gps_sum {L : List Rn} (h : Srt L) {u p : Int} (hp : ∀ x ∈ L, p ≤ x.a) (hu : ∀ x ∈ L, x.e ≤ u) (hpu : p ≤ u) : sumG (gps u p L) + sumL L = u - p := by
  induction L generalizing p with
  | nil =>
    simp only [gps]
    split
    · simp [sumG, sumL]
    · simp [sumG, sumL]; omega
  | cons x L ih =>
    have hx := h.1 x (by simp)
    unfold Mayr at hx
    have h1 := hp x (by simp)
    have h2 := hu x (by simp)
    have := ih h.tail (p := x.e) (fun y hy => (List.pairwise_cons.1 h.2).1 y hy) (fun y hy => hu y (by simp [hy])) h2
    unfold Rn.e at h2 this
    simp only [gps]
    rw [if_neg (by omega), sumL_cons]
    split
    · rw [sumG_cons]
      unfold Rn.e
      dsimp only
      omega
    · unfold Rn.e
      omega
/-- What each gap is. -/
def Gap (L : List Rn) (g : Int × Int) : Prop := 1 ≤ g.2 ∧ 0 ≤ g.1 ∧ (∃ y ∈ L, y.a = g.1 + g.2) ∧ (g.1 = 0 ∨ ∃ z ∈ L, z.e = g.1) ∧ Fr L g.1 g.2
theorem endL_le {A : List Rn} {p : Int} (hp : 0 ≤ p) (h : ∀ x ∈ A, x.e ≤ p) : endL A ≤ p := by
  unfold endL
  rw [List.getLastD_eq_getLast?]
  cases hl : A.getLast? with
  | none => exact hp
  | some z => exact h z (List.mem_of_getLast? hl)
theorem endL_ge {L : List Rn} (h : Srt L) {x : Rn} (hx : x ∈ L) : x.e ≤ endL L := by
  obtain ⟨j, hj, e⟩ := List.getElem_of_mem hx
  have hl : endL L = (L.getD (L.length - 1) zRn).e := by
    unfold endL
    rw [List.getLastD_eq_getLast?, List.getLast?_eq_getElem?]
    rfl
  rw [hl]
  rw [← gd hj] at e
  by_cases h1 : j = L.length - 1
  · rw [← h1, e]; exact Int.le_refl _
  · have := h.lt (i := j) (j := L.length - 1) (by omega) (by omega)
    have hm := h.may (i := L.length - 1) (by omega)
    rw [e] at this
    unfold Mayr at hm
    unfold Rn.e at *
    omega
theorem gps_gap {L0 : List Rn} (h : Srt L0) {u : Int} (A R : List Rn) (hA : L0 = A ++ R) {p : Int} (hp0 : 0 ≤ p) (hpA : ∀ x ∈ A, x.e ≤ p) (hpe : p = 0 ∨ ∃ z ∈ L0, z.e = p) (hpR : ∀ x ∈ R, p ≤ x.a) (hu : ∀ x ∈ R, x.e ≤ u) (hend : u = endL L0) : ∀ g ∈ gps u p R, Gap L0 g := by
  induction R generalizing A p with
  | nil =>
    intro g hg
    simp only [gps] at hg
    rw [if_neg (by
      rw [hend, hA, List.append_nil]
      have := endL_le hp0 hpA
      omega)] at hg
    simp at hg
  | cons x R ih =>
    intro g hg
    have hxm : x ∈ L0 := by rw [hA]; simp
    have hx := h.1 x hxm
    unfold Mayr at hx
    have h1 := hpR x (by simp)
    have h2 := hu x (by simp)
    have hsr : Srt (x :: R) := h.sub (by rw [hA]; exact List.sublist_append_right _ _)
    have hrest : ∀ g ∈ gps u x.e R, Gap L0 g := by
      refine ih (A ++ [x]) (by rw [hA]; simp) (by unfold Rn.e; omega) (fun y hy => ?_) (Or.inr ⟨x, hxm, rfl⟩) (fun y hy => (List.pairwise_cons.1 hsr.2).1 y hy) (fun y hy => hu y (by simp [hy]))
      · rcases List.mem_append.1 hy with hy | hy
        · have := hpA y hy; unfold Rn.e at *; omega
        · simp at hy; rw [hy]; exact Int.le_refl _
    unfold Rn.e at h2
    simp only [gps] at hg
    rw [if_neg (by omega)] at hg
    split at hg
    · rename_i hlt
      rcases List.mem_cons.1 hg with rfl | hg
      · refine ⟨by dsimp only; omega, hp0, ⟨x, hxm, by dsimp only; omega⟩, hpe, fun y hy => ?_⟩
        rw [hA] at hy
        rcases List.mem_append.1 hy with hy | hy
        · exact Or.inl (hpA y hy)
        · refine Or.inr ?_
          dsimp only
          rcases List.mem_cons.1 hy with rfl | hy
          · omega
          · have := (List.pairwise_cons.1 hsr.2).1 y hy
            unfold Rn.e at this
            omega
      · exact hrest g hg
    · exact hrest g hg
/-- Nothing is told just where all is free. -/
theorem ovr_fr {L : List Rn} {p k : Int} (hk : 1 ≤ k) : ovr L p k mz = none ↔ Fr L p k := by
  constructor
  · intro h x hx
    unfold ovr at h
    rw [if_neg (by omega), List.find?_eq_none] at h
    have := h x hx
    simp [mz] at this
    by_cases h1 : p < x.e
    · exact Or.inr (this h1)
    · exact Or.inl (by omega)
  · intro h
    refine ovr_none (fun j hj h1 h2 => ?_)
    exfalso
    rcases h _ (gd_mem hj) with h3 | h3 <;> omega
theorem ovr_put {L : List Rn} (h : Srt L) (hl : L.length < 65536) {x : Rn} (hx : Mayr x) : (ovr L x.a x.n mz).isSome = !okp L x := by
  have hm := (mayb_iff x).2 hx
  have hfr : plE L x = 0 ↔ Fr L x.a x.n := by
    rw [plE_apt h hx hl]
    unfold Apt Fr Rn.e
    constructor
    · intro h y hy
      exact (h y hy).symm
    · intro h y hy
      exact (h y hy).symm
  unfold Mayr at hx
  unfold okp
  rw [hm]
  by_cases h0 : plE L x = 0
  · rw [(ovr_fr (by omega)).2 (hfr.1 h0)]
    simp [h0]
  · have : ovr L x.a x.n mz ≠ none := fun e => h0 (hfr.2 ((ovr_fr (by omega)).1 e))
    rw [Option.isSome_iff_ne_none.2 this]
    have hb : (plE L x == 0) = false := by simpa using h0
    rw [hb]
    rfl
/-- What the law asks of a gap. -/
theorem gap_asks {L : List Rn} (h : Srt L) {g : Int × Int} (hg : Gap L g) : ovr L g.1 g.2 mz = none ∧ (0 < g.1 → (ovr L (g.1 - 1) 1 mz).isSome = true) ∧ (ovr L (g.1 + g.2) 1 mz).isSome = true ∧ g.1 + g.2 ≤ 72057594037927936 := by
  obtain ⟨h1, h2, ⟨y, hy, e1⟩, h4, h5⟩ := hg
  have hm := h.1 y hy
  unfold Mayr at hm
  refine ⟨(ovr_fr h1).2 h5, fun h0 => ?_, ?_, by omega⟩
  · rcases h4 with e | ⟨z, hz, e⟩
    · omega
    · have hz' := h.1 z hz
      unfold Mayr at hz'
      rw [of_some h hz (p := g.1 - 1) (by unfold Rn.e at e; omega) (by omega)]
      rfl
  · rw [of_some h hy (p := g.1 + g.2) (by omega) (by unfold Rn.e; omega)]
    rfl
theorem all_gaps {L : List Rn} (h : Srt L) : (∀ g ∈ gps (endL L) 0 L, Gap L g) ∧ sumG (gps (endL L) 0 L) + sumL L = endL L := by
  have h0 : ∀ x ∈ L, (0 : Int) ≤ x.a := fun x hx => by have := h.1 x hx; unfold Mayr at this; omega
  have h1 : ∀ x ∈ L, x.e ≤ endL L := fun x hx => endL_ge h hx
  refine ⟨gps_gap h [] L rfl (Int.le_refl _) (fun x hx => by simp at hx) (Or.inl rfl) h0 h1 rfl, ?_⟩
  have hp : (0 : Int) ≤ endL L := by
    unfold endL
    rw [List.getLastD_eq_getLast?]
    cases hl : L.getLast? with
    | none => exact Int.le_refl _
    | some z =>
      have := h.1 z (List.mem_of_getLast? hl)
      unfold Mayr at this
      show 0 ≤ z.e
      unfold Rn.e
      omega
  have := gps_sum h h0 h1 hp
  omega
end Go.Proofs.Ytopnfjgkgoeleaa
