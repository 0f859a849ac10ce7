/- regions: mathematics of many put, one taken. -/
import Derived.Test.YtopnfjgkgoeleaaTl
import Derived.Test.YtopnfjgkgoeleaaLd
namespace Go.Proofs.Ytopnfjgkgoeleaa
open Go.RowKit
set_option linter.unusedVariables false
set_option linter.unusedSimpArgs false
theorem apt_perm {L S : List Rn} (h : Srt L) (p : L.Perm S) : S.Pairwise Apt := (List.Perm.pairwise_iff (fun {x y} h => Apt.symm h) p).1 (srt_apt h)
theorem may_perm {L S : List Rn} (h : Srt L) (p : L.Perm S) : ∀ x ∈ S, Mayr x := fun x hx => h.1 x (p.mem_iff.2 hx)
/-- One more that is apart from all. -/
theorem okp_apt {L : List Rn} {x : Rn} (h : Srt L) (hx : Mayr x) (hl : L.length < 65536) (ha : ∀ y ∈ L, Apt x y) : okp L x = true := by
  unfold okp
  rw [(mayb_iff x).2 hx, (plE_apt h hx hl).2 ha]
  rfl
/-- All that are apart are put. -/
theorem wth_all {L S : List Rn} (h : Srt L) (hm : ∀ x ∈ S, Mayr x) (hp : S.Pairwise Apt) (ha : ∀ x ∈ S, ∀ y ∈ L, Apt x y) (hl : L.length + S.length ≤ 65536) : (wth L S).2.1 = S.length ∧ (wth L S).2.2 = 0 ∧ Srt (wth L S).1 ∧ (wth L S).1.Perm (L ++ S) := by
  induction S generalizing L with
  | nil => simp [wth]; exact h
  | cons x S ih =>
    simp only [List.length_cons] at hl
    have hx := hm x (by simp)
    have h0 : plE L x = 0 := (plE_apt h hx (by omega)).2 (ha x (by simp))
    have hi := ins_srt h hx h0 (by omega)
    have hpc := List.pairwise_cons.1 hp
    have := ih hi (fun y hy => hm y (by simp [hy])) hpc.2 (fun y hy z hz => by
      rcases List.mem_cons.1 ((ins_perm L x).mem_iff.1 hz) with rfl | hz
      · exact (hpc.1 y hy).symm
      · exact ha y (by simp [hy]) z hz) (by rw [ins_len]; omega)
    simp only [wth, h0, if_true]
    refine ⟨by rw [this.1]; simp, this.2.1, this.2.2.1, this.2.2.2.trans ?_⟩
    refine ((ins_perm L x).append_right S).trans ?_
    simpa using (List.perm_middle (a := x) (l₁ := L) (l₂ := S)).symm
theorem put_all {L S : List Rn} (h : Srt L) (p : L.Perm S) (hl : L.length ≤ 65536) : puN [] S = S.length ∧ puE [] S = 0 ∧ puL [] S = L := by
  have hm := may_perm h p
  have ha : allM S = true := List.all_eq_true.2 (fun x hx => (mayb_iff x).2 (hm x hx))
  have hw := wth_all Srt.nil hm (apt_perm h p) (fun x _ y hy => by simp at hy) (by simp; rw [← p.length_eq]; exact hl)
  unfold puN puE puL
  rw [if_pos ha, if_pos ha, if_pos ha]
  refine ⟨hw.1, hw.2.1, srt_perm hw.2.2.1 h ?_⟩
  have := hw.2.2.2
  simp only [List.nil_append] at this
  exact this.trans p.symm
/-- One that is there is found where it begins. -/
theorem bgn_mem {L : List Rn} (h : Srt L) {x : Rn} (hx : x ∈ L) : bgn L x.a = true ∧ L.getD (bey L x.a) zRn = x ∧ L.Perm (x :: wo L (bey L x.a)) := by
  obtain ⟨j, hj, e⟩ := List.getElem_of_mem hx
  rw [← gd hj] at e
  have hm := h.may hj
  rw [e] at hm
  unfold Mayr at hm
  have hb : bey L x.a = j := by
    refine bey_eq h ⟨by omega, fun i hi => ?_, fun i h1 h2 => ?_⟩
    · have := h.lt hi hj
      rw [e] at this
      exact this
    · by_cases e2 : i = j
      · rw [e2, e]; unfold Rn.e; omega
      · have h3 := h.lt (i := j) (j := i) (by omega) h2
        have h4 := h.may h2
        rw [e] at h3
        unfold Mayr at h4
        unfold Rn.e at *
        omega
  rw [hb]
  refine ⟨?_, e, ?_⟩
  · unfold bgn
    rw [hb, e]
    simp [hj]
  · unfold wo
    have : L.take j ++ x :: L.drop (j + 1) = L := by
      conv => rhs; rw [← List.take_append_drop j L, List.drop_eq_getElem_cons hj, ← gd hj, e]
    conv => lhs; rw [← this]
    exact List.perm_middle
theorem tk_mem {L : List Rn} (h : Srt L) {x : Rn} (hx : x ∈ L) : tkX L x.a = x ∧ tkE L x.a = 0 ∧ L.Perm (x :: tkL L x.a) := by
  obtain ⟨h1, h2, h3⟩ := bgn_mem h hx
  unfold tkX tkE tkL
  rw [if_pos h1, if_pos h1, if_pos h1]
  exact ⟨h2, rfl, h3⟩
/-- Nothing lies where all others are apart. -/
theorem of_none {L : List Rn} {x : Rn} (hx : Mayr x) (ha : ∀ y ∈ L, Apt x y) : ovr L x.a 1 mz = none := by
  refine ovr_none (fun j hj h1 h2 => ?_)
  exfalso
  unfold Mayr at hx
  rcases ha _ (gd_mem hj) with h | h
  · unfold Rn.e at h; omega
  · omega
theorem of_some {L : List Rn} (h : Srt L) {x : Rn} (hx : x ∈ L) {p : Int} (h1 : x.a ≤ p) (h2 : p < x.e) : ovr L p 1 mz = some x := by
  obtain ⟨j, hj, e⟩ := List.getElem_of_mem hx
  rw [← gd hj] at e
  have := ovr_some (L := L) (p := p) (k := 1) (m := mz) (i := j) (by omega) hj (by rw [e]; exact h2) (by rw [e]; omega) rfl (fun i hi g1 g2 => by
    exfalso
    have := h.lt hi hj
    rw [e] at this
    omega)
  rw [this, e]
theorem endL_nil : endL [] = 0 := rfl
end Go.Proofs.Ytopnfjgkgoeleaa
