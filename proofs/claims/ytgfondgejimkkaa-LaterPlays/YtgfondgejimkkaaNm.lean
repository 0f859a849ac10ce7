/- later: mathematics of one that is taken off. -/
import Derived.Test.YtgfondgejimkkaaCy
namespace Go.Proofs.Ytgfondgejimkkaa
set_option linter.unusedVariables false
set_option linter.unusedSimpArgs false
theorem lss_perm {A B : List Rn} {x : Rn} (h : A.Perm B) : (lss A x).Perm (lss B x) := by
  unfold lss
  exact h.flatMap_right _
theorem lss_none {A : List Rn} {x : Rn} (hx : Mayr x) (h : ∀ y ∈ A, Mayr y) (hn : ∀ y ∈ A, ovb x y = false) : lss A x = A := by
  induction A with
  | nil => rfl
  | cons y A ih =>
    rw [lss_cons, wo_out hx (h y (by simp)) (hn y (by simp)), ih (fun z hz => h z (by simp [hz])) (fun z hz => hn z (by simp [hz]))]
    rfl
/-- One that is taken off, or a part of it. -/
theorem off_one {c : Nat → Rn} {L : List Nat} {b0 : Nat} {t : Rn} (hap : Ap (L.map c)) (nd : L.Nodup) (hb : b0 ∈ L) (ht : Mayr t) (h1 : (c b0).a ≤ t.a) (h2 : t.e ≤ (c b0).e) : ((rst L [b0]).map c ++ wow t (c b0)).Perm (lss (L.map c) t) := by
  have hp := rst_perm nd (D := [b0]) (by simp) (by simpa using hb)
  have hpc : (L.map c).Perm (c b0 :: (rst L [b0]).map c) := by simpa using hp.map c
  have hmb := hap.1 _ (List.mem_map_of_mem hb)
  have htl := ht.lt
  have hov : ovb t (c b0) = true := by
    unfold ovb
    simp only [Bool.and_eq_true, decide_eq_true_eq]
    omega
  have hap2 := hap.perm hpc
  have hno : ∀ y ∈ (rst L [b0]).map c, ovb t y = false := fun y hy => by
    have h3 := (List.pairwise_cons.1 hap2.2).1 y hy
    have h4 := (hap2.1 y (by simp only [List.mem_cons]; exact .inr hy)).lt
    unfold ovb
    simp only [Bool.and_eq_false_iff, decide_eq_false_iff_not]
    rcases h3 with h3 | h3 <;> omega
  have he : lss (c b0 :: (rst L [b0]).map c) t = wow t (c b0) ++ (rst L [b0]).map c := by
    rw [lss_cons, wow_wo hov, lss_none ht (fun y hy => hap2.1 y (by simp only [List.mem_cons]; exact .inr hy)) hno]
  refine List.Perm.trans ?_ (lss_perm hpc).symm
  rw [he]
  exact List.perm_append_comm
theorem wow_self (x : Rn) : wow x x = [] := by unfold wow; rw [if_neg (by omega), if_neg (by omega)]; rfl
/-- The top is the first one. -/
theorem top_head {c : Nat → Rn} {L : List Nat} (hap : Ap (L.map c)) (hh : Hpd c L) (hL : 0 < L.length) : ∃ tl, srt (L.map c) = c (L.getD 0 0) :: tl := by
  have hcan := srt_can hap
  have hmem : c (L.getD 0 0) ∈ srt (L.map c) := (srt_perm _).mem_iff.2 (List.mem_map_of_mem (gn_mem hL))
  cases hs : srt (L.map c) with
  | nil => rw [hs] at hmem; simp at hmem
  | cons y tl =>
    have hy : y ∈ L.map c := (srt_perm _).mem_iff.1 (by rw [hs]; simp)
    obtain ⟨b, hb, rfl⟩ := List.mem_map.1 hy
    obtain ⟨i, hi, rfl⟩ := gn_of hb
    have hle := Hx.least hh i hi
    unfold kf key at hle
    have m0 := hap.1 _ (List.mem_map_of_mem (gn_mem hL))
    have m1 := hap.1 _ hy
    rw [hs] at hmem hcan
    have h0 : (c (L.getD i 0)).a ≤ (c (L.getD 0 0)).a := by
      rcases List.mem_cons.1 hmem with h | h
      · rw [h]; exact Int.le_refl _
      · have := (List.pairwise_cons.1 hcan.2).1 _ h
        have := m1.lt
        omega
    have l0 := m0.lt
    have l1 := m1.lt
    have p0 := m0.1
    have p1 := m1.1
    have := hap.mem_eq hy (List.mem_map_of_mem (gn_mem hL)) (by rintro (h | h) <;> omega)
    exact ⟨tl, by rw [this]⟩
end Go.Proofs.Ytgfondgejimkkaa
