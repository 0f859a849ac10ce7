/- regions: RegionsKinds: mathematics, the walk. -/
import Derived.Test.YtopnfjgkgoeleaaCt
import Derived.Test.YtopnfjgkgoeleaaOw
namespace Go.Proofs.Ytopnfjgkgoeleaa
open Go.RowKit
set_option linter.unusedVariables false
set_option linter.unusedSimpArgs false
def nok (kd : Int) (x : Rn) : Bool := !(x.k == kd)
theorem ovr_filter (L : List Rn) (p k kd : Int) : ovr L p k (mks [kd]) = ovr (L.filter (nok kd)) p k mz := by
  unfold ovr
  split
  · rfl
  · rw [List.find?_filter]
    congr 1
    funext x
    unfold nok mks mz
    cases hx : (x.k == kd) <;> simp [hx] <;> simp_all
theorem cntK_perm {L M : List Rn} (p : L.Perm M) (k : Int) : cntK L k = cntK M k := (p.filter _).length_eq
theorem sumK_perm {L M : List Rn} (p : L.Perm M) (k : Int) : sumK L k = sumK M k := sumL_perm (p.filter _)
theorem cntK_none (L : List Rn) (kd : Int) : cntK (L.filter (nok kd)) kd = 0 ∧ sumK (L.filter (nok kd)) kd = 0 := by
  have : (L.filter (nok kd)).filter (fun x => x.k == kd) = [] := by
    rw [List.filter_filter, List.filter_eq_nil_iff]
    intro x _
    unfold nok
    cases (x.k == kd) <;> simp
  unfold cntK sumK
  rw [this]
  exact ⟨rfl, rfl⟩
theorem sumT_bd {S : List Rn} (h : ∀ x ∈ S, Mayr x) (kd : Int) : 0 ≤ sumK S kd ∧ sumK S kd ≤ (S.length : Int) * 72057594037927936 := by
  unfold sumK
  induction S with
  | nil => simp [sumL]
  | cons x S ih =>
    have := ih (fun y hy => h y (by simp [hy]))
    have hx := h x (by simp)
    unfold Mayr at hx
    rw [List.filter_cons]
    simp only [List.length_cons]
    have e : ∀ M, sumL (x :: M) = x.n + sumL M := fun _ => rfl
    split
    · rw [e]; omega
    · omega
theorem filter_step {S : List Rn} {j : Nat} (hj : j < S.length) (kd : Int) : (S.take (j + 1)).filter (nok kd) = (S.take j).filter (nok kd) ++ (if (S.getD j zRn).k = kd then [] else [S.getD j zRn]) := by
  rw [take_step hj, List.filter_append]
  generalize S.getD j zRn = x
  congr 1
  by_cases h : x.k = kd <;> simp [nok, h]
theorem take_apt {S : List Rn} {j : Nat} (hj : j < S.length) (hp : S.Pairwise Apt) : ∀ y ∈ S.take j, Apt (S.getD j zRn) y := by
  intro y hy
  have : (S.take j ++ S.drop j).Pairwise Apt := by rw [List.take_append_drop]; exact hp
  rw [List.pairwise_append] at this
  exact (this.2.2 y hy _ (by rw [drop_cons hj]; simp)).symm
theorem srt_filter {f : Rn → Bool} {L S Lo : List Rn} (h : Srt L) (p : L.Perm S) (ho : Srt Lo) (pm : Lo.Perm (S.filter f)) : Lo = L.filter f := srt_perm ho (h.sub List.filter_sublist) (pm.trans (p.filter _).symm)
end Go.Proofs.Ytopnfjgkgoeleaa
