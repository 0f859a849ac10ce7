/- Codes laid one by one: mathematics. -/
import Derived.Test.YthpocbpleffdpaaFcs
namespace Go.Proofs.Ythpocbpleffdpaa
open Go.RowKit
def cor (A : List Int) (n : Nat) : List (Nat × Int) → List Int
  | [] => List.replicate n 0
  | x :: l => (cor A n l).set x.1 (A.getD x.2.toNat 0 + (cn l.reverse x.2.toNat : Int))
/-- The codes of the symbols that came, where A tells the first codes. -/
def co (A : List Int) (n : Nat) (l : List (Nat × Int)) : List Int := cor A n l.reverse
theorem co_nil (A : List Int) (n : Nat) : co A n [] = List.replicate n 0 := rfl
theorem co_snoc (A : List Int) (n : Nat) (l : List (Nat × Int)) (x : Nat × Int) : co A n (l ++ [x]) = (co A n l).set x.1 (A.getD x.2.toNat 0 + (cn l x.2.toNat : Int)) := by
  simp [co, cor]
theorem cor_length (A : List Int) (n : Nat) (l : List (Nat × Int)) : (cor A n l).length = n := by
  induction l with
  | nil => simp [cor]
  | cons x l ih => simp [cor, ih]
theorem co_length (A : List Int) (n : Nat) (l : List (Nat × Int)) : (co A n l).length = n := cor_length _ _ _
theorem co_cds (zs : List Int) (A : List Int) (hA : ∀ m, m ≤ 15 → A.getD m 0 = (fc zs m : Int)) (hw : Wi 15 zs) : ∀ i, i ≤ zs.length → co A zs.length (cds zs i) = (List.range zs.length).map (fun k => if k < i ∧ 0 < zs.getD k 0 then cd zs k else 0)
  | 0, _ => by
    rw [show cds zs 0 = [] from rfl, co_nil]
    apply List.ext_getElem
    · simp
    · intro k h1 h2
      simp
  | i + 1, hi => by
    have ih := co_cds zs A hA hw i (by omega)
    have e : zs[i]?.getD 0 = zs.getD i 0 := by simp [List.getD]
    by_cases h : 0 < zs[i]?.getD 0
    · rw [cds_yes h, co_snoc, ih, e]
      rw [e] at h
      have hz : zs.getD i 0 ≤ 15 := by
        have := hw (zs.getD i 0) (by rw [List.getD_eq_getElem?_getD, List.getElem?_eq_getElem (show i < zs.length by omega)]; exact List.getElem_mem _)
        exact this.2
      obtain ⟨m, hm⟩ := Int.eq_ofNat_of_zero_le (show 0 ≤ zs.getD i 0 by omega)
      rw [hm] at h hz ⊢
      dsimp only
      rw [Int.toNat_natCast, hA m (by omega), cn_cds zs m (by omega) i]
      apply List.ext_getElem
      · simp
      · intro k h1 h2
        simp only [List.length_map, List.length_range] at h2
        by_cases hk : i = k
        · subst hk
          simp only [List.getElem_set_self, List.getElem_map, List.getElem_range]
          rw [if_pos ⟨by omega, by omega⟩]
          unfold cd
          rw [hm, Int.toNat_natCast]
          push_cast
          rfl
        · rw [List.getElem_set_ne hk]
          simp only [List.getElem_map, List.getElem_range]
          have : (k < i) ↔ (k < i + 1) := by omega
          simp only [this]
    · rw [cds_no h, ih]
      rw [e] at h
      apply List.map_congr_left
      intro k hk
      by_cases e2 : k = i
      · subst e2
        rw [if_neg (fun q => h q.2), if_neg (fun q => h q.2)]
      · have : (k < i) ↔ (k < i + 1) := by omega
        simp only [this]
theorem co_codes (zs : List Int) (A : List Int) (hA : ∀ m, m ≤ 15 → A.getD m 0 = (fc zs m : Int)) (hw : Wi 15 zs) : co A zs.length (cds zs zs.length) = codes zs := by
  rw [co_cds zs A hA hw zs.length (Nat.le_refl _)]
  unfold codes pc
  apply List.map_congr_left
  intro k hk
  have hk2 : k < zs.length := List.mem_range.1 hk
  have := (hw (zs.getD k 0) (by rw [List.getD_eq_getElem?_getD, List.getElem?_eq_getElem hk2]; exact List.getElem_mem _)).2
  by_cases h : 0 < zs.getD k 0
  · rw [if_pos ⟨hk2, h⟩, if_pos ⟨h, Or.inl (by omega)⟩]
  · rw [if_neg (fun q => h q.2), if_neg (fun q => h q.1)]
/-- The next codes of each length. -/
def nxl (A : List Int) (l : List (Nat × Int)) : List Int := (List.range 16).map fun m => A.getD m 0 + ((cn l m : Nat) : Int)
theorem nxl_length (A : List Int) (l : List (Nat × Int)) : (nxl A l).length = 16 := by simp [nxl]
theorem nxl_nil (A : List Int) (h : A.length = 16) : nxl A [] = A := by
  apply List.ext_getElem
  · simp [nxl, h]
  · intro k h1 h2
    simp [nxl, cn, List.getD, h2]
theorem nxl_get (A : List Int) (l : List (Nat × Int)) (m : Nat) (hm : m ≤ 15) : (nxl A l).getD m 0 = A.getD m 0 + ((cn l m : Nat) : Int) := by
  have : m < 16 := by omega
  simp [nxl, List.getD, this]
theorem nxl_snoc (A : List Int) (l : List (Nat × Int)) (i m : Nat) : (nxl A l).set m (A.getD m 0 + ((cn l m : Nat) : Int) + 1) = nxl A (l ++ [(i, (m : Int))]) := by
  apply List.ext_getElem
  · simp [nxl]
  · intro k h1 h2
    simp only [nxl, List.length_map, List.length_range] at h2
    by_cases hk : m = k
    · subst hk
      simp only [List.getElem_set_self, nxl, List.getElem_map, List.getElem_range, cn_append]
      have : cn [(i, (m : Int))] m = 1 := by simp [cn]
      rw [this]
      push_cast
      omega
    · rw [List.getElem_set_ne hk]
      simp only [nxl, List.getElem_map, List.getElem_range, cn_append]
      have : cn [(i, (m : Int))] k = 0 := by
        simp [cn]
        omega
      rw [this]
      simp
end Go.Proofs.Ythpocbpleffdpaa
