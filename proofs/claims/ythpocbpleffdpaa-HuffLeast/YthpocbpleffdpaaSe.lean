/- What Lengths tells is good: it fits, it costs least, it weighs the whole. -/
import Derived.Test.YthpocbpleffdpaaSd
namespace Go.Proofs.Ythpocbpleffdpaa
open Go.RowKit
set_option linter.unusedVariables false

theorem row_many (b : List Nat) : ∀ t s, b.length ≤ 2 ^ (t + s) → 2 * b.length ≤ (Pm.row b t).length + 2 ^ s
  | 0, s, h => by
    have : (Pm.row b 0).length = b.length := rfl
    rw [Nat.zero_add] at h
    omega
  | t + 1, s, h => by
    have h1 := row_many b t (s + 1) (by rw [show t + (s + 1) = t + 1 + s by omega]; exact h)
    rw [Pm.row_len]
    have : 2 ^ (s + 1) = 2 * 2 ^ s := by rw [Nat.pow_succ, Nat.mul_comm]
    omega
theorem wgt_range (ls : List Int) : ∀ n, n ≤ ls.length → wgt (ls.take n) = ((List.range n).map (fun i => if 0 < ls.getD i 0 then 32768 / 2 ^ (ls.getD i 0).toNat else 0)).sum
  | 0, _ => by simp [wgt]
  | n + 1, h => by rw [wgt_snoc ls n h, wgt_range ls n (by omega), List.range_succ, List.map_append, List.sum_append]; simp
theorem wgt_pos {zs ls : List Int} (h1 : ls.length = zs.length) (h0 : ∀ i, i ∉ Pm.pos zs → ls.getD i 0 = 0) (hp : ∀ s ∈ Pm.pos zs, 1 ≤ ls.getD s 0 ∧ ls.getD s 0 ≤ 15) : wgt ls = ((Pm.pos zs).map (fun s => 2 ^ (15 - (ls.getD s 0).toNat))).sum := by
  have e := wgt_range ls ls.length (Nat.le_refl _)
  rw [List.take_length] at e
  rw [e, h1, ← sum_filter (fun j => decide (0 < zs.getD j 0)) _ (fun i hi => ?_)]
  · show ((Pm.pos zs).map _).sum = _
    congr 1
    refine List.map_congr_left (fun s hs => ?_)
    obtain ⟨a, b⟩ := hp s hs
    rw [if_pos (by omega)]
    have hk : (ls.getD s 0).toNat ≤ 15 := by omega
    rw [show (32768 : Nat) = 2 ^ 15 by rfl, Nat.pow_div hk (by decide)]
  · by_cases hil : i < zs.length
    · have hi2 : i ∉ Pm.pos zs := fun hm => by
        have h5 := (Pm.pos_mem.1 hm).2
        have h6 : ¬ 0 < zs.getD i 0 := by simpa using hi
        exact h6 h5
      rw [h0 i hi2]
      rfl
    · rw [List.getD_eq_getElem?_getD, List.getElem?_eq_none (by omega)]
      rfl
/-- What the least lengths cost. -/
def lst (zs : List Int) (m : Nat) : Nat := if 2 ≤ (Pm.pos zs).length then Pm.ps (Pm.row (Pm.base zs) m) (2 * (Pm.pos zs).length - 2) else (Pm.base zs).getD 0 0
structure Good (zs : List Int) (m : Nat) (Y : List Int) : Prop where
  len : Y.length = zs.length
  fit : ∀ i, i < zs.length → 0 ≤ Y.getD i 0 ∧ Y.getD i 0 ≤ ((m + 1 : Nat) : Int) ∧ (Y.getD i 0 = 0 ↔ zs.getD i 0 = 0)
  cost : ctot Y zs zs.length = lst zs m
  two : 2 ≤ (Pm.pos zs).length → wgt Y = 32768
  one : (Pm.pos zs).length = 1 → wgt Y = 16384
  hz : 2 ≤ (Pm.pos zs).length → Pm.Hz zs Y
theorem fit_pos {zs Y : List Int} (hz : Ct zs) {i : Nat} (h : Y.getD i 0 = 0 ↔ zs.getD i 0 = 0) (h0 : 0 ≤ Y.getD i 0) (hm : i ∈ Pm.pos zs) : 1 ≤ Y.getD i 0 := by
  have h2 := (Pm.pos_mem.1 hm).2
  have : Y.getD i 0 ≠ 0 := fun e => by have := h.1 e; omega
  omega
theorem hz_fit {zs Y : List Int} (hz : Ct zs) {L : Nat} (h : Pm.Hz zs Y) (hL : ∀ s ∈ Pm.pos zs, (Y.getD s 0).toNat ≤ L) : ∀ i, i < zs.length → 0 ≤ Y.getD i 0 ∧ Y.getD i 0 ≤ (L : Int) ∧ (Y.getD i 0 = 0 ↔ zs.getD i 0 = 0) := by
  intro i hi
  by_cases hm : i ∈ Pm.pos zs
  · have a1 := h.one i hm
    have a2 := hL i hm
    have a3 := (Pm.pos_mem.1 hm).2
    exact ⟨by omega, by omega, ⟨fun e => by omega, fun e => by omega⟩⟩
  · rw [h.zero i hm]
    exact ⟨by omega, by omega, ⟨fun _ => (pos_ct hz hi).1 hm, fun _ => rfl⟩⟩
theorem hz_wgt {zs Y : List Int} {L : Nat} (hL0 : L ≤ 15) (h : Pm.Hz zs Y) (hL : ∀ s ∈ Pm.pos zs, (Y.getD s 0).toNat ≤ L) : wgt Y = 32768 := by
  rw [wgt_pos h.len h.zero (fun s hs => by have := h.one s hs; have := hL s hs; omega)]
  exact h.kraft 15 (fun s hs => by have := hL s hs; omega)
/-- Huffman's lengths, where they are within. -/
theorem good_plain {zs : List Int} (hl : zs.length ≤ 320) (hz : Ct zs) {m : Nat} (hm : m ≤ 14) (hi : Wi (m + 1 : Nat) (hzl zs)) : Good zs m (hzl zs) := by
  have hf := hzl_fit hl hz
  have hw := fun i => Wi.at hi (by omega) i
  have hlen := hzl_len zs
  refine ⟨hlen, fun i h => ⟨(hf i h).1, (hw i).2, (hf i h).2.2⟩, ?_, fun h2 => ?_, fun h1 => ?_, fun h2 => (Pm.hzl_many (by omega) h2).1⟩
  · rw [ctot_ltot]
    unfold lst
    by_cases h2 : 2 ≤ (Pm.pos zs).length
    · rw [if_pos h2]
      exact (Pm.hzl_cost (L := m + 1) (by omega) h2 (by omega) (fun s hs => by have := hw s; omega)).2
    · rw [if_neg h2]
      exact hzl_few (by omega)
  · exact hz_wgt (L := m + 1) (by omega) (Pm.hzl_many (by omega) h2).1 (fun s hs => by have := hw s; omega)
  · obtain ⟨s, e⟩ := List.length_eq_one_iff.1 h1
    have hs : s ∈ Pm.pos zs := by rw [e]; simp
    have hs2 := Pm.pos_mem.1 hs
    have e1 : (hzl zs).getD s 0 = 1 := by
      rw [Pm.hzl_one e, List.getD_eq_getElem?_getD, List.getElem?_set_self (by rw [List.length_replicate]; exact hs2.1)]
      rfl
    rw [wgt_pos hlen (fun i hi2 => ?_) (fun x hx => by
      rw [e] at hx
      rw [List.mem_singleton.1 hx, e1]
      omega), e]
    · simp only [List.map_cons, List.map_nil, List.sum_cons, List.sum_nil]
      rw [e1]
      rfl
    · by_cases hil : i < zs.length
      · exact (hf i hil).2.2.2 ((pos_ct hz hil).1 hi2)
      · rw [List.getD_eq_getElem?_getD, List.getElem?_eq_none (by omega)]
        rfl
/-- The coins' lengths. -/
theorem good_spent {zs : List Int} (hl : zs.length ≤ 320) (hz : Ct zs) {m : Nat} (hm : m ≤ 14) (h2 : 2 ≤ (Pm.pos zs).length) (hr : 2 * (Pm.pos zs).length - 2 ≤ (Pm.row (Pm.base zs) m).length) : Good zs m (spl zs m) := by
  have hp := Pm.lv_plen zs
  obtain ⟨a, b⟩ := spl_get hl (show m ≤ 1000 by omega) (by rw [hp]; omega)
  obtain ⟨c1, c2, c3, c4⟩ := Pm.spent_hz (L := m + 1) hl h2 (by omega) (by omega) (by rw [Nat.add_sub_cancel]; exact hr) a (fun i _ => by rw [Nat.add_sub_cancel]; exact b i)
  rw [Nat.add_sub_cancel] at c2
  refine ⟨a, hz_fit hz c1 c3, ?_, fun _ => hz_wgt (by omega) c1 c3, fun h1 => by omega, fun _ => c1⟩
  rw [ctot_ltot, c2]
  unfold lst
  rw [if_pos h2]
theorem row_enough {zs : List Int} {m : Nat} (hw : (lv zs zs.length).length ≤ 2 ^ (m + 1)) : 2 * (Pm.pos zs).length - 2 ≤ (Pm.row (Pm.base zs) m).length := by
  have hp := Pm.lv_plen zs
  have hb := Pm.base_plen zs
  have := row_many (Pm.base zs) m 1 (by omega)
  omega
theorem not_wi {zs : List Int} (hl : zs.length ≤ 320) (hz : Ct zs) {m : Nat} (hi : ¬ Wi (m + 1 : Nat) (hzl zs)) : 2 ≤ (Pm.pos zs).length := by
  rcases Nat.lt_or_ge 1 (Pm.pos zs).length with h | h
  · exact h
  · exfalso
    refine hi ?_
    have hf := hzl_fit hl hz
    intro z hzm
    obtain ⟨i, h1, rfl⟩ := List.mem_iff_getElem.1 hzm
    rw [hzl_len] at h1
    have hfi := hf i h1
    have hle : (hzl zs).getD i 0 ≤ 1 := by
      rcases (show (Pm.pos zs).length = 0 ∨ (Pm.pos zs).length = 1 by omega) with h0 | h0
      · rw [Pm.hzl_none (List.length_eq_zero_iff.1 h0), rep_get]; omega
      · obtain ⟨s, e⟩ := List.length_eq_one_iff.1 h0
        rw [Pm.hzl_one e]
        by_cases his : i = s
        · subst his
          rw [List.getD_eq_getElem?_getD, List.getElem?_set_self (by rw [List.length_replicate]; exact h1)]
          simp
        · rw [List.getD_eq_getElem?_getD, List.getElem?_set_ne (fun e => his e.symm), ← List.getD_eq_getElem?_getD, rep_get]
          omega
    have e : (hzl zs).getD i 0 = (hzl zs)[i] := by rw [List.getD_eq_getElem?_getD, List.getElem?_eq_getElem (by rw [hzl_len]; exact h1)]; rfl
    rw [e] at hfi hle
    omega
/-- Lengths, where it tells any. -/
theorem lengths_good (w : World) (m : Nat) (hm : m ≤ 14) (ao : Option Addr) (cap : Nat) (zs : List Int) (hl : zs.length ≤ 320) (hz : Ct zs) (hs : Src .u32 w ao zs) (hw : (lv zs zs.length).length ≤ 2 ^ (m + 1)) :
    Calls Try.prog 18 #[.int .i64 ((m + 1 : Nat) : Int), .slice ao zs.length cap] w fun e w' => ∃ G Y, w.heap.size ≤ G ∧ e = .returned (.tuple #[.slice (some ⟨G, 0, none⟩) zs.length zs.length, .int .i64 0]) ∧ Rw .i64 3 w' G Y ∧ Kp (fun _ => False) w w' ∧ Good zs m Y := by
  by_cases hi : Wi (m + 1 : Nat) (hzl zs)
  · exact (lengths_plain w m hm ao cap zs hl hz hs hw hi).mono (fun e w' x => ⟨_, _, Nat.le_refl _, x.1, x.2.1, x.2.2, good_plain hl hz hm hi⟩)
  · have h2 := not_wi hl hz hi
    have hr := row_enough hw
    have hp := Pm.lv_plen zs
    exact (lengths_spent w m hm ao cap zs hl hz hs hw hi (by omega) (by rw [hp]; omega)).mono (fun e w' x => by
      obtain ⟨G, g1, g2, g3, g4⟩ := x
      exact ⟨G, _, g1, g2, g3, g4, good_spent hl hz hm h2 hr⟩)
end Go.Proofs.Ythpocbpleffdpaa
