/- Lists of lengths: what is refused, and the weight, of the program and of the reference. -/
import Derived.Test.YthpocbpleffdpaaRows
import Derived.Test.YthpocbpleffdpaaGen
namespace Go.Proofs.Ythpocbpleffdpaa
open Go.RowKit

/-- All are from 0 to most. -/
abbrev Wi (most : Int) (zs : List Int) : Prop := ∀ z ∈ zs, 0 ≤ z ∧ z ≤ most
theorem wi_snoc {most : Int} {zs : List Int} {j : Nat} (h : Wi most (zs.take j)) (hj : j < zs.length) (hz : 0 ≤ zs.getD j 0 ∧ zs.getD j 0 ≤ most) : Wi most (zs.take (j + 1)) := by
  intro z hm
  rw [List.take_add_one] at hm
  rcases List.mem_append.1 hm with hm | hm
  · exact h z hm
  · have : zs[j]? = some zs[j] := List.getElem?_eq_getElem hj
    rw [this] at hm
    simp at hm
    subst hm
    simpa [List.getD, hj] using hz
theorem wi_not {most : Int} {zs : List Int} {j : Nat} (hj : j < zs.length) (hz : ¬ (0 ≤ zs.getD j 0 ∧ zs.getD j 0 ≤ most)) : ¬ Wi most zs := by
  intro h
  have := h zs[j] (List.getElem_mem hj)
  simp [List.getD, hj] at hz
  omega
set_option maxRecDepth 100000 in
set_option maxHeartbeats 2000000 in
theorem within_any (ao : Option Addr) (cap : Nat) (zs : List Int) (most : Int) (w : World) (hl : zs.length ≤ 4000000000000000000) (hs : Src .i64 w ao zs) :
    Calls Try.prog 51 #[.slice ao zs.length cap, .int .i64 most] w fun e w' => e = .returned (.bool (decide (Wi most zs))) ∧ w = w' := by
  have HS : Hid (Src .i64 w ao zs) := hs
  clear hs
  go_enter Try.func51, Try.ntmps51
  go_wp2_with fail
  go_loopw [6, 9] (fun _ iv wr => ∃ j : Nat, j ≤ zs.length ∧ iv = .int .i64 j ∧ w = wr ∧ Hid (Wi most (zs.take j))) (fun _ i _ => zs.length - (intOf i).toNat)
  case atStart => exact ⟨0, Nat.zero_le _, rfl, rfl, fun z hz => by simp at hz⟩
  case round =>
    obtain ⟨j, hj, rfl, rfl, HW⟩ := hrel
    by_cases hjl : j < zs.length
    · obtain ⟨b, off, rfl, hc⟩ := HS.out (by omega)
      have c := hc j hjl
      have HZ : Hid (∀ z, z = zs.getD j 0 → ((0 ≤ z ∧ z ≤ most) → Wi most (zs.take (j + 1))) ∧ (¬ (0 ≤ z ∧ z ≤ most) → decide (Wi most zs) = false)) := by
        rintro z rfl
        exact ⟨fun h => wi_snoc HW.out hjl h, fun h => decide_eq_false (wi_not hjl h)⟩
      have HZ2 := HZ.out _ rfl
      generalize zs.getD j 0 = z at c HZ2
      have HZ3 : Hid (((0 ≤ z ∧ z ≤ most) → Wi most (zs.take (j + 1))) ∧ (¬ (0 ≤ z ∧ z ≤ most) → decide (Wi most zs) = false)) := HZ2
      clear hc HZ HZ2
      by_cases h0 : z < 0
      · go_wp2_with fail
        go_ret
        exact ⟨ret_bool (HZ3.out.2 (by omega)).symm, rfl⟩
      · by_cases h1 : most < z
        · go_wp2_with fail
          go_ret
          exact ⟨ret_bool (HZ3.out.2 (by omega)).symm, rfl⟩
        · go_wp2_with fail
          go_roundw
          case rel => exact ⟨j + 1, by omega, by go_num, by first | exact rfl | trivial, HZ3.out.1 (by omega)⟩
          case measure => simp [intOf]; omega
    · obtain rfl : j = zs.length := by omega
      have HD : Hid (decide (Wi most zs) = true) := by
        have := HW.out
        rw [List.take_length] at this
        exact decide_eq_true this
      clear HW
      go_wp2_with fail
      go_ret
      exact ⟨ret_bool HD.out.symm, rfl⟩
/-- Why lengths are none: the number of the error, 0 if they are. -/
def bad (zs : List Int) : Int := if Wi 15 zs then (if zs.length > 320 then 3 else 0) else 2
set_option maxRecDepth 100000 in
set_option maxHeartbeats 2000000 in
theorem refused_any (ao : Option Addr) (cap : Nat) (zs : List Int) (w : World) (hl : zs.length ≤ 4000000000000000000) (hs : Src .i64 w ao zs) :
    Calls Try.prog 43 #[.slice ao zs.length cap] w fun e w' => e = .returned (.int .i64 (bad zs)) ∧ w = w' := by
  by_cases h : Wi 15 zs
  · have hd := decide_eq_true h
    by_cases h2 : 320 < zs.length
    · have hb : bad zs = 3 := by unfold bad; rw [if_pos h, if_pos h2]
      rw [hb]
      have T := within_any ao cap zs 15 w hl hs
      rw [hd] at T
      have HT := T
      clear hb hd h hs T
      go_enter Try.func43, Try.ntmps43
      go_wp2_with fail
      refine HT.mono ?_
      rintro e w' ⟨rfl, rfl⟩
      clear HT
      go_wp2_with fail
      go_ret
      exact ⟨rfl, rfl⟩
    · have hb : bad zs = 0 := by unfold bad; rw [if_pos h, if_neg h2]
      rw [hb]
      have T := within_any ao cap zs 15 w hl hs
      rw [hd] at T
      clear hb hd h hs
      go_enter Try.func43, Try.ntmps43
      go_wp2_with fail
      refine T.mono ?_
      rintro e w' ⟨rfl, rfl⟩
      clear T
      go_wp2_with fail
      go_ret
      exact ⟨rfl, rfl⟩
  · have hd := decide_eq_false h
    have hb : bad zs = 2 := by unfold bad; rw [if_neg h]
    rw [hb]
    have T := within_any ao cap zs 15 w hl hs
    rw [hd] at T
    clear hb hd h hs
    go_enter Try.func43, Try.ntmps43
    go_wp2_with fail
    refine T.mono ?_
    rintro e w' ⟨rfl, rfl⟩
    clear T
    go_wp2_with fail
    go_ret
    exact ⟨rfl, rfl⟩
set_option maxRecDepth 100000 in
set_option maxHeartbeats 2000000 in
theorem check_any (ao : Option Addr) (cap : Nat) (zs : List Int) (w : World) (hl : zs.length ≤ 4000000000000000000) (hs : Src .i64 w ao zs) :
    Calls Try.prog 12 #[.slice ao zs.length cap] w fun e w' => e = .returned (.int .i64 (bad zs)) ∧ w = w' := by
  have HS : Hid (Src .i64 w ao zs) := hs
  clear hs
  go_enter Try.func12, Try.ntmps12
  go_wp2_with fail
  go_loopw [3] (fun iv wr => ∃ j : Nat, j ≤ zs.length ∧ iv = .int .i64 j ∧ w = wr ∧ Hid (Wi 15 (zs.take j))) (fun i _ => zs.length - (intOf i).toNat)
  case atStart => exact ⟨0, Nat.zero_le _, rfl, rfl, fun z hz => by simp at hz⟩
  case round =>
    obtain ⟨j, hj, rfl, rfl, HW⟩ := hrel
    by_cases hjl : j < zs.length
    · obtain ⟨b, off, rfl, hc⟩ := HS.out (by omega)
      have c := hc j hjl
      have HZ : ∀ z, z = zs.getD j 0 → ((0 ≤ z ∧ z ≤ 15) → Wi 15 (zs.take (j + 1))) ∧ (¬ (0 ≤ z ∧ z ≤ 15) → bad zs = 2) := by
        rintro z rfl
        exact ⟨fun h => wi_snoc HW.out hjl h, fun h => by unfold bad; rw [if_neg (wi_not hjl h)]⟩
      have HZ2 := HZ _ rfl
      generalize zs.getD j 0 = z at c HZ2
      have HZ3 : Hid (((0 ≤ z ∧ z ≤ 15) → Wi 15 (zs.take (j + 1))) ∧ (¬ (0 ≤ z ∧ z ≤ 15) → bad zs = 2)) := HZ2
      clear hc HZ HZ2
      by_cases h0 : z < 0
      · go_wp2_with fail
        go_ret
        exact ⟨ret_int (HZ3.out.2 (by omega)).symm, rfl⟩
      · by_cases h1 : 15 < z
        · go_wp2_with fail
          go_ret
          exact ⟨ret_int (HZ3.out.2 (by omega)).symm, rfl⟩
        · go_wp2_with fail
          go_roundw
          case rel => exact ⟨j + 1, by omega, by go_num, by first | exact rfl | trivial, HZ3.out.1 (by omega)⟩
          case measure => simp [intOf]; omega
    · obtain rfl : j = zs.length := by omega
      have hW := HW.out
      rw [List.take_length] at hW
      by_cases h2 : 320 < zs.length
      · have HB : Hid (bad zs = 3) := by show _ = _; unfold bad; rw [if_pos hW, if_pos h2]
        clear HW hW
        go_wp2_with fail
        go_ret
        exact ⟨ret_int HB.out.symm, rfl⟩
      · have HB : Hid (bad zs = 0) := by show _ = _; unfold bad; rw [if_pos hW, if_neg h2]
        clear HW hW
        go_wp2_with fail
        go_ret
        exact ⟨ret_int HB.out.symm, rfl⟩
end Go.Proofs.Ythpocbpleffdpaa
