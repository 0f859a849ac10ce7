/- The weight of lengths (the reference's), and May. -/
import Derived.Test.YthpocbpleffdpaaLen
namespace Go.Proofs.Ythpocbpleffdpaa
open Go.RowKit

/-- The weight of lengths. -/
def wgt : List Int → Nat
  | [] => 0
  | z :: zs => (if 0 < z then 32768 / 2 ^ z.toNat else 0) + wgt zs
theorem wgt_append (a b : List Int) : wgt (a ++ b) = wgt a + wgt b := by
  induction a with
  | nil => simp [wgt]
  | cons z a ih => simp [wgt, ih, Nat.add_assoc]
theorem wgt_snoc (zs : List Int) (j : Nat) (hj : j < zs.length) : wgt (zs.take (j + 1)) = wgt (zs.take j) + (if 0 < zs.getD j 0 then 32768 / 2 ^ (zs.getD j 0).toNat else 0) := by
  rw [List.take_add_one, wgt_append, List.getElem?_eq_getElem hj]
  simp [wgt, List.getD, hj]
theorem wgt_le (zs : List Int) : wgt zs ≤ 32768 * zs.length := by
  induction zs with
  | nil => simp [wgt]
  | cons z zs ih =>
    have : (if 0 < z then 32768 / 2 ^ z.toNat else 0) ≤ 32768 := by
      split
      · exact Nat.div_le_self _ _
      · omega
    simp only [wgt, List.length_cons]
    omega
set_option maxRecDepth 100000 in
set_option maxHeartbeats 2000000 in
theorem rweight_any (ao : Option Addr) (cap : Nat) (zs : List Int) (w : World) (hl : zs.length ≤ 1000000) (hs : Src .i64 w ao zs) (hw : Wi 15 zs) :
    Calls Try.prog 15 #[.slice ao zs.length cap] w fun e w' => e = .returned (.int .i64 (wgt zs : Int)) ∧ w = w' := by
  have HS : Hid (Src .i64 w ao zs) := hs
  have HW : Hid (Wi 15 zs) := hw
  clear hs hw
  go_enter Try.func15, Try.ntmps15
  go_wp2_with fail
  go_loopw [3, 4] (fun nv iv wr => ∃ j s : Nat, j ≤ zs.length ∧ s ≤ 32768 * j ∧ nv = .int .i64 s ∧ iv = .int .i64 j ∧ w = wr ∧ Hid (s = wgt (zs.take j))) (fun _ i _ => zs.length - (intOf i).toNat)
  case atStart => exact ⟨0, 0, Nat.zero_le _, Nat.zero_le _, rfl, rfl, rfl, by show _ = _; simp [wgt]⟩
  case round =>
    obtain ⟨j, s, hj, hsj, rfl, rfl, rfl, HT⟩ := hrel
    by_cases hjl : j < zs.length
    · obtain ⟨b, off, rfl, hc⟩ := HS.out (by omega)
      have c := hc j hjl
      have hz := HW.out _ (List.getElem_mem hjl)
      have hz2 : 0 ≤ zs.getD j 0 ∧ zs.getD j 0 ≤ 15 := by simpa [List.getD, hjl] using hz
      have HZ := wgt_snoc zs j hjl
      have hle := wgt_le (zs.take (j + 1))
      rw [← HT.out] at HZ
      generalize zs.getD j 0 = z at c hz2 HZ
      obtain ⟨m, rfl⟩ := Int.eq_ofNat_of_zero_le hz2.1
      have hm : m ≤ 15 := by omega
      clear hc hz hz2
      by_cases h0 : 0 < m
      · obtain ⟨q, hq⟩ : ∃ q, q = 32768 / 2 ^ m := ⟨_, rfl⟩
        have hq2 : (32768 : Int) / 2 ^ m = (q : Int) := by rw [hq]; exact (Int.natCast_ediv 32768 (2 ^ m)).symm ▸ by simp
        have hq3 : q ≤ 32768 := by rw [hq]; exact Nat.div_le_self _ _
        have HZ3 : Hid (s + q = wgt (zs.take (j + 1))) := by
          show _ = _
          rw [HZ, if_pos (by omega), hq]
          simp
        clear hq HZ hle
        go_wp2_with fail
        go_roundw
        case rel => exact ⟨j + 1, s + q, by omega, by omega, by go_num, by go_num, by first | exact rfl | trivial, HZ3.out⟩
        case measure => simp [intOf]; omega
      · obtain rfl : m = 0 := by omega
        have HZ3 : Hid (s = wgt (zs.take (j + 1))) := by
          show _ = _
          rw [HZ, if_neg (by omega)]
          simp
        clear HZ hle
        go_wp2_with fail
        go_roundw
        case rel => exact ⟨j + 1, s, by omega, by omega, rfl, by go_num, by first | exact rfl | trivial, HZ3.out⟩
        case measure => simp [intOf]; omega
    · obtain rfl : j = zs.length := by omega
      have HD : Hid (s = wgt zs) := by
        have := HT.out
        rw [List.take_length] at this
        exact this
      clear HT
      go_wp2_with fail
      go_ret
      exact ⟨ret_int (by rw [HD.out]), rfl⟩
end Go.Proofs.Ythpocbpleffdpaa
