/- Contract of wire.split: a number's lowest bytes, and whether those are all of it; it makes memory and turns none that was there. -/
import Derived.Test.YtjjhkfhppoioiaaGet
import Derived.Test.YtjjhkfhppoioiaaRw
import Derived.Laws.CopyOwn
namespace Go.Proofs.Ytjjhkfhppoioiaa
open Go.RowKit

theorem info53 (L : List Int) (h : L.length = 8) : (Try.prog.info? 111).map (·.size) = some ((L.map (Value.int .u8)).toArray).size := by
  have e : (Try.prog.info? 111).map (·.size) = some 8 := by kernel_rfl
  rw [e]; simp [h]
theorem one_cells (L : List Int) : ((L.map (Value.int .u8)).toArray).all (·.oneCell') = true := by simp [Value.oneCell']

set_option maxHeartbeats 400000 in
theorem split_any (x : Int) (n : Nat) (w : World) (hx0 : 0 ≤ x) (hx1 : x < 18446744073709551616) (hn : n ≤ 8) :
    Calls Try.prog 70 #[.int .u64 x, .int .i64 n] w fun e w' =>
      e = .returned (.tuple #[.agg ((num x n ++ List.replicate (8 - n) 0).map (Value.int .u8)).toArray, .bool (decide (x < 256 ^ n))]) ∧ Below w.heap.size w w' := by
  go_enter Try.func70, Try.ntmps70
  go_wp2
  go_step3
  go_wp2
  go_step3
  go_wp2
  go_loopw [0, 5, 7] (fun u f i wr => ∃ k : Nat, k ≤ 8 ∧ i = .int .i64 k ∧ f = .bool true ∧ u = .int .u64 (x / 256 ^ min k n) ∧ (n < k → x < 256 ^ n) ∧ Rw 111 wr w.heap.size (digs x n k) ∧ Below w.heap.size w wr) (fun _ _ i _ => 8 - (intOf i).toNat)
  case atStart => exact ⟨0, by omega, rfl, rfl, by simp, by omega, by rw [digs_zero]; exact Rw.new 111 w [0, 0, 0, 0, 0, 0, 0, 0], (Below.refl _ _).alloc (Nat.le_refl _) _⟩
  case round =>
    obtain ⟨k, hk, rfl, rfl, rfl, hlt, hrow, hbel⟩ := hrel
    have hbd := div_pow_bd x (min k n) hx0 hx1
    by_cases hk8 : k < 8
    · by_cases hkn : k < n
      · have hcell := hrow.cell k (by rw [digs_length _ _ _ hn]; omega)
        have hfz := hrow.frozen k
        have R : ∀ v, v = x / 256 ^ k % 256 → Rw 111 (wr.setCell ⟨w.heap.size, k, none⟩ (.int .u8 v)) w.heap.size (digs x n (k + 1)) := by
          intro v hv
          rw [← digs_step x n k hkn hn, ← hv]
          exact hrow.set k v
        go_wp2
        go_roundw
        case rel => exact ⟨k + 1, by omega, by go_num, rfl, by rw [div_pow_step, show min k n + 1 = min (k + 1) n by omega], by omega, R _ (by rw [show min k n = k by omega]), hbel.setCell (Nat.le_refl _) _⟩
        case measure => simp [intOf]; omega
      · have hmn : min k n = n := by omega
        rw [hmn] at hbd ⊢
        by_cases hz : x < 256 ^ n
        · have hz0 := (div_pow_zero x n hx0).2 hz
          have hz1 : (x / 256 ^ n != 0) = false := by simp [hz0]
          have HZ : Hid (x / 256 ^ n = 0) := hz0
          clear hz0
          go_wp2
          go_roundw
          case rel => exact ⟨k + 1, by omega, by go_num, rfl, by rw [show min (k + 1) n = n by omega], fun _ => hz, by rw [digs_stay x n k (by omega)]; exact hrow, hbel⟩
          case measure => simp [intOf]; omega
        · have hz1 : (x / 256 ^ n != 0) = true := by simp; exact fun h => hz ((div_pow_zero x n hx0).1 h)
          go_wp2_with (first | (refine wpList_load_row rfl 111 _ rfl w.heap.size rfl 111 _ (0, 0) _ hrow.at Try.underlying111 rfl (info53 _ (digs_length x n k hn)) ?_) | (refine wpList_store_row rfl 111 _ _ rfl w.heap.size _ rfl rfl 111 _ hrow.at (info53 _ (digs_length x n k hn)) rfl (one_cells _) ?_; rw [setRow_self wr w.heap.size _ 111 (0, 0) hrow.at]))
          refine bodyPost_ret (v := .tuple #[.agg ((digs x n k).map (Value.int .u8)).toArray, .bool false]) ?_ rfl ?_
          · rw [results_cell_tmp (p := 4) (u := 5) (ty := 111) rfl]
            simp [asAddr, run_loadVar_row wr w.heap.size 111 111 _ (0, 0) _ hrow.at Try.underlying111 rfl (info53 _ (digs_length x n k hn)), Result.andThen]
          · rw [digs_end x n k (by omega), decide_eq_false (Int.not_lt.2 hz)]
            exact ⟨rfl, hbel⟩
    · obtain rfl : k = 8 := by omega
      go_wp2_with (first | (refine wpList_load_row rfl 111 _ rfl w.heap.size rfl 111 _ (0, 0) _ hrow.at Try.underlying111 rfl (info53 _ (digs_length x n 8 hn)) ?_) | (refine wpList_store_row rfl 111 _ _ rfl w.heap.size _ rfl rfl 111 _ hrow.at (info53 _ (digs_length x n 8 hn)) rfl (one_cells _) ?_; rw [setRow_self wr w.heap.size _ 111 (0, 0) hrow.at]))
      rw [Exit.noGoto_ret]
      refine bodyPost_ret (v := .tuple #[.agg ((digs x n 8).map (Value.int .u8)).toArray, .bool true]) ?_ rfl ?_
      · rw [results_cell_tmp (p := 4) (u := 5) (ty := 111) rfl]
        simp [asAddr, run_loadVar_row wr w.heap.size 111 111 _ (0, 0) _ hrow.at Try.underlying111 rfl (info53 _ (digs_length x n 8 hn)), Result.andThen]
      · have hz : x < 256 ^ n := by
          by_cases e : n = 8
          · subst e; rw [pow256_8]; exact hx1
          · exact hlt (by omega)
        rw [digs_end x n 8 (by omega), decide_eq_true hz]
        exact ⟨rfl, hbel⟩
/-- The same, the array under a name. -/
theorem split_arr (x : Int) (n : Nat) (w : World) (hx0 : 0 ≤ x) (hx1 : x < 18446744073709551616) (hn : n ≤ 8) :
    Calls Try.prog 70 #[.int .u64 x, .int .i64 n] w fun e w' => ∃ A : Array Value, Hid (A = ((num x n ++ List.replicate (8 - n) 0).map (Value.int .u8)).toArray) ∧
      e = .returned (.tuple #[.agg A, .bool (decide (x < 256 ^ n))]) ∧ Below w.heap.size w w' :=
  (split_any x n w hx0 hx1 hn).mono fun _ _ ⟨h, hb⟩ => ⟨_, rfl, h, hb⟩
end Go.Proofs.Ytjjhkfhppoioiaa
