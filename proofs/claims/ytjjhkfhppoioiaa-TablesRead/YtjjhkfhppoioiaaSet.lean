/- Contract of wire.Set: the number is written into its place of a row, or the error is told; nothing else of the row, and no other block, turns. -/
import Derived.Test.YtjjhkfhppoioiaaSplit
import Derived.Test.YtjjhkfhppoioiaaLaws
namespace Go.Proofs.Ytjjhkfhppoioiaa
open Go.RowKit

set_option maxHeartbeats 400000 in
theorem set_err (ao : Option Addr) (len cap : Nat) (at_ n x : Int) (w : World) (hl : len ≤ 9223372036854775807) (he : (numE len at_ n != 0) = true) :
    Calls Try.prog 64 #[.slice ao len cap, .int .i64 at_, .int .i64 n, .int .u64 x] w fun e w' => e = .returned (.int .i64 (numE len at_ n)) ∧ w = w' := by
  go_enter Try.func64, Try.ntmps64
  go_wp2_with (go_at_call 69; refine (number_any _ _ _ _ _ _ hl).mono ?_; rintro e w' ⟨rfl, rfl⟩)
  go_ret
  exact ⟨rfl, rfl⟩

theorem info5 : (Try.prog.info? 5).map (·.size) = some 1 := by kernel_rfl
theorem arr_size {x : Int} {n : Nat} {A : Array Value} (hn : n ≤ 8) (hA : Hid (A = ((num x n ++ List.replicate (8 - n) 0).map (Value.int .u8)).toArray)) : A.size = 8 := by
  rw [hA.out]; simp [num_length]; omega
theorem arr_info {A : Array Value} (h : A.size = 8) : (Try.prog.info? 111).map (·.size) = some A.size := by
  rw [h]; kernel_rfl
theorem arr_all {x : Int} {n : Nat} {A : Array Value} (hA : Hid (A = ((num x n ++ List.replicate (8 - n) 0).map (Value.int .u8)).toArray)) : A.all (·.oneCell') = true := by
  rw [hA.out]; exact one_cells _

set_option maxHeartbeats 400000 in
theorem set_long (ao : Option Addr) (len cap : Nat) (at_ : Int) (n : Nat) (x : Int) (w : World) (hl : len ≤ 9223372036854775807) (hx0 : 0 ≤ x) (hx1 : x < 18446744073709551616) (hn : n ≤ 8)
    (he : numE len at_ n = 0) (hx : decide (x < 256 ^ n) = false) :
    Calls Try.prog 64 #[.slice ao len cap, .int .i64 at_, .int .i64 n, .int .u64 x] w fun e w' => e = .returned (.int .i64 3) ∧ Below w.heap.size w w' := by
  have HE : Hid (numE len at_ (n : Int) = 0) := he
  clear he
  go_enter Try.func64, Try.ntmps64
  go_wp2_with (first | (go_at_call 69; refine (number_any _ _ _ _ _ _ hl).mono ?_; rintro e w' ⟨rfl, rfl⟩; rw [HE.out]) | (go_at_call 70; refine (split_arr x n _ hx0 hx1 hn).mono ?_; rintro e w1 ⟨A, hA, rfl, hb1⟩; have hsA := arr_size hn hA) | (refine wpList_store_row rfl 111 _ _ rfl w1.heap.size A rfl rfl 111 _ (heap_alloc_new w1 _) (arr_info hsA) hsA.symm (arr_all hA) ?_))
  go_ret
  exact ⟨rfl, (hb1.alloc hb1.size _).trans (below_of_grown (grown_setRow _ _) _ (by have := hb1.size; simp; omega) (by intro k hk; cases hk; exact hb1.size))⟩

set_option maxHeartbeats 400000 in
theorem set_ok (g cap : Nat) (zs tl : List Int) (a n : Nat) (x : Int) (w : World) (hl : zs.length ≤ 9223372036854775807) (hx0 : 0 ≤ x) (hx1 : x < 18446744073709551616) (hn : n ≤ 8) (h1 : 1 ≤ n)
    (hf : a + n ≤ zs.length) (hcap : zs.length ≤ cap) (hx : decide (x < 256 ^ n) = true) (hrow : Rw 5 w g (zs ++ tl)) :
    Calls Try.prog 64 #[.slice (some ⟨g, 0, none⟩) zs.length cap, .int .i64 a, .int .i64 n, .int .u64 x] w fun e w' => e = .returned (.int .i64 0) ∧ Rw 5 w' g (splice zs a (num x n) ++ tl) ∧ w.grownBy w' (some g) := by
  have HE : Hid (numE zs.length (a : Int) (n : Int) = 0) := numE_mk (by omega) (by omega) (by omega) (by omega)
  have hg := hrow.lt
  obtain ⟨D, hD⟩ : ∃ D, D = num x n := ⟨_, rfl⟩
  have HL0 : Hid (D.length = n) := by show _ = _; rw [hD]; exact num_length x n
  rw [← hD]
  have HD : Hid (D = num x n) := hD
  clear hD
  go_enter Try.func64, Try.ntmps64
  go_wp2_with (first | (go_at_call 69; refine (number_any _ _ _ _ _ _ hl).mono ?_; rintro e w' ⟨rfl, rfl⟩; rw [HE.out]) | (go_at_call 70; refine (split_arr x n _ hx0 hx1 hn).mono ?_; rintro e w1 ⟨A, hA, rfl, hb1⟩; have hsA := arr_size hn hA) | (refine wpList_store_arr rfl 111 _ _ rfl w1.heap.size A rfl rfl 111 _ (heap_alloc_new w1 _) (arr_info hsA) hsA.symm (arr_all hA) ?_; intro W hW hgW))
  have R1 : Rw 5 W g (zs ++ tl) := ((hrow.below hb1 hg).alloc _).grown hgW (by have := hb1.size; intro e; cases e; omega)
  have R2 : Rw 111 W w1.heap.size (D ++ List.replicate (8 - n) 0) := by unfold Rw; rw [HD.out, ← hA.out]; exact hW.out
  have G : w.grownBy W (some g) := grown_trans (grown_of_below hb1) (by
    refine ⟨hgW.os, hgW.tape, hgW.output, Nat.le_trans (by simp) hgW.size, fun k hk _ => (hgW.block k (by simp; omega) (by intro e; cases e; omega)).trans (Below.heap_alloc _ _ _ hk)⟩)
  clear hgW hW hb1 hsA hA hrow
  have hnl := HL0.out
  have hsrc : ∀ j, j < D.length → W.drew.cell? ((⟨w1.heap.size, 0, none⟩ : Addr).add j) = some (.int .u8 (D.getD j 0)) := by
    intro j hj
    have := R2.cell j (by simp; omega)
    rw [add_z]
    rw [show W.drew.cell? ⟨w1.heap.size, j, none⟩ = W.cell? ⟨w1.heap.size, j, none⟩ from rfl, this]
    simp [List.getD, List.getElem?_append_left hj]
  have HS : Hid (∀ j, j < D.length → W.drew.cell? ((⟨w1.heap.size, 0, none⟩ : Addr).add j) = some (.int .u8 (D.getD j 0))) := hsrc
  have HL : Hid (D.length = Nat.min n n) := by show _ = _; rw [hnl]; exact (Nat.min_self n).symm
  have HF : Hid (a + D.length ≤ (zs ++ tl).length) := by show _ ≤ _; rw [hnl]; simp; omega
  have HP : Hid (splice (zs ++ tl) a D = splice zs a D ++ tl) := splice_append _ _ _ _ (by omega)
  clear hsrc hnl R2
  obtain ⟨b, hb⟩ : ∃ b, b = a + n := ⟨_, rfl⟩
  have hw1 : IntKind.i64.wrap ((a : Int) + (n : Int)) = (b : Int) := by rw [IntKind.wrap_i64]; omega
  have hw2 : (b : Int) ≤ (cap : Int) := by omega
  have hw3 : a ≤ b := by omega
  have hw4 : ¬ cap = a := by omega
  have hw5 : b - a = n := by omega
  have hw6 : (n : Int) ≤ 8 := by omega
  have HB : Hid (b = a + n) := hb
  clear hb
  go_region_law (refine step_copy_rw rfl (.tmp 32) (.tmp 34) 26 26 rfl 5 Try.underlying26 info5 g a n (cap - a) ⟨w1.heap.size, 0, none⟩ n 8 (by simp [Act.eval, Act.put]) (by simp [Act.eval, Act.put]) 5 (zs ++ tl) D R1.drew HL.out HS.out HF.out ?_; intro w4 hg4 hb4)
  go_wp2
  go_ret
  exact ⟨rfl, by rw [← HP.out]; exact hg4, grown_trans G (grown_drew' hb4)⟩

/-- Set, whatever the place, the width and the number. -/
theorem set_any (g cap : Nat) (zs tl : List Int) (at_ n x : Int) (w : World) (hl : zs.length ≤ 9223372036854775807) (hx0 : 0 ≤ x) (hx1 : x < 18446744073709551616)
    (hcap : zs.length ≤ cap) (hrow : Rw 5 w g (zs ++ tl)) :
    Calls Try.prog 64 #[.slice (some ⟨g, 0, none⟩) zs.length cap, .int .i64 at_, .int .i64 n, .int .u64 x] w fun e w' =>
      e = .returned (.int .i64 (setE zs.length at_ n x)) ∧ Rw 5 w' g (setR zs at_ n x ++ tl) ∧ w.grownBy w' (some g) := by
  by_cases he : numE zs.length at_ n = 0
  · obtain ⟨h1, h8, h0, hf⟩ := numE_ok he
    obtain ⟨a, rfl⟩ := Int.eq_ofNat_of_zero_le h0
    obtain ⟨m, rfl⟩ := Int.eq_ofNat_of_zero_le (show 0 ≤ n by omega)
    by_cases hx : x < 256 ^ m
    · have e0 : setE zs.length (a : Int) (m : Int) x = 0 := by unfold setE; rw [if_pos he, Int.toNat_natCast, if_pos hx]
      have e1 : setR zs (a : Int) (m : Int) x = splice zs a (num x m) := by unfold setR; rw [if_pos e0, Int.toNat_natCast, Int.toNat_natCast]
      rw [e0, e1]
      exact set_ok g cap zs tl a m x w hl hx0 hx1 (by omega) (by omega) (by omega) hcap (by simpa using hx) hrow
    · have e0 : setE zs.length (a : Int) (m : Int) x = 3 := by unfold setE; rw [if_pos he, Int.toNat_natCast, if_neg hx]
      have e1 : setR zs (a : Int) (m : Int) x = zs := by unfold setR; rw [if_neg (by rw [e0]; omega)]
      rw [e0, e1]
      refine (set_long _ zs.length cap a m x w hl hx0 hx1 (by omega) he (by simpa using hx)).mono ?_
      rintro e w' ⟨rfl, hb⟩
      exact ⟨rfl, hrow.below hb hrow.lt, grown_of_below hb⟩
  · have e0 : setE zs.length at_ n x = numE zs.length at_ n := by unfold setE; rw [if_neg he]
    have e1 : setR zs at_ n x = zs := by unfold setR; rw [if_neg (by rw [e0]; exact he)]
    rw [e0, e1]
    refine (set_err _ zs.length cap at_ n x w hl (by simpa using he)).mono ?_
    rintro e w' ⟨rfl, rfl⟩
    exact ⟨rfl, hrow, grown_refl _ _⟩
end Go.Proofs.Ytjjhkfhppoioiaa
