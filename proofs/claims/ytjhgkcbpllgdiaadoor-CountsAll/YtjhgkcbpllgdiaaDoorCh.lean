/- counts: Many, Most, Get. -/
import Derived.Test.YtjhgkcbpllgdiaaDoorCg
namespace Go.Proofs.YtjhgkcbpllgdiaaDoor
open Go.RowKit
set_option linter.unusedVariables false
set_option maxHeartbeats 1000000 in
theorem many_no (ao : Option Addr) (n cap : Nat) (o : Int) (w : World) (ho : ¬ Ord o) : Calls Tryd.prog 7 #[.slice ao n cap, .int .i64 o] w fun e w' => e = .returned (.tuple #[.int .i64 0, .int .i64 2]) ∧ Kp (fun _ => False) w w' := by
  have LN := hid (laid_no ao n cap o w ho)
  clear ho
  go_enter Tryd.func7, Tryd.ntmps7
  go_wp2_with fail
  refine LN.out.mono ?_
  rintro e w1 ⟨rfl, k1⟩
  have K1 := hid k1
  have B2 := hid (Rb.new w1 (.slice none 0 0) 0)
  have K2 : Hid (Kp (fun _ => False) w (w1.alloc (.cells (rc (.slice none 0 0) 0) 58))) := K1.out.alloc _
  clear k1
  go_wp2_with (refine wpList_store_rb rfl (.tmp 6) (.tmp 12) rfl w1.heap.size rfl (W' := 0) rfl B2.out ?_; intro w2 b2 k2; have K3 := hid (K2.out.trans k2 (fun i h1 h2 => by have := k2.size; have := K1.out.size; omega)); have B3 := hid b2; clear k2 b2)
  go_ret2
  exact ⟨rfl, K3.out⟩
set_option maxHeartbeats 1000000 in
theorem most_no (o : Int) (w : World) (ho : ¬ Ord o) : Calls Tryd.prog 8 #[.int .i64 o] w fun e w' => e = .returned (.tuple #[.int .u64 0, .int .i64 2]) ∧ Kp (fun _ => False) w w' := by
  have LN := hid (laid_no none 0 0 o w ho)
  clear ho
  go_enter Tryd.func8, Tryd.ntmps8
  go_wp2_with fail
  refine LN.out.mono ?_
  rintro e w1 ⟨rfl, k1⟩
  have K1 := hid k1
  have B2 := hid (Rb.new w1 (.slice none 0 0) 0)
  have K2 : Hid (Kp (fun _ => False) w (w1.alloc (.cells (rc (.slice none 0 0) 0) 58))) := K1.out.alloc _
  clear k1
  go_wp2_with (refine wpList_store_rb rfl (.tmp 4) (.tmp 9) rfl w1.heap.size rfl (W' := 0) rfl B2.out ?_; intro w2 b2 k2; have K3 := hid (K2.out.trans k2 (fun i h1 h2 => by have := k2.size; have := K1.out.size; omega)); have B3 := hid b2; clear k2 b2)
  go_ret2
  exact ⟨rfl, K3.out⟩
set_option maxHeartbeats 1000000 in
theorem get_no (ao : Option Addr) (n cap : Nat) (o i : Int) (w : World) (ho : ¬ Ord o) : Calls Tryd.prog 9 #[.slice ao n cap, .int .i64 o, .int .i64 i] w fun e w' => e = .returned (.tuple #[.int .u64 0, .int .i64 2]) ∧ Kp (fun _ => False) w w' := by
  have LN := hid (having_no ao n cap o i w ho)
  clear ho
  go_enter Tryd.func9, Tryd.ntmps9
  go_wp2_with fail
  refine LN.out.mono ?_
  rintro e w1 ⟨rfl, k1⟩
  have K1 := hid k1
  have B2 := hid (Rb.new w1 (.slice none 0 0) 0)
  have K2 : Hid (Kp (fun _ => False) w (w1.alloc (.cells (rc (.slice none 0 0) 0) 58))) := K1.out.alloc _
  clear k1
  go_wp2_with (refine wpList_store_rb rfl (.tmp 8) (.tmp 15) rfl w1.heap.size rfl (W' := 0) rfl B2.out ?_; intro w2 b2 k2; have K3 := hid (K2.out.trans k2 (fun i h1 h2 => by have := k2.size; have := K1.out.size; omega)); have B3 := hid b2; clear k2 b2)
  go_ret2
  exact ⟨rfl, K3.out⟩
set_option maxHeartbeats 1000000 in
theorem get_rng (ao : Option Addr) (n cap o : Nat) (i : Int) (w : World) (hn : n ≤ 1000000000000) (ho : o < 7) (hw : Wd w) (hi : ¬ Has n (2 ^ o) i) : Calls Tryd.prog 9 #[.slice ao n cap, .int .i64 (o : Int), .int .i64 i] w fun e w' => e = .returned (.tuple #[.int .u64 0, .int .i64 4]) ∧ Kp (fun _ => False) w w' := by
  have LN := hid (having_rng ao n cap o i w hn ho hw hi)
  clear hi hw
  go_enter Tryd.func9, Tryd.ntmps9
  go_wp2_with fail
  refine LN.out.mono ?_
  rintro e w1 ⟨rfl, k1⟩
  have K1 := hid k1
  have B2 := hid (Rb.new w1 (.slice none 0 0) 0)
  have K2 : Hid (Kp (fun _ => False) w (w1.alloc (.cells (rc (.slice none 0 0) 0) 58))) := K1.out.alloc _
  clear k1
  go_wp2_with (refine wpList_store_rb rfl (.tmp 8) (.tmp 15) rfl w1.heap.size rfl (W' := 0) rfl B2.out ?_; intro w2 b2 k2; have K3 := hid (K2.out.trans k2 (fun i h1 h2 => by have := k2.size; have := K1.out.size; omega)); have B3 := hid b2; clear k2 b2)
  go_ret2
  exact ⟨rfl, K3.out⟩
set_option maxHeartbeats 1000000 in
theorem many_ok (ao : Option Addr) (n cap o : Nat) (w : World) (hn : n ≤ 1000000000000) (ho : o < 7) (hw : Wd w) : Calls Tryd.prog 7 #[.slice ao n cap, .int .i64 (o : Int)] w fun e w' => e = .returned (.tuple #[.int .i64 ((8 * n / 2 ^ o : Nat) : Int), .int .i64 0]) ∧ Kp (fun _ => False) w w' := by
  have LN := hid (laid_ok ao n cap o w ho hw)
  have MN := hid (fun w => many_any ao n cap (2 ^ o) w hn (pow_pos7 o))
  generalize 2 ^ o = W at *
  generalize 8 * n / W = Q at *
  clear hw
  go_enter Tryd.func7, Tryd.ntmps7
  go_wp2_with fail
  refine LN.out.mono ?_
  rintro e w1 ⟨rfl, k1⟩
  have K1 := hid k1
  have B2 := hid (Rb.new w1 (.slice none 0 0) 0)
  have K2 : Hid (Kp (fun _ => False) w (w1.alloc (.cells (rc (.slice none 0 0) 0) 58))) := K1.out.alloc _
  clear k1
  go_wp2_with (first | (refine wpList_store_rb rfl (.tmp 6) (.tmp 12) rfl w1.heap.size rfl (W' := W) rfl B2.out ?_; intro w2 b2 k2; have K3 := hid (K2.out.trans k2 (fun i h1 h2 => by have := k2.size; have := K1.out.size; omega)); have B3 := hid b2; clear k2 b2) | (refine wpList_load_rb rfl (.tmp 6) rfl w1.heap.size rfl B3.out ?_))
  refine (MN.out _).mono ?_
  rintro e w4 ⟨rfl, k4⟩
  have K4 := hid (K3.out.trans k4 (fun _ _ x => x))
  clear k4
  go_wp2_with fail
  go_ret2
  exact ⟨rfl, K4.out⟩
set_option maxHeartbeats 1000000 in
theorem most_ok (o : Nat) (w : World) (ho : o < 7) (hw : Wd w) : Calls Tryd.prog 8 #[.int .i64 (o : Int)] w fun e w' => e = .returned (.tuple #[.int .u64 (mst (2 ^ o)), .int .i64 0]) ∧ Kp (fun _ => False) w w' := by
  have LN := hid (laid_ok none 0 0 o w ho hw)
  have MN := hid (fun w => most_any (.slice none 0 0) o w ho)
  generalize mst (2 ^ o) = Q at *
  generalize 2 ^ o = W at *
  clear hw
  go_enter Tryd.func8, Tryd.ntmps8
  go_wp2_with fail
  refine LN.out.mono ?_
  rintro e w1 ⟨rfl, k1⟩
  have K1 := hid k1
  have B2 := hid (Rb.new w1 (.slice none 0 0) 0)
  have K2 : Hid (Kp (fun _ => False) w (w1.alloc (.cells (rc (.slice none 0 0) 0) 58))) := K1.out.alloc _
  clear k1
  go_wp2_with (first | (refine wpList_store_rb rfl (.tmp 4) (.tmp 9) rfl w1.heap.size rfl (W' := W) rfl B2.out ?_; intro w2 b2 k2; have K3 := hid (K2.out.trans k2 (fun i h1 h2 => by have := k2.size; have := K1.out.size; omega)); have B3 := hid b2; clear k2 b2) | (refine wpList_load_rb rfl (.tmp 4) rfl w1.heap.size rfl B3.out ?_))
  refine (MN.out _).mono ?_
  rintro e w4 ⟨rfl, k4⟩
  have K4 := hid (K3.out.trans k4 (fun _ _ x => x))
  clear k4
  go_wp2_with fail
  go_ret2
  exact ⟨rfl, K4.out⟩
set_option maxHeartbeats 1000000 in
theorem get_ok (g off cap o i : Nat) (zs : List Int) (w : World) (hn : zs.length ≤ 1000000000000) (hz : Byt zs) (ho : o < 7) (hw : Wd w) (hi : i < 8 * zs.length / 2 ^ o) (hs : Src .u8 w (some ⟨g, off, none⟩) zs) : Calls Tryd.prog 9 #[.slice (some ⟨g, off, none⟩) zs.length cap, .int .i64 (o : Int), .int .i64 (i : Int)] w fun e w' => e = .returned (.tuple #[.int .u64 (nb zs (i * 2 ^ o) (2 ^ o)), .int .i64 0]) ∧ Kp (fun _ => False) w w' := by
  have LN := hid (having_ok (some ⟨g, off, none⟩) zs.length cap o i w hn ho hw hi)
  have GE := hid (fun (X : World) (kx : Kp (fun _ => False) w X) => get_any g off cap (2 ^ o) i zs X hn hz (pow_pos7 o) (w64 ho) (fits_of (pow_pos7 o) hi) (hs.kp0 kx))
  generalize nb zs (i * 2 ^ o) (2 ^ o) = V at *
  generalize 2 ^ o = W at *
  clear hw hi hs
  go_enter Tryd.func9, Tryd.ntmps9
  go_wp2_with fail
  refine LN.out.mono ?_
  rintro e w1 ⟨rfl, k1⟩
  have K1 := hid k1
  have B2 := hid (Rb.new w1 (.slice none 0 0) 0)
  have K2 : Hid (Kp (fun _ => False) w (w1.alloc (.cells (rc (.slice none 0 0) 0) 58))) := K1.out.alloc _
  clear k1
  go_wp2_with (first | (refine wpList_store_rb rfl (.tmp 8) (.tmp 15) rfl w1.heap.size rfl (W' := W) rfl B2.out ?_; intro w2 b2 k2; have K3 := hid (K2.out.trans k2 (fun i h1 h2 => by have := k2.size; have := K1.out.size; omega)); have B3 := hid b2; clear k2 b2) | (refine wpList_load_rb rfl (.tmp 8) rfl w1.heap.size rfl B3.out ?_))
  refine (GE.out _ K3.out).mono ?_
  rintro e w4 ⟨rfl, k4⟩
  have K4 := hid (K3.out.trans k4 (fun _ _ x => x))
  clear k4
  go_wp2_with fail
  go_ret2
  exact ⟨rfl, K4.out⟩
end Go.Proofs.YtjhgkcbpllgdiaaDoor
