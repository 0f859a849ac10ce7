/- counts: opened. -/
import Derived.Test.YtjhgkcbpllgdiaaDoorCf
namespace Go.Proofs.YtjhgkcbpllgdiaaDoor
open Go.RowKit
set_option linter.unusedVariables false
set_option maxHeartbeats 1000000 in
theorem opened_no (ao : Option Addr) (n cap : Nat) (o i : Int) (w : World) (ho : ¬ Ord o) : Calls Tryd.prog 27 #[.slice ao n cap, .int .i64 o, .int .i64 i] w fun e w' => e = .returned (.tuple #[.int .u64 0, .nilFunc, .int .i64 2]) ∧ Kp (fun _ => False) w w' := by
  have HK : Hid (Kp (fun _ => False) w (w.alloc (.cells #[.int .i64 i] 3))) := (Kp.refl _ _).alloc _
  have LN := hid (fun w => having_no ao n cap o i w ho)
  go_enter Tryd.func27, Tryd.ntmps27
  go_wp2_with fail
  refine (LN.out _).mono ?_
  rintro e w1 ⟨rfl, k1⟩
  have K1 := hid (HK.out.trans k1 (fun _ _ x => x))
  have B2 := hid (Rb.new w1 (.slice none 0 0) 0)
  have K2 : Hid (Kp (fun _ => False) w (w1.alloc (.cells (rc (.slice none 0 0) 0) 58))) := K1.out.alloc _
  clear k1
  go_wp2_with (refine wpList_store_rb rfl (.tmp 9) (.tmp 15) rfl w1.heap.size rfl (W' := 0) rfl B2.out ?_; intro w2 b2 k2; have K3 := hid (K2.out.trans k2 (fun i h1 h2 => by have := k2.size; have := K1.out.size; omega)); clear k2 b2)
  refine bodyPost_ret (results_tmp3 rfl _ _ _) rfl ⟨rfl, K3.out⟩
set_option maxHeartbeats 1000000 in
theorem opened_rng (ao : Option Addr) (n cap o : Nat) (i : Int) (w : World) (hn : n ≤ 1000000000000) (ho : o < 7) (hw : Wd w) (hi : ¬ Has n (2 ^ o) i) : Calls Tryd.prog 27 #[.slice ao n cap, .int .i64 (o : Int), .int .i64 i] w fun e w' => e = .returned (.tuple #[.int .u64 0, .nilFunc, .int .i64 4]) ∧ Kp (fun _ => False) w w' := by
  have HK : Hid (Kp (fun _ => False) w (w.alloc (.cells #[.int .i64 i] 3))) := (Kp.refl _ _).alloc _
  have LN := hid (having_rng ao n cap o i _ hn ho (hw.kp HK.out (fun x => x)) hi)
  clear hi
  go_enter Tryd.func27, Tryd.ntmps27
  go_wp2_with fail
  refine LN.out.mono ?_
  rintro e w1 ⟨rfl, k1⟩
  have K1 := hid (HK.out.trans k1 (fun _ _ x => x))
  have B2 := hid (Rb.new w1 (.slice none 0 0) 0)
  have K2 : Hid (Kp (fun _ => False) w (w1.alloc (.cells (rc (.slice none 0 0) 0) 58))) := K1.out.alloc _
  clear k1
  go_wp2_with (refine wpList_store_rb rfl (.tmp 9) (.tmp 15) rfl w1.heap.size rfl (W' := 0) rfl B2.out ?_; intro w2 b2 k2; have K3 := hid (K2.out.trans k2 (fun i h1 h2 => by have := k2.size; have := K1.out.size; omega)); clear k2 b2)
  refine bodyPost_ret (results_tmp3 rfl _ _ _) rfl ⟨rfl, K3.out⟩
set_option maxHeartbeats 1000000 in
theorem opened_ok (g off cap o i : Nat) (zs : List Int) (w : World) (hn : zs.length ≤ 1000000000000) (hz : Byt zs) (ho : o < 7) (hw : Wd w) (hi : i < 8 * zs.length / 2 ^ o) (hs : Src .u8 w (some ⟨g, off, none⟩) zs) : Calls Tryd.prog 27 #[.slice (some ⟨g, off, none⟩) zs.length cap, .int .i64 (o : Int), .int .i64 (i : Int)] w fun e w' => ∃ rb ib, e = .returned (.tuple #[.int .u64 (nb zs (i * 2 ^ o) (2 ^ o)), putf rb ib, .int .i64 0]) ∧ Rb w' rb (.slice (some ⟨g, off, none⟩) zs.length cap) (2 ^ o) ∧ w'.cell? ⟨ib, 0, none⟩ = some (.int .i64 (i : Int)) ∧ Kp (fun _ => False) w w' := by
  have HK : Hid (Kp (fun _ => False) w (w.alloc (.cells #[.int .i64 (i : Int)] 3))) := (Kp.refl _ _).alloc _
  have HI := hid (St.new 3 w #[.int .i64 (i : Int)])
  have LN := hid (having_ok (some ⟨g, off, none⟩) zs.length cap o i _ hn ho (hw.kp HK.out (fun x => x)) hi)
  have GE := hid (fun (X : World) (kx : Kp (fun _ => False) w X) => get_any g off cap (2 ^ o) i zs X hn hz (pow_pos7 o) (w64 ho) (fits_of (pow_pos7 o) hi) (hs.kp0 kx))
  clear hi hs
  generalize nb zs (i * 2 ^ o) (2 ^ o) = V at *
  generalize 2 ^ o = W at *
  go_enter Tryd.func27, Tryd.ntmps27
  go_wp2_with fail
  refine LN.out.mono ?_
  rintro e w1 ⟨rfl, k1⟩
  have K1 := hid (HK.out.trans k1 (fun _ _ x => x))
  have I1 := hid (HI.out.kp k1 (fun x => x))
  have B2 := hid (Rb.new w1 (.slice none 0 0) 0)
  have K2 : Hid (Kp (fun _ => False) w (w1.alloc (.cells (rc (.slice none 0 0) 0) 58))) := K1.out.alloc _
  have I2 := hid (I1.out.kp ((Kp.refl (fun _ => False) w1).alloc (.cells (rc (.slice none 0 0) 0) 58)) (fun x => x))
  clear k1
  go_wp2_with (first | (refine wpList_store_rb rfl (.tmp 9) (.tmp 15) rfl w1.heap.size rfl (W' := W) rfl B2.out ?_; intro w2 b2 k2; have K3 := hid (K2.out.trans k2 (fun i h1 h2 => by have := k2.size; have := K1.out.size; omega)); have I3 := hid (I2.out.kp k2 (fun x => by have := I1.out.lt; omega)); have B3 := hid b2; have ci := I3.out.cell 0; clear k2 b2) | (refine wpList_load_rb rfl (.tmp 9) rfl w1.heap.size rfl B3.out ?_))
  refine (GE.out _ K3.out).mono ?_
  rintro e w4 ⟨rfl, k4⟩
  have K4 := hid (K3.out.trans k4 (fun _ _ x => x))
  have B4 := hid (B3.out.kp k4 (fun x => x))
  have I4 := hid (k4.cell ci)
  clear k4 ci
  go_wp2_with fail
  refine bodyPost_ret (results_tmp3 rfl _ _ _) rfl ⟨w1.heap.size, w.heap.size, rfl, B4.out, I4.out, K4.out⟩
end Go.Proofs.YtjhgkcbpllgdiaaDoor
