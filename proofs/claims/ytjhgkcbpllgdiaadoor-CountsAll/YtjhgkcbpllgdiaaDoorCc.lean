/- counts: having where the order may be. -/
import Derived.Test.YtjhgkcbpllgdiaaDoorCb
namespace Go.Proofs.YtjhgkcbpllgdiaaDoor
open Go.RowKit
set_option linter.unusedVariables false
theorem pow_pos7 (o : Nat) : 0 < 2 ^ o := Nat.pow_pos (by decide)
set_option maxHeartbeats 1000000 in
theorem having_rng (ao : Option Addr) (n cap o : Nat) (i : Int) (w : World) (hn : n ≤ 1000000000000) (ho : o < 7) (hw : Wd w) (hi : ¬ Has n (2 ^ o) i) : Calls Tryd.prog 25 #[.slice ao n cap, .int .i64 (o : Int), .int .i64 i] w fun e w' => e = .returned (.tuple #[.agg (rc (.slice none 0 0) 0), .int .i64 4]) ∧ Kp (fun _ => False) w w' := by
  have HB := hid (Rb.new w (.slice none 0 0) 0)
  have HK : Hid (Kp (fun _ => False) w (w.alloc (.cells (rc (.slice none 0 0) 0) 58))) := (Kp.refl _ _).alloc _
  have LN := hid (laid_ok ao n cap o _ ho (hw.kp HK.out (fun x => x)))
  have MN := hid (fun w => many_any ao n cap (2 ^ o) w hn (pow_pos7 o))
  unfold Has at hi
  generalize 2 ^ o = W at *
  generalize 8 * n / W = Q at *
  go_enter Tryd.func25, Tryd.ntmps25
  go_wp2_with fail
  refine LN.out.mono ?_
  rintro e w1 ⟨rfl, k1⟩
  have K1 := hid (HK.out.trans k1 (fun _ _ x => x))
  have B1 := hid (HB.out.kp k1 (fun x => x))
  have B2 := hid (Rb.new w1 (.slice none 0 0) 0)
  have K2 : Hid (Kp (fun _ => False) w (w1.alloc (.cells (rc (.slice none 0 0) 0) 58))) := K1.out.alloc _
  have B3 : Hid (Rb (w1.alloc (.cells (rc (.slice none 0 0) 0) 58)) w.heap.size (.slice none 0 0) 0) := B1.out.kp ((Kp.refl (fun _ => False) _).alloc _) (fun x => x)
  clear k1
  by_cases hi0 : i < 0
  · clear hi
    go_wp2_with (first | (refine wpList_store_rb rfl (.tmp 8) (.tmp 14) rfl w1.heap.size rfl (W' := W) rfl B2.out ?_; intro w2 b2 k2; have K3 := hid (K2.out.trans k2 (fun i h1 h2 => by have := k2.size; have := K1.out.size; omega)); have B4 := hid (B3.out.kp k2 (fun x => by have := B1.out.lt; omega)); clear k2 b2) | (refine wpList_store_rb rfl (.tmp 6) (.tmp 28) rfl w.heap.size rfl (W' := 0) rfl B4.out ?_; intro w4 b4 k4))
    refine bodyPost_ret (results_cell_tmp2 Tryd.results25 _ _ _ rfl rfl b4.load) rfl ⟨rfl, K3.out.trans k4 (fun i h1 h2 => by omega)⟩
  · have hi1 : (Q : Int) ≤ i := by omega
    clear hi
    obtain ⟨i, rfl⟩ : ∃ k : Nat, i = k := ⟨i.toNat, by omega⟩
    go_wp2_with (first | (refine wpList_store_rb rfl (.tmp 8) (.tmp 14) rfl w1.heap.size rfl (W' := W) rfl B2.out ?_; intro w2 b2 k2; have B4 := hid (B3.out.kp k2 (fun x => by have := B1.out.lt; omega)); have K3 := hid (K2.out.trans k2 (fun i h1 h2 => by have := k2.size; have := K1.out.size; omega)); have B5 := hid b2; clear k2 b2) | (refine wpList_load_rb_g (by rfl) (.tmp 8) rfl w1.heap.size rfl B5.out ?_))
    refine (MN.out _).mono ?_
    rintro e w3 ⟨rfl, k3⟩
    have B6 := hid (B4.out.kp k3 (fun x => x))
    have K4 := hid (K3.out.trans k3 (fun _ _ x => x))
    clear k3
    go_wp2_with (refine wpList_store_rb rfl (.tmp 6) (.tmp 28) rfl w.heap.size rfl (W' := 0) rfl B6.out ?_; intro w4 b4 k4)
    refine bodyPost_ret (results_cell_tmp2 Tryd.results25 _ _ _ rfl rfl b4.load) rfl ⟨rfl, K4.out.trans k4 (fun i h1 h2 => by omega)⟩
set_option maxHeartbeats 1000000 in
theorem having_ok (ao : Option Addr) (n cap o i : Nat) (w : World) (hn : n ≤ 1000000000000) (ho : o < 7) (hw : Wd w) (hi : i < 8 * n / 2 ^ o) : Calls Tryd.prog 25 #[.slice ao n cap, .int .i64 (o : Int), .int .i64 (i : Int)] w fun e w' => e = .returned (.tuple #[.agg (rc (.slice ao n cap) (2 ^ o)), .int .i64 0]) ∧ Kp (fun _ => False) w w' := by
  have HB := hid (Rb.new w (.slice none 0 0) 0)
  have HK : Hid (Kp (fun _ => False) w (w.alloc (.cells (rc (.slice none 0 0) 0) 58))) := (Kp.refl _ _).alloc _
  have LN := hid (laid_ok ao n cap o _ ho (hw.kp HK.out (fun x => x)))
  have MN := hid (fun w => many_any ao n cap (2 ^ o) w hn (pow_pos7 o))
  generalize 2 ^ o = W at *
  generalize 8 * n / W = Q at *
  have hi0 : ¬ (i : Int) < 0 := by omega
  have hi1 : ¬ (Q : Int) ≤ (i : Int) := by omega
  go_enter Tryd.func25, Tryd.ntmps25
  go_wp2_with fail
  refine LN.out.mono ?_
  rintro e w1 ⟨rfl, k1⟩
  have K1 := hid (HK.out.trans k1 (fun _ _ x => x))
  have B1 := hid (HB.out.kp k1 (fun x => x))
  have B2 := hid (Rb.new w1 (.slice none 0 0) 0)
  have K2 : Hid (Kp (fun _ => False) w (w1.alloc (.cells (rc (.slice none 0 0) 0) 58))) := K1.out.alloc _
  have B3 : Hid (Rb (w1.alloc (.cells (rc (.slice none 0 0) 0) 58)) w.heap.size (.slice none 0 0) 0) := B1.out.kp ((Kp.refl (fun _ => False) _).alloc _) (fun x => x)
  clear k1
  go_wp2_with (first | (refine wpList_store_rb rfl (.tmp 8) (.tmp 14) rfl w1.heap.size rfl (W' := W) rfl B2.out ?_; intro w2 b2 k2; have B4 := hid (B3.out.kp k2 (fun x => by have := B1.out.lt; omega)); have K3 := hid (K2.out.trans k2 (fun i h1 h2 => by have := k2.size; have := K1.out.size; omega)); have B5 := hid b2; clear k2 b2) | (refine wpList_load_rb_g (by rfl) (.tmp 8) rfl w1.heap.size rfl B5.out ?_))
  refine (MN.out _).mono ?_
  rintro e w3 ⟨rfl, k3⟩
  have B6 := hid (B4.out.kp k3 (fun x => x))
  have B7 := hid (B5.out.kp k3 (fun x => x))
  have K4 := hid (K3.out.trans k3 (fun _ _ x => x))
  clear k3
  go_wp2_with (first | (refine wpList_load_rb rfl (.tmp 8) rfl w1.heap.size rfl B7.out ?_) | (refine wpList_store_rb rfl (.tmp 6) (.tmp 29) rfl w.heap.size rfl (W' := W) rfl B6.out ?_; intro w4 b4 k4))
  refine bodyPost_ret (results_cell_tmp2 Tryd.results25 _ _ _ rfl rfl b4.load) rfl ⟨rfl, K4.out.trans k4 (fun i h1 h2 => by omega)⟩
end Go.Proofs.YtjhgkcbpllgdiaaDoor
