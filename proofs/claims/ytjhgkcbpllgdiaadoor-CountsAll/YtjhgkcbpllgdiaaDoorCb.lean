/- counts: laid, having. -/
import Derived.Test.YtjhgkcbpllgdiaaDoorCa
namespace Go.Proofs.YtjhgkcbpllgdiaaDoor
open Go.RowKit
set_option linter.unusedVariables false
set_option maxHeartbeats 1000000 in
theorem laid_no (ao : Option Addr) (n cap : Nat) (o : Int) (w : World) (ho : ¬ Ord o) : Calls Tryd.prog 22 #[.slice ao n cap, .int .i64 o] w fun e w' => e = .returned (.tuple #[.agg (rc (.slice none 0 0) 0), .int .i64 2]) ∧ Kp (fun _ => False) w w' := by
  have HB := hid (Rb.new w (.slice none 0 0) 0)
  have HK : Hid (Kp (fun _ => False) w (w.alloc (.cells (rc (.slice none 0 0) 0) 58))) := (Kp.refl _ _).alloc _
  by_cases h : o < 0
  · go_enter Tryd.func22, Tryd.ntmps22
    go_wp2_with (refine wpList_store_rb rfl (.tmp 4) (.tmp 12) rfl w.heap.size rfl (W' := 0) rfl HB.out ?_; intro w2 b2 k2)
    refine bodyPost_ret (results_cell_tmp2 Tryd.results22 _ _ _ rfl rfl b2.load) rfl ⟨rfl, HK.out.trans k2 (fun i h1 h2 => by omega)⟩
  · have h2 : (7 : Int) ≤ o := by unfold Ord at ho; omega
    go_enter Tryd.func22, Tryd.ntmps22
    go_wp2_with (refine wpList_store_rb rfl (.tmp 4) (.tmp 12) rfl w.heap.size rfl (W' := 0) rfl HB.out ?_; intro w2 b2 k2)
    refine bodyPost_ret (results_cell_tmp2 Tryd.results22 _ _ _ rfl rfl b2.load) rfl ⟨rfl, HK.out.trans k2 (fun i h1 h2 => by omega)⟩
set_option maxHeartbeats 1000000 in
theorem laid_ok (ao : Option Addr) (n cap o : Nat) (w : World) (ho : o < 7) (hw : Wd w) : Calls Tryd.prog 22 #[.slice ao n cap, .int .i64 (o : Int)] w fun e w' => e = .returned (.tuple #[.agg (rc (.slice ao n cap) (2 ^ o)), .int .i64 0]) ∧ Kp (fun _ => False) w w' := by
  have HB := hid (Rb.new w (.slice none 0 0) 0)
  have HK : Hid (Kp (fun _ => False) w (w.alloc (.cells (rc (.slice none 0 0) 0) 58))) := (Kp.refl _ _).alloc _
  have c : (w.alloc (.cells #[.slice none 0 0, .int .i64 0] 58)).cell? ⟨0, o, none⟩ = some (.int .i64 ((2 ^ o : Nat) : Int)) := (hw.kp HK.out (fun x => x)) o ho
  have h1 : ¬ (o : Int) < 0 := by omega
  have h2 : ¬ (7 : Int) ≤ (o : Int) := by omega
  unfold rc at *
  generalize 2 ^ o = W at *
  go_enter Tryd.func22, Tryd.ntmps22
  go_wp2_with (refine wpList_store_rb rfl (.tmp 4) (.tmp 17) rfl w.heap.size rfl (W' := W) rfl HB.out ?_; intro w2 b2 k2)
  refine bodyPost_ret (results_cell_tmp2 Tryd.results22 _ _ _ rfl rfl b2.load) rfl ⟨rfl, HK.out.trans k2 (fun i h1 h2 => by omega)⟩
/-- There is a count i. -/
def Has (n W : Nat) (i : Int) : Prop := 0 ≤ i ∧ i < ((8 * n / W : Nat) : Int)
set_option maxHeartbeats 1000000 in
theorem having_no (ao : Option Addr) (n cap : Nat) (o i : Int) (w : World) (ho : ¬ Ord o) : Calls Tryd.prog 25 #[.slice ao n cap, .int .i64 o, .int .i64 i] w fun e w' => e = .returned (.tuple #[.agg (rc (.slice none 0 0) 0), .int .i64 2]) ∧ Kp (fun _ => False) w w' := by
  have HB := hid (Rb.new w (.slice none 0 0) 0)
  have HK : Hid (Kp (fun _ => False) w (w.alloc (.cells (rc (.slice none 0 0) 0) 58))) := (Kp.refl _ _).alloc _
  have LN := hid (fun w => laid_no ao n cap o w ho)
  go_enter Tryd.func25, Tryd.ntmps25
  go_wp2_with fail
  refine (LN.out _).mono ?_
  rintro e w1 ⟨rfl, k1⟩
  have K1 := hid (HK.out.trans k1 (fun _ _ x => x))
  have B1 := hid (HB.out.kp k1 (fun x => x))
  have B2 := hid (Rb.new w1 (.slice none 0 0) 0)
  have K2 : Hid (Kp (fun _ => False) w (w1.alloc (.cells (rc (.slice none 0 0) 0) 58))) := K1.out.alloc _
  have B3 : Hid (Rb (w1.alloc (.cells (rc (.slice none 0 0) 0) 58)) w.heap.size (.slice none 0 0) 0) := B1.out.kp ((Kp.refl (fun _ => False) _).alloc _) (fun x => x)
  clear k1
  go_wp2_with (first | (refine wpList_store_rb rfl (.tmp 8) (.tmp 14) rfl w1.heap.size rfl (W' := 0) rfl B2.out ?_; intro w2 b2 k2; have K3 := hid (K2.out.trans k2 (fun i h1 h2 => by have := k2.size; have := K1.out.size; omega)); have B4 := hid (B3.out.kp k2 (fun x => by have := B1.out.lt; omega)); clear k2 b2) | (refine wpList_store_rb rfl (.tmp 6) (.tmp 18) rfl w.heap.size rfl (W' := 0) rfl B4.out ?_; intro w4 b4 k4))
  refine bodyPost_ret (results_cell_tmp2 Tryd.results25 _ _ _ rfl rfl b4.load) rfl ⟨rfl, K3.out.trans k4 (fun i h1 h2 => by omega)⟩
end Go.Proofs.YtjhgkcbpllgdiaaDoor
