/- counts: Set, Add. -/
import Derived.Test.YtjhgkcbpllgdiaaDoorCh
namespace Go.Proofs.YtjhgkcbpllgdiaaDoor
open Go.RowKit
set_option linter.unusedVariables false
set_option maxHeartbeats 1000000 in
theorem set_no (ao : Option Addr) (n cap : Nat) (o i x : Int) (w : World) (ho : ¬ Ord o) : Calls Tryd.prog 10 #[.slice ao n cap, .int .i64 o, .int .i64 i, .int .u64 x] w fun e w' => e = .returned (.int .i64 2) ∧ Kp (fun _ => False) w w' := by
  have LN := hid (opened_no ao n cap o i w ho)
  clear ho
  go_enter Tryd.func10, Tryd.ntmps10
  go_wp2_with fail
  refine LN.out.mono ?_
  rintro e w1 ⟨rfl, k1⟩
  have K1 := hid k1
  clear k1
  go_wp2_with fail
  go_ret
  exact ⟨rfl, K1.out⟩
set_option maxHeartbeats 1000000 in
theorem set_rng (ao : Option Addr) (n cap o : Nat) (i x : Int) (w : World) (hn : n ≤ 1000000000000) (ho : o < 7) (hw : Wd w) (hi : ¬ Has n (2 ^ o) i) : Calls Tryd.prog 10 #[.slice ao n cap, .int .i64 (o : Int), .int .i64 i, .int .u64 x] w fun e w' => e = .returned (.int .i64 4) ∧ Kp (fun _ => False) w w' := by
  have LN := hid (opened_rng ao n cap o i w hn ho hw hi)
  clear hw hi
  go_enter Tryd.func10, Tryd.ntmps10
  go_wp2_with fail
  refine LN.out.mono ?_
  rintro e w1 ⟨rfl, k1⟩
  have K1 := hid k1
  clear k1
  go_wp2_with fail
  go_ret
  exact ⟨rfl, K1.out⟩
set_option maxHeartbeats 1000000 in
theorem add_no (ao : Option Addr) (n cap : Nat) (o i x : Int) (w : World) (ho : ¬ Ord o) : Calls Tryd.prog 12 #[.slice ao n cap, .int .i64 o, .int .i64 i, .int .i64 x] w fun e w' => e = .returned (.tuple #[.int .u64 0, .int .i64 2]) ∧ Kp (fun _ => False) w w' := by
  have LN := hid (opened_no ao n cap o i w ho)
  clear ho
  go_enter Tryd.func12, Tryd.ntmps12
  go_wp2_with fail
  refine LN.out.mono ?_
  rintro e w1 ⟨rfl, k1⟩
  have K1 := hid k1
  clear k1
  go_wp2_with fail
  go_ret2
  exact ⟨rfl, K1.out⟩
set_option maxHeartbeats 1000000 in
theorem add_rng (ao : Option Addr) (n cap o : Nat) (i x : Int) (w : World) (hn : n ≤ 1000000000000) (ho : o < 7) (hw : Wd w) (hi : ¬ Has n (2 ^ o) i) : Calls Tryd.prog 12 #[.slice ao n cap, .int .i64 (o : Int), .int .i64 i, .int .i64 x] w fun e w' => e = .returned (.tuple #[.int .u64 0, .int .i64 4]) ∧ Kp (fun _ => False) w w' := by
  have LN := hid (opened_rng ao n cap o i w hn ho hw hi)
  clear hw hi
  go_enter Tryd.func12, Tryd.ntmps12
  go_wp2_with fail
  refine LN.out.mono ?_
  rintro e w1 ⟨rfl, k1⟩
  have K1 := hid k1
  clear k1
  go_wp2_with fail
  go_ret2
  exact ⟨rfl, K1.out⟩
set_option maxHeartbeats 1000000 in
theorem set_long (g cap o i : Nat) (zs tl : List Int) (x : Int) (w : World) (hn : zs.length ≤ 1000000000000) (hz : Byt zs) (ho : o < 7) (hw : Wd w) (hi : i < 8 * zs.length / 2 ^ o) (hr : Rw .u8 5 w g (zs ++ tl)) (hx : mst (2 ^ o) < x) : Calls Tryd.prog 10 #[.slice (some ⟨g, 0, none⟩) zs.length cap, .int .i64 (o : Int), .int .i64 (i : Int), .int .u64 x] w fun e w' => e = .returned (.int .i64 3) ∧ Kp (fun _ => False) w w' := by
  have LN := hid (opened_ok g 0 cap o i zs w hn hz ho hw hi (row_src hr))
  have PL := hid (fun rb ib w hr => put_long (.slice (some ⟨g, 0, none⟩) zs.length cap) o rb ib x w ho hr hx)
  clear hi hr hw hx
  generalize nb zs (i * 2 ^ o) (2 ^ o) = V at *
  generalize 2 ^ o = W at *
  go_enter Tryd.func10, Tryd.ntmps10
  go_wp2_with fail
  refine LN.out.mono ?_
  rintro e w1 ⟨rb, ib, rfl, hb, hc, k1⟩
  have K1 := hid k1
  have PP := hid (PL.out rb ib w1 hb)
  clear k1 hb hc LN PL
  unfold putf
  go_wp2_with fail
  refine PP.out.mono ?_
  rintro e w2 ⟨rfl, k2⟩
  have K2 := hid (K1.out.trans k2 (fun _ _ x => x))
  clear k2
  go_wp2_with fail
  go_ret
  exact ⟨rfl, K2.out⟩
set_option maxHeartbeats 1000000 in
theorem set_ok (g cap o i : Nat) (zs tl : List Int) (x : Int) (w : World) (hn : zs.length ≤ 1000000000000) (hz : Byt zs) (ho : o < 7) (hw : Wd w) (hi : i < 8 * zs.length / 2 ^ o) (hr : Rw .u8 5 w g (zs ++ tl)) (hx0 : 0 ≤ x) (hx : x ≤ mst (2 ^ o)) : Calls Tryd.prog 10 #[.slice (some ⟨g, 0, none⟩) zs.length cap, .int .i64 (o : Int), .int .i64 (i : Int), .int .u64 x] w fun e w' => e = .returned (.int .i64 0) ∧ Rw .u8 5 w' g (sb zs (i * 2 ^ o) (2 ^ o) x ++ tl) ∧ Kp (fun k => k = g) w w' := by
  have LN := hid (opened_ok g 0 cap o i zs w hn hz ho hw hi (row_src hr))
  have PL := hid (fun rb ib w hrow hr hib => put_ok g cap o i rb ib zs tl x w hn hz ho hi hx0 hx hrow hr hib)
  have RO := hid hr
  clear hi hr hw hx
  generalize sb zs (i * 2 ^ o) (2 ^ o) x = S at *
  generalize nb zs (i * 2 ^ o) (2 ^ o) = V at *
  generalize 2 ^ o = W at *
  go_enter Tryd.func10, Tryd.ntmps10
  go_wp2_with fail
  refine LN.out.mono ?_
  rintro e w1 ⟨rb, ib, rfl, hb, hc, k1⟩
  have K1 := hid k1
  have PP := hid (PL.out rb ib w1 (RO.out.kp k1 (fun x => x)) hb hc)
  clear k1 hb hc LN PL
  unfold putf
  go_wp2_with fail
  refine PP.out.mono ?_
  rintro e w2 ⟨rfl, r2, k2⟩
  have R2 := hid r2
  have K2 := hid (K1.out.mono (G := fun k => k = g) (fun _ _ x => x.elim) |>.trans k2 (fun _ _ x => x))
  clear k2 r2
  go_wp2_with fail
  go_ret
  exact ⟨rfl, R2.out, K2.out⟩
end Go.Proofs.YtjhgkcbpllgdiaaDoor
