/- CountsOne's walk, an order that may not be, or too many bytes. -/
import Derived.Test.YtjhgkcbpllgdiaaDoorCv
import Derived.Test.YtjhgkcbpllgdiaaDoorCh
import Derived.BigQuiet
namespace Go.Proofs.YtjhgkcbpllgdiaaDoor
open Go.RowKit
set_option linter.unusedVariables false
set_option maxRecDepth 100000 in
set_option maxHeartbeats 4000000 in
theorem one_big (ao : Option Addr) (cap : Nat) (zs : List Int) (o i x y : Int) (w : World) (hl : zs.length ≤ 9223372036854775807) (hz : Byt zs) (hw : Wd w) (hx : 0 ≤ x ∧ x < 18446744073709551616) (hy : -9223372036854775808 ≤ y ∧ y ≤ 9223372036854775807) (hnil : ao = none → cap = 0) (hs : Src .u8 w ao zs) (hb : 3000 < zs.length) : Calls Tryd.prog 3 #[.slice ao zs.length cap, .int .i64 o, .agg #[.int .i64 i, .int .u64 x, .int .i64 y]] w fun e w' => e = .returned (.bool true) ∧ Kp (fun _ => False) w w' := by
  have HS := hid (St.new 25 w #[.int .i64 i, .int .u64 x, .int .i64 y])
  have KN := hid (fun (X : World) (h : Wd X) => known_any X h)
  have H0 := hid hw.lt
  have S0 := hid hs
  have W0 := hid hw
  have NIL := hid hnil
  have q0 : (w.alloc (.cells #[.int .i64 i, .int .u64 x, .int .i64 y] 25)).cell? ⟨w.heap.size, 0, none⟩ = some (.int .i64 i) := HS.out.cell 0
  have q1 : (w.alloc (.cells #[.int .i64 i, .int .u64 x, .int .i64 y] 25)).cell? ⟨w.heap.size, 1, none⟩ = some (.int .u64 x) := HS.out.cell 1
  have q2 : (w.alloc (.cells #[.int .i64 i, .int .u64 x, .int .i64 y] 25)).cell? ⟨w.heap.size, 2, none⟩ = some (.int .i64 y) := HS.out.cell 2
  have k0 : Kp (fun _ => False) w (w.alloc (.cells #[.int .i64 i, .int .u64 x, .int .i64 y] 25)) := (Kp.refl _ _).alloc _
  go_enter Tryd.func3, Tryd.ntmps3
  go_wp2_with fail
  generalize w.alloc (.cells #[.int .i64 i, .int .u64 x, .int .i64 y] 25) = w1 at *
  go_quiet (fail)
  have k1 := k0.trans (drewN_kp (fun _ => False) w1 nq) (fun _ _ x => x)
  generalize w1.drewN nq = w2 at *
  have K1 := hid k1
  clear q0 q1 q2 k0 k1 HS hs hw hnil
  have d1 : decide ((3000 : Int) < (zs.length : Int)) = true := by simp; omega
  have d2 : (3000 : Int) < (zs.length : Int) := by omega
  go_wp2_with fail
  refine (KN.out _ (W0.out.kp K1.out (fun x => x))).mono ?_
  rintro e wz ⟨rfl, kz⟩
  have KZ := hid (K1.out.trans kz (fun _ _ x => x))
  clear kz
  go_wp2_with fail
  go_ret
  exact ⟨rfl, KZ.out⟩
set_option maxRecDepth 100000 in
set_option maxHeartbeats 4000000 in
theorem one_no (ao : Option Addr) (cap : Nat) (zs : List Int) (o i x y : Int) (w : World) (hl : zs.length ≤ 9223372036854775807) (hz : Byt zs) (hw : Wd w) (hx : 0 ≤ x ∧ x < 18446744073709551616) (hy : -9223372036854775808 ≤ y ∧ y ≤ 9223372036854775807) (hnil : ao = none → cap = 0) (hs : Src .u8 w ao zs) (hb : zs.length ≤ 3000) (ho : ¬ Ord o) : Calls Tryd.prog 3 #[.slice ao zs.length cap, .int .i64 o, .agg #[.int .i64 i, .int .u64 x, .int .i64 y]] w fun e w' => e = .returned (.bool true) ∧ Kp (fun _ => False) w w' := by
  have HS := hid (St.new 25 w #[.int .i64 i, .int .u64 x, .int .i64 y])
  have KN := hid (fun (X : World) (h : Wd X) => known_any X h)
  have H0 := hid hw.lt
  have S0 := hid hs
  have W0 := hid hw
  have NIL := hid hnil
  have q0 : (w.alloc (.cells #[.int .i64 i, .int .u64 x, .int .i64 y] 25)).cell? ⟨w.heap.size, 0, none⟩ = some (.int .i64 i) := HS.out.cell 0
  have q1 : (w.alloc (.cells #[.int .i64 i, .int .u64 x, .int .i64 y] 25)).cell? ⟨w.heap.size, 1, none⟩ = some (.int .u64 x) := HS.out.cell 1
  have q2 : (w.alloc (.cells #[.int .i64 i, .int .u64 x, .int .i64 y] 25)).cell? ⟨w.heap.size, 2, none⟩ = some (.int .i64 y) := HS.out.cell 2
  have k0 : Kp (fun _ => False) w (w.alloc (.cells #[.int .i64 i, .int .u64 x, .int .i64 y] 25)) := (Kp.refl _ _).alloc _
  go_enter Tryd.func3, Tryd.ntmps3
  go_wp2_with fail
  generalize w.alloc (.cells #[.int .i64 i, .int .u64 x, .int .i64 y] 25) = w1 at *
  go_quiet (fail)
  have k1 := k0.trans (drewN_kp (fun _ => False) w1 nq) (fun _ _ x => x)
  generalize w1.drewN nq = w2 at *
  have K1 := hid k1
  clear q0 q1 q2 k0 k1 HS hs hw hnil
  have d1 : decide ((3000 : Int) < (zs.length : Int)) = false := by simp; omega
  have d2 : ¬ (3000 : Int) < (zs.length : Int) := by omega
  have S2 := hid (S0.out.kp0 K1.out)
  have T1 : Hid (([] : List Int).length + zs.length ≤ 17592186044416) := by show _ ≤ _; simp; omega
  have T2 : Hid (([] ++ zs : List Int).length + ([77] : List Int).length ≤ 17592186044416) := by show _ ≤ _; simp; omega
  go_wp2_with (first | (at_builtin; refine wpList_append_i 22 5 1 Tryd.underlying22 info5 (by decide) rfl (.const (.slice none 0 0)) (.tmp 38) rfl w2.heap.size (.slice none 0 0) [] rfl (OwnI.nil _ _ _ _) _ _ _ zs rfl rfl NIL.out S2.out T1.out (Nat.le_refl _) ?_; intro v1 w3 o1 g1 nb1 b1) | (at_builtin; refine wpList_append_i 22 5 1 Tryd.underlying22 info5 (by decide) rfl (.tmp 39) (.tmp 40) rfl w2.heap.size v1 ([] ++ zs) rfl (o1.below ((Below.refl _ _).alloc (Nat.le_refl _) _)) _ _ _ [77] rfl rfl (fun e => by cases e) (row_src (tl := []) (Rw.new .u8 5 w3 [77])) T2.out (Nat.le_trans b1.size (by simp)) ?_; intro v2 w4 o2 g2 nb2 b2; obtain ⟨G, c, tl, rfl, hG, hrow, hc1, hc2⟩ := own_form o2; have k4 : Kp (fun _ => False) w2 w4 := ⟨((b1.alloc b1.size _).trans b2).os, ((b1.alloc b1.size _).trans b2).tape, ((b1.alloc b1.size _).trans b2).output, ((b1.alloc b1.size _).trans b2).size, fun i hi _ => ((b1.alloc b1.size _).trans b2).block i hi⟩; have I4 : Hid (OnI w ao zs G zs tl w4) := ⟨K1.out.trans k4 (fun _ _ x => x), S2.out.kp0 k4, hrow, (W0.out.kp K1.out (fun x => x)).kp k4 (fun x => x)⟩; have HC1 : Hid (zs.length + 1 ≤ c) := hc1; have HGG : Hid (w.heap.size ≤ G) := Nat.le_trans K1.out.size hG; clear o1 g1 nb1 b1 g2 nb2 b2 T1 T2 o2 hrow hG hc2 k4))
  refine (many_no (some ⟨G, 0, none⟩) zs.length c o _ ho).mono ?_
  rintro e wx ⟨rfl, k⟩
  have I5 := hid (I4.out.same k)
  clear k I4
  go_wp2_with fail
  refine (most_no o _ ho).mono ?_
  rintro e wx ⟨rfl, k⟩
  have I6 := hid (I5.out.same k)
  clear k I5
  go_wp2_with fail
  refine (get_no (some ⟨G, 0, none⟩) zs.length c o i _ ho).mono ?_
  rintro e wx ⟨rfl, k⟩
  have I7 := hid (I6.out.same k)
  clear k I6
  go_wp2_with fail
  refine (set_no (some ⟨G, 0, none⟩) zs.length c o i x _ ho).mono ?_
  rintro e wx ⟨rfl, k⟩
  have I8 := hid (I7.out.same k)
  clear k I7
  go_wp2_with fail
  refine (rwidth_no o _ ho).mono ?_
  rintro e wx ⟨rfl, rfl⟩
  have I9 := I8
  go_wp2_with fail
  refine (add_no (some ⟨G, 0, none⟩) zs.length c o i y _ ho).mono ?_
  rintro e wx ⟨rfl, k⟩
  have IZ := hid (I9.out.same k)
  clear k
  have cv1 := cv (c := c) rfl (row_src IZ.out.row)
  have cv2 := cv (c := cap) rfl IZ.out.src
  go_wp2_with fail
  refine (KN.out _ IZ.out.wd).mono ?_
  rintro e wz ⟨rfl, kz⟩
  have KZ := hid (IZ.out.kp.trans kz (fun _ _ x => x))
  clear kz
  go_wp2_with fail
  go_ret
  exact ⟨rfl, KZ.out⟩
end Go.Proofs.YtjhgkcbpllgdiaaDoor
