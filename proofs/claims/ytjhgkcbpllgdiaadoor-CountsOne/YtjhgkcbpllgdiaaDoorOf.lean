/- CountsOne's walk where there is such a count. -/
import Derived.Test.YtjhgkcbpllgdiaaDoorCv
import Derived.Test.YtjhgkcbpllgdiaaDoorCh
import Derived.Test.YtjhgkcbpllgdiaaDoorOc
import Derived.BigQuiet
namespace Go.Proofs.YtjhgkcbpllgdiaaDoor
open Go.RowKit
set_option linter.unusedVariables false
set_option maxRecDepth 100000 in
set_option maxHeartbeats 8000000 in
theorem one_0pf (g off cap o i : Nat) (zs : List Int) (x y : Int) (w : World) (hl : zs.length ≤ 9223372036854775807) (hz : Byt zs) (hw : Wd w) (hx : 0 ≤ x ∧ x < 18446744073709551616) (hy : -9223372036854775808 ≤ y ∧ y ≤ 9223372036854775807) (hs : Src .u8 w (some ⟨g, off, none⟩) zs) (hb : zs.length ≤ 3000) (ho : o < 7) (hi : i < 8 * zs.length / 2 ^ o) (hxm : mst (2 ^ o) < x) (hyc : 0 ≤ y ∧ y ≤ mst (2 ^ o) - nb zs (i * 2 ^ o) (2 ^ o)) : Calls Tryd.prog 3 #[.slice (some ⟨g, off, none⟩) zs.length cap, .int .i64 (o : Int), .agg #[.int .i64 (i : Int), .int .u64 x, .int .i64 y]] w fun e w' => e = .returned (.bool true) ∧ Kp (fun _ => False) w w' := by
  have hlen : zs.length = zs.length := rfl
  have hzR : Byt zs := hz
  have hft := fits_of (pow_pos7 o) hi
  have hp := pow_pos7 o
  have hVb := nb_b zs (i * 2 ^ o) (2 ^ o)
  have hM := mst_64 ho
  have hVM : nb zs (i * 2 ^ o) (2 ^ o) ≤ mst (2 ^ o) := by unfold mst; omega
  have hV0 := hVb.1
  have MA := hid (fun (X : World) (G c : Nat) (h : Wd X) => many_ok (some ⟨G, 0, none⟩) zs.length c o X (by omega) ho h)
  have MO := hid (fun (X : World) (h : Wd X) => most_ok o X ho h)
  have GE := hid (fun (X : World) (G c : Nat) (tl : List Int) (h : OnI w (some ⟨g, off, none⟩) zs G zs tl X) => get_ok G 0 c o i zs X (by omega) hz ho h.wd hi (row_src h.row))
  have SE := hid (fun (X : World) (G c : Nat) (tl : List Int) (h : OnI w (some ⟨g, off, none⟩) zs G zs tl X) => set_long G c o i zs (77 :: tl) x X (by omega) hz ho h.wd hi h.row hxm)
  have RW := hid (fun (X : World) => rwidth_ok o X ho)
  have RM := hid (fun (X : World) => rmany_ok (some ⟨g, off, none⟩) zs.length cap o X (by omega) ho)
  have RO := hid (fun (X : World) => rmost_ok o X ho)
  have RA := hid (fun (X : World) (h : Src .u8 X (some ⟨g, off, none⟩) zs) => rat_ok g off cap o i zs X (by omega) hz ho hft h)
  have RA2 := hid (fun (X : World) (g' off' c' : Nat) (h : Src .u8 X (some ⟨g', off', none⟩) zs) => (by have hh := rat_ok g' off' c' o i zs X (by omega) hzR ho (by omega) h; rw [hlen] at hh; exact hh : Calls Tryd.prog 15 #[.slice (some ⟨g', off', none⟩) zs.length c', .int .i64 (o : Int), .int .i64 (i : Int)] X fun e w' => e = .returned (.int .u64 (nb zs (i * 2 ^ o) (2 ^ o))) ∧ X = w'))
  have hF : Fts (nb zs (i * 2 ^ o) (2 ^ o)) y (mst (2 ^ o)) := by unfold Fts; omega
  have AD := hid (fun (X : World) (G c : Nat) (tl : List Int) (h : OnI w (some ⟨g, off, none⟩) zs G zs tl X) => (by have hh := add_ok G c o i zs (77 :: tl) y X (by omega) hzR ho h.wd (by rw [hlen]; exact hi) h.row hy hF; rw [hlen] at hh; exact hh : Calls Tryd.prog 12 #[.slice (some ⟨G, 0, none⟩) zs.length c, .int .i64 (o : Int), .int .i64 (i : Int), .int .i64 y] X fun e w' => e = .returned (.tuple #[.int .u64 (nb zs (i * 2 ^ o) (2 ^ o) + y), .int .i64 0]) ∧ Rw .u8 5 w' G (sb zs (i * 2 ^ o) (2 ^ o) (nb zs (i * 2 ^ o) (2 ^ o) + y) ++ (77 :: tl)) ∧ Kp (fun k => k = G) X w'))
  have hS0 : 0 ≤ nb zs (i * 2 ^ o) (2 ^ o) + y ∧ nb zs (i * 2 ^ o) (2 ^ o) + y < 18446744073709551616 := by unfold Fts at hF; omega
  have W2 := hid (fun (X : World) (g' off' c' : Nat) (h : Src .u8 X (some ⟨g', off', none⟩) zs) => (by have hh := rwith_ok g' off' c' o i zs (nb zs (i * 2 ^ o) (2 ^ o) + y) X (by omega) hzR ho (by omega) hS0.1 hS0.2 h; rw [hlen] at hh; exact hh : Calls Tryd.prog 16 #[.slice (some ⟨g', off', none⟩) zs.length c', .int .i64 (o : Int), .int .i64 (i : Int), .int .u64 (nb zs (i * 2 ^ o) (2 ^ o) + y)] X fun e w' => ∃ v, e = .returned v ∧ OwnI .u8 5 w' X.heap.size v (sb zs (i * 2 ^ o) (2 ^ o) (nb zs (i * 2 ^ o) (2 ^ o) + y)) ∧ Kp (fun _ => False) X w'))
  have hlen2 : (sb zs (i * 2 ^ o) (2 ^ o) (nb zs (i * 2 ^ o) (2 ^ o) + y)).length = zs.length := by rw [sb_len, hlen]
  clear hF
  have hpos : 0 < zs.length := by omega
  clear hVb hzR hft hz
  generalize nb zs (i * 2 ^ o) (2 ^ o) = V at *
  generalize sb zs (i * 2 ^ o) (2 ^ o) (V + y) = R2 at *
  clear hlen
  generalize mst (2 ^ o) = MM at *
  generalize 2 ^ o = W at *
  generalize 8 * zs.length / W = Q at *
  have hW0 : ((W : Int) == 0) = false := beq_eq_false_iff_ne.2 (by omega)
  have di0 : decide ((i : Int) < 0) = false := by simp
  have di1 : decide ((Q : Int) ≤ (i : Int)) = false := by simp; omega
  have di2 : decide (Q ≤ i) = false := by simp; omega
  have dx : decide (x ≤ MM) = false := by simp; omega
  have dy0 : decide (0 ≤ y) = true := by simp; omega
  have dy1 : decide (y < 0) = false := by simp; omega
  have wy : IntKind.u64.wrap y = y := by rw [IntKind.wrap_u64]; omega
  have wv : IntKind.u64.wrap (MM - V) = MM - V := by rw [IntKind.wrap_u64]; omega
  have dy2 : decide (y ≤ MM - V) = true := by simp; omega
  obtain ⟨S, hS⟩ : ∃ S, V + y = S := ⟨_, rfl⟩
  rw [hS] at AD W2 hS0
  have ws : IntKind.u64.wrap (V + y) = S := by rw [IntKind.wrap_u64]; omega
  clear hS hS0
  clear hyc hxm hVM hV0 hM hi
  have hnil : (some ⟨g, off, none⟩ : Option Addr) = none → cap = 0 := fun e => by cases e
  have HS := hid (St.new 25 w #[.int .i64 (i : Int), .int .u64 x, .int .i64 y])
  have KN := hid (fun (X : World) (h : Wd X) => known_any X h)
  have H0 := hid hw.lt
  have S0 := hid hs
  have W0 := hid hw
  have NIL := hid hnil
  have q0 : (w.alloc (.cells #[.int .i64 (i : Int), .int .u64 x, .int .i64 y] 25)).cell? ⟨w.heap.size, 0, none⟩ = some (.int .i64 (i : Int)) := HS.out.cell 0
  have q1 : (w.alloc (.cells #[.int .i64 (i : Int), .int .u64 x, .int .i64 y] 25)).cell? ⟨w.heap.size, 1, none⟩ = some (.int .u64 x) := HS.out.cell 1
  have q2 : (w.alloc (.cells #[.int .i64 (i : Int), .int .u64 x, .int .i64 y] 25)).cell? ⟨w.heap.size, 2, none⟩ = some (.int .i64 y) := HS.out.cell 2
  have k0 : Kp (fun _ => False) w (w.alloc (.cells #[.int .i64 (i : Int), .int .u64 x, .int .i64 y] 25)) := (Kp.refl _ _).alloc _
  go_enter Tryd.func3, Tryd.ntmps3
  go_wp2_with fail
  generalize w.alloc (.cells #[.int .i64 (i : Int), .int .u64 x, .int .i64 y] 25) = w1 at *
  go_quiet (fail)
  have k1 := k0.trans (drewN_kp (fun _ => False) w1 nq) (fun _ _ x => x)
  generalize w1.drewN nq = w2 at *
  have K1 := hid k1
  clear q0 q1 q2 k0 k1 HS hs hw hnil
  have d1 : decide ((3000 : Int) < (zs.length : Int)) = false := by simp; omega
  have d2 : ¬ (3000 : Int) < (zs.length : Int) := by omega
  have S2 := hid (S0.out.kp0 K1.out)
  have T1 : Hid (([] : List Int).length + zs.length ≤ 17592186044416) := by show _ ≤ _; simp; omega
  have T2 : Hid (([] ++ zs : List Int).length + ([77] : List Int).length ≤ 17592186044416) := by show _ ≤ _; simp; omega
  go_wp2_with (first | (at_builtin; refine wpList_append_i 22 5 1 Tryd.underlying22 info5 (by decide) rfl (.const (.slice none 0 0)) (.tmp 38) rfl w2.heap.size (.slice none 0 0) [] rfl (OwnI.nil _ _ _ _) _ _ _ zs rfl rfl NIL.out S2.out T1.out (Nat.le_refl _) ?_; intro v1 w3 o1 g1 nb1 b1) | (at_builtin; refine wpList_append_i 22 5 1 Tryd.underlying22 info5 (by decide) rfl (.tmp 39) (.tmp 40) rfl w2.heap.size v1 ([] ++ zs) rfl (o1.below ((Below.refl _ _).alloc (Nat.le_refl _) _)) _ _ _ [77] rfl rfl (fun e => by cases e) (row_src (tl := []) (Rw.new .u8 5 w3 [77])) T2.out (Nat.le_trans b1.size (by simp)) ?_; intro v2 w4 o2 g2 nb2 b2; obtain ⟨G, c, tl, rfl, hG, hrow, hc1, hc2⟩ := own_form o2; have k4 : Kp (fun _ => False) w2 w4 := ⟨((b1.alloc b1.size _).trans b2).os, ((b1.alloc b1.size _).trans b2).tape, ((b1.alloc b1.size _).trans b2).output, ((b1.alloc b1.size _).trans b2).size, fun i hi _ => ((b1.alloc b1.size _).trans b2).block i hi⟩; have I4 : Hid (OnI w (some ⟨g, off, none⟩) zs G zs tl w4) := ⟨K1.out.trans k4 (fun _ _ x => x), S2.out.kp0 k4, hrow, (W0.out.kp K1.out (fun x => x)).kp k4 (fun x => x)⟩; have HC1 : Hid (zs.length + 1 ≤ c) := hc1; have HGG : Hid (w.heap.size ≤ G) := Nat.le_trans K1.out.size hG; clear o1 g1 nb1 b1 g2 nb2 b2 T1 T2 o2 hrow hG hc2 k4))
  refine (MA.out _ G c I4.out.wd).mono ?_
  rintro e wx ⟨rfl, k⟩
  have I5 := hid (I4.out.same k)
  clear k I4
  go_wp2_with fail
  refine (MO.out _ I5.out.wd).mono ?_
  rintro e wx ⟨rfl, k⟩
  have I6 := hid (I5.out.same k)
  clear k I5
  go_wp2_with fail
  refine (GE.out _ G c tl I6.out).mono ?_
  rintro e wx ⟨rfl, k⟩
  have I7 := hid (I6.out.same k)
  clear k I6
  go_wp2_with fail
  refine (SE.out _ G c tl I7.out).mono ?_
  rintro e wx ⟨rfl, k⟩
  have I8 := hid (I7.out.same k)
  clear k
  go_wp2_with fail
  refine (RW.out _).mono ?_
  rintro e wx ⟨rfl, rfl⟩
  have I9 := I8
  go_wp2_with fail
  refine (RM.out _).mono ?_
  rintro e wx ⟨rfl, rfl⟩
  have I10 := I9
  go_wp2_with fail
  refine (RO.out _).mono ?_
  rintro e wx ⟨rfl, rfl⟩
  have I11 := I10
  go_wp2_with fail
  have IA := I11
  refine (RA.out _ IA.out.src).mono ?_
  rintro e wx ⟨rfl, rfl⟩
  have SR := hid IA.out.src
  have NE : Hid (g ≠ G) := by have h1 := src_lt S0.out hpos; have h2 := HGG.out; show _ ≠ _; omega
  have cv1 := cv (c := c) rfl (row_src IA.out.row)
  have cv2 := cv (c := cap) rfl SR.out
  go_wp2_with fail
  refine (RA2.out _ g off cap SR.out).mono ?_
  rintro e wx ⟨rfl, rfl⟩
  clear cv1 cv2
  go_wp2_with fail
  refine (AD.out _ G c tl IA.out).mono ?_
  rintro e wz ⟨rfl, r, k⟩
  have IZ := hid (IA.out.turn S0.out HGG.out H0.out r k)
  have SZ := hid (src_kp SR.out k (fun _ b off e => by cases e; exact NE.out))
  clear r k
  have hcc := HC1.out
  go_wp2_with fail
  have hcw : IntKind.i64.wrap ((zs.length : Int) + 1) = (zs.length : Int) + 1 := by rw [IntKind.wrap_i64]; omega
  have hci : (zs.length : Int) + 1 ≤ (c : Int) := by omega
  have hcz : (0 : Int) ≤ (zs.length : Int) + 1 := by omega
  have hlt1 : (zs.length : Int) < (zs.length : Int) + 1 := by omega
  have htn : ((zs.length : Int) + 1).toNat = zs.length + 1 := by omega
  have h0 : Kp (fun _ => False) wz wz.drew := (Kp.refl _ _).drew
  change (Code.region 30 o3r30 true).wp _ _ _ _
  refine wp_region_plan (fun w' => Kp (fun _ => False) wz w') [] c3r30 p3r30_0 hmix b3r30 d3r30 (fun _ _ d _ _ h => by cases d <;> exact h) ?_
  refine plan_take (o := q3r30_0) (r := p3r30_1) ?vp0 h0 (by rfl) ?hyp0 ?restp0
  case hyp0 => (intro w _; simp only [q3r30_0]; go_simp; try with_reducible rfl)
  try simp only [q3r30_0, Act.put, List.setIfInBounds_toArray, List.set_cons_zero, List.set_cons_succ]
  refine plan_take (o := q3r30_1) (r := p3r30_2) ?vp1 h0 (by rfl) ?hyp1 ?restp1
  case hyp1 => (intro w _; simp only [q3r30_1]; go_simp; try with_reducible rfl)
  try simp only [q3r30_1, Act.put, List.setIfInBounds_toArray, List.set_cons_zero, List.set_cons_succ]
  refine plan_take (o := q3r30_2) (r := p3r30_3) ?vp2 h0 (by rfl) ?hyp2 ?restp2
  case hyp2 => (intro w _; simp only [q3r30_2]; go_simp; try with_reducible rfl)
  try simp only [q3r30_2, Act.put, List.setIfInBounds_toArray, List.set_cons_zero, List.set_cons_succ]
  refine plan_take (o := q3r30_3) (r := p3r30_4) ?vp3 h0 (by rfl) ?hyp3 ?restp3
  case hyp3 => (intro w _; simp only [q3r30_3]; go_simp; try with_reducible rfl)
  try simp only [q3r30_3, Act.put, List.setIfInBounds_toArray, List.set_cons_zero, List.set_cons_succ]
  refine plan_take (o := q3r30_4) (r := p3r30_5) ?vp4 h0 (by rfl) ?hyp4 ?restp4
  case hyp4 => (intro w _; simp only [q3r30_4]; go_simp; try with_reducible rfl)
  try simp only [q3r30_4, Act.put, List.setIfInBounds_toArray, List.set_cons_zero, List.set_cons_succ]
  refine plan_take (o := q3r30_5) (r := p3r30_6) ?vp5 h0 (by rfl) ?hyp5 ?restp5
  case hyp5 => (intro w _; simp only [q3r30_5]; go_simp; try with_reducible rfl)
  try simp only [q3r30_5, Act.put, List.setIfInBounds_toArray, List.set_cons_zero, List.set_cons_succ]
  refine plan_take (o := q3r30_6) (r := p3r30_7) ?vp6 h0 (by rfl) ?hyp6 ?restp6
  case hyp6 => (intro w _; simp only [q3r30_6]; go_simp; try with_reducible rfl)
  try simp only [q3r30_6, Act.put, List.setIfInBounds_toArray, List.set_cons_zero, List.set_cons_succ]
  refine plan_take (o := q3r30_7) (r := p3r30_8) ?vp7 h0 (by rfl) ?hyp7 ?restp7
  case hyp7 => (intro w _; simp only [q3r30_7]; go_simp; try with_reducible rfl)
  try simp only [q3r30_7, Act.put, List.setIfInBounds_toArray, List.set_cons_zero, List.set_cons_succ]
  refine plan_take (o := q3r30_8) (r := p3r30_9) ?vp8 h0 (by rfl) ?hyp8 ?restp8
  case hyp8 => (intro w _; simp only [q3r30_8]; go_simp; try with_reducible rfl)
  try simp only [q3r30_8, Act.put, List.setIfInBounds_toArray, List.set_cons_zero, List.set_cons_succ]
  refine plan_take (o := q3r30_9) (r := p3r30_10) ?vp9 h0 (by rfl) ?hyp9 ?restp9
  case hyp9 => (intro w hSw; (try dsimp only at hSw); have hcv := cv (c := c) hlen2 (row_src (IZ.out.row.kp hSw (fun x => x))); simp only [q3r30_9]; go_simp; try with_reducible rfl)
  try simp only [q3r30_9, Act.put, List.setIfInBounds_toArray, List.set_cons_zero, List.set_cons_succ]
  refine plan_take (o := q3r30_10) (r := p3r30_11) ?vp10 h0 (by rfl) ?hyp10 ?restp10
  case hyp10 => (intro w _; simp only [q3r30_10]; go_simp; try with_reducible rfl)
  try simp only [q3r30_10, Act.put, List.setIfInBounds_toArray, List.set_cons_zero, List.set_cons_succ]
  refine plan_take (o := q3r30_11) (r := p3r30_12) ?vp11 h0 (by rfl) ?hyp11 ?restp11
  case hyp11 => (intro w _; simp only [q3r30_11]; go_simp; try with_reducible rfl)
  try simp only [q3r30_11, Act.put, List.setIfInBounds_toArray, List.set_cons_zero, List.set_cons_succ]
  refine plan_take (o := q3r30_12) (r := p3r30_13) ?vp12 h0 (by rfl) ?hyp12 ?restp12
  case hyp12 => (intro w _; simp only [q3r30_12]; go_simp; try with_reducible rfl)
  try simp only [q3r30_12, Act.put, List.setIfInBounds_toArray, List.set_cons_zero, List.set_cons_succ]
  refine plan_take (o := q3r30_13) (r := p3r30_14) ?vp13 h0 (by rfl) ?hyp13 ?restp13
  case hyp13 => (intro w _; simp only [q3r30_13]; go_simp; try with_reducible rfl)
  try simp only [q3r30_13, Act.put, List.setIfInBounds_toArray, List.set_cons_zero, List.set_cons_succ]
  refine plan_act (o := q3r30_14) (r := p3r30_15) (fun K hK => ?_)
  simp only [q3r30_14]
  go_simp
  refine (W2.out _ g off cap (SZ.out.kp0 h0)).mono ?_
  rintro _ w5 ⟨v5, rfl, ov5, k5⟩
  obtain ⟨G5, c5, tl5, rfl, hG5, row5⟩ := own_pos ov5 (by rw [hlen2]; exact hpos)
  rw [hlen2]
  have SW := hid (row_src row5)
  go_wp2_with fail
  refine hK.out _ _ (fun h => h.trans k5 (fun _ _ x => x)) ?_
  have s5 : Kp (fun _ => False) wz w5 := h0.trans k5 (fun _ _ x => x)
  clear hK K ov5 row5 hG5
  refine plan_act (o := q3r30_15) (r := p3r30_16) (fun K hK => ?_)
  simp only [q3r30_15]
  have hcv := cv (c := c5) hlen2 SW.out
  go_simp
  refine hK.out _ _ (fun h => h) ?_
  clear hK K hcv
  try simp only [q3r30_15, Act.put, List.setIfInBounds_toArray, List.set_cons_zero, List.set_cons_succ]
  refine plan_take (o := q3r30_16) (r := p3r30_17) ?vp16 s5 (by rfl) ?hyp16 ?restp16
  case hyp16 => (intro w _; simp only [q3r30_16]; go_simp; try with_reducible rfl)
  try simp only [q3r30_16, Act.put, List.setIfInBounds_toArray, List.set_cons_zero, List.set_cons_succ]
  refine plan_take (o := q3r30_17) (r := p3r30_18) ?vp17 s5 (by rfl) ?hyp17 ?restp17
  case hyp17 => (intro w _; simp only [q3r30_17]; go_simp; try with_reducible rfl)
  try simp only [q3r30_17, Act.put, List.setIfInBounds_toArray, List.set_cons_zero, List.set_cons_succ]
  refine plan_take (o := q3r30_18) (r := p3r30_19) ?vp18 s5 (by rfl) ?hyp18 ?restp18
  case hyp18 => (intro w _; simp only [q3r30_18]; go_simp; try with_reducible rfl)
  try simp only [q3r30_18, Act.put, List.setIfInBounds_toArray, List.set_cons_zero, List.set_cons_succ]
  refine plan_take (o := q3r30_19) (r := p3r30_20) ?vp19 s5 (by rfl) ?hyp19 ?restp19
  case hyp19 => (intro w _; simp only [q3r30_19]; go_simp; try with_reducible rfl)
  try simp only [q3r30_19, Act.put, List.setIfInBounds_toArray, List.set_cons_zero, List.set_cons_succ]
  refine plan_take (o := q3r30_20) (r := p3r30_21) ?vp20 s5 (by rfl) ?hyp20 ?restp20
  case hyp20 => (intro w _; simp only [q3r30_20]; go_simp; try with_reducible rfl)
  try simp only [q3r30_20, Act.put, List.setIfInBounds_toArray, List.set_cons_zero, List.set_cons_succ]
  refine plan_take (o := q3r30_21) (r := p3r30_22) ?vp21 s5 (by rfl) ?hyp21 ?restp21
  case hyp21 => (intro w _; simp only [q3r30_21]; go_simp; try with_reducible rfl)
  try simp only [q3r30_21, Act.put, List.setIfInBounds_toArray, List.set_cons_zero, List.set_cons_succ]
  refine plan_take (o := q3r30_22) (r := p3r30_23) ?vp22 s5 (by rfl) ?hyp22 ?restp22
  case hyp22 => (intro w _; simp only [q3r30_22]; go_simp; try with_reducible rfl)
  try simp only [q3r30_22, Act.put, List.setIfInBounds_toArray, List.set_cons_zero, List.set_cons_succ]
  refine plan_take (o := q3r30_23) (r := p3r30_24) ?vp23 s5 (by rfl) ?hyp23 ?restp23
  case hyp23 => (intro w _; simp only [q3r30_23]; go_simp; try with_reducible rfl)
  try simp only [q3r30_23, Act.put, List.setIfInBounds_toArray, List.set_cons_zero, List.set_cons_succ]
  refine plan_take (o := q3r30_24) (r := p3r30_25) ?vp24 s5 (by rfl) ?hyp24 ?restp24
  case hyp24 => (intro w _; simp only [q3r30_24]; go_simp; try with_reducible rfl)
  try simp only [q3r30_24, Act.put, List.setIfInBounds_toArray, List.set_cons_zero, List.set_cons_succ]
  refine plan_take (o := q3r30_25) (r := p3r30_26) ?vp25 s5 (by rfl) ?hyp25 ?restp25
  case hyp25 => (intro w _; simp only [q3r30_25]; go_simp; try with_reducible rfl)
  try simp only [q3r30_25, Act.put, List.setIfInBounds_toArray, List.set_cons_zero, List.set_cons_succ]
  refine plan_take (o := q3r30_26) (r := p3r30_27) ?vp26 s5 (by rfl) ?hyp26 ?restp26
  case hyp26 => (intro w _; simp only [q3r30_26]; go_simp; try with_reducible rfl)
  try simp only [q3r30_26, Act.put, List.setIfInBounds_toArray, List.set_cons_zero, List.set_cons_succ]
  refine plan_take (o := q3r30_27) (r := p3r30_28) ?vp27 s5 (by rfl) ?hyp27 ?restp27
  case hyp27 => (intro w hSw; (try dsimp only at hSw); have ra := row_at hlen2 (IZ.out.row.kp hSw (fun x => x)); simp only [q3r30_27]; go_simp; try with_reducible rfl)
  try simp only [q3r30_27, Act.put, List.setIfInBounds_toArray, List.set_cons_zero, List.set_cons_succ]
  refine plan_take (o := q3r30_28) (r := p3r30_29) ?vp28 s5 (by rfl) ?hyp28 ?restp28
  case hyp28 => (intro w _; simp only [q3r30_28]; go_simp; try with_reducible rfl)
  try simp only [q3r30_28, Act.put, List.setIfInBounds_toArray, List.set_cons_zero, List.set_cons_succ]
  refine plan_take (o := q3r30_29) (r := p3r30_30) ?vp29 s5 (by rfl) ?hyp29 ?restp29
  case hyp29 => (intro w _; simp only [q3r30_29]; go_simp; try with_reducible rfl)
  try simp only [q3r30_29, Act.put, List.setIfInBounds_toArray, List.set_cons_zero, List.set_cons_succ]
  refine plan_take (o := q3r30_30) (r := p3r30_31) ?vp30 s5 (by rfl) ?hyp30 ?restp30
  case hyp30 => (intro w _; simp only [q3r30_30]; go_simp; try with_reducible rfl)
  try simp only [q3r30_30, Act.put, List.setIfInBounds_toArray, List.set_cons_zero, List.set_cons_succ]
  refine plan_act (o := q3r30_31) (r := p3r30_32) (fun K hK => ?_)
  simp only [q3r30_31]
  go_simp
  refine (KN.out _ (IZ.out.wd.kp s5 (fun x => x))).mono ?_
  rintro _ w6 ⟨rfl, k6⟩
  go_wp2_with fail
  refine hK.out _ _ (fun h => h.trans k6 (fun _ _ x => x)) ?_
  have s6 : Kp (fun _ => False) wz w6 := s5.trans k6 (fun _ _ x => x)
  clear hK K
  refine plan_take (o := q3r30_32) (r := p3r30_33) ?vp32 s6 (by rfl) ?hyp32 ?restp32
  case hyp32 => (intro w _; simp only [q3r30_32]; go_simp; try with_reducible rfl)
  try simp only [q3r30_32, Act.put, List.setIfInBounds_toArray, List.set_cons_zero, List.set_cons_succ]
  refine plan_take (o := q3r30_33) (r := p3r30_34) ?vp33 s6 (by rfl) ?hyp33 ?restp33
  case hyp33 => (intro w _; simp only [q3r30_33]; go_simp; try with_reducible rfl)
  try simp only [q3r30_33, Act.put, List.setIfInBounds_toArray, List.set_cons_zero, List.set_cons_succ]
  refine plan_done ?_
  go_wp2_with fail
  go_ret
  exact ⟨rfl, IZ.out.kp.trans s6 (fun _ _ x => x)⟩
set_option maxRecDepth 100000 in
set_option maxHeartbeats 8000000 in
theorem one_0pn (g off cap o i : Nat) (zs : List Int) (x y : Int) (w : World) (hl : zs.length ≤ 9223372036854775807) (hz : Byt zs) (hw : Wd w) (hx : 0 ≤ x ∧ x < 18446744073709551616) (hy : -9223372036854775808 ≤ y ∧ y ≤ 9223372036854775807) (hs : Src .u8 w (some ⟨g, off, none⟩) zs) (hb : zs.length ≤ 3000) (ho : o < 7) (hi : i < 8 * zs.length / 2 ^ o) (hxm : mst (2 ^ o) < x) (hyc : 0 ≤ y ∧ mst (2 ^ o) - nb zs (i * 2 ^ o) (2 ^ o) < y) : Calls Tryd.prog 3 #[.slice (some ⟨g, off, none⟩) zs.length cap, .int .i64 (o : Int), .agg #[.int .i64 (i : Int), .int .u64 x, .int .i64 y]] w fun e w' => e = .returned (.bool true) ∧ Kp (fun _ => False) w w' := by
  have hlen : zs.length = zs.length := rfl
  have hzR : Byt zs := hz
  have hft := fits_of (pow_pos7 o) hi
  have hp := pow_pos7 o
  have hVb := nb_b zs (i * 2 ^ o) (2 ^ o)
  have hM := mst_64 ho
  have hVM : nb zs (i * 2 ^ o) (2 ^ o) ≤ mst (2 ^ o) := by unfold mst; omega
  have hV0 := hVb.1
  have MA := hid (fun (X : World) (G c : Nat) (h : Wd X) => many_ok (some ⟨G, 0, none⟩) zs.length c o X (by omega) ho h)
  have MO := hid (fun (X : World) (h : Wd X) => most_ok o X ho h)
  have GE := hid (fun (X : World) (G c : Nat) (tl : List Int) (h : OnI w (some ⟨g, off, none⟩) zs G zs tl X) => get_ok G 0 c o i zs X (by omega) hz ho h.wd hi (row_src h.row))
  have SE := hid (fun (X : World) (G c : Nat) (tl : List Int) (h : OnI w (some ⟨g, off, none⟩) zs G zs tl X) => set_long G c o i zs (77 :: tl) x X (by omega) hz ho h.wd hi h.row hxm)
  have RW := hid (fun (X : World) => rwidth_ok o X ho)
  have RM := hid (fun (X : World) => rmany_ok (some ⟨g, off, none⟩) zs.length cap o X (by omega) ho)
  have RO := hid (fun (X : World) => rmost_ok o X ho)
  have RA := hid (fun (X : World) (h : Src .u8 X (some ⟨g, off, none⟩) zs) => rat_ok g off cap o i zs X (by omega) hz ho hft h)
  have RA2 := hid (fun (X : World) (g' off' c' : Nat) (h : Src .u8 X (some ⟨g', off', none⟩) zs) => (by have hh := rat_ok g' off' c' o i zs X (by omega) hzR ho (by omega) h; rw [hlen] at hh; exact hh : Calls Tryd.prog 15 #[.slice (some ⟨g', off', none⟩) zs.length c', .int .i64 (o : Int), .int .i64 (i : Int)] X fun e w' => e = .returned (.int .u64 (nb zs (i * 2 ^ o) (2 ^ o))) ∧ X = w'))
  have hF : ¬ Fts (nb zs (i * 2 ^ o) (2 ^ o)) y (mst (2 ^ o)) := by unfold Fts; omega
  have AD := hid (fun (X : World) (G c : Nat) (tl : List Int) (h : OnI w (some ⟨g, off, none⟩) zs G zs tl X) => (by have hh := add_long G c o i zs (77 :: tl) y X (by omega) hzR ho h.wd (by rw [hlen]; exact hi) h.row hy hF; rw [hlen] at hh; exact hh : Calls Tryd.prog 12 #[.slice (some ⟨G, 0, none⟩) zs.length c, .int .i64 (o : Int), .int .i64 (i : Int), .int .i64 y] X fun e w' => e = .returned (.tuple #[.int .u64 0, .int .i64 3]) ∧ Kp (fun _ => False) X w'))
  clear hF
  have hpos : 0 < zs.length := by omega
  clear hVb hzR hft hz
  generalize nb zs (i * 2 ^ o) (2 ^ o) = V at *
  clear hlen
  generalize mst (2 ^ o) = MM at *
  generalize 2 ^ o = W at *
  generalize 8 * zs.length / W = Q at *
  have hW0 : ((W : Int) == 0) = false := beq_eq_false_iff_ne.2 (by omega)
  have di0 : decide ((i : Int) < 0) = false := by simp
  have di1 : decide ((Q : Int) ≤ (i : Int)) = false := by simp; omega
  have di2 : decide (Q ≤ i) = false := by simp; omega
  have dx : decide (x ≤ MM) = false := by simp; omega
  have dy0 : decide (0 ≤ y) = true := by simp; omega
  have dy1 : decide (y < 0) = false := by simp; omega
  have wy : IntKind.u64.wrap y = y := by rw [IntKind.wrap_u64]; omega
  have wv : IntKind.u64.wrap (MM - V) = MM - V := by rw [IntKind.wrap_u64]; omega
  have dy2 : decide (y ≤ MM - V) = false := by simp; omega
  clear hyc hxm hVM hV0 hM hi
  have hnil : (some ⟨g, off, none⟩ : Option Addr) = none → cap = 0 := fun e => by cases e
  have HS := hid (St.new 25 w #[.int .i64 (i : Int), .int .u64 x, .int .i64 y])
  have KN := hid (fun (X : World) (h : Wd X) => known_any X h)
  have H0 := hid hw.lt
  have S0 := hid hs
  have W0 := hid hw
  have NIL := hid hnil
  have q0 : (w.alloc (.cells #[.int .i64 (i : Int), .int .u64 x, .int .i64 y] 25)).cell? ⟨w.heap.size, 0, none⟩ = some (.int .i64 (i : Int)) := HS.out.cell 0
  have q1 : (w.alloc (.cells #[.int .i64 (i : Int), .int .u64 x, .int .i64 y] 25)).cell? ⟨w.heap.size, 1, none⟩ = some (.int .u64 x) := HS.out.cell 1
  have q2 : (w.alloc (.cells #[.int .i64 (i : Int), .int .u64 x, .int .i64 y] 25)).cell? ⟨w.heap.size, 2, none⟩ = some (.int .i64 y) := HS.out.cell 2
  have k0 : Kp (fun _ => False) w (w.alloc (.cells #[.int .i64 (i : Int), .int .u64 x, .int .i64 y] 25)) := (Kp.refl _ _).alloc _
  go_enter Tryd.func3, Tryd.ntmps3
  go_wp2_with fail
  generalize w.alloc (.cells #[.int .i64 (i : Int), .int .u64 x, .int .i64 y] 25) = w1 at *
  go_quiet (fail)
  have k1 := k0.trans (drewN_kp (fun _ => False) w1 nq) (fun _ _ x => x)
  generalize w1.drewN nq = w2 at *
  have K1 := hid k1
  clear q0 q1 q2 k0 k1 HS hs hw hnil
  have d1 : decide ((3000 : Int) < (zs.length : Int)) = false := by simp; omega
  have d2 : ¬ (3000 : Int) < (zs.length : Int) := by omega
  have S2 := hid (S0.out.kp0 K1.out)
  have T1 : Hid (([] : List Int).length + zs.length ≤ 17592186044416) := by show _ ≤ _; simp; omega
  have T2 : Hid (([] ++ zs : List Int).length + ([77] : List Int).length ≤ 17592186044416) := by show _ ≤ _; simp; omega
  go_wp2_with (first | (at_builtin; refine wpList_append_i 22 5 1 Tryd.underlying22 info5 (by decide) rfl (.const (.slice none 0 0)) (.tmp 38) rfl w2.heap.size (.slice none 0 0) [] rfl (OwnI.nil _ _ _ _) _ _ _ zs rfl rfl NIL.out S2.out T1.out (Nat.le_refl _) ?_; intro v1 w3 o1 g1 nb1 b1) | (at_builtin; refine wpList_append_i 22 5 1 Tryd.underlying22 info5 (by decide) rfl (.tmp 39) (.tmp 40) rfl w2.heap.size v1 ([] ++ zs) rfl (o1.below ((Below.refl _ _).alloc (Nat.le_refl _) _)) _ _ _ [77] rfl rfl (fun e => by cases e) (row_src (tl := []) (Rw.new .u8 5 w3 [77])) T2.out (Nat.le_trans b1.size (by simp)) ?_; intro v2 w4 o2 g2 nb2 b2; obtain ⟨G, c, tl, rfl, hG, hrow, hc1, hc2⟩ := own_form o2; have k4 : Kp (fun _ => False) w2 w4 := ⟨((b1.alloc b1.size _).trans b2).os, ((b1.alloc b1.size _).trans b2).tape, ((b1.alloc b1.size _).trans b2).output, ((b1.alloc b1.size _).trans b2).size, fun i hi _ => ((b1.alloc b1.size _).trans b2).block i hi⟩; have I4 : Hid (OnI w (some ⟨g, off, none⟩) zs G zs tl w4) := ⟨K1.out.trans k4 (fun _ _ x => x), S2.out.kp0 k4, hrow, (W0.out.kp K1.out (fun x => x)).kp k4 (fun x => x)⟩; have HC1 : Hid (zs.length + 1 ≤ c) := hc1; have HGG : Hid (w.heap.size ≤ G) := Nat.le_trans K1.out.size hG; clear o1 g1 nb1 b1 g2 nb2 b2 T1 T2 o2 hrow hG hc2 k4))
  refine (MA.out _ G c I4.out.wd).mono ?_
  rintro e wx ⟨rfl, k⟩
  have I5 := hid (I4.out.same k)
  clear k I4
  go_wp2_with fail
  refine (MO.out _ I5.out.wd).mono ?_
  rintro e wx ⟨rfl, k⟩
  have I6 := hid (I5.out.same k)
  clear k I5
  go_wp2_with fail
  refine (GE.out _ G c tl I6.out).mono ?_
  rintro e wx ⟨rfl, k⟩
  have I7 := hid (I6.out.same k)
  clear k I6
  go_wp2_with fail
  refine (SE.out _ G c tl I7.out).mono ?_
  rintro e wx ⟨rfl, k⟩
  have I8 := hid (I7.out.same k)
  clear k
  go_wp2_with fail
  refine (RW.out _).mono ?_
  rintro e wx ⟨rfl, rfl⟩
  have I9 := I8
  go_wp2_with fail
  refine (RM.out _).mono ?_
  rintro e wx ⟨rfl, rfl⟩
  have I10 := I9
  go_wp2_with fail
  refine (RO.out _).mono ?_
  rintro e wx ⟨rfl, rfl⟩
  have I11 := I10
  go_wp2_with fail
  have IA := I11
  refine (RA.out _ IA.out.src).mono ?_
  rintro e wx ⟨rfl, rfl⟩
  have SR := hid IA.out.src
  have NE : Hid (g ≠ G) := by have h1 := src_lt S0.out hpos; have h2 := HGG.out; show _ ≠ _; omega
  have cv1 := cv (c := c) rfl (row_src IA.out.row)
  have cv2 := cv (c := cap) rfl SR.out
  go_wp2_with fail
  refine (RA2.out _ g off cap SR.out).mono ?_
  rintro e wx ⟨rfl, rfl⟩
  clear cv1 cv2
  go_wp2_with fail
  refine (AD.out _ G c tl IA.out).mono ?_
  rintro e wx ⟨rfl, k⟩
  have IZ := hid (IA.out.same k)
  have SZ := hid (SR.out.kp0 k)
  clear k
  have cv1 := cv (c := c) rfl (row_src IZ.out.row)
  have cv2 := cv (c := cap) rfl SZ.out
  have ra := row_at rfl IZ.out.row
  have hcc := HC1.out
  go_wp2_with fail
  refine (KN.out _ IZ.out.wd).mono ?_
  rintro e wz ⟨rfl, kz⟩
  have KZ := hid (IZ.out.kp.trans kz (fun _ _ x => x))
  clear kz
  go_wp2_with fail
  go_ret
  exact ⟨rfl, KZ.out⟩
end Go.Proofs.YtjhgkcbpllgdiaaDoor
