/- head: the rules of a head. -/
import Derived.Test.YtejdmnhdjeogaaaRu
import Derived.Test.YtejdmnhdjeogaaaOa
import Derived.Test.YtejdmnhdjeogaaaBr
namespace Go.Proofs.Ytejdmnhdjeogaaa
open Go.RowKit
set_option linter.unusedVariables false

def NU (n l m s l' m' s' : Int) : Prop := (n = 0 → l' = 0 ∧ m' = 0 ∧ s' = 1) ∧ (n ≠ 0 → l' = l ∧ m' = m ∧ s' = s)
/-- A rule's cells, one behind the other. -/
def rcs : List (Int × Int × Int × Int) → List Value
  | [] => []
  | r :: rs => .int .i64 r.1 :: .int .i64 r.2.1 :: .int .i64 r.2.2.1 :: .int .i64 r.2.2.2 :: rcs rs
/-- The rules of a head. -/
def Rls (h : Hd) (rs : List (Int × Int × Int × Int)) : Prop := ∃ t l3 m3 s3 l8 m8 s8 l9 m9 s9 lb mb sb lc mc sc : Int,
  rs = [(IntKind.i64.wrap h.flags, 0, 1, 1), (h.size, 0, 67108864, 512), (h.l1len, t, 1048576, 1), (h.l1, l3, m3, s3), (h.order, 0, 6, 1), (h.counts, clu h.bits, 268435456, clu h.bits), (h.countslen, 1, 65536, 1),
    (h.snaps, 0, 64, 1), (h.snapsat, l8, m8, s8), (h.snapslen, l9, m9, s9), (h.maps, 0, 64, 1), (h.mapsat, lb, mb, sb), (h.mapslen, lc, mc, sc), ((h.name.size : Int), 0, 64, 1)] ∧ I6 t ∧ (0 ≤ h.size ∧ h.size ≤ 67108864 → t = tbl h) ∧
  NU h.l1len (clu h.bits) 268435456 (clu h.bits) l3 m3 s3 ∧ NU h.snaps (clu h.bits) 268435456 (clu h.bits) l8 m8 s8 ∧ NU h.snaps 1 65536 1 l9 m9 s9 ∧ NU h.maps (clu h.bits) 268435456 (clu h.bits) lb mb sb ∧ NU h.maps 1 65536 1 lc mc sc
set_option maxRecDepth 100000 in
set_option maxHeartbeats 8000000 in
theorem rules_any (h : Hd) (w : World) (h9 : 9 ≤ h.bits) (h16 : h.bits ≤ 16) (hs : I6 h.size) (hn : h.name.size ≤ 9223372036854775807) :
    Calls Try.prog 35 #[.agg h.cs] w fun e w' => ∃ G rs, e = .returned (.slice (some ⟨G, 0, none⟩) 14 14) ∧ Rls h rs ∧ w.heap.size ≤ G ∧ St 53 w' G (rcs rs).toArray ∧ Kp (fun _ => False) w w' := by
  have HB := hid (Hb.new w h)
  have HK : Hid (Kp (fun _ => False) w (w.alloc (.cells h.cs 24))) := (Kp.refl _ _).alloc _
  have hz : (w.alloc (.cells h.cs 24)).heap.size = w.heap.size + 1 := by simp
  go_enter Try.func35, Try.ntmps35
  go_wp2_with fail
  generalize w.alloc (.cells h.cs 24) = W at *
  generalize hB : w.heap.size = B at *
  have e0 : Hid (W.cell? ⟨B, 0, none⟩ = some (.int .i64 h.bits)) := HB.out.cell 0
  have e1 : Hid (W.cell? ⟨B, 1, none⟩ = some (.int .u64 h.flags)) := HB.out.cell 1
  have e2 : Hid (W.cell? ⟨B, 2, none⟩ = some (.int .i64 h.size)) := HB.out.cell 2
  have e3 : Hid (W.cell? ⟨B, 3, none⟩ = some (.int .i64 h.l1)) := HB.out.cell 3
  have e4 : Hid (W.cell? ⟨B, 4, none⟩ = some (.int .i64 h.l1len)) := HB.out.cell 4
  have e5 : Hid (W.cell? ⟨B, 5, none⟩ = some (.int .i64 h.order)) := HB.out.cell 5
  have e6 : Hid (W.cell? ⟨B, 6, none⟩ = some (.int .i64 h.counts)) := HB.out.cell 6
  have e7 : Hid (W.cell? ⟨B, 7, none⟩ = some (.int .i64 h.countslen)) := HB.out.cell 7
  have e8 : Hid (W.cell? ⟨B, 8, none⟩ = some (.int .i64 h.snaps)) := HB.out.cell 8
  have e9 : Hid (W.cell? ⟨B, 9, none⟩ = some (.int .i64 h.snapsat)) := HB.out.cell 9
  have e10 : Hid (W.cell? ⟨B, 10, none⟩ = some (.int .i64 h.snapslen)) := HB.out.cell 10
  have e11 : Hid (W.cell? ⟨B, 11, none⟩ = some (.int .i64 h.maps)) := HB.out.cell 11
  have e12 : Hid (W.cell? ⟨B, 12, none⟩ = some (.int .i64 h.mapsat)) := HB.out.cell 12
  have e13 : Hid (W.cell? ⟨B, 13, none⟩ = some (.int .i64 h.mapslen)) := HB.out.cell 13
  have e14 : Hid (W.cell? ⟨B, 14, none⟩ = some (.string h.name)) := HB.out.cell 14
  have h0 : Kp (fun _ => False) W W.drew := (Kp.refl _ _).drew
  change (Code.region 4 o35r4 true).wp _ _ _ _
  refine wp_region_plan (fun w' => Kp (fun _ => False) W w') [] c35r4 p35r4_0 hmix b35r4 d35r4 (fun _ _ d _ _ h => by cases d <;> exact h) ?_
  refine plan_take (o := q35r4_0) (r := p35r4_1) ?v0 h0 (by rfl) ?hy0 ?rest0
  case hy0 => (intro w _; simp only [q35r4_0]; go_simp; try with_reducible rfl)
  try simp only [q35r4_0, Act.put, List.setIfInBounds_toArray, List.set_cons_zero, List.set_cons_succ]
  refine plan_take (o := q35r4_1) (r := p35r4_2) ?v1 h0 (by rfl) ?hy1 ?rest1
  case hy1 => (intro w hSw; (try dsimp only at hSw); have c0 := hSw.cell e1.out; simp only [q35r4_1]; go_simp; try with_reducible rfl)
  try simp only [q35r4_1, Act.put, List.setIfInBounds_toArray, List.set_cons_zero, List.set_cons_succ]
  refine plan_take (o := q35r4_2) (r := p35r4_3) ?v2 h0 (by rfl) ?hy2 ?rest2
  case hy2 => (intro w _; simp only [q35r4_2]; go_simp; try with_reducible rfl)
  try simp only [q35r4_2, Act.put, List.setIfInBounds_toArray, List.set_cons_zero, List.set_cons_succ]
  refine plan_take (o := q35r4_3) (r := p35r4_4) ?v3 h0 (by rfl) ?hy3 ?rest3
  case hy3 => (intro w _; simp only [q35r4_3]; go_simp; try with_reducible rfl)
  try simp only [q35r4_3, Act.put, List.setIfInBounds_toArray, List.set_cons_zero, List.set_cons_succ]
  refine plan_take (o := q35r4_4) (r := p35r4_5) ?v4 h0 (by rfl) ?hy4 ?rest4
  case hy4 => (intro w _; simp only [q35r4_4]; go_simp; try with_reducible rfl)
  try simp only [q35r4_4, Act.put, List.setIfInBounds_toArray, List.set_cons_zero, List.set_cons_succ]
  refine plan_take (o := q35r4_5) (r := p35r4_6) ?v5 h0 (by rfl) ?hy5 ?rest5
  case hy5 => (intro w hSw; (try dsimp only at hSw); have c0 := hSw.cell e2.out; simp only [q35r4_5]; go_simp; try with_reducible rfl)
  try simp only [q35r4_5, Act.put, List.setIfInBounds_toArray, List.set_cons_zero, List.set_cons_succ]
  refine plan_take (o := q35r4_6) (r := p35r4_7) ?v6 h0 (by rfl) ?hy6 ?rest6
  case hy6 => (intro w _; simp only [q35r4_6]; go_simp; try with_reducible rfl)
  try simp only [q35r4_6, Act.put, List.setIfInBounds_toArray, List.set_cons_zero, List.set_cons_succ]
  refine plan_take (o := q35r4_7) (r := p35r4_8) ?v7 h0 (by rfl) ?hy7 ?rest7
  case hy7 => (intro w _; simp only [q35r4_7]; go_simp; try with_reducible rfl)
  try simp only [q35r4_7, Act.put, List.setIfInBounds_toArray, List.set_cons_zero, List.set_cons_succ]
  refine plan_take (o := q35r4_8) (r := p35r4_9) ?v8 h0 (by rfl) ?hy8 ?rest8
  case hy8 => (intro w hSw; (try dsimp only at hSw); have c0 := hSw.cell e4.out; simp only [q35r4_8]; go_simp; try with_reducible rfl)
  try simp only [q35r4_8, Act.put, List.setIfInBounds_toArray, List.set_cons_zero, List.set_cons_succ]
  refine plan_take (o := q35r4_9) (r := p35r4_10) (.agg h.cs) h0 (by rfl) ?hy9 ?rest9
  case hy9 => exact fun w hSw => exec_load_hd rfl rfl (HB.out.kp hSw (fun x => x))
  try simp only [q35r4_9, Act.put, List.setIfInBounds_toArray, List.set_cons_zero, List.set_cons_succ]
  refine plan_take (o := q35r4_12) (r := p35r4_11) ?v12 h0 (by rfl) ?hy12 ?rest12
  case hy12 => (intro w _; simp only [q35r4_12]; go_simp; try with_reducible rfl)
  try simp only [q35r4_12, Act.put, List.setIfInBounds_toArray, List.set_cons_zero, List.set_cons_succ]
  refine plan_take (o := q35r4_13) (r := p35r4_12) ?v13 h0 (by rfl) ?hy13 ?rest13
  case hy13 => (intro w _; simp only [q35r4_13]; go_simp; try with_reducible rfl)
  try simp only [q35r4_13, Act.put, List.setIfInBounds_toArray, List.set_cons_zero, List.set_cons_succ]
  refine plan_take (o := q35r4_14) (r := p35r4_13) ?v14 h0 (by rfl) ?hy14 ?rest14
  case hy14 => (intro w hSw; (try dsimp only at hSw); have c0 := hSw.cell e4.out; simp only [q35r4_14]; go_simp; try with_reducible rfl)
  try simp only [q35r4_14, Act.put, List.setIfInBounds_toArray, List.set_cons_zero, List.set_cons_succ]
  refine plan_take (o := q35r4_15) (r := p35r4_14) ?v15 h0 (by rfl) ?hy15 ?rest15
  case hy15 => (intro w _; simp only [q35r4_15]; go_simp; try with_reducible rfl)
  try simp only [q35r4_15, Act.put, List.setIfInBounds_toArray, List.set_cons_zero, List.set_cons_succ]
  refine plan_take (o := q35r4_16) (r := p35r4_15) ?v16 h0 (by rfl) ?hy16 ?rest16
  case hy16 => (intro w _; simp only [q35r4_16]; go_simp; try with_reducible rfl)
  try simp only [q35r4_16, Act.put, List.setIfInBounds_toArray, List.set_cons_zero, List.set_cons_succ]
  refine plan_take (o := q35r4_17) (r := p35r4_16) ?v17 h0 (by rfl) ?hy17 ?rest17
  case hy17 => (intro w hSw; (try dsimp only at hSw); have c0 := hSw.cell e3.out; simp only [q35r4_17]; go_simp; try with_reducible rfl)
  try simp only [q35r4_17, Act.put, List.setIfInBounds_toArray, List.set_cons_zero, List.set_cons_succ]
  refine plan_take (o := q35r4_20) (r := p35r4_17) ?v20 h0 (by rfl) ?hy20 ?rest20
  case hy20 => (intro w _; simp only [q35r4_20]; go_simp; try with_reducible rfl)
  try simp only [q35r4_20, Act.put, List.setIfInBounds_toArray, List.set_cons_zero, List.set_cons_succ]
  refine plan_take (o := q35r4_21) (r := p35r4_18) ?v21 h0 (by rfl) ?hy21 ?rest21
  case hy21 => (intro w hSw; (try dsimp only at hSw); have c0 := hSw.cell e5.out; simp only [q35r4_21]; go_simp; try with_reducible rfl)
  try simp only [q35r4_21, Act.put, List.setIfInBounds_toArray, List.set_cons_zero, List.set_cons_succ]
  refine plan_take (o := q35r4_22) (r := p35r4_19) ?v22 h0 (by rfl) ?hy22 ?rest22
  case hy22 => (intro w _; simp only [q35r4_22]; go_simp; try with_reducible rfl)
  try simp only [q35r4_22, Act.put, List.setIfInBounds_toArray, List.set_cons_zero, List.set_cons_succ]
  refine plan_take (o := q35r4_23) (r := p35r4_20) ?v23 h0 (by rfl) ?hy23 ?rest23
  case hy23 => (intro w _; simp only [q35r4_23]; go_simp; try with_reducible rfl)
  try simp only [q35r4_23, Act.put, List.setIfInBounds_toArray, List.set_cons_zero, List.set_cons_succ]
  refine plan_take (o := q35r4_24) (r := p35r4_21) ?v24 h0 (by rfl) ?hy24 ?rest24
  case hy24 => (intro w _; simp only [q35r4_24]; go_simp; try with_reducible rfl)
  try simp only [q35r4_24, Act.put, List.setIfInBounds_toArray, List.set_cons_zero, List.set_cons_succ]
  refine plan_take (o := q35r4_25) (r := p35r4_22) ?v25 h0 (by rfl) ?hy25 ?rest25
  case hy25 => (intro w hSw; (try dsimp only at hSw); have c0 := hSw.cell e6.out; simp only [q35r4_25]; go_simp; try with_reducible rfl)
  try simp only [q35r4_25, Act.put, List.setIfInBounds_toArray, List.set_cons_zero, List.set_cons_succ]
  refine plan_take (o := q35r4_27) (r := p35r4_23) ?v27 h0 (by rfl) ?hy27 ?rest27
  case hy27 => (intro w _; simp only [q35r4_27]; go_simp; try with_reducible rfl)
  try simp only [q35r4_27, Act.put, List.setIfInBounds_toArray, List.set_cons_zero, List.set_cons_succ]
  refine plan_take (o := q35r4_28) (r := p35r4_24) ?v28 h0 (by rfl) ?hy28 ?rest28
  case hy28 => (intro w hSw; (try dsimp only at hSw); have c0 := hSw.cell e7.out; simp only [q35r4_28]; go_simp; try with_reducible rfl)
  try simp only [q35r4_28, Act.put, List.setIfInBounds_toArray, List.set_cons_zero, List.set_cons_succ]
  refine plan_take (o := q35r4_29) (r := p35r4_25) ?v29 h0 (by rfl) ?hy29 ?rest29
  case hy29 => (intro w _; simp only [q35r4_29]; go_simp; try with_reducible rfl)
  try simp only [q35r4_29, Act.put, List.setIfInBounds_toArray, List.set_cons_zero, List.set_cons_succ]
  refine plan_take (o := q35r4_30) (r := p35r4_26) ?v30 h0 (by rfl) ?hy30 ?rest30
  case hy30 => (intro w _; simp only [q35r4_30]; go_simp; try with_reducible rfl)
  try simp only [q35r4_30, Act.put, List.setIfInBounds_toArray, List.set_cons_zero, List.set_cons_succ]
  refine plan_take (o := q35r4_31) (r := p35r4_27) ?v31 h0 (by rfl) ?hy31 ?rest31
  case hy31 => (intro w hSw; (try dsimp only at hSw); have c0 := hSw.cell e8.out; simp only [q35r4_31]; go_simp; try with_reducible rfl)
  try simp only [q35r4_31, Act.put, List.setIfInBounds_toArray, List.set_cons_zero, List.set_cons_succ]
  refine plan_take (o := q35r4_32) (r := p35r4_28) ?v32 h0 (by rfl) ?hy32 ?rest32
  case hy32 => (intro w _; simp only [q35r4_32]; go_simp; try with_reducible rfl)
  try simp only [q35r4_32, Act.put, List.setIfInBounds_toArray, List.set_cons_zero, List.set_cons_succ]
  refine plan_take (o := q35r4_33) (r := p35r4_29) ?v33 h0 (by rfl) ?hy33 ?rest33
  case hy33 => (intro w _; simp only [q35r4_33]; go_simp; try with_reducible rfl)
  try simp only [q35r4_33, Act.put, List.setIfInBounds_toArray, List.set_cons_zero, List.set_cons_succ]
  refine plan_take (o := q35r4_34) (r := p35r4_30) ?v34 h0 (by rfl) ?hy34 ?rest34
  case hy34 => (intro w _; simp only [q35r4_34]; go_simp; try with_reducible rfl)
  try simp only [q35r4_34, Act.put, List.setIfInBounds_toArray, List.set_cons_zero, List.set_cons_succ]
  refine plan_take (o := q35r4_35) (r := p35r4_31) ?v35 h0 (by rfl) ?hy35 ?rest35
  case hy35 => (intro w hSw; (try dsimp only at hSw); have c0 := hSw.cell e8.out; simp only [q35r4_35]; go_simp; try with_reducible rfl)
  try simp only [q35r4_35, Act.put, List.setIfInBounds_toArray, List.set_cons_zero, List.set_cons_succ]
  refine plan_take (o := q35r4_36) (r := p35r4_32) ?v36 h0 (by rfl) ?hy36 ?rest36
  case hy36 => (intro w _; simp only [q35r4_36]; go_simp; try with_reducible rfl)
  try simp only [q35r4_36, Act.put, List.setIfInBounds_toArray, List.set_cons_zero, List.set_cons_succ]
  refine plan_take (o := q35r4_37) (r := p35r4_33) ?v37 h0 (by rfl) ?hy37 ?rest37
  case hy37 => (intro w _; simp only [q35r4_37]; go_simp; try with_reducible rfl)
  try simp only [q35r4_37, Act.put, List.setIfInBounds_toArray, List.set_cons_zero, List.set_cons_succ]
  refine plan_take (o := q35r4_38) (r := p35r4_34) ?v38 h0 (by rfl) ?hy38 ?rest38
  case hy38 => (intro w hSw; (try dsimp only at hSw); have c0 := hSw.cell e9.out; simp only [q35r4_38]; go_simp; try with_reducible rfl)
  try simp only [q35r4_38, Act.put, List.setIfInBounds_toArray, List.set_cons_zero, List.set_cons_succ]
  refine plan_take (o := q35r4_41) (r := p35r4_35) ?v41 h0 (by rfl) ?hy41 ?rest41
  case hy41 => (intro w _; simp only [q35r4_41]; go_simp; try with_reducible rfl)
  try simp only [q35r4_41, Act.put, List.setIfInBounds_toArray, List.set_cons_zero, List.set_cons_succ]
  refine plan_take (o := q35r4_42) (r := p35r4_36) ?v42 h0 (by rfl) ?hy42 ?rest42
  case hy42 => (intro w _; simp only [q35r4_42]; go_simp; try with_reducible rfl)
  try simp only [q35r4_42, Act.put, List.setIfInBounds_toArray, List.set_cons_zero, List.set_cons_succ]
  refine plan_take (o := q35r4_43) (r := p35r4_37) ?v43 h0 (by rfl) ?hy43 ?rest43
  case hy43 => (intro w hSw; (try dsimp only at hSw); have c0 := hSw.cell e8.out; simp only [q35r4_43]; go_simp; try with_reducible rfl)
  try simp only [q35r4_43, Act.put, List.setIfInBounds_toArray, List.set_cons_zero, List.set_cons_succ]
  refine plan_take (o := q35r4_44) (r := p35r4_38) ?v44 h0 (by rfl) ?hy44 ?rest44
  case hy44 => (intro w _; simp only [q35r4_44]; go_simp; try with_reducible rfl)
  try simp only [q35r4_44, Act.put, List.setIfInBounds_toArray, List.set_cons_zero, List.set_cons_succ]
  refine plan_take (o := q35r4_45) (r := p35r4_39) ?v45 h0 (by rfl) ?hy45 ?rest45
  case hy45 => (intro w _; simp only [q35r4_45]; go_simp; try with_reducible rfl)
  try simp only [q35r4_45, Act.put, List.setIfInBounds_toArray, List.set_cons_zero, List.set_cons_succ]
  refine plan_take (o := q35r4_46) (r := p35r4_40) ?v46 h0 (by rfl) ?hy46 ?rest46
  case hy46 => (intro w hSw; (try dsimp only at hSw); have c0 := hSw.cell e10.out; simp only [q35r4_46]; go_simp; try with_reducible rfl)
  try simp only [q35r4_46, Act.put, List.setIfInBounds_toArray, List.set_cons_zero, List.set_cons_succ]
  refine plan_take (o := q35r4_49) (r := p35r4_41) ?v49 h0 (by rfl) ?hy49 ?rest49
  case hy49 => (intro w _; simp only [q35r4_49]; go_simp; try with_reducible rfl)
  try simp only [q35r4_49, Act.put, List.setIfInBounds_toArray, List.set_cons_zero, List.set_cons_succ]
  refine plan_take (o := q35r4_50) (r := p35r4_42) ?v50 h0 (by rfl) ?hy50 ?rest50
  case hy50 => (intro w hSw; (try dsimp only at hSw); have c0 := hSw.cell e11.out; simp only [q35r4_50]; go_simp; try with_reducible rfl)
  try simp only [q35r4_50, Act.put, List.setIfInBounds_toArray, List.set_cons_zero, List.set_cons_succ]
  refine plan_take (o := q35r4_51) (r := p35r4_43) ?v51 h0 (by rfl) ?hy51 ?rest51
  case hy51 => (intro w _; simp only [q35r4_51]; go_simp; try with_reducible rfl)
  try simp only [q35r4_51, Act.put, List.setIfInBounds_toArray, List.set_cons_zero, List.set_cons_succ]
  refine plan_take (o := q35r4_52) (r := p35r4_44) ?v52 h0 (by rfl) ?hy52 ?rest52
  case hy52 => (intro w _; simp only [q35r4_52]; go_simp; try with_reducible rfl)
  try simp only [q35r4_52, Act.put, List.setIfInBounds_toArray, List.set_cons_zero, List.set_cons_succ]
  refine plan_take (o := q35r4_53) (r := p35r4_45) ?v53 h0 (by rfl) ?hy53 ?rest53
  case hy53 => (intro w _; simp only [q35r4_53]; go_simp; try with_reducible rfl)
  try simp only [q35r4_53, Act.put, List.setIfInBounds_toArray, List.set_cons_zero, List.set_cons_succ]
  refine plan_take (o := q35r4_54) (r := p35r4_46) ?v54 h0 (by rfl) ?hy54 ?rest54
  case hy54 => (intro w hSw; (try dsimp only at hSw); have c0 := hSw.cell e11.out; simp only [q35r4_54]; go_simp; try with_reducible rfl)
  try simp only [q35r4_54, Act.put, List.setIfInBounds_toArray, List.set_cons_zero, List.set_cons_succ]
  refine plan_take (o := q35r4_55) (r := p35r4_47) ?v55 h0 (by rfl) ?hy55 ?rest55
  case hy55 => (intro w _; simp only [q35r4_55]; go_simp; try with_reducible rfl)
  try simp only [q35r4_55, Act.put, List.setIfInBounds_toArray, List.set_cons_zero, List.set_cons_succ]
  refine plan_take (o := q35r4_56) (r := p35r4_48) ?v56 h0 (by rfl) ?hy56 ?rest56
  case hy56 => (intro w _; simp only [q35r4_56]; go_simp; try with_reducible rfl)
  try simp only [q35r4_56, Act.put, List.setIfInBounds_toArray, List.set_cons_zero, List.set_cons_succ]
  refine plan_take (o := q35r4_57) (r := p35r4_49) ?v57 h0 (by rfl) ?hy57 ?rest57
  case hy57 => (intro w hSw; (try dsimp only at hSw); have c0 := hSw.cell e12.out; simp only [q35r4_57]; go_simp; try with_reducible rfl)
  try simp only [q35r4_57, Act.put, List.setIfInBounds_toArray, List.set_cons_zero, List.set_cons_succ]
  refine plan_take (o := q35r4_60) (r := p35r4_50) ?v60 h0 (by rfl) ?hy60 ?rest60
  case hy60 => (intro w _; simp only [q35r4_60]; go_simp; try with_reducible rfl)
  try simp only [q35r4_60, Act.put, List.setIfInBounds_toArray, List.set_cons_zero, List.set_cons_succ]
  refine plan_take (o := q35r4_61) (r := p35r4_51) ?v61 h0 (by rfl) ?hy61 ?rest61
  case hy61 => (intro w _; simp only [q35r4_61]; go_simp; try with_reducible rfl)
  try simp only [q35r4_61, Act.put, List.setIfInBounds_toArray, List.set_cons_zero, List.set_cons_succ]
  refine plan_take (o := q35r4_62) (r := p35r4_52) ?v62 h0 (by rfl) ?hy62 ?rest62
  case hy62 => (intro w hSw; (try dsimp only at hSw); have c0 := hSw.cell e11.out; simp only [q35r4_62]; go_simp; try with_reducible rfl)
  try simp only [q35r4_62, Act.put, List.setIfInBounds_toArray, List.set_cons_zero, List.set_cons_succ]
  refine plan_take (o := q35r4_63) (r := p35r4_53) ?v63 h0 (by rfl) ?hy63 ?rest63
  case hy63 => (intro w _; simp only [q35r4_63]; go_simp; try with_reducible rfl)
  try simp only [q35r4_63, Act.put, List.setIfInBounds_toArray, List.set_cons_zero, List.set_cons_succ]
  refine plan_take (o := q35r4_64) (r := p35r4_54) ?v64 h0 (by rfl) ?hy64 ?rest64
  case hy64 => (intro w _; simp only [q35r4_64]; go_simp; try with_reducible rfl)
  try simp only [q35r4_64, Act.put, List.setIfInBounds_toArray, List.set_cons_zero, List.set_cons_succ]
  refine plan_take (o := q35r4_65) (r := p35r4_55) ?v65 h0 (by rfl) ?hy65 ?rest65
  case hy65 => (intro w hSw; (try dsimp only at hSw); have c0 := hSw.cell e13.out; simp only [q35r4_65]; go_simp; try with_reducible rfl)
  try simp only [q35r4_65, Act.put, List.setIfInBounds_toArray, List.set_cons_zero, List.set_cons_succ]
  refine plan_take (o := q35r4_68) (r := p35r4_56) ?v68 h0 (by rfl) ?hy68 ?rest68
  case hy68 => (intro w _; simp only [q35r4_68]; go_simp; try with_reducible rfl)
  try simp only [q35r4_68, Act.put, List.setIfInBounds_toArray, List.set_cons_zero, List.set_cons_succ]
  refine plan_take (o := q35r4_69) (r := p35r4_57) ?v69 h0 (by rfl) ?hy69 ?rest69
  case hy69 => (intro w hSw; (try dsimp only at hSw); have c0 := hSw.cell e14.out; simp only [q35r4_69]; go_simp; try with_reducible rfl)
  try simp only [q35r4_69, Act.put, List.setIfInBounds_toArray, List.set_cons_zero, List.set_cons_succ]
  refine plan_take (o := q35r4_70) (r := p35r4_58) ?v70 h0 (by rfl) ?hy70 ?rest70
  case hy70 => (intro w _; simp only [q35r4_70]; go_simp; try with_reducible rfl)
  try simp only [q35r4_70, Act.put, List.setIfInBounds_toArray, List.set_cons_zero, List.set_cons_succ]
  refine plan_take (o := q35r4_71) (r := p35r4_59) ?v71 h0 (by rfl) ?hy71 ?rest71
  case hy71 => (intro w _; simp only [q35r4_71]; go_simp; try with_reducible rfl)
  try simp only [q35r4_71, Act.put, List.setIfInBounds_toArray, List.set_cons_zero, List.set_cons_succ]
  refine plan_act (o := q35r4_10) (r := p35r4_60) (fun K hK => ?_)
  simp only [q35r4_10]
  go_simp
  refine (tables_any h _ h9 h16 hs).mono ?_
  rintro _ w1 ⟨⟨t, rfl, ht, ht2⟩, k1⟩
  have HT := hid ht
  have HT2 := hid ht2
  clear ht ht2
  go_wp2_with fail
  refine hK.out _ _ (fun h => h.trans k1 (fun _ _ x => x)) ?_
  have S1 : Kp (fun _ => False) W w1 := h0.trans k1 (fun _ _ x => x)
  clear hK K
  refine plan_take (o := q35r4_11) (r := p35r4_61) ?v11 S1 (by rfl) ?hy11 ?rest11
  case hy11 => (intro w _; simp only [q35r4_11]; go_simp; try with_reducible rfl)
  try simp only [q35r4_11, Act.put, List.setIfInBounds_toArray, List.set_cons_zero, List.set_cons_succ]
  refine plan_act (o := q35r4_18) (r := p35r4_62) (fun K hK => ?_)
  simp only [q35r4_18]
  go_simp
  refine (place_rule h B h.l1 _ h9 h16 (HB.out.kp S1 (fun x => x))).mono ?_
  rintro _ w2 ⟨rfl, k2⟩
  go_wp2_with fail
  refine hK.out _ _ (fun h => h.trans k2 (fun _ _ x => x)) ?_
  have S2 : Kp (fun _ => False) W w2 := S1.trans k2 (fun _ _ x => x)
  clear hK K
  refine plan_act (o := q35r4_19) (r := p35r4_63) (fun K hK => ?_)
  simp only [q35r4_19]
  go_simp
  refine (nought_any h.l1len h.l1 (clu h.bits) 268435456 (clu h.bits) _).mono ?_
  rintro _ w3 ⟨⟨l3, m3, s3, rfl, n3a, n3b⟩, k3⟩
  have N3 : Hid (NU h.l1len (clu h.bits) 268435456 (clu h.bits) l3 m3 s3) := ⟨n3a, n3b⟩
  clear n3a n3b
  go_wp2_with fail
  refine hK.out _ _ (fun h => h.trans k3 (fun _ _ x => x)) ?_
  have S3 : Kp (fun _ => False) W w3 := S2.trans k3 (fun _ _ x => x)
  clear hK K
  refine plan_act (o := q35r4_26) (r := p35r4_64) (fun K hK => ?_)
  simp only [q35r4_26]
  go_simp
  refine (place_rule h B h.counts _ h9 h16 (HB.out.kp S3 (fun x => x))).mono ?_
  rintro _ w4 ⟨rfl, k4⟩
  go_wp2_with fail
  refine hK.out _ _ (fun h => h.trans k4 (fun _ _ x => x)) ?_
  have S4 : Kp (fun _ => False) W w4 := S3.trans k4 (fun _ _ x => x)
  clear hK K
  refine plan_act (o := q35r4_39) (r := p35r4_65) (fun K hK => ?_)
  simp only [q35r4_39]
  go_simp
  refine (place_rule h B h.snapsat _ h9 h16 (HB.out.kp S4 (fun x => x))).mono ?_
  rintro _ w5 ⟨rfl, k5⟩
  go_wp2_with fail
  refine hK.out _ _ (fun h => h.trans k5 (fun _ _ x => x)) ?_
  have S5 : Kp (fun _ => False) W w5 := S4.trans k5 (fun _ _ x => x)
  clear hK K
  refine plan_act (o := q35r4_40) (r := p35r4_66) (fun K hK => ?_)
  simp only [q35r4_40]
  go_simp
  refine (nought_any h.snaps h.snapsat (clu h.bits) 268435456 (clu h.bits) _).mono ?_
  rintro _ w6 ⟨⟨l8, m8, s8, rfl, n8a, n8b⟩, k6⟩
  have N8 : Hid (NU h.snaps (clu h.bits) 268435456 (clu h.bits) l8 m8 s8) := ⟨n8a, n8b⟩
  clear n8a n8b
  go_wp2_with fail
  refine hK.out _ _ (fun h => h.trans k6 (fun _ _ x => x)) ?_
  have S6 : Kp (fun _ => False) W w6 := S5.trans k6 (fun _ _ x => x)
  clear hK K
  refine plan_act (o := q35r4_47) (r := p35r4_67) (fun K hK => ?_)
  simp only [q35r4_47]
  go_simp
  refine (list_rule h.snapslen _).mono ?_
  rintro _ w7 ⟨rfl, k7⟩
  go_wp2_with fail
  refine hK.out _ _ (fun h => h.trans k7 (fun _ _ x => x)) ?_
  have S7 : Kp (fun _ => False) W w7 := S6.trans k7 (fun _ _ x => x)
  clear hK K
  refine plan_act (o := q35r4_48) (r := p35r4_68) (fun K hK => ?_)
  simp only [q35r4_48]
  go_simp
  refine (nought_any h.snaps h.snapslen 1 65536 1 _).mono ?_
  rintro _ w8 ⟨⟨l9, m9, s9, rfl, n9a, n9b⟩, k8⟩
  have N9 : Hid (NU h.snaps 1 65536 1 l9 m9 s9) := ⟨n9a, n9b⟩
  clear n9a n9b
  go_wp2_with fail
  refine hK.out _ _ (fun h => h.trans k8 (fun _ _ x => x)) ?_
  have S8 : Kp (fun _ => False) W w8 := S7.trans k8 (fun _ _ x => x)
  clear hK K
  refine plan_act (o := q35r4_58) (r := p35r4_69) (fun K hK => ?_)
  simp only [q35r4_58]
  go_simp
  refine (place_rule h B h.mapsat _ h9 h16 (HB.out.kp S8 (fun x => x))).mono ?_
  rintro _ w9 ⟨rfl, k9⟩
  go_wp2_with fail
  refine hK.out _ _ (fun h => h.trans k9 (fun _ _ x => x)) ?_
  have S9 : Kp (fun _ => False) W w9 := S8.trans k9 (fun _ _ x => x)
  clear hK K
  refine plan_act (o := q35r4_59) (r := p35r4_70) (fun K hK => ?_)
  simp only [q35r4_59]
  go_simp
  refine (nought_any h.maps h.mapsat (clu h.bits) 268435456 (clu h.bits) _).mono ?_
  rintro _ w10 ⟨⟨lb, mb, sb, rfl, nba, nbb⟩, k10⟩
  have Nb : Hid (NU h.maps (clu h.bits) 268435456 (clu h.bits) lb mb sb) := ⟨nba, nbb⟩
  clear nba nbb
  go_wp2_with fail
  refine hK.out _ _ (fun h => h.trans k10 (fun _ _ x => x)) ?_
  have S10 : Kp (fun _ => False) W w10 := S9.trans k10 (fun _ _ x => x)
  clear hK K
  refine plan_act (o := q35r4_66) (r := p35r4_71) (fun K hK => ?_)
  simp only [q35r4_66]
  go_simp
  refine (list_rule h.mapslen _).mono ?_
  rintro _ w11 ⟨rfl, k11⟩
  go_wp2_with fail
  refine hK.out _ _ (fun h => h.trans k11 (fun _ _ x => x)) ?_
  have S11 : Kp (fun _ => False) W w11 := S10.trans k11 (fun _ _ x => x)
  clear hK K
  refine plan_act (o := q35r4_67) (r := p35r4_72) (fun K hK => ?_)
  simp only [q35r4_67]
  go_simp
  refine (nought_any h.maps h.mapslen 1 65536 1 _).mono ?_
  rintro _ w12 ⟨⟨lc, mc, sc, rfl, nca, ncb⟩, k12⟩
  have Nc : Hid (NU h.maps 1 65536 1 lc mc sc) := ⟨nca, ncb⟩
  clear nca ncb
  go_wp2_with fail
  refine hK.out _ _ (fun h => h.trans k12 (fun _ _ x => x)) ?_
  have S12 : Kp (fun _ => False) W w12 := S11.trans k12 (fun _ _ x => x)
  clear hK K
  refine plan_act (o := q35r4_72) (r := p35r4_73) (fun K hK => ?_)
  rw [if_pos (by rfl)]
  refine wp_buildRows 50 53 _ 4 [rv (IntKind.i64.wrap h.flags) 0 1 1, rv h.size 0 67108864 512, rv h.l1len t 1048576 1, rv h.l1 l3 m3 s3, rv h.order 0 6 1, rv h.counts (clu h.bits) 268435456 (clu h.bits), rv h.countslen 1 65536 1, rv h.snaps 0 64 1, rv h.snapsat l8 m8 s8, rv h.snapslen l9 m9 s9, rv h.maps 0 64 1, rv h.mapsat lb mb sb, rv h.mapslen lc mc sc, rv (h.name.size : Int) 0 64 1] rfl (fun i => [10, 13, 18, 26, 29, 33, 36, 39, 47, 55, 58, 66, 74, 78].getD i 0) Try.underlying50 info53r (by kernel_rfl) (by decide) (by simp) (by simp) rfl (fun v hv => ?h1) (fun i hi => ?hev) ?_
  case h1 => simp only [List.mem_cons, List.not_mem_nil, or_false] at hv; rcases hv with rfl | rfl | rfl | rfl | rfl | rfl | rfl | rfl | rfl | rfl | rfl | rfl | rfl | rfl <;> rfl
  case hev => have hi14 : i < 14 := hi; rcases lt14 hi14 with rfl | rfl | rfl | rfl | rfl | rfl | rfl | rfl | rfl | rfl | rfl | rfl | rfl | rfl <;> rfl
  refine hK.out _ _ (fun h => h.alloc _) ?_
  clear hK K
  simp only [q35r4_72, Act.put, List.setIfInBounds_toArray, List.set_cons_zero, List.set_cons_succ, List.length_cons, List.length_nil]
  have SZ : Kp (fun _ => False) W (w12.alloc (.cells (List.flatMap (fun v => v.cells.toList) [rv (IntKind.i64.wrap h.flags) 0 1 1, rv h.size 0 67108864 512, rv h.l1len t 1048576 1, rv h.l1 l3 m3 s3, rv h.order 0 6 1, rv h.counts (clu h.bits) 268435456 (clu h.bits), rv h.countslen 1 65536 1, rv h.snaps 0 64 1, rv h.snapsat l8 m8 s8, rv h.snapslen l9 m9 s9, rv h.maps 0 64 1, rv h.mapsat lb mb sb, rv h.mapslen lc mc sc, rv (h.name.size : Int) 0 64 1]).toArray 53)) := S12.alloc _
  refine plan_take (o := q35r4_73) (r := p35r4_74) ?v73 SZ (by rfl) ?hy73 ?rest73
  case hy73 => (intro w _; simp only [q35r4_73]; go_simp; try with_reducible rfl)
  try simp only [q35r4_73, Act.put, List.setIfInBounds_toArray, List.set_cons_zero, List.set_cons_succ]
  refine plan_done ?_
  go_wp2_with fail
  go_ret
  refine ⟨w12.heap.size, _, rfl, ⟨t, l3, m3, s3, l8, m8, s8, l9, m9, s9, lb, mb, sb, lc, mc, sc, rfl, HT.out, HT2.out, N3.out, N8.out, N9.out, Nb.out, Nc.out⟩, ?_, St.new 53 w12 _, HK.out.trans SZ (fun _ _ x => x)⟩
  have := S12.size
  omega
end Go.Proofs.Ytejdmnhdjeogaaa
