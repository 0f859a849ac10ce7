/- head: the fields of a head. -/
import Derived.Test.YtejdmnhdjeogaaaFi
import Derived.Test.YtejdmnhdjeogaaaOb
namespace Go.Proofs.Ytejdmnhdjeogaaa
open Go.RowKit
set_option linter.unusedVariables false
set_option maxRecDepth 100000 in
set_option maxHeartbeats 8000000 in
theorem fields_any (g : Nat) (w : World) : Calls Try.prog 36 #[.pointer (some ⟨g, 0, none⟩)] w fun e w' => ∃ G, e = .returned (.slice (some ⟨G, 0, none⟩) 14 14) ∧ w.heap.size ≤ G ∧ St 60 w' G (fcs g).toArray ∧ Kp (fun _ => False) w w' := by
  go_enter Try.func36, Try.ntmps36
  go_wp2_with fail
  have h0 : Kp (fun _ => False) w w.drew := (Kp.refl _ _).drew
  change (Code.region 1 o36r1 true).wp _ _ _ _
  refine wp_region_plan (fun w' => Kp (fun _ => False) w w') [] c36r1 p36r1_0 hmix b36r1 d36r1 (fun _ _ d _ _ h => by cases d <;> exact h) ?_
  refine plan_take (o := q36r1_0) (r := p36r1_1) ?v0 h0 (by rfl) ?hy0 ?rest0
  case hy0 => (intro w _; simp only [q36r1_0]; go_simp; try with_reducible rfl)
  try simp only [q36r1_0, Act.put, List.setIfInBounds_toArray, List.set_cons_zero, List.set_cons_succ]
  refine plan_take (o := q36r1_1) (r := p36r1_2) ?v1 h0 (by rfl) ?hy1 ?rest1
  case hy1 => (intro w _; simp only [q36r1_1]; go_simp; try with_reducible rfl)
  try simp only [q36r1_1, Act.put, List.setIfInBounds_toArray, List.set_cons_zero, List.set_cons_succ]
  refine plan_take (o := q36r1_2) (r := p36r1_3) ?v2 h0 (by rfl) ?hy2 ?rest2
  case hy2 => (intro w _; simp only [q36r1_2]; go_simp; try with_reducible rfl)
  try simp only [q36r1_2, Act.put, List.setIfInBounds_toArray, List.set_cons_zero, List.set_cons_succ]
  refine plan_take (o := q36r1_4) (r := p36r1_4) ?v4 h0 (by rfl) ?hy4 ?rest4
  case hy4 => (intro w _; simp only [q36r1_4]; go_simp; try with_reducible rfl)
  try simp only [q36r1_4, Act.put, List.setIfInBounds_toArray, List.set_cons_zero, List.set_cons_succ]
  refine plan_take (o := q36r1_5) (r := p36r1_5) ?v5 h0 (by rfl) ?hy5 ?rest5
  case hy5 => (intro w _; simp only [q36r1_5]; go_simp; try with_reducible rfl)
  try simp only [q36r1_5, Act.put, List.setIfInBounds_toArray, List.set_cons_zero, List.set_cons_succ]
  refine plan_take (o := q36r1_6) (r := p36r1_6) ?v6 h0 (by rfl) ?hy6 ?rest6
  case hy6 => (intro w _; simp only [q36r1_6]; go_simp; try with_reducible rfl)
  try simp only [q36r1_6, Act.put, List.setIfInBounds_toArray, List.set_cons_zero, List.set_cons_succ]
  refine plan_take (o := q36r1_8) (r := p36r1_7) ?v8 h0 (by rfl) ?hy8 ?rest8
  case hy8 => (intro w _; simp only [q36r1_8]; go_simp; try with_reducible rfl)
  try simp only [q36r1_8, Act.put, List.setIfInBounds_toArray, List.set_cons_zero, List.set_cons_succ]
  refine plan_take (o := q36r1_9) (r := p36r1_8) ?v9 h0 (by rfl) ?hy9 ?rest9
  case hy9 => (intro w _; simp only [q36r1_9]; go_simp; try with_reducible rfl)
  try simp only [q36r1_9, Act.put, List.setIfInBounds_toArray, List.set_cons_zero, List.set_cons_succ]
  refine plan_take (o := q36r1_10) (r := p36r1_9) ?v10 h0 (by rfl) ?hy10 ?rest10
  case hy10 => (intro w _; simp only [q36r1_10]; go_simp; try with_reducible rfl)
  try simp only [q36r1_10, Act.put, List.setIfInBounds_toArray, List.set_cons_zero, List.set_cons_succ]
  refine plan_take (o := q36r1_12) (r := p36r1_10) ?v12 h0 (by rfl) ?hy12 ?rest12
  case hy12 => (intro w _; simp only [q36r1_12]; go_simp; try with_reducible rfl)
  try simp only [q36r1_12, Act.put, List.setIfInBounds_toArray, List.set_cons_zero, List.set_cons_succ]
  refine plan_take (o := q36r1_13) (r := p36r1_11) ?v13 h0 (by rfl) ?hy13 ?rest13
  case hy13 => (intro w _; simp only [q36r1_13]; go_simp; try with_reducible rfl)
  try simp only [q36r1_13, Act.put, List.setIfInBounds_toArray, List.set_cons_zero, List.set_cons_succ]
  refine plan_take (o := q36r1_14) (r := p36r1_12) ?v14 h0 (by rfl) ?hy14 ?rest14
  case hy14 => (intro w _; simp only [q36r1_14]; go_simp; try with_reducible rfl)
  try simp only [q36r1_14, Act.put, List.setIfInBounds_toArray, List.set_cons_zero, List.set_cons_succ]
  refine plan_take (o := q36r1_16) (r := p36r1_13) ?v16 h0 (by rfl) ?hy16 ?rest16
  case hy16 => (intro w _; simp only [q36r1_16]; go_simp; try with_reducible rfl)
  try simp only [q36r1_16, Act.put, List.setIfInBounds_toArray, List.set_cons_zero, List.set_cons_succ]
  refine plan_take (o := q36r1_17) (r := p36r1_14) ?v17 h0 (by rfl) ?hy17 ?rest17
  case hy17 => (intro w _; simp only [q36r1_17]; go_simp; try with_reducible rfl)
  try simp only [q36r1_17, Act.put, List.setIfInBounds_toArray, List.set_cons_zero, List.set_cons_succ]
  refine plan_take (o := q36r1_18) (r := p36r1_15) ?v18 h0 (by rfl) ?hy18 ?rest18
  case hy18 => (intro w _; simp only [q36r1_18]; go_simp; try with_reducible rfl)
  try simp only [q36r1_18, Act.put, List.setIfInBounds_toArray, List.set_cons_zero, List.set_cons_succ]
  refine plan_take (o := q36r1_20) (r := p36r1_16) ?v20 h0 (by rfl) ?hy20 ?rest20
  case hy20 => (intro w _; simp only [q36r1_20]; go_simp; try with_reducible rfl)
  try simp only [q36r1_20, Act.put, List.setIfInBounds_toArray, List.set_cons_zero, List.set_cons_succ]
  refine plan_take (o := q36r1_21) (r := p36r1_17) ?v21 h0 (by rfl) ?hy21 ?rest21
  case hy21 => (intro w _; simp only [q36r1_21]; go_simp; try with_reducible rfl)
  try simp only [q36r1_21, Act.put, List.setIfInBounds_toArray, List.set_cons_zero, List.set_cons_succ]
  refine plan_take (o := q36r1_22) (r := p36r1_18) ?v22 h0 (by rfl) ?hy22 ?rest22
  case hy22 => (intro w _; simp only [q36r1_22]; go_simp; try with_reducible rfl)
  try simp only [q36r1_22, Act.put, List.setIfInBounds_toArray, List.set_cons_zero, List.set_cons_succ]
  refine plan_take (o := q36r1_24) (r := p36r1_19) ?v24 h0 (by rfl) ?hy24 ?rest24
  case hy24 => (intro w _; simp only [q36r1_24]; go_simp; try with_reducible rfl)
  try simp only [q36r1_24, Act.put, List.setIfInBounds_toArray, List.set_cons_zero, List.set_cons_succ]
  refine plan_take (o := q36r1_25) (r := p36r1_20) ?v25 h0 (by rfl) ?hy25 ?rest25
  case hy25 => (intro w _; simp only [q36r1_25]; go_simp; try with_reducible rfl)
  try simp only [q36r1_25, Act.put, List.setIfInBounds_toArray, List.set_cons_zero, List.set_cons_succ]
  refine plan_take (o := q36r1_26) (r := p36r1_21) ?v26 h0 (by rfl) ?hy26 ?rest26
  case hy26 => (intro w _; simp only [q36r1_26]; go_simp; try with_reducible rfl)
  try simp only [q36r1_26, Act.put, List.setIfInBounds_toArray, List.set_cons_zero, List.set_cons_succ]
  refine plan_take (o := q36r1_28) (r := p36r1_22) ?v28 h0 (by rfl) ?hy28 ?rest28
  case hy28 => (intro w _; simp only [q36r1_28]; go_simp; try with_reducible rfl)
  try simp only [q36r1_28, Act.put, List.setIfInBounds_toArray, List.set_cons_zero, List.set_cons_succ]
  refine plan_take (o := q36r1_29) (r := p36r1_23) ?v29 h0 (by rfl) ?hy29 ?rest29
  case hy29 => (intro w _; simp only [q36r1_29]; go_simp; try with_reducible rfl)
  try simp only [q36r1_29, Act.put, List.setIfInBounds_toArray, List.set_cons_zero, List.set_cons_succ]
  refine plan_take (o := q36r1_30) (r := p36r1_24) ?v30 h0 (by rfl) ?hy30 ?rest30
  case hy30 => (intro w _; simp only [q36r1_30]; go_simp; try with_reducible rfl)
  try simp only [q36r1_30, Act.put, List.setIfInBounds_toArray, List.set_cons_zero, List.set_cons_succ]
  refine plan_take (o := q36r1_32) (r := p36r1_25) ?v32 h0 (by rfl) ?hy32 ?rest32
  case hy32 => (intro w _; simp only [q36r1_32]; go_simp; try with_reducible rfl)
  try simp only [q36r1_32, Act.put, List.setIfInBounds_toArray, List.set_cons_zero, List.set_cons_succ]
  refine plan_take (o := q36r1_33) (r := p36r1_26) ?v33 h0 (by rfl) ?hy33 ?rest33
  case hy33 => (intro w _; simp only [q36r1_33]; go_simp; try with_reducible rfl)
  try simp only [q36r1_33, Act.put, List.setIfInBounds_toArray, List.set_cons_zero, List.set_cons_succ]
  refine plan_take (o := q36r1_34) (r := p36r1_27) ?v34 h0 (by rfl) ?hy34 ?rest34
  case hy34 => (intro w _; simp only [q36r1_34]; go_simp; try with_reducible rfl)
  try simp only [q36r1_34, Act.put, List.setIfInBounds_toArray, List.set_cons_zero, List.set_cons_succ]
  refine plan_take (o := q36r1_36) (r := p36r1_28) ?v36 h0 (by rfl) ?hy36 ?rest36
  case hy36 => (intro w _; simp only [q36r1_36]; go_simp; try with_reducible rfl)
  try simp only [q36r1_36, Act.put, List.setIfInBounds_toArray, List.set_cons_zero, List.set_cons_succ]
  refine plan_take (o := q36r1_37) (r := p36r1_29) ?v37 h0 (by rfl) ?hy37 ?rest37
  case hy37 => (intro w _; simp only [q36r1_37]; go_simp; try with_reducible rfl)
  try simp only [q36r1_37, Act.put, List.setIfInBounds_toArray, List.set_cons_zero, List.set_cons_succ]
  refine plan_take (o := q36r1_38) (r := p36r1_30) ?v38 h0 (by rfl) ?hy38 ?rest38
  case hy38 => (intro w _; simp only [q36r1_38]; go_simp; try with_reducible rfl)
  try simp only [q36r1_38, Act.put, List.setIfInBounds_toArray, List.set_cons_zero, List.set_cons_succ]
  refine plan_take (o := q36r1_40) (r := p36r1_31) ?v40 h0 (by rfl) ?hy40 ?rest40
  case hy40 => (intro w _; simp only [q36r1_40]; go_simp; try with_reducible rfl)
  try simp only [q36r1_40, Act.put, List.setIfInBounds_toArray, List.set_cons_zero, List.set_cons_succ]
  refine plan_take (o := q36r1_41) (r := p36r1_32) ?v41 h0 (by rfl) ?hy41 ?rest41
  case hy41 => (intro w _; simp only [q36r1_41]; go_simp; try with_reducible rfl)
  try simp only [q36r1_41, Act.put, List.setIfInBounds_toArray, List.set_cons_zero, List.set_cons_succ]
  refine plan_take (o := q36r1_42) (r := p36r1_33) ?v42 h0 (by rfl) ?hy42 ?rest42
  case hy42 => (intro w _; simp only [q36r1_42]; go_simp; try with_reducible rfl)
  try simp only [q36r1_42, Act.put, List.setIfInBounds_toArray, List.set_cons_zero, List.set_cons_succ]
  refine plan_take (o := q36r1_44) (r := p36r1_34) ?v44 h0 (by rfl) ?hy44 ?rest44
  case hy44 => (intro w _; simp only [q36r1_44]; go_simp; try with_reducible rfl)
  try simp only [q36r1_44, Act.put, List.setIfInBounds_toArray, List.set_cons_zero, List.set_cons_succ]
  refine plan_take (o := q36r1_45) (r := p36r1_35) ?v45 h0 (by rfl) ?hy45 ?rest45
  case hy45 => (intro w _; simp only [q36r1_45]; go_simp; try with_reducible rfl)
  try simp only [q36r1_45, Act.put, List.setIfInBounds_toArray, List.set_cons_zero, List.set_cons_succ]
  refine plan_take (o := q36r1_46) (r := p36r1_36) ?v46 h0 (by rfl) ?hy46 ?rest46
  case hy46 => (intro w _; simp only [q36r1_46]; go_simp; try with_reducible rfl)
  try simp only [q36r1_46, Act.put, List.setIfInBounds_toArray, List.set_cons_zero, List.set_cons_succ]
  refine plan_take (o := q36r1_48) (r := p36r1_37) ?v48 h0 (by rfl) ?hy48 ?rest48
  case hy48 => (intro w _; simp only [q36r1_48]; go_simp; try with_reducible rfl)
  try simp only [q36r1_48, Act.put, List.setIfInBounds_toArray, List.set_cons_zero, List.set_cons_succ]
  refine plan_take (o := q36r1_49) (r := p36r1_38) ?v49 h0 (by rfl) ?hy49 ?rest49
  case hy49 => (intro w _; simp only [q36r1_49]; go_simp; try with_reducible rfl)
  try simp only [q36r1_49, Act.put, List.setIfInBounds_toArray, List.set_cons_zero, List.set_cons_succ]
  refine plan_take (o := q36r1_50) (r := p36r1_39) ?v50 h0 (by rfl) ?hy50 ?rest50
  case hy50 => (intro w _; simp only [q36r1_50]; go_simp; try with_reducible rfl)
  try simp only [q36r1_50, Act.put, List.setIfInBounds_toArray, List.set_cons_zero, List.set_cons_succ]
  refine plan_take (o := q36r1_52) (r := p36r1_40) ?v52 h0 (by rfl) ?hy52 ?rest52
  case hy52 => (intro w _; simp only [q36r1_52]; go_simp; try with_reducible rfl)
  try simp only [q36r1_52, Act.put, List.setIfInBounds_toArray, List.set_cons_zero, List.set_cons_succ]
  refine plan_take (o := q36r1_53) (r := p36r1_41) ?v53 h0 (by rfl) ?hy53 ?rest53
  case hy53 => (intro w _; simp only [q36r1_53]; go_simp; try with_reducible rfl)
  try simp only [q36r1_53, Act.put, List.setIfInBounds_toArray, List.set_cons_zero, List.set_cons_succ]
  refine plan_take (o := q36r1_54) (r := p36r1_42) ?v54 h0 (by rfl) ?hy54 ?rest54
  case hy54 => (intro w _; simp only [q36r1_54]; go_simp; try with_reducible rfl)
  try simp only [q36r1_54, Act.put, List.setIfInBounds_toArray, List.set_cons_zero, List.set_cons_succ]
  refine plan_act (o := q36r1_3) (r := p36r1_43) (fun K hK => ?_)
  simp only [q36r1_3]
  go_simp
  refine (at_48 4 4 g 0 _).mono ?_
  rintro _ w1 ⟨rfl, k1⟩
  go_wp2_with fail
  refine hK.out _ _ (fun h => h.trans k1 (fun _ _ x => x)) ?_
  have S1 : Kp (fun _ => False) w w1 := h0.trans k1 (fun _ _ x => x)
  clear hK K
  refine plan_act (o := q36r1_7) (r := p36r1_44) (fun K hK => ?_)
  simp only [q36r1_7]
  go_simp
  refine (at_49 8 8 g 1 _).mono ?_
  rintro _ w2 ⟨rfl, k2⟩
  go_wp2_with fail
  refine hK.out _ _ (fun h => h.trans k2 (fun _ _ x => x)) ?_
  have S2 : Kp (fun _ => False) w w2 := S1.trans k2 (fun _ _ x => x)
  clear hK K
  refine plan_act (o := q36r1_11) (r := p36r1_45) (fun K hK => ?_)
  simp only [q36r1_11]
  go_simp
  refine (at_50 16 8 g 2 _).mono ?_
  rintro _ w3 ⟨rfl, k3⟩
  go_wp2_with fail
  refine hK.out _ _ (fun h => h.trans k3 (fun _ _ x => x)) ?_
  have S3 : Kp (fun _ => False) w w3 := S2.trans k3 (fun _ _ x => x)
  clear hK K
  refine plan_act (o := q36r1_15) (r := p36r1_46) (fun K hK => ?_)
  simp only [q36r1_15]
  go_simp
  refine (at_50 24 8 g 3 _).mono ?_
  rintro _ w4 ⟨rfl, k4⟩
  go_wp2_with fail
  refine hK.out _ _ (fun h => h.trans k4 (fun _ _ x => x)) ?_
  have S4 : Kp (fun _ => False) w w4 := S3.trans k4 (fun _ _ x => x)
  clear hK K
  refine plan_act (o := q36r1_19) (r := p36r1_47) (fun K hK => ?_)
  simp only [q36r1_19]
  go_simp
  refine (at_48 32 4 g 4 _).mono ?_
  rintro _ w5 ⟨rfl, k5⟩
  go_wp2_with fail
  refine hK.out _ _ (fun h => h.trans k5 (fun _ _ x => x)) ?_
  have S5 : Kp (fun _ => False) w w5 := S4.trans k5 (fun _ _ x => x)
  clear hK K
  refine plan_act (o := q36r1_23) (r := p36r1_48) (fun K hK => ?_)
  simp only [q36r1_23]
  go_simp
  refine (at_48 36 4 g 5 _).mono ?_
  rintro _ w6 ⟨rfl, k6⟩
  go_wp2_with fail
  refine hK.out _ _ (fun h => h.trans k6 (fun _ _ x => x)) ?_
  have S6 : Kp (fun _ => False) w w6 := S5.trans k6 (fun _ _ x => x)
  clear hK K
  refine plan_act (o := q36r1_27) (r := p36r1_49) (fun K hK => ?_)
  simp only [q36r1_27]
  go_simp
  refine (at_50 40 8 g 6 _).mono ?_
  rintro _ w7 ⟨rfl, k7⟩
  go_wp2_with fail
  refine hK.out _ _ (fun h => h.trans k7 (fun _ _ x => x)) ?_
  have S7 : Kp (fun _ => False) w w7 := S6.trans k7 (fun _ _ x => x)
  clear hK K
  refine plan_act (o := q36r1_31) (r := p36r1_50) (fun K hK => ?_)
  simp only [q36r1_31]
  go_simp
  refine (at_48 48 4 g 7 _).mono ?_
  rintro _ w8 ⟨rfl, k8⟩
  go_wp2_with fail
  refine hK.out _ _ (fun h => h.trans k8 (fun _ _ x => x)) ?_
  have S8 : Kp (fun _ => False) w w8 := S7.trans k8 (fun _ _ x => x)
  clear hK K
  refine plan_act (o := q36r1_35) (r := p36r1_51) (fun K hK => ?_)
  simp only [q36r1_35]
  go_simp
  refine (at_48 52 4 g 8 _).mono ?_
  rintro _ w9 ⟨rfl, k9⟩
  go_wp2_with fail
  refine hK.out _ _ (fun h => h.trans k9 (fun _ _ x => x)) ?_
  have S9 : Kp (fun _ => False) w w9 := S8.trans k9 (fun _ _ x => x)
  clear hK K
  refine plan_act (o := q36r1_39) (r := p36r1_52) (fun K hK => ?_)
  simp only [q36r1_39]
  go_simp
  refine (at_50 56 8 g 9 _).mono ?_
  rintro _ w10 ⟨rfl, k10⟩
  go_wp2_with fail
  refine hK.out _ _ (fun h => h.trans k10 (fun _ _ x => x)) ?_
  have S10 : Kp (fun _ => False) w w10 := S9.trans k10 (fun _ _ x => x)
  clear hK K
  refine plan_act (o := q36r1_43) (r := p36r1_53) (fun K hK => ?_)
  simp only [q36r1_43]
  go_simp
  refine (at_48 64 4 g 10 _).mono ?_
  rintro _ w11 ⟨rfl, k11⟩
  go_wp2_with fail
  refine hK.out _ _ (fun h => h.trans k11 (fun _ _ x => x)) ?_
  have S11 : Kp (fun _ => False) w w11 := S10.trans k11 (fun _ _ x => x)
  clear hK K
  refine plan_act (o := q36r1_47) (r := p36r1_54) (fun K hK => ?_)
  simp only [q36r1_47]
  go_simp
  refine (at_48 68 4 g 11 _).mono ?_
  rintro _ w12 ⟨rfl, k12⟩
  go_wp2_with fail
  refine hK.out _ _ (fun h => h.trans k12 (fun _ _ x => x)) ?_
  have S12 : Kp (fun _ => False) w w12 := S11.trans k12 (fun _ _ x => x)
  clear hK K
  refine plan_act (o := q36r1_51) (r := p36r1_55) (fun K hK => ?_)
  simp only [q36r1_51]
  go_simp
  refine (at_50 72 8 g 12 _).mono ?_
  rintro _ w13 ⟨rfl, k13⟩
  go_wp2_with fail
  refine hK.out _ _ (fun h => h.trans k13 (fun _ _ x => x)) ?_
  have S13 : Kp (fun _ => False) w w13 := S12.trans k13 (fun _ _ x => x)
  clear hK K
  refine plan_act (o := q36r1_55) (r := p36r1_56) (fun K hK => ?_)
  simp only [q36r1_55]
  go_simp
  refine (at_48 80 4 g 13 _).mono ?_
  rintro _ w14 ⟨rfl, k14⟩
  go_wp2_with fail
  refine hK.out _ _ (fun h => h.trans k14 (fun _ _ x => x)) ?_
  have S14 : Kp (fun _ => False) w w14 := S13.trans k14 (fun _ _ x => x)
  clear hK K
  refine plan_act (o := q36r1_56) (r := p36r1_57) (fun K hK => ?_)
  rw [if_pos (by rfl)]
  refine wp_buildRows 54 60 _ 4 [Value.agg (fc 4 4 55 g 0), Value.agg (fc 8 8 57 g 1), Value.agg (fc 16 8 59 g 2), Value.agg (fc 24 8 59 g 3), Value.agg (fc 32 4 55 g 4), Value.agg (fc 36 4 55 g 5), Value.agg (fc 40 8 59 g 6), Value.agg (fc 48 4 55 g 7), Value.agg (fc 52 4 55 g 8), Value.agg (fc 56 8 59 g 9), Value.agg (fc 64 4 55 g 10), Value.agg (fc 68 4 55 g 11), Value.agg (fc 72 8 59 g 12), Value.agg (fc 80 4 55 g 13)] rfl (fun i => [6, 10, 14, 18, 22, 26, 30, 34, 38, 42, 46, 50, 54, 58].getD i 0) Try.underlying54 info60 (by kernel_rfl) (by decide) (by simp) (by simp) rfl (fun v hv => ?h1) (fun i hi => ?hev) ?_
  case h1 => simp only [List.mem_cons, List.not_mem_nil, or_false] at hv; rcases hv with rfl | rfl | rfl | rfl | rfl | rfl | rfl | rfl | rfl | rfl | rfl | rfl | rfl | rfl <;> rfl
  case hev => have hi14 : i < 14 := hi; rcases lt14 hi14 with rfl | rfl | rfl | rfl | rfl | rfl | rfl | rfl | rfl | rfl | rfl | rfl | rfl | rfl <;> rfl
  refine hK.out _ _ (fun h => h.alloc _) ?_
  clear hK K
  simp only [q36r1_56, Act.put, List.setIfInBounds_toArray, List.set_cons_zero, List.set_cons_succ, List.length_cons, List.length_nil]
  have SZ : Kp (fun _ => False) w (w14.alloc (.cells (List.flatMap (fun (v : Value) => v.cells.toList) [Value.agg (fc 4 4 55 g 0), Value.agg (fc 8 8 57 g 1), Value.agg (fc 16 8 59 g 2), Value.agg (fc 24 8 59 g 3), Value.agg (fc 32 4 55 g 4), Value.agg (fc 36 4 55 g 5), Value.agg (fc 40 8 59 g 6), Value.agg (fc 48 4 55 g 7), Value.agg (fc 52 4 55 g 8), Value.agg (fc 56 8 59 g 9), Value.agg (fc 64 4 55 g 10), Value.agg (fc 68 4 55 g 11), Value.agg (fc 72 8 59 g 12), Value.agg (fc 80 4 55 g 13)]).toArray 60)) := S14.alloc _
  refine plan_take (o := q36r1_57) (r := p36r1_58) ?v57 SZ (by rfl) ?hy57 ?rest57
  case hy57 => (intro w _; simp only [q36r1_57]; go_simp; try with_reducible rfl)
  try simp only [q36r1_57, Act.put, List.setIfInBounds_toArray, List.set_cons_zero, List.set_cons_succ]
  refine plan_done ?_
  go_wp2_with fail
  go_ret
  refine ⟨w14.heap.size, rfl, S14.size, St.new 60 w14 _, SZ⟩
end Go.Proofs.Ytejdmnhdjeogaaa
