/- huff.New of any lengths. -/
import Derived.Test.YthpocbpleffdpaaDt
import Derived.Test.YthpocbpleffdpaaDy
import Derived.Test.YthpocbpleffdpaaNe
namespace Go.Proofs.Ythpocbpleffdpaa
open Go.RowKit
set_option linter.unusedVariables false
set_option linter.unusedSimpArgs false
theorem list16 {l : List Int} (h : l.length = 16) : ∃ m0 m1 m2 m3 m4 m5 m6 m7 m8 m9 m10 m11 m12 m13 m14 m15, l = [m0, m1, m2, m3, m4, m5, m6, m7, m8, m9, m10, m11, m12, m13, m14, m15] := by
  match l, h with
  | [m0, m1, m2, m3, m4, m5, m6, m7, m8, m9, m10, m11, m12, m13, m14, m15], _ => exact ⟨m0, m1, m2, m3, m4, m5, m6, m7, m8, m9, m10, m11, m12, m13, m14, m15, rfl⟩
theorem wpList_arr_newk {ops : Array Oper} {rest : List Oper} {o : Oper} {a : Act} {Q : Exit → Act → World → Prop} (w w3 : World) (Z : Array Value) (hZ : Z.size = 16) (A : List Int) (hA : A.length = 16) (hgd : o.guard = none) (x y : Operand) (ho : o.op = .store 77 x y) (hx : a.eval x = .pointer (some ⟨w3.heap.size, 0, none⟩)) (hy : a.eval y = .agg (A.map (Value.int .i64)).toArray) (hB : Below w.heap.size w w3)
    (h : ∀ w4, Rw .i64 77 w4 w3.heap.size A → Below w.heap.size w w4 → Kp (fun i => i = w3.heap.size) w3 w4 → wpList Try.prog ops Q rest (a.put o.dst undef) w4) : wpList Try.prog ops Q (o :: rest) a (w3.alloc (.cells Z 77)) := by
  have hsz : ((A.map (Value.int .i64)).toArray).size = 16 := by simp [hA]
  have k : Kp (fun i => i = w3.heap.size) w3 ((w3.alloc (.cells Z 77)).setRow w3.heap.size (A.map (Value.int .i64)).toArray) := ((Kp.refl _ _).alloc _).trans ⟨rfl, rfl, rfl, by simp, fun k _ hk => Go.setRow_other _ _ _ _ hk⟩ (fun _ _ e => e)
  exact wpList_store_row hgd 77 x y ho w3.heap.size (A.map (Value.int .i64)).toArray hx hy 77 Z (heap_alloc_new w3 _) (by rw [hsz]; exact info77) (by rw [hsz, hZ]) (ints_one _ _) (h _ (setRow_heap _ _ _ _ 77 _ (heap_alloc_new w3 _)) (ce_bel hB) k)
set_option maxRecDepth 100000 in
set_option maxHeartbeats 4000000 in
theorem clone_some (ad : Addr) (cap : Nat) (zs : List Int) (w : World) (hl : zs.length ≤ 1000000) (hs : Src .i64 w (some ad) zs) : Calls Try.prog 54 #[.slice (some ad) zs.length cap] w fun e w' => ∃ ao c, e = .returned (.slice ao zs.length c) ∧ (∀ b off, ao = some ⟨b, off, none⟩ → w.heap.size ≤ b ∧ b < w'.heap.size) ∧ Src .i64 w' ao zs ∧ zs.length ≤ c ∧ Below w.heap.size w w' := by
  have hsrc0 : Src .i64 (w.alloc (.cells #[] 3)) (some ad) zs := hs.below ((Below.refl _ _).alloc (Nat.le_refl _) _)
  clear hs
  have hnn : ∀ U : World, (binOp .eql 22 (.slice (some ad) zs.length cap) (.slice none 0 0)).run Try.prog U = .ok (.bool false) U := fun _ => rfl
  go_enter Try.func54, Try.ntmps54
  go_wp2_with (first | (at_builtin; refine wpList_append_i 22 3 8 Try.underlying22 infoI (by decide) rfl (.tmp 5) (.tmp 6) rfl w.heap.size (.slice (some ⟨w.heap.size, 0, none⟩) 0 0) [] rfl (own_empty .i64 3 w) _ _ _ zs rfl rfl (fun e => by cases e) hsrc0 (by simp; omega) (by simp) ?_; intro v1 w1 o1 q1 n1 b1))
  go_ret
  rw [List.nil_append] at o1
  rcases o1 with ⟨hv, h2⟩ | ⟨g, cap, tl, rfl, h3, h4, h5, h6⟩
  · subst h2 hv
    exact ⟨none, 0, rfl, fun b off e => (by cases e), Src.nil _ _ _, Nat.le_refl _, ((Below.refl w.heap.size w).alloc (Nat.le_refl _) _).trans b1⟩
  · refine ⟨some ⟨g, 0, none⟩, cap, rfl, fun b off e => (by cases e; exact ⟨h3, h4.lt⟩), row_src h4, by rw [← h5, List.length_append]; omega, ((Below.refl w.heap.size w).alloc (Nat.le_refl _) _).trans b1⟩

set_option maxRecDepth 100000 in
set_option maxHeartbeats 16000000 in
theorem new_ok (ad : Addr) (cap : Nat) (zs : List Int) (w : World) (hs : Src .i64 w (some ad) zs) (hm : may zs = 0) (hw : Wi 15 zs) (hl : zs.length ≤ 320) : Calls Try.prog 26 #[.slice (some ad) zs.length cap] w fun e w' => ∃ g la ca sa lc cc sc S, e = .returned (.tuple #[.pointer (some ⟨g, 0, none⟩), .int .i64 0]) ∧ Cd w' g la ca sa lc cc sc zs S ∧ (∀ i, Cdf g la ca sa i → w.heap.size ≤ i ∧ i < w'.heap.size) ∧ (∀ b off, la = some ⟨b, off, none⟩ → b ≠ g ∧ ∀ off', ca ≠ some ⟨b, off', none⟩) ∧ Below w.heap.size w w' := by
  have HWI := hid hw
  have HCO := hid (codes_ok (some ad) cap zs w hs hm hw hl)
  have HNU : Hid (∀ U, Below w.heap.size w U → Calls Try.prog 47 #[.slice (some ad) zs.length cap] U fun e w' => e = .returned (.agg ((cl (cds zs zs.length)).map (Value.int .i64)).toArray) ∧ Below U.heap.size U w') := fun U hU => numbered_any (some ad) cap zs U (by omega) (hs.below hU) hw
  have HS := hid hs
  obtain ⟨M, hM⟩ : ∃ M, M = cl (cds zs zs.length) := ⟨_, rfl⟩
  have hMl : M.length = 16 := by rw [hM]; exact cl_length _
  rw [← hM] at HNU
  have HMM := hid hM
  clear hs hM hw hm
  go_enter Try.func26, Try.ntmps26
  generalize hC5 : Code.region 5 _ _ = C5
  go_wp2_with (first | (go_at_call 10; refine HCO.out.mono ?_; rintro e w1 ⟨gc, rfl, hgc, rc1, b1⟩; have B1 := hid b1; have RC1 := hid rc1; have HGC := hid hgc; clear b1 rc1 hgc) | (go_at_call 47; refine (HNU.out w1 B1.out).mono ?_; rintro e w2 ⟨rfl, b2⟩; have B2 := hid (B1.out.trans (b2.mono B1.out.size)); have RC2 := hid (RC1.out.below b2 RC1.out.lt); clear b2) | (refine wpList_arr_newk w w2 _ rfl M hMl rfl (.tmp 6) (.tmp 16) rfl rfl rfl B2.out ?_; intro X r4 b4 k4; have R4 := hid r4; have B4 := hid b4; have RC4 := hid (RC2.out.kp k4 (by have := RC2.out.lt; omega)); clear r4 b4 k4))
  subst hC5
  obtain ⟨m0, m1, m2, m3, m4, m5, m6, m7, m8, m9, m10, m11, m12, m13, m14, m15, rfl⟩ := list16 hMl
  obtain ⟨B0, hB0⟩ : ∃ B0, B0 = X.heap.size := ⟨_, rfl⟩
  have H0 : Hid (Below B0 X X.drew) := ⟨rfl, rfl, rfl, Nat.le_refl _, fun _ _ => rfl⟩
  have HTR : Hid (∀ U V : World, Below B0 X U → Below U.heap.size U V → Below B0 X V) := fun U V h k => h.trans (k.mono (by rw [hB0]; exact h.size))
  have HSX : Hid (∀ U, Below B0 X U → Src .i64 U (some ad) zs) := fun U hU => (HS.out.below B4.out).below (by rw [← hB0]; exact hU)
  have HCL : Hid (∀ U, Below B0 X U → Calls Try.prog 54 #[.slice (some ad) zs.length cap] U fun e w' => ∃ ao c, e = .returned (.slice ao zs.length c) ∧ (∀ b off, ao = some ⟨b, off, none⟩ → U.heap.size ≤ b ∧ b < w'.heap.size) ∧ Src .i64 w' ao zs ∧ zs.length ≤ c ∧ Below U.heap.size U w') := fun U hU => clone_some ad cap zs U (by omega) (HSX.out U hU)
  have HWE : Hid (∀ U, Below B0 X U → Calls Try.prog 44 #[.slice (some ad) zs.length cap] U fun e w' => e = .returned (.int .i64 (wgt zs : Int)) ∧ Below U.heap.size U w') := fun U hU => weight_any (some ad) cap zs U (by omega) (HSX.out U hU) HWI.out
  have HBY : Hid (∀ U, Below B0 X U → Calls Try.prog 55 #[.slice (some ad) zs.length cap, .agg #[.int .i64 m0, .int .i64 m1, .int .i64 m2, .int .i64 m3, .int .i64 m4, .int .i64 m5, .int .i64 m6, .int .i64 m7, .int .i64 m8, .int .i64 m9, .int .i64 m10, .int .i64 m11, .int .i64 m12, .int .i64 m13, .int .i64 m14, .int .i64 m15]] U fun e w' => ∃ g S, e = .returned (.slice (some ⟨g, 0, none⟩) S.length S.length) ∧ U.heap.size ≤ g ∧ Rw .i64 3 w' g S ∧ Byc zs S ∧ Below U.heap.size U w') := fun U hU => by
    have := bycode_any (some ad) cap zs U (HSX.out U hU) HWI.out hl
    rw [← HMM.out] at this
    exact this
  have HLD : Hid (∀ U, Below B0 X U → (loadVar 77 ⟨w2.heap.size, 0, none⟩).run Try.prog U = .ok (.agg #[.int .i64 m0, .int .i64 m1, .int .i64 m2, .int .i64 m3, .int .i64 m4, .int .i64 m5, .int .i64 m6, .int .i64 m7, .int .i64 m8, .int .i64 m9, .int .i64 m10, .int .i64 m11, .int .i64 m12, .int .i64 m13, .int .i64 m14, .int .i64 m15]) U) := fun U hU => run_loadVar_mid (P := Try.prog) U w2.heap.size 0 77 ([m0, m1, m2, m3, m4, m5, m6, m7, m8, m9, m10, m11, m12, m13, m14, m15].map (Value.int .i64)) _ (R4.out.below (by rw [← hB0]; exact hU) R4.out.lt).range Try.underlying77 rfl (by rw [List.length_map]; exact info77)
  have HB4 := hid B4.out
  have HWN : Hid (w.heap.size ≤ B0) := by rw [Hid, hB0]; exact B4.out.size
  have HRC : Hid (∀ U, Below B0 X U → Rw .u64 35 U gc (codes zs)) := fun U hU => RC4.out.below (by rw [← hB0]; exact hU) RC4.out.lt
  clear HCO HNU HS
  obtain ⟨wz, hwz⟩ : ∃ wz, wz = wgt zs := ⟨_, rfl⟩
  rw [← hwz] at HWE
  obtain ⟨n, hn⟩ : ∃ n, n = zs.length := ⟨_, rfl⟩
  rw [← hn] at HCL HWE HBY hl ⊢
  have HN := hid hn
  have HWZ := hid hwz
  clear hn hwz
  go_wp2_with fail
  change (Code.region 5 o26r5 true).wp _ _ _ _
  refine wp_region_plan (fun w' => Below B0 X w') [] c26r5 p26r5_0 hmix b26r5 d26r5 (fun _ _ d _ _ h => by cases d <;> exact h) ?_
  refine plan_take (o := q26r5_0) (r := p26r5_1) ?vx0 H0.out (by rfl) ?hyx0 ?restx0
  case hyx0 => (intro w hSw; (try dsimp only at hSw); simp only [q26r5_0]; go_simp; try with_reducible rfl)
  try simp only [q26r5_0, Act.put, List.setIfInBounds_toArray, List.set_cons_zero, List.set_cons_succ]
  refine plan_take (o := q26r5_2) (r := p26r5_2) ?vx2 H0.out (by rfl) ?hyx2 ?restx2
  case hyx2 => (intro w hSw; (try dsimp only at hSw); simp only [q26r5_2]; go_simp; try with_reducible rfl)
  try simp only [q26r5_2, Act.put, List.setIfInBounds_toArray, List.set_cons_zero, List.set_cons_succ]
  refine plan_take (o := q26r5_3) (r := p26r5_3) ?vx3 H0.out (by rfl) ?hyx3 ?restx3
  case hyx3 => (intro w hSw; (try dsimp only at hSw); simp only [q26r5_3]; go_simp; try with_reducible rfl)
  try simp only [q26r5_3, Act.put, List.setIfInBounds_toArray, List.set_cons_zero, List.set_cons_succ]
  refine plan_take (o := q26r5_5) (r := p26r5_4) (.agg #[.int .i64 m0, .int .i64 m1, .int .i64 m2, .int .i64 m3, .int .i64 m4, .int .i64 m5, .int .i64 m6, .int .i64 m7, .int .i64 m8, .int .i64 m9, .int .i64 m10, .int .i64 m11, .int .i64 m12, .int .i64 m13, .int .i64 m14, .int .i64 m15]) H0.out (by rfl) ?hyx5 ?restx5
  case hyx5 => (intro w hSw; exact exec_load_mid rfl rfl (HLD.out w hSw))
  try simp only [q26r5_5, Act.put, List.setIfInBounds_toArray, List.set_cons_zero, List.set_cons_succ]
  refine plan_take (o := q26r5_6) (r := p26r5_5) ?vx6 H0.out (by rfl) ?hyx6 ?restx6
  case hyx6 => (intro w hSw; (try dsimp only at hSw); simp only [q26r5_6]; go_simp; try with_reducible rfl)
  try simp only [q26r5_6, Act.put, List.setIfInBounds_toArray, List.set_cons_zero, List.set_cons_succ]
  refine plan_take (o := q26r5_7) (r := p26r5_6) (.agg #[.int .i64 m0, .int .i64 m1, .int .i64 m2, .int .i64 m3, .int .i64 m4, .int .i64 m5, .int .i64 m6, .int .i64 m7, .int .i64 m8, .int .i64 m9, .int .i64 m10, .int .i64 m11, .int .i64 m12, .int .i64 m13, .int .i64 m14, .int .i64 m15]) H0.out (by rfl) ?hyx7 ?restx7
  case hyx7 => (intro w hSw; exact exec_load_mid rfl rfl (HLD.out w hSw))
  try simp only [q26r5_7, Act.put, List.setIfInBounds_toArray, List.set_cons_zero, List.set_cons_succ]
  refine plan_act (o := q26r5_1) (r := p26r5_7) (fun K hK => ?_)
  simp only [q26r5_1]
  refine ite_pos2 (by rfl) ?_
  go_simp
  refine (HCL.out _ H0.out).mono ?_
  rintro e w1p ⟨la, c1, rfl, hg1, s1, l1, b1⟩
  have B1 : Hid (Below B0 X w1p) := HTR.out _ _ H0.out b1
  have S1 := hid s1
  have G1 : Hid (∀ b off, la = some ⟨b, off, none⟩ → B0 ≤ b ∧ b < w1p.heap.size) := fun b off e => ⟨Nat.le_trans (by rw [hB0]; exact (H0.out).size) (hg1 b off e).1, (hg1 b off e).2⟩
  have L1 := hid l1
  clear b1 s1 hg1 l1
  go_wp2_with fail
  refine hK.out _ _ (fun _ => B1.out) ?_
  clear hK K
  try simp only [q26r5_1, Act.put, List.setIfInBounds_toArray, List.set_cons_zero, List.set_cons_succ]
  refine plan_act (o := q26r5_4) (r := p26r5_8) (fun K hK => ?_)
  simp only [q26r5_4]
  refine ite_pos2 (by rfl) ?_
  go_simp
  refine (HWE.out _ B1.out).mono ?_
  rintro e w2p ⟨rfl, b2⟩
  have B2 : Hid (Below B0 X w2p) := HTR.out _ _ B1.out b2
  have S2 := hid (S1.out.below b2)
  have Z12 : Hid (w1p.heap.size ≤ w2p.heap.size) := b2.size
  clear b2
  go_wp2_with fail
  refine hK.out _ _ (fun _ => B2.out) ?_
  clear hK K
  try simp only [q26r5_4, Act.put, List.setIfInBounds_toArray, List.set_cons_zero, List.set_cons_succ]
  refine plan_act (o := q26r5_8) (r := p26r5_9) (fun K hK => ?_)
  simp only [q26r5_8]
  refine ite_pos2 (by rfl) ?_
  go_simp
  refine (HBY.out _ B2.out).mono ?_
  rintro e w3 ⟨g3, S3, rfl, hg3, r3, y3, b3⟩
  have B3 : Hid (Below B0 X w3) := HTR.out _ _ B2.out b3
  have S13 := hid (S2.out.below b3)
  have Z23 : Hid (w2p.heap.size ≤ w3.heap.size) := b3.size
  have R3 := hid r3
  have Y3 := hid y3
  have G3 : Hid (B0 ≤ g3) := Nat.le_trans (by rw [hB0]; exact (B2.out).size) hg3
  clear b3 r3 y3 hg3
  go_wp2_with fail
  refine hK.out _ _ (fun _ => B3.out) ?_
  clear hK K
  try simp only [q26r5_8, Act.put, List.setIfInBounds_toArray, List.set_cons_zero, List.set_cons_succ]
  refine plan_take (o := q26r5_9) (r := p26r5_10) ?vx9 B3.out (by rfl) ?hyx9 ?restx9
  case hyx9 => (intro w hSw; (try dsimp only at hSw); simp only [q26r5_9]; go_simp; try with_reducible rfl)
  try simp only [q26r5_9, Act.put, List.setIfInBounds_toArray, List.set_cons_zero, List.set_cons_succ]
  refine plan_act (o := q26r5_10) (r := p26r5_11) (fun K hK => ?_)
  simp only [q26r5_10]
  refine ite_pos2 (by rfl) ?_
  go_simp
  have HAL : Hid (∀ ob : Obj, Below B0 X (w3.alloc ob)) := fun ob => B3.out.alloc (by rw [hB0]; exact B3.out.size) ob
  refine hK.out _ _ (fun _ => HAL.out _) ?_
  clear hK K
  try simp only [q26r5_10, Act.put, List.setIfInBounds_toArray, List.set_cons_zero, List.set_cons_succ]
  refine plan_take (o := q26r5_11) (r := p26r5_12) ?vx11 (HAL.out _) (by rfl) ?hyx11 ?restx11
  case hyx11 => (intro w hSw; (try dsimp only at hSw); simp only [q26r5_11]; go_simp; try with_reducible rfl)
  try simp only [q26r5_11, Act.put, List.setIfInBounds_toArray, List.set_cons_zero, List.set_cons_succ]
  refine plan_take (o := q26r5_12) (r := p26r5_13) ?vx12 (HAL.out _) (by rfl) ?hyx12 ?restx12
  case hyx12 => (intro w hSw; (try dsimp only at hSw); simp only [q26r5_12]; go_simp; try with_reducible rfl)
  try simp only [q26r5_12, Act.put, List.setIfInBounds_toArray, List.set_cons_zero, List.set_cons_succ]
  refine plan_done ?_
  go_wp2_with fail
  go_ret2
  have ka : Kp (fun _ => False) w3 (w3.alloc (.cells #[.slice la n c1, .slice (some ⟨gc, 0, none⟩) n n, .int .i64 (wz : Int), .int .i64 m0, .int .i64 m1, .int .i64 m2, .int .i64 m3, .int .i64 m4, .int .i64 m5, .int .i64 m6, .int .i64 m7, .int .i64 m8, .int .i64 m9, .int .i64 m10, .int .i64 m11, .int .i64 m12, .int .i64 m13, .int .i64 m14, .int .i64 m15, .slice (some ⟨g3, 0, none⟩) S3.length S3.length] 89)) := (Kp.refl _ _).alloc _
  refine ⟨w3.heap.size, la, some ⟨gc, 0, none⟩, some ⟨g3, 0, none⟩, c1, n, S3.length, S3, rfl, ⟨?_, S13.out.kp ka (fun _ _ _ h => h), (HRC.out _ (HAL.out _)).src, (R3.out.kp ka (fun h => h)).src, HWI.out, by rw [← HN.out]; exact hl, Y3.out, by rw [← HN.out]; exact L1.out, by rw [← HN.out]; exact Nat.le_refl _, Nat.le_refl _⟩, fun i hi => ?_, fun b off e => ?_, HB4.out.trans ((HAL.out _).mono (by rw [hB0]; exact HB4.out.size))⟩
  · show (w3.alloc _).heap[w3.heap.size]? = _
    rw [heap_alloc_new]
    unfold cdc
    rw [← HMM.out, ← HN.out, ← HWZ.out]
    rfl
  · have hb := HWN.out
    rcases hi with rfl | ⟨off, e | e | e⟩
    · have := B3.out.size; rw [World.size_alloc]; omega
    · have := G1.out i off e; have := Z12.out; have := Z23.out; rw [World.size_alloc]; omega
    · cases e; exact ⟨HGC.out, (HRC.out _ (HAL.out _)).lt⟩
    · cases e; exact ⟨Nat.le_trans hb G3.out, (R3.out.kp ka (fun h => h)).lt⟩
  · have h1 := G1.out b off e
    have h2 := RC4.out.lt
    have h3 := Z12.out
    have h4 := Z23.out
    exact ⟨by omega, fun off' e2 => by cases e2; omega⟩
end Go.Proofs.Ythpocbpleffdpaa
