/- HuffCoding: the law's walk: its begin. -/
import Derived.Test.YthpocbpleffdpaaEd
namespace Go.Proofs.Ythpocbpleffdpaa
open Go.RowKit Go.Shelf
set_option linter.unusedVariables false
set_option linter.unusedSimpArgs false
set_option maxRecDepth 100000
theorem wro_kp {W0 U : World} {g N v : Nat} (h : Bz.WrO W0 U g N v) : Kp (fun _ => False) W0 U := by
  obtain ⟨sl, _, k, _, _⟩ := h
  exact kpB k
set_option maxHeartbeats 8000000 in
theorem w15 (w X : World) (T1 g : Nat) (la ca sa a0 a1 a2 : Option Addr) (lc cc sc c0 c1 c2 : Nat) (zs S ss B : List Int) (skip leave : Int) (f : Nat → Value) (h : Cx w X T1 g la ca sa a0 a1 a2 lc cc sc c0 c1 c2 zs S ss B skip leave) : c156.wp Try.prog (bodyPost Try.prog Try.f6 (fun e w' => e = .returned (.bool true) ∧ Kp (fun _ => False) w w')) { tmps := e13 T1 g f, defers := [] } X := by
  have W19b := hid (fun (A : Act) (Y : World) (gw : Nat) (ht : A.tmps = e19 T1 g gw 0 2 (fun i => A.tmps.getD i undef)) (hd : A.defers = []) (hW : Bz.WrO X Y gw 3 5) (hx : ∃ s ∈ ss, hasb zs s = false) => (by
    obtain ⟨f, rfl⟩ := act_of ht hd
    refine w19 w Y T1 g la ca sa a0 a1 a2 lc cc sc c0 c1 c2 zs S ss B skip leave gw 0 2 f (h.same (wro_kp hW)) (fun A Z ht hd k => ?_)
    rw [bd_ex hx] at ht
    obtain ⟨f, rfl⟩ := act_of ht hd
    exact w24b X w Z T1 g la ca sa a0 a1 a2 lc cc sc c0 c1 c2 zs S ss B skip leave gw f ((h.same (wro_kp hW)).same k) (hW.ok (kpZ k)) : c196.wp Try.prog (bodyPost Try.prog Try.f6 (fun e w' => e = .returned (.bool true) ∧ Kp (fun _ => False) w w')) A Y))
  have W19g := hid (fun (A : Act) (Y : World) (gw : Nat) (ht : A.tmps = e19 T1 g gw (lgn zs ss ss.length : Int) 0 (fun i => A.tmps.getD i undef)) (hd : A.defers = []) (hW : Bz.WrO X Y gw (3 + lgn zs ss ss.length) (5 + pvn zs ss ss.length * 2 ^ 3)) (hx : ∀ s ∈ ss, hasb zs s = true) => (by
    obtain ⟨f, rfl⟩ := act_of ht hd
    refine w19 w Y T1 g la ca sa a0 a1 a2 lc cc sc c0 c1 c2 zs S ss B skip leave gw _ 0 f (h.same (wro_kp hW)) (fun A Z ht hd k => ?_)
    rw [bd_all hx] at ht
    obtain ⟨f, rfl⟩ := act_of ht hd
    exact w24g X w Z T1 g la ca sa a0 a1 a2 lc cc sc c0 c1 c2 zs S ss B skip leave gw _ _ f ((h.same (wro_kp hW)).same k) (hW.ok (kpZ k)) rfl rfl hx : c196.wp Try.prog (bodyPost Try.prog Try.f6 (fun e w' => e = .returned (.bool true) ∧ Kp (fun _ => False) w w')) A Y))
  have HNU := hid num_any
  have HNW := hid (Bz.newO X)
  have HP3 : Hid (∀ U gw, Bz.WrO X U gw 0 0 → Calls Try.prog 32 #[.pointer (some ⟨gw, 0, none⟩), .int .u64 5, .int .i64 3] U fun e w' => e = .returned (.int .i64 0) ∧ Bz.WrO X w' gw 3 5) := fun U gw hU => Bz.putO X U gw 5 3 0 0 (by decide) (by decide) (by decide) hU
  have HPA : Hid (∀ U gw, Bz.WrO X U gw 3 5 → Calls Try.prog 33 #[.pointer (some ⟨g, 0, none⟩), .pointer (some ⟨gw, 0, none⟩), .slice a1 ss.length c1] U fun e w' =>
      ((∃ s ∈ ss, hasb zs s = false) ∧ e = .returned (.tuple #[.int .i64 0, .int .i64 2]) ∧ U = w') ∨
      ((∀ s ∈ ss, hasb zs s = true) ∧ e = .returned (.tuple #[.int .i64 (lgn zs ss ss.length : Int), .int .i64 0]) ∧ Bz.WrO X w' gw (3 + lgn zs ss ss.length) (5 + pvn zs ss ss.length * 2 ^ 3))) := fun U gw hU => put_any X U g gw 3 5 la ca sa a1 lc cc sc c1 zs S ss h.cd (may_wgt h.hm) h.s1 h.h1 hU (by decide)
  have HT1 : Hid (∀ U, Kp (fun _ => False) X U → U.cell? ⟨T1, 1, none⟩ = some (.slice a1 ss.length c1)) := fun U k => (h.sT.kp k (fun h => h)).cell 1
  clear h
  unfold c156 e13
  generalize hQ : bodyPost _ _ _ = QQ
  go_wp2_with fail
  refine HNW.out.mono ?_
  rintro e w1 ⟨gw, rfl, o1⟩
  have O1 := hid o1
  clear o1
  go_wp2_with fail
  refine (HP3.out w1 gw O1.out).mono ?_
  rintro e w2 ⟨rfl, o2⟩
  have O2 := hid o2
  have t1 := HT1.out w2 (wro_kp o2)
  clear o2
  go_wp2_with (first | (go_at_call 13; refine (HNU.out _ _).mono ?_; rintro e1 wx ⟨rfl, rfl⟩))
  refine (HPA.out w2 gw O2.out).mono ?_
  rintro e w3 (⟨hx, rfl, rfl⟩ | ⟨hx, rfl, o3⟩)
  · go_wp2_with fail
    subst hQ
    exact W19b.out _ w2 gw (by kernel_rfl) rfl O2.out hx
  · have O3 := hid o3
    have HX := hid hx
    clear o3 hx t1
    obtain ⟨L, hL⟩ : ∃ L, L = lgn zs ss ss.length := ⟨_, rfl⟩
    rw [← hL] at W19g O3 ⊢
    clear hL HPA
    go_wp2_with fail
    subst hQ
    exact W19g.out _ w3 gw (by kernel_rfl) rfl O3.out HX.out
set_option maxHeartbeats 16000000 in
theorem w13 (w X : World) (T1 g : Nat) (la ca sa a0 a1 a2 : Option Addr) (lc cc sc c0 c1 c2 : Nat) (zs S ss B : List Int) (skip leave : Int) (f : Nat → Value) (h : Cx w X T1 g la ca sa a0 a1 a2 lc cc sc c0 c1 c2 zs S ss B skip leave) : c136.wp Try.prog (bodyPost Try.prog Try.f6 (fun e w' => e = .returned (.bool true) ∧ Kp (fun _ => False) w w')) { tmps := e13 T1 g f, defers := [] } X := by
  have hmix : Try.prog.follows .mixedOrders = true := by kernel_rfl
  have W15 := hid (fun (A : Act) (Y : World) (ht : A.tmps = e13 T1 g (fun i => A.tmps.getD i undef)) (hd : A.defers = []) (k : Kp (fun _ => False) X Y) => (by
    obtain ⟨f, rfl⟩ := act_of ht hd
    exact w15 w Y T1 g la ca sa a0 a1 a2 lc cc sc c0 c1 c2 zs S ss B skip leave f (h.same k) : c156.wp Try.prog (bodyPost Try.prog Try.f6 (fun e w' => e = .returned (.bool true) ∧ Kp (fun _ => False) w w')) A Y))
  have HNU := hid num_any
  have hzl : zs.length ≤ 320 := by
    by_cases hh : bad zs = 0
    · exact (bad_zero hh).2
    · exact absurd (may_bad hh ▸ h.hm) hh
  have HLN : Hid (∀ U, Kp (fun _ => False) X U → Calls Try.prog 28 #[.pointer (some ⟨g, 0, none⟩)] U fun e w' => ∃ ao c, e = .returned (.slice ao zs.length c) ∧ Src .i64 w' ao zs ∧ Kp (fun _ => False) X w') := fun U k => (lengths_any g la ca sa lc cc sc zs S U (h.cd.ok k)).mono (by
    rintro e w' ⟨ao, c, h1, h2, h3⟩
    exact ⟨ao, c, h1, h2, k.trans (Kp.of_below h3) (fun _ _ x => x)⟩)
  have HIN : Hid (∀ U ao ac, Kp (fun _ => False) X U → Src .i64 U ao zs → Calls Try.prog 27 #[.slice ao zs.length ac, .slice a0 zs.length c0] U fun e w' => e = .returned (.bool true) ∧ Kp (fun _ => False) X w') := fun U ao ac k hs => (ints_eq ao a0 ac c0 zs U (by omega) hs (h.s0.kp k (fun _ _ _ x => x))).mono (by
    rintro e w' ⟨h1, h3⟩
    exact ⟨h1, k.trans (Kp.of_below h3) (fun _ _ x => x)⟩)
  have HAL : Hid (∀ U, Kp (fun _ => False) X U → Calls Try.prog 30 #[.pointer (some ⟨g, 0, none⟩)] U fun e w' => ∃ bk, e = .returned (.func (.func 56) #[] #[.pointer (some ⟨bk, 0, none⟩)]) ∧ X.heap.size ≤ bk ∧ Sc 53 w' bk #[.pointer (some ⟨g, 0, none⟩)] ∧ Kp (fun _ => False) X w') := fun U k => (all_any (some ⟨g, 0, none⟩) U).mono (by
    rintro e w' ⟨h1, rfl⟩
    exact ⟨U.heap.size, h1, k.size, Sc.new 53 U _, k.alloc _⟩)
  have HGO : Hid (∀ U bk lv, Kp (fun _ => False) X U → X.heap.size ≤ bk → Sc 53 U bk #[.pointer (some ⟨g, 0, none⟩)] → Calls Try.prog 29 #[.func (.func 56) #[] #[.pointer (some ⟨bk, 0, none⟩)], .slice a0 zs.length c0, .int .i64 lv] U fun e w' => e = .returned (.bool true) ∧ Kp (fun _ => False) X w') := fun U bk lv k hb hs => (goes_all bk g la ca sa lc cc sc zs S U (h.cd.ok k) hs (fun i hi => Nat.lt_of_lt_of_le (h.hlt i hi) k.size) (fun hi => by have := h.hlt bk hi; omega) h.hdi a0 c0 (h.s0.kp k (fun _ _ _ x => x)) (fun b off e hp => by
      obtain ⟨b', off', e', hc⟩ := h.sw hp
      rw [e] at e'
      cases e'
      have hbw := block_lt_of_cell (hc 0 hp)
      have hbw : b < w.heap.size := hbw
      have h1 := h.k.size
      have h2 := k.size
      refine ⟨by omega, ?_⟩
      rintro (rfl | rfl | ⟨off2, e2⟩ | ⟨_, off2, e2⟩)
      · omega
      · have := h.hnew b (.inl rfl); omega
      · have := h.hnew b (.inr ⟨off2, .inr (.inl e2)⟩); omega
      · have := h.hnew b (.inr ⟨off2, .inl e2⟩); omega) lv).mono (by
    rintro e w' ⟨h1, h3⟩
    exact ⟨h1, k.trans h3 (fun _ _ x => x)⟩)
  have HT0 : Hid (∀ U, Kp (fun _ => False) X U → U.cell? ⟨T1, 0, none⟩ = some (.slice a0 zs.length c0)) := fun U k => (h.sT.kp k (fun h => h)).cell 0
  have HT4 : Hid (∀ U, Kp (fun _ => False) X U → U.cell? ⟨T1, 4, none⟩ = some (.int .i64 leave)) := fun U k => (h.sT.kp k (fun h => h)).cell 4
  clear h
  unfold c136 e13
  go_wp2_with fail
  refine wp_region_held_drew (S := fun U => Kp (fun _ => False) X U) (by kernel_rfl) (drewN_kp _ _ 1) (fun h0 => ?_)
  refine wpAnyH_take (i := 0) (oi := { dst := some 63, op := Go.Op.move (Go.Operand.tmp 4), type := 53, pos := "law.go:205", after := #[], guard := none }) (v := ?vy0) rfl (by kernel_rfl) (by kernel_rfl) (by kernel_rfl) (fun _ _ _ h => h) (Or.inl ⟨by rfl, ?hyy0⟩) (drewN_kp _ _ 1) ?resty0
  case hyy0 => (intro w hSw; (try dsimp only at hSw); go_simp; try with_reducible rfl)
  try simp only [Act.put, List.setIfInBounds_toArray, List.set_cons_zero, List.set_cons_succ]
  refine wpAnyH_take (i := 1) (oi := { dst := some 64, op := Go.Op.binOp Go.BinOp.eql 53 (Go.Operand.tmp 63) (Go.Operand.const (Go.Value.pointer none)) 53, type := 4, pos := "law.go:205", after := #[{ on := 0, ground := Go.Ground.data }], guard := none }) (v := ?vy1) rfl (by kernel_rfl) (by kernel_rfl) (by kernel_rfl) (fun _ _ _ h => h) (Or.inl ⟨by rfl, ?hyy1⟩) (drewN_kp _ _ 1) ?resty1
  case hyy1 => (intro w hSw; (try dsimp only at hSw); go_simp; try with_reducible rfl)
  try simp only [Act.put, List.setIfInBounds_toArray, List.set_cons_zero, List.set_cons_succ]
  refine wpAnyH_take (i := 2) (oi := { dst := some 65, op := Go.Op.move (Go.Operand.tmp 64), type := 4, pos := "law.go:205", after := #[{ on := 1, ground := Go.Ground.data }], guard := none }) (v := ?vy2) rfl (by kernel_rfl) (by kernel_rfl) (by kernel_rfl) (fun _ _ _ h => h) (Or.inl ⟨by rfl, ?hyy2⟩) (drewN_kp _ _ 1) ?resty2
  case hyy2 => (intro w hSw; (try dsimp only at hSw); go_simp; try with_reducible rfl)
  try simp only [Act.put, List.setIfInBounds_toArray, List.set_cons_zero, List.set_cons_succ]
  refine wpAnyH_take (i := 3) (oi := { dst := some 66, op := Go.Op.move (Go.Operand.tmp 5), type := 24, pos := "law.go:205", after := #[{ on := 2, ground := Go.Ground.guard }], guard := some (2, false) }) (v := ?vy3) rfl (by kernel_rfl) (by kernel_rfl) (by kernel_rfl) (fun _ _ _ h => h) (Or.inl ⟨by rfl, ?hyy3⟩) (drewN_kp _ _ 1) ?resty3
  case hyy3 => (intro w hSw; (try dsimp only at hSw); go_simp; try with_reducible rfl)
  try simp only [Act.put, List.setIfInBounds_toArray, List.set_cons_zero, List.set_cons_succ]
  refine wpAnyH_ready (rs := [4]) (by kernel_rfl) (by simp) ?_
  refine AllReadyH.cons (o := { dst := some 67, op := Go.Op.call { callee := Go.Callee.value (Go.Operand.func 13), args := #[Go.Operand.tmp 66], argTypes := #[24] }, type := 3, pos := "law.go:205", after := #[{ on := 3, ground := Go.Ground.data }, { on := 2, ground := Go.Ground.chain }, { on := 2, ground := Go.Ground.guard }], guard := some (2, false) }) rfl (fun K hK => ?_) AllReadyH.nil
  go_simp
  refine (HNU.out _ _).mono ?_
  rintro e w1 ⟨rfl, rfl⟩
  go_wp2_with fail
  refine hK.out _ _ (drewN_kp _ _ 1) (fun h0 => ?_)
  clear hK K
  try simp only [Act.put, List.setIfInBounds_toArray, List.set_cons_zero, List.set_cons_succ]
  refine wpAnyH_take (i := 5) (oi := { dst := some 68, op := Go.Op.binOp Go.BinOp.neq 3 (Go.Operand.tmp 67) (Go.Operand.const (Go.Value.int Go.IntKind.i64 0)) 3, type := 4, pos := "law.go:205", after := #[{ on := 4, ground := Go.Ground.data }, { on := 2, ground := Go.Ground.guard }], guard := some (2, false) }) (v := ?vy5) rfl (by kernel_rfl) (by kernel_rfl) (by kernel_rfl) (fun _ _ _ h => h) (Or.inl ⟨by rfl, ?hyy5⟩) (drewN_kp _ _ 1) ?resty5
  case hyy5 => (intro w hSw; (try dsimp only at hSw); go_simp; try with_reducible rfl)
  try simp only [Act.put, List.setIfInBounds_toArray, List.set_cons_zero, List.set_cons_succ]
  refine wpAnyH_take (i := 6) (oi := { dst := some 69, op := Go.Op.pick (Go.Operand.tmp 65) (Go.Operand.const (Go.Value.bool true)) (Go.Operand.tmp 68), type := 4, pos := "law.go:205", after := #[{ on := 2, ground := Go.Ground.data }, { on := 5, ground := Go.Ground.data }], guard := none }) (v := ?vy6) rfl (by kernel_rfl) (by kernel_rfl) (by kernel_rfl) (fun _ _ _ h => h) (Or.inl ⟨by rfl, ?hyy6⟩) (drewN_kp _ _ 1) ?resty6
  case hyy6 => (intro w hSw; (try dsimp only at hSw); go_simp; try with_reducible rfl)
  try simp only [Act.put, List.setIfInBounds_toArray, List.set_cons_zero, List.set_cons_succ]
  refine wpAnyH_take (i := 7) (oi := { dst := some 70, op := Go.Op.move (Go.Operand.tmp 69), type := 4, pos := "law.go:205", after := #[{ on := 6, ground := Go.Ground.data }, { on := 4, ground := Go.Ground.chain }], guard := none }) (v := ?vy7) rfl (by kernel_rfl) (by kernel_rfl) (by kernel_rfl) (fun _ _ _ h => h) (Or.inl ⟨by rfl, ?hyy7⟩) (drewN_kp _ _ 1) ?resty7
  case hyy7 => (intro w hSw; (try dsimp only at hSw); go_simp; try with_reducible rfl)
  try simp only [Act.put, List.setIfInBounds_toArray, List.set_cons_zero, List.set_cons_succ]
  refine wpAnyH_take (i := 8) (oi := { dst := some 71, op := Go.Op.move (Go.Operand.tmp 4), type := 53, pos := "law.go:205", after := #[{ on := 7, ground := Go.Ground.guard }], guard := some (7, false) }) (v := ?vy8) rfl (by kernel_rfl) (by kernel_rfl) (by kernel_rfl) (fun _ _ _ h => h) (Or.inl ⟨by rfl, ?hyy8⟩) (drewN_kp _ _ 1) ?resty8
  case hyy8 => (intro w hSw; (try dsimp only at hSw); go_simp; try with_reducible rfl)
  try simp only [Act.put, List.setIfInBounds_toArray, List.set_cons_zero, List.set_cons_succ]
  refine wpAnyH_take (i := 10) (oi := { dst := some 73, op := Go.Op.fieldAddr 52 (Go.Operand.tmp 1) 0, type := 0, pos := "law.go:205", after := #[{ on := 7, ground := Go.Ground.guard }], guard := some (7, false) }) (v := ?vy10) rfl (by kernel_rfl) (by kernel_rfl) (by kernel_rfl) (fun _ _ _ h => h) (Or.inl ⟨by rfl, ?hyy10⟩) (drewN_kp _ _ 1) ?resty10
  case hyy10 => (intro w hSw; (try dsimp only at hSw); go_simp; try with_reducible rfl)
  try simp only [Act.put, List.setIfInBounds_toArray, List.set_cons_zero, List.set_cons_succ]
  refine wpAnyH_take (i := 11) (oi := { dst := some 74, op := Go.Op.load 22 (Go.Operand.tmp 73), type := 22, pos := "law.go:205", after := #[{ on := 10, ground := Go.Ground.data }, { on := 7, ground := Go.Ground.guard }], guard := some (7, false) }) (v := ?vy11) rfl (by kernel_rfl) (by kernel_rfl) (by kernel_rfl) (fun _ _ _ h => h) (Or.inl ⟨by rfl, ?hyy11⟩) (drewN_kp _ _ 1) ?resty11
  case hyy11 => (intro w hSw; have t0 := HT0.out w hSw; (try dsimp only at hSw); go_simp; try with_reducible rfl)
  try simp only [Act.put, List.setIfInBounds_toArray, List.set_cons_zero, List.set_cons_succ]
  refine wpAnyH_ready (rs := [9]) (by kernel_rfl) (by simp) ?_
  refine AllReadyH.cons (o := { dst := some 72, op := Go.Op.call { callee := Go.Callee.value (Go.Operand.func 28), args := #[Go.Operand.tmp 71], argTypes := #[53] }, type := 22, pos := "law.go:205", after := #[{ on := 8, ground := Go.Ground.data }, { on := 7, ground := Go.Ground.chain }, { on := 7, ground := Go.Ground.guard }], guard := some (7, false) }) rfl (fun K hK => ?_) AllReadyH.nil
  go_simp
  refine (HLN.out _ (drewN_kp _ _ 1)).mono ?_
  rintro e w2 ⟨ao, ac, rfl, s2, k2⟩
  have S2 := hid s2
  have K2 := hid k2
  clear s2 k2
  go_wp2_with fail
  refine hK.out _ _ K2.out (fun h0 => ?_)
  clear hK K
  try simp only [Act.put, List.setIfInBounds_toArray, List.set_cons_zero, List.set_cons_succ]
  refine wpAnyH_ready (rs := [12]) (by kernel_rfl) (by simp) ?_
  refine AllReadyH.cons (o := { dst := some 75, op := Go.Op.call { callee := Go.Callee.value (Go.Operand.func 27), args := #[Go.Operand.tmp 72, Go.Operand.tmp 74], argTypes := #[22, 22] }, type := 4, pos := "law.go:205", after := #[{ on := 9, ground := Go.Ground.data }, { on := 11, ground := Go.Ground.data }, { on := 9, ground := Go.Ground.chain }, { on := 7, ground := Go.Ground.guard }], guard := some (7, false) }) rfl (fun K hK => ?_) AllReadyH.nil
  go_simp
  refine (HIN.out w2 ao ac K2.out S2.out).mono ?_
  rintro e w3 ⟨rfl, k3⟩
  have K3 := hid k3
  clear k3
  go_wp2_with fail
  refine hK.out _ _ K3.out (fun h0 => ?_)
  clear hK K
  try simp only [Act.put, List.setIfInBounds_toArray, List.set_cons_zero, List.set_cons_succ]
  refine wpAnyH_take (i := 13) (oi := { dst := some 76, op := Go.Op.unOp Go.UnOp.not 4 (Go.Operand.tmp 75), type := 4, pos := "law.go:205", after := #[{ on := 12, ground := Go.Ground.data }, { on := 7, ground := Go.Ground.guard }], guard := some (7, false) }) (v := ?vy13) rfl (by kernel_rfl) (by kernel_rfl) (by kernel_rfl) (fun _ _ _ h => h) (Or.inl ⟨by rfl, ?hyy13⟩) K3.out ?resty13
  case hyy13 => (intro w hSw; (try dsimp only at hSw); go_simp; try with_reducible rfl)
  try simp only [Act.put, List.setIfInBounds_toArray, List.set_cons_zero, List.set_cons_succ]
  refine wpAnyH_take (i := 14) (oi := { dst := some 77, op := Go.Op.pick (Go.Operand.tmp 70) (Go.Operand.const (Go.Value.bool true)) (Go.Operand.tmp 76), type := 4, pos := "law.go:205", after := #[{ on := 7, ground := Go.Ground.data }, { on := 13, ground := Go.Ground.data }], guard := none }) (v := ?vy14) rfl (by kernel_rfl) (by kernel_rfl) (by kernel_rfl) (fun _ _ _ h => h) (Or.inl ⟨by rfl, ?hyy14⟩) K3.out ?resty14
  case hyy14 => (intro w hSw; (try dsimp only at hSw); go_simp; try with_reducible rfl)
  try simp only [Act.put, List.setIfInBounds_toArray, List.set_cons_zero, List.set_cons_succ]
  refine wpAnyH_take (i := 15) (oi := { dst := some 78, op := Go.Op.move (Go.Operand.tmp 77), type := 4, pos := "law.go:205", after := #[{ on := 14, ground := Go.Ground.data }, { on := 12, ground := Go.Ground.chain }], guard := none }) (v := ?vy15) rfl (by kernel_rfl) (by kernel_rfl) (by kernel_rfl) (fun _ _ _ h => h) (Or.inl ⟨by rfl, ?hyy15⟩) K3.out ?resty15
  case hyy15 => (intro w hSw; (try dsimp only at hSw); go_simp; try with_reducible rfl)
  try simp only [Act.put, List.setIfInBounds_toArray, List.set_cons_zero, List.set_cons_succ]
  refine wpAnyH_take (i := 16) (oi := { dst := some 79, op := Go.Op.move (Go.Operand.tmp 4), type := 53, pos := "law.go:205", after := #[{ on := 15, ground := Go.Ground.guard }], guard := some (15, false) }) (v := ?vy16) rfl (by kernel_rfl) (by kernel_rfl) (by kernel_rfl) (fun _ _ _ h => h) (Or.inl ⟨by rfl, ?hyy16⟩) K3.out ?resty16
  case hyy16 => (intro w hSw; (try dsimp only at hSw); go_simp; try with_reducible rfl)
  try simp only [Act.put, List.setIfInBounds_toArray, List.set_cons_zero, List.set_cons_succ]
  refine wpAnyH_take (i := 18) (oi := { dst := some 81, op := Go.Op.fieldAddr 52 (Go.Operand.tmp 1) 0, type := 0, pos := "law.go:205", after := #[{ on := 15, ground := Go.Ground.guard }], guard := some (15, false) }) (v := ?vy18) rfl (by kernel_rfl) (by kernel_rfl) (by kernel_rfl) (fun _ _ _ h => h) (Or.inl ⟨by rfl, ?hyy18⟩) K3.out ?resty18
  case hyy18 => (intro w hSw; (try dsimp only at hSw); go_simp; try with_reducible rfl)
  try simp only [Act.put, List.setIfInBounds_toArray, List.set_cons_zero, List.set_cons_succ]
  refine wpAnyH_take (i := 19) (oi := { dst := some 82, op := Go.Op.load 22 (Go.Operand.tmp 81), type := 22, pos := "law.go:205", after := #[{ on := 18, ground := Go.Ground.data }, { on := 15, ground := Go.Ground.guard }], guard := some (15, false) }) (v := ?vy19) rfl (by kernel_rfl) (by kernel_rfl) (by kernel_rfl) (fun _ _ _ h => h) (Or.inl ⟨by rfl, ?hyy19⟩) K3.out ?resty19
  case hyy19 => (intro w hSw; have t0 := HT0.out w hSw; (try dsimp only at hSw); go_simp; try with_reducible rfl)
  try simp only [Act.put, List.setIfInBounds_toArray, List.set_cons_zero, List.set_cons_succ]
  refine wpAnyH_take (i := 20) (oi := { dst := some 83, op := Go.Op.fieldAddr 52 (Go.Operand.tmp 1) 4, type := 0, pos := "law.go:205", after := #[{ on := 15, ground := Go.Ground.guard }], guard := some (15, false) }) (v := ?vy20) rfl (by kernel_rfl) (by kernel_rfl) (by kernel_rfl) (fun _ _ _ h => h) (Or.inl ⟨by rfl, ?hyy20⟩) K3.out ?resty20
  case hyy20 => (intro w hSw; (try dsimp only at hSw); go_simp; try with_reducible rfl)
  try simp only [Act.put, List.setIfInBounds_toArray, List.set_cons_zero, List.set_cons_succ]
  refine wpAnyH_take (i := 21) (oi := { dst := some 84, op := Go.Op.load 3 (Go.Operand.tmp 83), type := 3, pos := "law.go:205", after := #[{ on := 20, ground := Go.Ground.data }, { on := 15, ground := Go.Ground.guard }], guard := some (15, false) }) (v := ?vy21) rfl (by kernel_rfl) (by kernel_rfl) (by kernel_rfl) (fun _ _ _ h => h) (Or.inl ⟨by rfl, ?hyy21⟩) K3.out ?resty21
  case hyy21 => (intro w hSw; have t4 := HT4.out w hSw; (try dsimp only at hSw); go_simp; try with_reducible rfl)
  try simp only [Act.put, List.setIfInBounds_toArray, List.set_cons_zero, List.set_cons_succ]
  refine wpAnyH_ready (rs := [17]) (by kernel_rfl) (by simp) ?_
  refine AllReadyH.cons (o := { dst := some 80, op := Go.Op.call { callee := Go.Callee.value (Go.Operand.func 30), args := #[Go.Operand.tmp 79], argTypes := #[53] }, type := 59, pos := "law.go:205", after := #[{ on := 16, ground := Go.Ground.data }, { on := 15, ground := Go.Ground.chain }, { on := 15, ground := Go.Ground.guard }], guard := some (15, false) }) rfl (fun K hK => ?_) AllReadyH.nil
  go_simp
  refine (HAL.out w3 K3.out).mono ?_
  rintro e w4 ⟨bk, rfl, hbk, s4, k4⟩
  have HBK := hid hbk
  have S4 := hid s4
  have K4 := hid k4
  clear hbk s4 k4
  go_wp2_with fail
  refine hK.out _ _ K4.out (fun h0 => ?_)
  clear hK K
  try simp only [Act.put, List.setIfInBounds_toArray, List.set_cons_zero, List.set_cons_succ]
  refine wpAnyH_ready (rs := [22]) (by kernel_rfl) (by simp) ?_
  refine AllReadyH.cons (o := { dst := some 85, op := Go.Op.call { callee := Go.Callee.value (Go.Operand.func 29), args := #[Go.Operand.tmp 80, Go.Operand.tmp 82, Go.Operand.tmp 84], argTypes := #[59, 22, 3] }, type := 4, pos := "law.go:205", after := #[{ on := 17, ground := Go.Ground.data }, { on := 19, ground := Go.Ground.data }, { on := 21, ground := Go.Ground.data }, { on := 17, ground := Go.Ground.chain }, { on := 15, ground := Go.Ground.guard }], guard := some (15, false) }) rfl (fun K hK => ?_) AllReadyH.nil
  go_simp
  refine (HGO.out w4 bk leave K4.out HBK.out S4.out).mono ?_
  rintro e w5 ⟨rfl, k5⟩
  have K5 := hid k5
  clear k5
  go_wp2_with fail
  refine hK.out _ _ K5.out (fun h0 => ?_)
  clear hK K
  try simp only [Act.put, List.setIfInBounds_toArray, List.set_cons_zero, List.set_cons_succ]
  refine wpAnyH_take (i := 23) (oi := { dst := some 86, op := Go.Op.unOp Go.UnOp.not 4 (Go.Operand.tmp 85), type := 4, pos := "law.go:205", after := #[{ on := 22, ground := Go.Ground.data }, { on := 15, ground := Go.Ground.guard }], guard := some (15, false) }) (v := ?vy23) rfl (by kernel_rfl) (by kernel_rfl) (by kernel_rfl) (fun _ _ _ h => h) (Or.inl ⟨by rfl, ?hyy23⟩) K5.out ?resty23
  case hyy23 => (intro w hSw; (try dsimp only at hSw); go_simp; try with_reducible rfl)
  try simp only [Act.put, List.setIfInBounds_toArray, List.set_cons_zero, List.set_cons_succ]
  refine wpAnyH_take (i := 24) (oi := { dst := some 87, op := Go.Op.pick (Go.Operand.tmp 78) (Go.Operand.const (Go.Value.bool true)) (Go.Operand.tmp 86), type := 4, pos := "law.go:205", after := #[{ on := 15, ground := Go.Ground.data }, { on := 23, ground := Go.Ground.data }], guard := none }) (v := ?vy24) rfl (by kernel_rfl) (by kernel_rfl) (by kernel_rfl) (fun _ _ _ h => h) (Or.inl ⟨by rfl, ?hyy24⟩) K5.out ?resty24
  case hyy24 => (intro w hSw; (try dsimp only at hSw); go_simp; try with_reducible rfl)
  try simp only [Act.put, List.setIfInBounds_toArray, List.set_cons_zero, List.set_cons_succ]
  refine wpAnyH_take (i := 25) (oi := { dst := some 88, op := Go.Op.move (Go.Operand.tmp 87), type := 4, pos := "law.go:205", after := #[{ on := 24, ground := Go.Ground.data }, { on := 22, ground := Go.Ground.chain }], guard := none }) (v := ?vy25) rfl (by kernel_rfl) (by kernel_rfl) (by kernel_rfl) (fun _ _ _ h => h) (Or.inl ⟨by rfl, ?hyy25⟩) K5.out ?resty25
  case hyy25 => (intro w hSw; (try dsimp only at hSw); go_simp; try with_reducible rfl)
  try simp only [Act.put, List.setIfInBounds_toArray, List.set_cons_zero, List.set_cons_succ]
  refine wpAnyH_take (i := 26) (oi := { dst := some 89, op := Go.Op.move (Go.Operand.tmp 4), type := 53, pos := "law.go:205", after := #[{ on := 25, ground := Go.Ground.guard }], guard := some (25, false) }) (v := ?vy26) rfl (by kernel_rfl) (by kernel_rfl) (by kernel_rfl) (fun _ _ _ h => h) (Or.inl ⟨by rfl, ?hyy26⟩) K5.out ?resty26
  case hyy26 => (intro w hSw; (try dsimp only at hSw); go_simp; try with_reducible rfl)
  try simp only [Act.put, List.setIfInBounds_toArray, List.set_cons_zero, List.set_cons_succ]
  refine wpAnyH_take (i := 28) (oi := { dst := some 91, op := Go.Op.fieldAddr 52 (Go.Operand.tmp 1) 0, type := 0, pos := "law.go:205", after := #[{ on := 25, ground := Go.Ground.guard }], guard := some (25, false) }) (v := ?vy28) rfl (by kernel_rfl) (by kernel_rfl) (by kernel_rfl) (fun _ _ _ h => h) (Or.inl ⟨by rfl, ?hyy28⟩) K5.out ?resty28
  case hyy28 => (intro w hSw; (try dsimp only at hSw); go_simp; try with_reducible rfl)
  try simp only [Act.put, List.setIfInBounds_toArray, List.set_cons_zero, List.set_cons_succ]
  refine wpAnyH_take (i := 29) (oi := { dst := some 92, op := Go.Op.load 22 (Go.Operand.tmp 91), type := 22, pos := "law.go:205", after := #[{ on := 28, ground := Go.Ground.data }, { on := 25, ground := Go.Ground.guard }], guard := some (25, false) }) (v := ?vy29) rfl (by kernel_rfl) (by kernel_rfl) (by kernel_rfl) (fun _ _ _ h => h) (Or.inl ⟨by rfl, ?hyy29⟩) K5.out ?resty29
  case hyy29 => (intro w hSw; have t0 := HT0.out w hSw; (try dsimp only at hSw); go_simp; try with_reducible rfl)
  try simp only [Act.put, List.setIfInBounds_toArray, List.set_cons_zero, List.set_cons_succ]
  refine wpAnyH_ready (rs := [27]) (by kernel_rfl) (by simp) ?_
  refine AllReadyH.cons (o := { dst := some 90, op := Go.Op.call { callee := Go.Callee.value (Go.Operand.func 30), args := #[Go.Operand.tmp 89], argTypes := #[53] }, type := 59, pos := "law.go:205", after := #[{ on := 26, ground := Go.Ground.data }, { on := 25, ground := Go.Ground.chain }, { on := 25, ground := Go.Ground.guard }], guard := some (25, false) }) rfl (fun K hK => ?_) AllReadyH.nil
  go_simp
  refine (HAL.out w5 K5.out).mono ?_
  rintro e w6 ⟨bq, rfl, hbq, s6, k6⟩
  have HBQ := hid hbq
  have S6 := hid s6
  have K6 := hid k6
  clear hbq s6 k6
  go_wp2_with fail
  refine hK.out _ _ K6.out (fun h0 => ?_)
  clear hK K
  try simp only [Act.put, List.setIfInBounds_toArray, List.set_cons_zero, List.set_cons_succ]
  refine wpAnyH_ready (rs := [30]) (by kernel_rfl) (by simp) ?_
  refine AllReadyH.cons (o := { dst := some 93, op := Go.Op.call { callee := Go.Callee.value (Go.Operand.func 29), args := #[Go.Operand.tmp 90, Go.Operand.tmp 92, Go.Operand.const (Go.Value.int Go.IntKind.i64 0)], argTypes := #[59, 22, 3] }, type := 4, pos := "law.go:205", after := #[{ on := 27, ground := Go.Ground.data }, { on := 29, ground := Go.Ground.data }, { on := 27, ground := Go.Ground.chain }, { on := 25, ground := Go.Ground.guard }], guard := some (25, false) }) rfl (fun K hK => ?_) AllReadyH.nil
  go_simp
  refine (HGO.out w6 bq 0 K6.out HBQ.out S6.out).mono ?_
  rintro e w7 ⟨rfl, k7⟩
  have K7 := hid k7
  clear k7
  go_wp2_with fail
  refine hK.out _ _ K7.out (fun h0 => ?_)
  clear hK K
  try simp only [Act.put, List.setIfInBounds_toArray, List.set_cons_zero, List.set_cons_succ]
  refine wpAnyH_take (i := 31) (oi := { dst := some 94, op := Go.Op.unOp Go.UnOp.not 4 (Go.Operand.tmp 93), type := 4, pos := "law.go:205", after := #[{ on := 30, ground := Go.Ground.data }, { on := 25, ground := Go.Ground.guard }], guard := some (25, false) }) (v := ?vy31) rfl (by kernel_rfl) (by kernel_rfl) (by kernel_rfl) (fun _ _ _ h => h) (Or.inl ⟨by rfl, ?hyy31⟩) K7.out ?resty31
  case hyy31 => (intro w hSw; (try dsimp only at hSw); go_simp; try with_reducible rfl)
  try simp only [Act.put, List.setIfInBounds_toArray, List.set_cons_zero, List.set_cons_succ]
  refine wpAnyH_take (i := 32) (oi := { dst := some 95, op := Go.Op.pick (Go.Operand.tmp 88) (Go.Operand.const (Go.Value.bool true)) (Go.Operand.tmp 94), type := 4, pos := "law.go:205", after := #[{ on := 25, ground := Go.Ground.data }, { on := 31, ground := Go.Ground.data }], guard := none }) (v := ?vy32) rfl (by kernel_rfl) (by kernel_rfl) (by kernel_rfl) (fun _ _ _ h => h) (Or.inl ⟨by rfl, ?hyy32⟩) K7.out ?resty32
  case hyy32 => (intro w hSw; (try dsimp only at hSw); go_simp; try with_reducible rfl)
  try simp only [Act.put, List.setIfInBounds_toArray, List.set_cons_zero, List.set_cons_succ]
  refine wpAnyH_done (by kernel_rfl) ?_ _
  go_wp2_with fail
  exact W15.out _ w7 (by kernel_rfl) rfl K7.out
end Go.Proofs.Ythpocbpleffdpaa
