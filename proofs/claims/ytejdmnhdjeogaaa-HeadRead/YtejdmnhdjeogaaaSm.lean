/- head: blocks of heads; cluster, entries, guest, tables and parts, the program's and the document's. -/
import Derived.Test.YtejdmnhdjeogaaaKb
import Derived.Deep.MidRow
namespace Go.Proofs.Ytejdmnhdjeogaaa
open Go.RowKit
set_option linter.unusedVariables false
theorem hid {p : Prop} (h : p) : Hid p := h
/-- A block that holds a head. -/
def Hb (w : World) (g : Nat) (h : Hd) : Prop := St 24 w g h.cs
theorem info24 : (Try.prog.info? 24).map (·.size) = some 15 := by kernel_rfl
theorem Hb.load {w : World} {g : Nat} {h : Hd} (s : Hb w g h) : (loadVar 24 ⟨g, 0, none⟩).run Try.prog w = .ok (.agg h.cs) w :=
  run_loadVar_row w g 24 24 _ (0, 0) _ s Try.underlying24 rfl (by rw [info24]; rfl)
theorem Hb.new (w : World) (h : Hd) : Hb (w.alloc (.cells h.cs 24)) w.heap.size h := St.new 24 w _
theorem Hb.kp {F : Nat → Prop} {w w' : World} {g : Nat} {h : Hd} (s : Hb w g h) (k : Kp F w w') (hf : ¬ F g) : Hb w' g h := St.kp s k hf
theorem Hb.cell {w : World} {g : Nat} {h : Hd} (s : Hb w g h) (i : Nat) : w.cell? ⟨g, i, none⟩ = h.cs[i]? := St.cell s i
theorem exec_load_hd {o : Oper} {a : Act} {w : World} {x : Operand} {g : Nat} {h : Hd} (ho : o.op = .load 24 x) (hx : a.eval x = .pointer (some ⟨g, 0, none⟩)) (s : Hb w g h) :
    (execOp a.eval o).run Try.prog w = .ok (.value (.agg h.cs)) w := by
  unfold execOp
  simp only [ho, hx, Instr.loadAt, Instr.sureAddr, Sem.run_bind, Sem.run_pure, Result.andThen_ok, s.load]
theorem wp_load_hd {o : Oper} {a : Act} {w : World} {K : Act → World → Prop} {Q : Exit → Act → World → Prop} (x : Operand) (ho : o.op = .load 24 x) (g : Nat) (hx : a.eval x = .pointer (some ⟨g, 0, none⟩)) {h : Hd} (s : Hb w g h)
    (hk : K (a.put o.dst (.agg h.cs)) w) : o.wp Try.prog a w K Q := wp_load_row 24 x ho g hx 24 h.cs (0, 0) _ s Try.underlying24 rfl (by rw [info24]; rfl) hk
theorem wpList_load_hd {ops : Array Oper} {rest : List Oper} {o : Oper} {a : Act} {w : World} {Q : Exit → Act → World → Prop} (hgd : o.guard = none) (x : Operand) (ho : o.op = .load 24 x) (g : Nat) (hx : a.eval x = .pointer (some ⟨g, 0, none⟩)) {h : Hd} (s : Hb w g h)
    (hk : wpList Try.prog ops Q rest (a.put o.dst (.agg h.cs)) w) : wpList Try.prog ops Q (o :: rest) a w := wpList_plain hgd fun _ hK => wp_load_hd x ho g hx s (hK _ _ hk)
theorem cs_one (h : Hd) : h.cs.all (·.oneCell') = true := by simp [Hd.cs, Value.oneCell']
theorem kp_setRow (w : World) (g : Nat) (cs : Array Value) : Kp (fun i => i = g) w (w.setRow g cs) := Kp.of_grown (grown_setRow g cs) (fun i e => by cases e; rfl)
/-- A head is stored whole. -/
theorem wpList_store_hd {ops : Array Oper} {rest : List Oper} {o : Oper} {a : Act} {w : World} {Q : Exit → Act → World → Prop} (hgd : o.guard = none) (x y : Operand) (ho : o.op = .store 24 x y) (g : Nat) (hx : a.eval x = .pointer (some ⟨g, 0, none⟩)) {h h' : Hd} (hy : a.eval y = .agg h'.cs) (s : Hb w g h)
    (hk : ∀ w', Hb w' g h' → Kp (fun i => i = g) w w' → wpList Try.prog ops Q rest (a.put o.dst undef) w') : wpList Try.prog ops Q (o :: rest) a w :=
  wpList_store_row hgd 24 x y ho g h'.cs hx hy 24 h.cs s (by rw [info24]; rfl) rfl (cs_one h') (hk _ (setRow_heap w g _ _ 24 _ s) (kp_setRow w g _))
theorem clu_wrap {b : Int} (h9 : 9 ≤ b) (h16 : b ≤ 16) : wrap64 (2 ^ b.toNat) = clu b := by
  have h := clu_cases h9 h16
  show wrap64 (clu b) = clu b
  rcases h with h | h | h | h | h | h | h | h <;> rw [h] <;> unfold wrap64 <;> omega
theorem clu_bd {b : Int} (h9 : 9 ≤ b) (h16 : b ≤ 16) : 512 ≤ clu b ∧ clu b ≤ 65536 := by
  rcases clu_cases h9 h16 with h | h | h | h | h | h | h | h <;> omega

set_option maxRecDepth 100000 in
set_option maxHeartbeats 1000000 in
theorem cluster_any (h : Hd) (w : World) (h9 : 9 ≤ h.bits) (h16 : h.bits ≤ 16) :
    Calls Try.prog 25 #[.agg h.cs] w fun e w' => e = .returned (.int .i64 (clu h.bits)) ∧ Kp (fun _ => False) w w' := by
  have e0 : h.cs[0]? = some (.int .i64 h.bits) := rfl
  have hw := clu_wrap h9 h16
  go_enter Try.func25, Try.ntmps25
  go_wp2_with fail
  rw [hw]
  go_ret
  exact ⟨rfl, (Kp.refl _ _).alloc _⟩
set_option maxRecDepth 100000 in
set_option maxHeartbeats 1000000 in
theorem entries_any (h : Hd) (w : World) (h9 : 9 ≤ h.bits) (h16 : h.bits ≤ 16) :
    Calls Try.prog 26 #[.agg h.cs] w fun e w' => e = .returned (.int .i64 (clu h.bits / 8)) ∧ Kp (fun _ => False) w w' := by
  have HB := hid (Hb.new w h)
  have HK : Hid (Kp (fun _ => False) w (w.alloc (.cells h.cs 24))) := (Kp.refl _ _).alloc _
  have hbd := clu_bd h9 h16
  go_enter Try.func26, Try.ntmps26
  go_wp2_with (first | (refine wpList_load_hd rfl (.tmp 1) rfl _ rfl HB.out ?_) | (go_at_call 25; refine (cluster_any h _ h9 h16).mono ?_; rintro e w' ⟨rfl, k'⟩; obtain ⟨c, hc⟩ : ∃ c, c = clu h.bits := ⟨_, rfl⟩; rw [← hc] at hbd ⊢; have hC := hid hc; clear hc))
  go_ret
  exact ⟨by rw [← hC.out]; go_num, HK.out.trans k' (fun _ _ h => h)⟩
theorem I6_w64 (x : Int) : I6 (wrap64 x) := by unfold I6 wrap64; omega
theorem w64 (x : Int) (h : I6 x) : wrap64 x = x := by unfold I6 at h; unfold wrap64; omega
set_option maxHeartbeats 1000000 in
theorem parts_any (x c : Int) (w : World) (hx : I6 x) (h0 : 0 < c) (h1 : c ≤ 65536) :
    Calls Try.prog 39 #[.int .i64 x, .int .i64 c] w fun e w' => (∃ y, e = .returned (.int .i64 y) ∧ I6 y ∧ (0 ≤ x ∧ x ≤ 67108864 → y = up x c)) ∧ w' = w := by
  go_enter Try.func39, Try.ntmps39
  go_wp2_with fail
  go_ret
  refine ⟨⟨_, rfl, I6_w64 _, fun hx0 => ?_⟩, rfl⟩
  rw [w64 (x + c) (by unfold I6; omega), w64 (x + c - 1) (by unfold I6; omega), Int.tdiv_eq_ediv_of_nonneg (by omega), up_parts x c h0]
  have h2 := up_nn x c hx0.1 h0
  have h3 := up_le x c hx0.1 h0
  exact w64 _ (by unfold I6; omega)
set_option maxRecDepth 100000 in
set_option maxHeartbeats 2000000 in
theorem guest_any (h : Hd) (w : World) (h9 : 9 ≤ h.bits) (h16 : h.bits ≤ 16) (hs : I6 h.size) :
    Calls Try.prog 27 #[.agg h.cs] w fun e w' => (∃ y, e = .returned (.int .i64 y) ∧ I6 y ∧ (0 ≤ h.size ∧ h.size ≤ 67108864 → y = gst h)) ∧ Kp (fun _ => False) w w' := by
  have HB := hid (Hb.new w h)
  have HK : Hid (Kp (fun _ => False) w (w.alloc (.cells h.cs 24))) := (Kp.refl _ _).alloc _
  have hbd := clu_bd h9 h16
  have e0 : (w.alloc (.cells h.cs 24)).cell? ⟨w.heap.size, 0, none⟩ = some (.int .i64 h.bits) := HB.out.cell 0
  have e2 : (w.alloc (.cells h.cs 24)).cell? ⟨w.heap.size, 2, none⟩ = some (.int .i64 h.size) := HB.out.cell 2
  go_enter Try.func27, Try.ntmps27
  go_wp2_with fail
  generalize w.alloc (.cells h.cs 24) = W at *
  generalize hB : w.heap.size = B at *
  refine wp_region_G (fun w' => Kp (fun _ => False) W w') [] hmix (Kp.refl _ _).drew (fun h0 => ?_)
  refine wpAnyG_takeW (i := 0) (oi := { dst := some 3, op := Go.Op.fieldAddr 24 (Go.Operand.tmp 1) 2, type := 0, pos := "may.go:83", after := #[], guard := none }) (v := ?v0) rfl (by kernel_rfl) (fun _ _ _ h => h) (Or.inl ⟨by rfl, ?hy0⟩) ?rest0
  case hy0 => (intro w hSw; go_simp; try with_reducible rfl)
  try simp only [Act.put, List.setIfInBounds_toArray, List.set_cons_zero, List.set_cons_succ]
  refine wpAnyG_take (i := 1) (oi := { dst := some 4, op := Go.Op.load 2 (Go.Operand.tmp 3), type := 2, pos := "may.go:83", after := #[{ on := 0, ground := Go.Ground.data }], guard := none }) (v := ?v1) rfl (by kernel_rfl) (fun _ _ _ h => h) (Or.inl ⟨by rfl, ?hy1⟩) h0 ?rest1
  case hy1 => (intro w hSw; (try dsimp only at hSw); have e0 := hSw.cell e0; have e2 := hSw.cell e2; go_simp; try with_reducible rfl)
  try simp only [Act.put, List.setIfInBounds_toArray, List.set_cons_zero, List.set_cons_succ]
  refine wpAnyG_take (i := 2) (oi := { dst := some 5, op := Go.Op.load 24 (Go.Operand.tmp 1), type := 24, pos := "may.go:83", after := #[], guard := none }) (v := .agg h.cs) rfl (by kernel_rfl) (fun _ _ _ h => h) (Or.inl ⟨by rfl, ?hy2⟩) h0 ?rest2
  case hy2 => exact fun w hSw => exec_load_hd rfl rfl (HB.out.kp hSw (fun x => x))
  try simp only [Act.put, List.setIfInBounds_toArray, List.set_cons_zero, List.set_cons_succ]
  refine wpAnyG_one (i := 3) (by kernel_rfl) rfl (fun K hK => ?_)
  go_simp
  refine (cluster_any h _ h9 h16).mono ?_
  rintro _ w1 ⟨rfl, k1⟩
  go_wp2_with fail
  refine hK.out _ _ (fun _ h => h.trans k1 (fun _ _ x => x)) ?_
  have s1 : Kp (fun _ => False) W w1 := h0.trans k1 (fun _ _ x => x)
  clear hK K
  refine wpAnyG_one (i := 4) (by kernel_rfl) rfl (fun K hK => ?_)
  go_simp
  refine (parts_any h.size (clu h.bits) _ hs (by omega) (by omega)).mono ?_
  rintro _ w2 ⟨⟨y, rfl, hy, hy2⟩, e2w⟩
  have k2 : Kp (fun _ => False) w1 w2 := by rw [e2w]; exact Kp.refl _ _
  clear e2w
  go_wp2_with fail
  refine hK.out _ _ (fun _ h => h.trans k2 (fun _ _ x => x)) ?_
  have s2 : Kp (fun _ => False) W w2 := s1.trans k2 (fun _ _ x => x)
  clear hK K
  refine wpAnyG_takeW (i := 5) (oi := { dst := some 2, op := Go.Op.assign (Go.Operand.tmp 7), type := 2, pos := "may.go:83", after := #[{ on := 4, ground := Go.Ground.data }, { on := 4, ground := Go.Ground.chain }, { on := 0, ground := Go.Ground.phase }, { on := 1, ground := Go.Ground.phase }, { on := 2, ground := Go.Ground.phase }, { on := 3, ground := Go.Ground.phase }, { on := 4, ground := Go.Ground.phase }], guard := none }) (v := ?v5) rfl (by kernel_rfl) (fun _ _ _ h => h) (Or.inl ⟨by rfl, ?hy5⟩) ?rest5
  case hy5 => (intro w hSw; go_simp; try with_reducible rfl)
  try simp only [Act.put, List.setIfInBounds_toArray, List.set_cons_zero, List.set_cons_succ]
  refine wpAnyG_done (by kernel_rfl) ?_ _
  go_wp2_with fail
  go_ret
  exact ⟨⟨y, rfl, hy, hy2⟩, HK.out.trans s2 (fun _ _ x => x)⟩
set_option maxRecDepth 100000 in
set_option maxHeartbeats 2000000 in
theorem tables_any (h : Hd) (w : World) (h9 : 9 ≤ h.bits) (h16 : h.bits ≤ 16) (hs : I6 h.size) :
    Calls Try.prog 28 #[.agg h.cs] w fun e w' => (∃ y, e = .returned (.int .i64 y) ∧ I6 y ∧ (0 ≤ h.size ∧ h.size ≤ 67108864 → y = tbl h)) ∧ Kp (fun _ => False) w w' := by
  have HB := hid (Hb.new w h)
  have HK : Hid (Kp (fun _ => False) w (w.alloc (.cells h.cs 24))) := (Kp.refl _ _).alloc _
  have hbd := clu_bd h9 h16
  have e0 : (w.alloc (.cells h.cs 24)).cell? ⟨w.heap.size, 0, none⟩ = some (.int .i64 h.bits) := HB.out.cell 0
  have e2 : (w.alloc (.cells h.cs 24)).cell? ⟨w.heap.size, 2, none⟩ = some (.int .i64 h.size) := HB.out.cell 2
  go_enter Try.func28, Try.ntmps28
  go_wp2_with fail
  generalize w.alloc (.cells h.cs 24) = W at *
  generalize hB : w.heap.size = B at *
  refine wp_region_G (fun w' => Kp (fun _ => False) W w') [] hmix (Kp.refl _ _).drew (fun h0 => ?_)
  refine wpAnyG_take (i := 0) (oi := { dst := some 3, op := Go.Op.load 24 (Go.Operand.tmp 1), type := 24, pos := "may.go:86", after := #[], guard := none }) (v := .agg h.cs) rfl (by kernel_rfl) (fun _ _ _ h => h) (Or.inl ⟨by rfl, ?hy0⟩) h0 ?rest0
  case hy0 => exact fun w hSw => exec_load_hd rfl rfl (HB.out.kp hSw (fun x => x))
  try simp only [Act.put, List.setIfInBounds_toArray, List.set_cons_zero, List.set_cons_succ]
  refine wpAnyG_take (i := 2) (oi := { dst := some 5, op := Go.Op.load 24 (Go.Operand.tmp 1), type := 24, pos := "may.go:86", after := #[], guard := none }) (v := .agg h.cs) rfl (by kernel_rfl) (fun _ _ _ h => h) (Or.inl ⟨by rfl, ?hy2⟩) h0 ?rest2
  case hy2 => exact fun w hSw => exec_load_hd rfl rfl (HB.out.kp hSw (fun x => x))
  try simp only [Act.put, List.setIfInBounds_toArray, List.set_cons_zero, List.set_cons_succ]
  refine wpAnyG_one (i := 1) (by kernel_rfl) rfl (fun K hK => ?_)
  go_simp
  refine (guest_any h _ h9 h16 hs).mono ?_
  rintro _ w1 ⟨⟨y, rfl, hy, hy2⟩, k1⟩
  go_wp2_with fail
  refine hK.out _ _ (fun _ h => h.trans k1 (fun _ _ x => x)) ?_
  have s1 : Kp (fun _ => False) W w1 := h0.trans k1 (fun _ _ x => x)
  clear hK K
  refine wpAnyG_one (i := 3) (by kernel_rfl) rfl (fun K hK => ?_)
  go_simp
  refine (entries_any h _ h9 h16).mono ?_
  rintro _ w2 ⟨rfl, k2⟩
  go_wp2_with fail
  refine hK.out _ _ (fun _ h => h.trans k2 (fun _ _ x => x)) ?_
  have s2 : Kp (fun _ => False) W w2 := s1.trans k2 (fun _ _ x => x)
  clear hK K
  refine wpAnyG_one (i := 4) (by kernel_rfl) rfl (fun K hK => ?_)
  go_simp
  refine (parts_any y (clu h.bits / 8) _ hy (by omega) (by omega)).mono ?_
  rintro _ w3 ⟨⟨z, rfl, hz, hz2⟩, e3w⟩
  have k3 : Kp (fun _ => False) w2 w3 := by rw [e3w]; exact Kp.refl _ _
  clear e3w
  go_wp2_with fail
  refine hK.out _ _ (fun _ h => h.trans k3 (fun _ _ x => x)) ?_
  have s3 : Kp (fun _ => False) W w3 := s2.trans k3 (fun _ _ x => x)
  clear hK K
  refine wpAnyG_takeW (i := 5) (oi := { dst := some 2, op := Go.Op.assign (Go.Operand.tmp 7), type := 2, pos := "may.go:86", after := #[{ on := 4, ground := Go.Ground.data }, { on := 4, ground := Go.Ground.chain }, { on := 0, ground := Go.Ground.phase }, { on := 1, ground := Go.Ground.phase }, { on := 2, ground := Go.Ground.phase }, { on := 3, ground := Go.Ground.phase }, { on := 4, ground := Go.Ground.phase }], guard := none }) (v := ?v5) rfl (by kernel_rfl) (fun _ _ _ h => h) (Or.inl ⟨by rfl, ?hy5⟩) ?rest5
  case hy5 => (intro w hSw; go_simp; try with_reducible rfl)
  try simp only [Act.put, List.setIfInBounds_toArray, List.set_cons_zero, List.set_cons_succ]
  refine wpAnyG_done (by kernel_rfl) ?_ _
  go_wp2_with fail
  go_ret
  refine ⟨⟨z, rfl, hz, fun hh => ?_⟩, HK.out.trans s3 (fun _ _ x => x)⟩
  have hg := hy2 hh
  have h1 := up_nn h.size (clu h.bits) hh.1 (by omega)
  have h2 := up_le h.size (clu h.bits) hh.1 (by omega)
  have h3 : gst h = up h.size (clu h.bits) := rfl
  rw [hz2 (by omega), hg]
  rfl
end Go.Proofs.Ytejdmnhdjeogaaa
