/- head: the rules of a head: its three closures. -/
import Derived.Test.YtejdmnhdjeogaaaSm
namespace Go.Proofs.Ytejdmnhdjeogaaa
open Go.RowKit
set_option linter.unusedVariables false

/-- A rule's value. -/
def rc (x l m s : Int) : Array Value := #[.int .i64 x, .int .i64 l, .int .i64 m, .int .i64 s]
def rv (x l m s : Int) : Value := .agg (rc x l m s)
theorem info53r : (Try.prog.info? 53).map (·.size) = some 4 := by kernel_rfl
theorem rule_load {w : World} {g : Nat} {x l m s : Int} (h : St 53 w g (rc x l m s)) : (loadVar 53 ⟨g, 0, none⟩).run Try.prog w = .ok (rv x l m s) w :=
  run_loadVar_row w g 53 53 _ (0, 0) _ h Try.underlying53 rfl (by rw [info53r]; rfl)
set_option maxRecDepth 100000 in
set_option maxHeartbeats 2000000 in
theorem list_rule (l : Int) (w : World) : Calls Try.prog 47 #[.int .i64 l] w fun e w' => e = .returned (rv l 1 65536 1) ∧ Kp (fun _ => False) w w' := by
  go_enter Try.func47, Try.ntmps47
  go_wp2_with fail
  refine bodyPost_ret (results_cell1 Try.results47 _ _ _ rfl (rule_load (St.new 53 w (rc l 1 65536 1)))) rfl ?_
  exact ⟨rfl, (Kp.refl _ _).alloc _⟩
set_option maxRecDepth 100000 in
set_option maxHeartbeats 2000000 in
theorem nought_zero (x l m s : Int) (w : World) : Calls Try.prog 46 #[.int .i64 0, rv x l m s] w fun e w' => e = .returned (rv x 0 0 1) ∧ Kp (fun _ => False) w w' := by
  unfold rv rc
  go_enter Try.func46, Try.ntmps46
  go_wp2_with fail
  refine bodyPost_ret (results_cell1 Try.results46 _ _ _ rfl (rule_load (x := x) (l := 0) (m := 0) (s := 1) (heap_alloc2_new w _ _))) rfl ?_
  exact ⟨rfl, ((Kp.refl _ _).alloc _).alloc _⟩
set_option maxRecDepth 100000 in
set_option maxHeartbeats 2000000 in
theorem nought_else (n x l m s : Int) (w : World) (hn : n ≠ 0) : Calls Try.prog 46 #[.int .i64 n, rv x l m s] w fun e w' => e = .returned (rv x l m s) ∧ Kp (fun _ => False) w w' := by
  unfold rv rc
  go_enter Try.func46, Try.ntmps46
  go_wp2_with fail
  refine bodyPost_ret (results_cell1 Try.results46 _ _ _ rfl (rule_load (x := x) (l := l) (m := m) (s := s) (heap_alloc2_new w _ _))) rfl ?_
  exact ⟨rfl, ((Kp.refl _ _).alloc _).alloc _⟩
/-- What there is nothing of has neither a place nor a length. -/
theorem nought_any (n x l m s : Int) (w : World) : Calls Try.prog 46 #[.int .i64 n, rv x l m s] w fun e w' => (∃ l' m' s', e = .returned (rv x l' m' s') ∧ (n = 0 → l' = 0 ∧ m' = 0 ∧ s' = 1) ∧ (n ≠ 0 → l' = l ∧ m' = m ∧ s' = s)) ∧ Kp (fun _ => False) w w' := by
  by_cases hn : n = 0
  · subst hn
    refine (nought_zero x l m s w).mono ?_
    rintro e w' ⟨rfl, k⟩
    exact ⟨⟨0, 0, 1, rfl, fun _ => ⟨rfl, rfl, rfl⟩, fun h => absurd rfl h⟩, k⟩
  · refine (nought_else n x l m s w hn).mono ?_
    rintro e w' ⟨rfl, k⟩
    exact ⟨⟨l, m, s, rfl, fun h => absurd h hn, fun _ => ⟨rfl, rfl, rfl⟩⟩, k⟩
set_option maxRecDepth 100000 in
set_option maxHeartbeats 2000000 in
theorem place_rule (h : Hd) (B : Nat) (x : Int) (w : World) (h9 : 9 ≤ h.bits) (h16 : h.bits ≤ 16) (hb : Hb w B h) :
    Calls Try.prog 45 #[.int .i64 x, .pointer (some ⟨B, 0, none⟩)] w fun e w' => e = .returned (rv x (clu h.bits) 268435456 (clu h.bits)) ∧ Kp (fun _ => False) w w' := by
  have HB : Hid (Hb (w.alloc (.cells (rc 0 0 0 0) 53)) B h) := hb.kp ((Kp.refl (fun _ => False) _).alloc _) (fun x => x)
  have HK : Hid (Kp (fun _ => False) w (w.alloc (.cells (rc 0 0 0 0) 53))) := (Kp.refl _ _).alloc _
  have HS := hid (St.new 53 w (rc 0 0 0 0))
  have hz : (w.alloc (.cells (rc 0 0 0 0) 53)).heap.size = w.heap.size + 1 := by simp
  go_enter Try.func45, Try.ntmps45
  go_wp2_with fail
  rw [show (#[Value.int .i64 0, Value.int .i64 0, Value.int .i64 0, Value.int .i64 0] : Array Value) = rc 0 0 0 0 from rfl]
  generalize w.alloc (.cells (rc 0 0 0 0) 53) = W at *
  generalize hG : w.heap.size = G at *
  refine wp_region_G (fun w' => Kp (fun _ => False) W w') [6] hmix (Kp.refl _ _).drew (fun h0 => ?_)
  refine wpAnyG_takeW (i := 0) (oi := { dst := some 4, op := Go.Op.move (Go.Operand.tmp 0), type := 2, pos := "may.go:45", after := #[], guard := none }) (v := ?v0) rfl (by kernel_rfl) (fun _ _ _ h => h) (Or.inl ⟨by rfl, ?hy0⟩) ?rest0
  case hy0 => (intro w hSw; go_simp; try with_reducible rfl)
  try simp only [Act.put, List.setIfInBounds_toArray, List.set_cons_zero, List.set_cons_succ]
  refine wpAnyG_take (i := 1) (oi := { dst := some 5, op := Go.Op.load 24 (Go.Operand.tmp 1), type := 24, pos := "may.go:45", after := #[], guard := none }) (v := .agg h.cs) rfl (by kernel_rfl) (fun _ _ _ h => h) (Or.inl ⟨by rfl, ?hy1⟩) h0 ?rest1
  case hy1 => exact fun w hSw => exec_load_hd rfl rfl (HB.out.kp hSw (fun x => x))
  try simp only [Act.put, List.setIfInBounds_toArray, List.set_cons_zero, List.set_cons_succ]
  refine wpAnyG_take (i := 3) (oi := { dst := some 7, op := Go.Op.load 24 (Go.Operand.tmp 1), type := 24, pos := "may.go:45", after := #[], guard := none }) (v := .agg h.cs) rfl (by kernel_rfl) (fun _ _ _ h => h) (Or.inl ⟨by rfl, ?hy3⟩) h0 ?rest3
  case hy3 => exact fun w hSw => exec_load_hd rfl rfl (HB.out.kp hSw (fun x => x))
  try simp only [Act.put, List.setIfInBounds_toArray, List.set_cons_zero, List.set_cons_succ]
  refine wpAnyG_one (i := 2) (by kernel_rfl) rfl (fun K hK => ?_)
  go_simp
  refine (cluster_any h _ h9 h16).mono ?_
  rintro _ w1 ⟨rfl, k1⟩
  go_wp2_with fail
  refine hK.out _ _ (fun _ h => h.trans k1 (fun _ _ x => x)) ?_
  have s1 : Kp (fun _ => False) W w1 := h0.trans k1 (fun _ _ x => x)
  clear hK K
  refine wpAnyG_one (i := 4) (by kernel_rfl) rfl (fun K hK => ?_)
  go_simp
  refine (cluster_any h _ h9 h16).mono ?_
  rintro _ w2 ⟨rfl, k2⟩
  go_wp2_with fail
  refine hK.out _ _ (fun _ h => h.trans k2 (fun _ _ x => x)) ?_
  have s2 : Kp (fun _ => False) W w2 := s1.trans k2 (fun _ _ x => x)
  clear hK K
  refine wpAnyG_takeW (i := 5) (oi := { dst := some 9, op := Go.Op.build 53 #[(0, Go.Operand.tmp 4), (1, Go.Operand.tmp 6), (2, Go.Operand.const (Go.Value.int Go.IntKind.i64 268435456)), (3, Go.Operand.tmp 8)], type := 53, pos := "may.go:45", after := #[{ on := 0, ground := Go.Ground.data }, { on := 2, ground := Go.Ground.data }, { on := 4, ground := Go.Ground.data }], guard := none }) (v := ?v5) rfl (by kernel_rfl) (fun _ _ _ h => h) (Or.inl ⟨by rfl, ?hy5⟩) ?rest5
  case hy5 => (intro w hSw; go_simp; try with_reducible rfl)
  try simp only [Act.put, List.setIfInBounds_toArray, List.set_cons_zero, List.set_cons_succ]
  refine wpAnyG_one (i := 6) (by kernel_rfl) rfl (fun K hK => ?_)
  have HS2 := HS.out.kp s2 (fun x => x)
  have c0 : w2.cell? ⟨G, 0, none⟩ = some (.int .i64 0) := HS2.cell 0
  have c1 : w2.cell? ⟨G, 1, none⟩ = some (.int .i64 0) := HS2.cell 1
  have c2 : w2.cell? ⟨G, 2, none⟩ = some (.int .i64 0) := HS2.cell 2
  have c3 : w2.cell? ⟨G, 3, none⟩ = some (.int .i64 0) := HS2.cell 3
  have f0 := HS2.frozen 0
  have f1 := HS2.frozen 1
  have f2 := HS2.frozen 2
  have f3 := HS2.frozen 3
  have HS3 := hid HS2
  have s3 := hid s2
  clear HS2
  go_simp
  refine hK.out _ _ (fun h => absurd h (by decide)) ?_
  clear hK K
  refine wpAnyG_done (by kernel_rfl) ?_ _
  go_wp2_with fail
  have hF := ((((HS3.out.set 0 (.int .i64 x)).set 1 (.int .i64 (clu h.bits))).set 2 (.int .i64 268435456)).set 3 (.int .i64 (clu h.bits)))
  have hk : Kp (fun i => i = G) w2 ((((w2.setCell ⟨G, 0, none⟩ (.int .i64 x)).setCell ⟨G, 1, none⟩ (.int .i64 (clu h.bits))).setCell ⟨G, 2, none⟩ (.int .i64 268435456)).setCell ⟨G, 3, none⟩ (.int .i64 (clu h.bits))) :=
    (((kp_setCell _ _ _ _ (fun i => i = G) rfl).trans (kp_setCell _ _ _ _ (fun i => i = G) rfl) (fun _ _ h => h)).trans (kp_setCell _ _ _ _ (fun i => i = G) rfl) (fun _ _ h => h)).trans (kp_setCell _ _ _ _ (fun i => i = G) rfl) (fun _ _ h => h)
  refine bodyPost_ret (results_cell1 Try.results45 _ _ _ rfl (rule_load (x := x) (l := clu h.bits) (m := 268435456) (s := clu h.bits) hF)) rfl ?_
  exact ⟨rfl, (HK.out.trans s3.out (fun _ _ x => x)).trans hk (fun i h1 h2 => by omega)⟩
end Go.Proofs.Ytejdmnhdjeogaaa
