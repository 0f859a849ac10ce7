/- The document's numbers: Cluster, Up, Guest, Tables, Place, list. -/
import Derived.Test.YtejdmnhdjeogaaaSm
import Derived.Test.YtejdmnhdjeogaaaRp
import Derived.Test.YtejdmnhdjeogaaaMy
namespace Go.Proofs.Ytejdmnhdjeogaaa
open Go.RowKit
set_option linter.unusedVariables false
theorem two_pow_le {k n : Nat} (h : k ≤ n) (hn : n ≤ 16) : (1 : Int) ≤ 2 ^ k ∧ (2 : Int) ^ k ≤ 65536 := by
  have h1 : (2 : Int) ^ k ≤ 2 ^ 16 := by exact_mod_cast Nat.pow_le_pow_right (by omega) (show k ≤ 16 by omega)
  have h2 : (1 : Int) ≤ 2 ^ k := by exact_mod_cast Nat.one_le_two_pow
  exact ⟨h2, h1⟩
set_option maxHeartbeats 1000000 in
theorem rcluster (b : Int) (w : World) (h9 : 9 ≤ b) (h16 : b ≤ 16) : Calls Try.prog 16 #[.int .i64 b] w fun e w' => e = .returned (.int .i64 (clu b)) ∧ w' = w := by
  obtain ⟨n, rfl⟩ := Int.eq_ofNat_of_zero_le (show 0 ≤ b by omega)
  have hn : n ≤ 16 := by omega
  go_enter Try.func16, Try.ntmps16
  go_wp2
  go_loop [3, 4] (fun c i => ∃ k : Nat, k ≤ n ∧ i = .int .i64 k ∧ c = .int .i64 (2 ^ k)) (fun _ i => n - (intOf i).toNat)
  case atStart => exact ⟨0, Nat.zero_le _, rfl, rfl⟩
  case round =>
    obtain ⟨k, hk, rfl, rfl⟩ := hrel
    by_cases hkn : k < n
    · have hp := two_pow_le hk hn
      have hs : (2 : Int) ^ (k + 1) = 2 * 2 ^ k := by rw [Int.pow_succ, Int.mul_comm]
      have HS := hid hs
      clear hs
      generalize hX : (2 : Int) ^ k = X at *
      go_wp2
      go_round
      case rel => exact ⟨k + 1, by omega, by go_num, by rw [HS.out]⟩
      case measure => simp [intOf]; omega
    · have hki : ¬ (k : Int) < (n : Int) := by omega
      have hkk : k = n := by omega
      have HKK := hid hkk
      clear hkk hkn
      go_wp2
      go_ret
      refine ⟨?_, rfl⟩
      rw [HKK.out]
      unfold clu
      rw [Int.toNat_natCast]
      rfl
set_option maxHeartbeats 1000000 in
theorem rup (a c : Int) (w : World) (ha : 0 ≤ a) (ha1 : a ≤ 67108864) (h0 : 0 < c) (h1 : c ≤ 65536) : Calls Try.prog 31 #[.int .i64 a, .int .i64 c] w fun e w' => e = .returned (.int .i64 (up a c)) ∧ w' = w := by
  have e1 : a.tmod c = a % c := Int.tmod_eq_emod_of_nonneg ha
  have e2 : a.tdiv c = a / c := Int.tdiv_eq_ediv_of_nonneg ha
  have d0 := Int.ediv_nonneg ha (show 0 ≤ c by omega)
  have d1 : a / c ≤ a := Int.ediv_le_self c ha
  have m0 := Int.emod_nonneg a (show c ≠ 0 by omega)
  have m1 := Int.emod_lt_of_pos a h0
  have HU0 : Hid (a % c = 0 → up a c = a / c) := fun e => by unfold up; rw [if_pos e]
  have HU1 : Hid (¬ a % c = 0 → up a c = a / c + 1) := fun e => by unfold up; rw [if_neg e]
  generalize hm : a % c = m at *
  generalize hd : a / c = d at *
  go_enter Try.func31, Try.ntmps31
  by_cases hz : m = 0
  · subst hz
    go_wp2_with fail
    go_ret
    rw [HU0.out (by trivial)]
    exact ⟨rfl, rfl⟩
  · go_wp2_with fail
    go_ret
    rw [HU1.out hz]
    exact ⟨rfl, rfl⟩
def q17r1_0 : Oper := { dst := some 3, op := Go.Op.fieldAddr 24 (Go.Operand.tmp 1) 2, type := 0, pos := "ref.go:36", after := #[], guard := none }
def q17r1_1 : Oper := { dst := some 4, op := Go.Op.load 2 (Go.Operand.tmp 3), type := 2, pos := "ref.go:36", after := #[{ on := 0, ground := Go.Ground.data }], guard := none }
def q17r1_2 : Oper := { dst := some 5, op := Go.Op.fieldAddr 24 (Go.Operand.tmp 1) 0, type := 0, pos := "ref.go:36", after := #[], guard := none }
def q17r1_3 : Oper := { dst := some 6, op := Go.Op.load 3 (Go.Operand.tmp 5), type := 3, pos := "ref.go:36", after := #[{ on := 2, ground := Go.Ground.data }], guard := none }
def q17r1_4 : Oper := { dst := some 7, op := Go.Op.call { callee := Go.Callee.value (Go.Operand.func 16), args := #[Go.Operand.tmp 6], argTypes := #[3] }, type := 2, pos := "ref.go:36", after := #[{ on := 3, ground := Go.Ground.data }], guard := none }
def q17r1_5 : Oper := { dst := some 8, op := Go.Op.call { callee := Go.Callee.value (Go.Operand.func 31), args := #[Go.Operand.tmp 4, Go.Operand.tmp 7], argTypes := #[2, 2] }, type := 2, pos := "ref.go:36", after := #[{ on := 1, ground := Go.Ground.data }, { on := 4, ground := Go.Ground.data }, { on := 4, ground := Go.Ground.chain }], guard := none }
def q17r1_6 : Oper := { dst := some 2, op := Go.Op.assign (Go.Operand.tmp 8), type := 2, pos := "ref.go:36", after := #[{ on := 5, ground := Go.Ground.data }, { on := 5, ground := Go.Ground.chain }, { on := 0, ground := Go.Ground.phase }, { on := 1, ground := Go.Ground.phase }, { on := 2, ground := Go.Ground.phase }, { on := 3, ground := Go.Ground.phase }, { on := 4, ground := Go.Ground.phase }, { on := 5, ground := Go.Ground.phase }], guard := none }
def o17r1 : Array Oper := #[q17r1_0, q17r1_1, q17r1_2, q17r1_3, q17r1_4, q17r1_5, q17r1_6]
def p17r1_7 : List (Nat × Oper) := []
def p17r1_6 : List (Nat × Oper) := (0, q17r1_6) :: p17r1_7
def p17r1_5 : List (Nat × Oper) := (1, q17r1_5) :: p17r1_6
def p17r1_4 : List (Nat × Oper) := (1, q17r1_4) :: p17r1_5
def p17r1_3 : List (Nat × Oper) := (0, q17r1_3) :: p17r1_4
def p17r1_2 : List (Nat × Oper) := (0, q17r1_2) :: p17r1_3
def p17r1_1 : List (Nat × Oper) := (0, q17r1_1) :: p17r1_2
def p17r1_0 : List (Nat × Oper) := (0, q17r1_0) :: p17r1_1
def c17r1 : List (Nat × Nat) := [(0, 0), (0, 1), (0, 2), (0, 3), (1, 4), (1, 5), (0, 6)]
theorem b17r1 : (Region.noSelect o17r1 && (c17r1.length == o17r1.size) && planB o17r1 [] c17r1 (Array.replicate o17r1.size false)) = true := by kernel_rfl
theorem d17r1 : (c17r1.map fun p => (p.1, o17r1[p.2]?)) = (p17r1_0.map fun p => (p.1, some p.2)) := by kernel_rfl
set_option maxRecDepth 100000 in
set_option maxHeartbeats 2000000 in
theorem rguest (h : Hd) (w : World) (h9 : 9 ≤ h.bits) (h16 : h.bits ≤ 16) (z0 : 0 ≤ h.size) (z1 : h.size ≤ 67108864) :
    Calls Try.prog 17 #[.agg h.cs] w fun e w' => e = .returned (.int .i64 (gst h)) ∧ Kp (fun _ => False) w w' := by
  have HB := hid (Hb.new w h)
  have HK : Hid (Kp (fun _ => False) w (w.alloc (.cells h.cs 24))) := (Kp.refl _ _).alloc _
  have hbd := clu_bd h9 h16
  have gn := up_nn h.size (clu h.bits) z0 (by omega)
  have gl := up_le h.size (clu h.bits) z0 (by omega)
  have gg : gst h = up h.size (clu h.bits) := rfl
  have E0 : Hid ((w.alloc (.cells h.cs 24)).cell? ⟨w.heap.size, 0, none⟩ = some (.int .i64 h.bits)) := HB.out.cell 0
  have E2 : Hid ((w.alloc (.cells h.cs 24)).cell? ⟨w.heap.size, 2, none⟩ = some (.int .i64 h.size)) := HB.out.cell 2
  go_enter Try.func17, Try.ntmps17
  go_wp2_with fail
  generalize w.alloc (.cells h.cs 24) = W at *
  generalize hB : w.heap.size = B at *
  have h0 : Kp (fun _ => False) W W.drew := (Kp.refl _ _).drew
  change (Code.region 1 o17r1 true).wp _ _ _ _
  refine wp_region_plan (fun w' => Kp (fun _ => False) W w') [] c17r1 p17r1_0 hmix b17r1 d17r1 (fun _ _ d _ _ h => by cases d <;> exact h) ?_
  refine plan_take (o := q17r1_0) (r := p17r1_1) ?vg170 h0 (by rfl) ?hyg170 ?restg170
  case hyg170 => (intro w _; simp only [q17r1_0]; go_simp; try with_reducible rfl)
  try simp only [q17r1_0, Act.put, List.setIfInBounds_toArray, List.set_cons_zero, List.set_cons_succ]
  refine plan_take (o := q17r1_1) (r := p17r1_2) ?vg171 h0 (by rfl) ?hyg171 ?restg171
  case hyg171 => (intro w hSw; (try dsimp only at hSw); have e0 := hSw.cell E0.out; have e2 := hSw.cell E2.out; simp only [q17r1_1]; go_simp; try with_reducible rfl)
  try simp only [q17r1_1, Act.put, List.setIfInBounds_toArray, List.set_cons_zero, List.set_cons_succ]
  refine plan_take (o := q17r1_2) (r := p17r1_3) ?vg172 h0 (by rfl) ?hyg172 ?restg172
  case hyg172 => (intro w _; simp only [q17r1_2]; go_simp; try with_reducible rfl)
  try simp only [q17r1_2, Act.put, List.setIfInBounds_toArray, List.set_cons_zero, List.set_cons_succ]
  refine plan_take (o := q17r1_3) (r := p17r1_4) ?vg173 h0 (by rfl) ?hyg173 ?restg173
  case hyg173 => (intro w hSw; (try dsimp only at hSw); have e0 := hSw.cell E0.out; have e2 := hSw.cell E2.out; simp only [q17r1_3]; go_simp; try with_reducible rfl)
  try simp only [q17r1_3, Act.put, List.setIfInBounds_toArray, List.set_cons_zero, List.set_cons_succ]
  refine plan_act (o := q17r1_4) (r := p17r1_5) (fun K hK => ?_)
  simp only [q17r1_4]
  go_simp
  refine (rcluster h.bits _ h9 h16).mono ?_
  rintro _ w1 ⟨rfl, ew1⟩
  have k1 : Kp (fun _ => False) _ w1 := (by rw [ew1]; exact Kp.refl (fun _ => False) W.drew)
  clear ew1
  go_wp2_with fail
  refine hK.out _ _ (fun h => h.trans k1 (fun _ _ x => x)) ?_
  have s1 : Kp (fun _ => False) W w1 := h0.trans k1 (fun _ _ x => x)
  clear hK K
  refine plan_act (o := q17r1_5) (r := p17r1_6) (fun K hK => ?_)
  simp only [q17r1_5]
  go_simp
  refine (rup h.size (clu h.bits) _ z0 z1 (by omega) (by omega)).mono ?_
  rintro _ w2 ⟨rfl, ew2⟩
  have k2 : Kp (fun _ => False) _ w2 := (by rw [ew2]; exact Kp.refl (fun _ => False) w1)
  clear ew2
  go_wp2_with fail
  refine hK.out _ _ (fun h => h.trans k2 (fun _ _ x => x)) ?_
  have s2 : Kp (fun _ => False) W w2 := s1.trans k2 (fun _ _ x => x)
  clear hK K
  refine plan_take (o := q17r1_6) (r := p17r1_7) ?vg176 s2 (by rfl) ?hyg176 ?restg176
  case hyg176 => (intro w _; simp only [q17r1_6]; go_simp; try with_reducible rfl)
  try simp only [q17r1_6, Act.put, List.setIfInBounds_toArray, List.set_cons_zero, List.set_cons_succ]
  refine plan_done ?_
  go_wp2_with fail
  go_ret
  exact ⟨rfl, HK.out.trans s2 (fun _ _ x => x)⟩
end Go.Proofs.Ytejdmnhdjeogaaa
