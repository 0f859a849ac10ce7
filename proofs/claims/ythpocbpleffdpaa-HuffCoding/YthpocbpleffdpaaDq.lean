/- The document's Put (huff). -/
import Derived.Test.YthpocbpleffdpaaDp
import Derived.Test.YthpocbpleffdpaaXeX
import Derived.Test.YthpocbpleffdpaaNe
import Derived.Lib.AppendZeros
import Derived.Maps.AppendAt
namespace Go.Proofs.Ythpocbpleffdpaa
open Go.RowKit
set_option linter.unusedVariables false
set_option linter.unusedSimpArgs false
def q34r7_0 : Oper := { dst := some 21, op := Go.Op.move (Go.Operand.tmp 6), type := 50, pos := "ref.go:97", after := #[], guard := none }
def q34r7_1 : Oper := { dst := some 22, op := Go.Op.move (Go.Operand.tmp 5), type := 27, pos := "ref.go:97", after := #[], guard := none }
def q34r7_2 : Oper := { dst := some 23, op := Go.Op.move (Go.Operand.tmp 8), type := 3, pos := "ref.go:97", after := #[], guard := none }
def q34r7_3 : Oper := { dst := some 24, op := Go.Op.indexAddr 27 (Go.Operand.tmp 22) (Go.Operand.tmp 23), type := 0, pos := "ref.go:97", after := #[{ on := 1, ground := Go.Ground.data }, { on := 2, ground := Go.Ground.data }], guard := none }
def q34r7_4 : Oper := { dst := some 25, op := Go.Op.load 35 (Go.Operand.tmp 24), type := 35, pos := "ref.go:97", after := #[{ on := 3, ground := Go.Ground.data }], guard := none }
def q34r7_5 : Oper := { dst := some 26, op := Go.Op.move (Go.Operand.tmp 0), type := 22, pos := "ref.go:97", after := #[], guard := none }
def q34r7_6 : Oper := { dst := some 27, op := Go.Op.move (Go.Operand.tmp 8), type := 3, pos := "ref.go:97", after := #[], guard := none }
def q34r7_7 : Oper := { dst := some 28, op := Go.Op.indexAddr 22 (Go.Operand.tmp 26) (Go.Operand.tmp 27), type := 0, pos := "ref.go:97", after := #[{ on := 5, ground := Go.Ground.data }, { on := 6, ground := Go.Ground.data }], guard := none }
def q34r7_8 : Oper := { dst := some 29, op := Go.Op.load 3 (Go.Operand.tmp 28), type := 3, pos := "ref.go:97", after := #[{ on := 7, ground := Go.Ground.data }], guard := none }
def q34r7_9 : Oper := { dst := some 30, op := Go.Op.call { callee := Go.Callee.value (Go.Operand.func 62), args := #[Go.Operand.tmp 25, Go.Operand.tmp 29], argTypes := #[35, 3] }, type := 35, pos := "ref.go:97", after := #[{ on := 4, ground := Go.Ground.data }, { on := 8, ground := Go.Ground.data }], guard := none }
def q34r7_10 : Oper := { dst := some 31, op := Go.Op.move (Go.Operand.tmp 0), type := 22, pos := "ref.go:97", after := #[], guard := none }
def q34r7_11 : Oper := { dst := some 32, op := Go.Op.move (Go.Operand.tmp 8), type := 3, pos := "ref.go:97", after := #[], guard := none }
def q34r7_12 : Oper := { dst := some 33, op := Go.Op.indexAddr 22 (Go.Operand.tmp 31) (Go.Operand.tmp 32), type := 0, pos := "ref.go:97", after := #[{ on := 10, ground := Go.Ground.data }, { on := 11, ground := Go.Ground.data }], guard := none }
def q34r7_13 : Oper := { dst := some 34, op := Go.Op.load 3 (Go.Operand.tmp 33), type := 3, pos := "ref.go:97", after := #[{ on := 12, ground := Go.Ground.data }], guard := none }
def q34r7_14 : Oper := { dst := some 35, op := Go.Op.call { callee := Go.Callee.value (Go.Operand.func 61), args := #[Go.Operand.tmp 30, Go.Operand.tmp 34], argTypes := #[35, 3] }, type := 50, pos := "ref.go:97", after := #[{ on := 9, ground := Go.Ground.data }, { on := 13, ground := Go.Ground.data }, { on := 9, ground := Go.Ground.chain }], guard := none }
def q34r7_15 : Oper := { dst := some 36, op := Go.Op.call { callee := Go.Callee.builtin Go.Builtin.append, args := #[Go.Operand.tmp 21, Go.Operand.tmp 35], argTypes := #[50, 50] }, type := 50, pos := "ref.go:97", after := #[{ on := 0, ground := Go.Ground.data }, { on := 14, ground := Go.Ground.data }, { on := 14, ground := Go.Ground.chain }], guard := none }
def q34r7_16 : Oper := { dst := some 6, op := Go.Op.assign (Go.Operand.tmp 36), type := 50, pos := "ref.go:97", after := #[{ on := 15, ground := Go.Ground.data }, { on := 15, ground := Go.Ground.chain }, { on := 0, ground := Go.Ground.phase }, { on := 1, ground := Go.Ground.phase }, { on := 2, ground := Go.Ground.phase }, { on := 3, ground := Go.Ground.phase }, { on := 4, ground := Go.Ground.phase }, { on := 5, ground := Go.Ground.phase }, { on := 6, ground := Go.Ground.phase }, { on := 7, ground := Go.Ground.phase }, { on := 8, ground := Go.Ground.phase }, { on := 9, ground := Go.Ground.phase }, { on := 10, ground := Go.Ground.phase }, { on := 11, ground := Go.Ground.phase }, { on := 12, ground := Go.Ground.phase }, { on := 13, ground := Go.Ground.phase }, { on := 14, ground := Go.Ground.phase }, { on := 15, ground := Go.Ground.phase }], guard := none }
def o34r7 : Array Oper := #[q34r7_0, q34r7_1, q34r7_2, q34r7_3, q34r7_4, q34r7_5, q34r7_6, q34r7_7, q34r7_8, q34r7_9, q34r7_10, q34r7_11, q34r7_12, q34r7_13, q34r7_14, q34r7_15, q34r7_16]
def p34r7_17 : List (Nat × Oper) := []
def p34r7_16 : List (Nat × Oper) := (0, q34r7_16) :: p34r7_17
def p34r7_15 : List (Nat × Oper) := (1, q34r7_15) :: p34r7_16
def p34r7_14 : List (Nat × Oper) := (1, q34r7_14) :: p34r7_15
def p34r7_13 : List (Nat × Oper) := (1, q34r7_9) :: p34r7_14
def p34r7_12 : List (Nat × Oper) := (0, q34r7_13) :: p34r7_13
def p34r7_11 : List (Nat × Oper) := (0, q34r7_12) :: p34r7_12
def p34r7_10 : List (Nat × Oper) := (0, q34r7_11) :: p34r7_11
def p34r7_9 : List (Nat × Oper) := (0, q34r7_10) :: p34r7_10
def p34r7_8 : List (Nat × Oper) := (0, q34r7_8) :: p34r7_9
def p34r7_7 : List (Nat × Oper) := (0, q34r7_7) :: p34r7_8
def p34r7_6 : List (Nat × Oper) := (0, q34r7_6) :: p34r7_7
def p34r7_5 : List (Nat × Oper) := (0, q34r7_5) :: p34r7_6
def p34r7_4 : List (Nat × Oper) := (0, q34r7_4) :: p34r7_5
def p34r7_3 : List (Nat × Oper) := (0, q34r7_3) :: p34r7_4
def p34r7_2 : List (Nat × Oper) := (0, q34r7_2) :: p34r7_3
def p34r7_1 : List (Nat × Oper) := (0, q34r7_1) :: p34r7_2
def p34r7_0 : List (Nat × Oper) := (0, q34r7_0) :: p34r7_1
def c34r7 : List (Nat × Nat) := [(0, 0), (0, 1), (0, 2), (0, 3), (0, 4), (0, 5), (0, 6), (0, 7), (0, 8), (0, 10), (0, 11), (0, 12), (0, 13), (1, 9), (1, 14), (1, 15), (0, 16)]
theorem b34r7 : (Region.noSelect o34r7 && (c34r7.length == o34r7.size) && planB o34r7 [] c34r7 (Array.replicate o34r7.size false)) = true := by kernel_rfl
theorem d34r7 : (c34r7.map fun p => (p.1, o34r7[p.2]?)) = (p34r7_0.map fun p => (p.1, some p.2)) := by kernel_rfl
set_option maxRecDepth 100000 in
set_option maxHeartbeats 16000000 in
theorem rput_any (w : World) (ao so : Option Addr) (cap oc : Nat) (zs ss : List Int) (hs : Src .i64 w ao zs) (hw : Wi 15 zs) (hl : zs.length ≤ 320) (hwg : wgt zs ≤ 32768) (hss : Src .i64 w so ss) (hsl : ss.length ≤ 400) (hall : ∀ s ∈ ss, hasb zs s = true) :
    Calls Try.prog 34 #[.slice ao zs.length cap, .slice so ss.length oc] w fun e w' => ∃ v, e = .returned v ∧ Bz.OwnI w' w.heap.size v (Bz.dig 2 (pvn zs ss ss.length) (lgn zs ss ss.length)) ∧ Below w.heap.size w w' := by
  have HRC := hid (rcodes_any ao cap zs w hl hs)
  have HS := hid hs
  have HSS := hid hss
  have HWI := hid hw
  have HWG := hid hwg
  have HAL := hid hall
  have HLG : Hid (∀ j, lgn zs ss j ≤ 15 * j) := lgn_le hw
  obtain ⟨n, hn⟩ : ∃ n, n = ss.length := ⟨_, rfl⟩
  rw [← hn] at hsl ⊢
  have HN2 := hid hn
  clear hs hss hw hwg hall hn
  go_enter Try.func34, Try.ntmps34
  go_wp2_with fail
  refine HRC.out.mono ?_
  rintro e w1 ⟨rfl, r1, b1⟩
  have S1 := hid (HS.out.below b1)
  have SS1 := hid (HSS.out.below b1)
  have C1 := hid r1
  have B1 := hid b1
  have HG1 : Hid (w.heap.size < w1.heap.size) := r1.lt
  obtain ⟨G, hG⟩ : ∃ G, G = w.heap.size := ⟨_, rfl⟩
  rw [← hG] at C1 HG1 ⊢
  have HGG := hid hG
  clear HRC HS HSS r1 b1 hG
  go_wp2_with fail
  go_loopw [6, 7] (fun v i wr => ∃ (k : Nat), i = .int .i64 (k : Int) ∧ k ≤ n ∧ Hid (Bz.OwnI wr w1.heap.size v (Bz.dig 2 (pvn zs ss k) (lgn zs ss k))) ∧ Hid (Below w1.heap.size w1 wr)) (fun _ i _ => n - (intOf i).toNat)
  case atStart => exact ⟨0, rfl, Nat.zero_le _, Bz.OwnI.nil _ _, Below.refl _ _⟩
  case round =>
    obtain ⟨k, rfl, hk, HO, HB⟩ := hrel
    by_cases hlt : k < n
    · have hk1 : (k : Int) < (n : Int) := by omega
      have hk0 : (0 : Int) ≤ (k : Int) := by omega
      have hkl : k < ss.length := by have := HN2.out; omega
      obtain ⟨q, m, e1, hq, e2, hm⟩ := has_sym (HAL.out _ (by rw [List.getD_eq_getElem?_getD, List.getElem?_eq_getElem hkl]; exact List.getElem_mem _ : ss.getD k 0 ∈ ss))
      obtain ⟨h15, hfit⟩ := code_fit HWI.out HWG.out hm e2
      have es := sln_is e1 e2
      have ec := scd_is HWI.out hm e1 e2
      have HLG2 : Hid (lgn zs ss (k + 1) = lgn zs ss k + m) := by rw [Hid, ← es]; rfl
      have HPV2 : Hid (pvn zs ss (k + 1) = pvn zs ss k + Bz.turn (fc zs m + cnt zs m q) m * 2 ^ lgn zs ss k) := by rw [Hid, ← ec, ← es]; rfl
      have HDG : Hid (Bz.dig 2 (pvn zs ss (k + 1)) (lgn zs ss (k + 1)) = Bz.dig 2 (pvn zs ss k) (lgn zs ss k) ++ Bz.dig 2 (Bz.turn (fc zs m + cnt zs m q) m) m) := by
        rw [Hid, HLG2.out, HPV2.out]
        exact Bz.dig_join 2 _ _ _ _ (by omega) (pvn_lt zs ss k)
      have hlk := HLG.out k
      have hcb : fc zs m + cnt zs m q < 32769 := Nat.lt_of_lt_of_le hfit (Nat.le_trans (Nat.pow_le_pow_right (by omega) h15) (by decide))
      have htb : Bz.turn (fc zs m + cnt zs m q) m < 32769 := Nat.lt_of_lt_of_le (Bz.turn_lt _ m) (Nat.le_trans (Nat.pow_le_pow_right (by omega) h15) (by decide))
      obtain ⟨gs, os, rfl, hcs⟩ := (SS1.out.below HB.out) (by omega)
      have yj := hcs k hkl
      rw [e1] at yj
      obtain ⟨gl, ol, rfl, hcl⟩ := (S1.out.below HB.out) (by omega)
      have yl := hcl q hq
      rw [e2] at yl
      have yc : wr.cell? ⟨G, q, none⟩ = some (.int .u64 ((fc zs m + cnt zs m q : Nat) : Int)) := by
        have := (C1.out.below HB.out HG1.out).cell q (by rw [codes_len]; exact hq)
        rw [codes_get HWI.out hm e2] at this
        exact this
      have HTU : Hid (∀ U, Calls Try.prog 62 #[.int .u64 ((fc zs m + cnt zs m q : Nat) : Int), .int .i64 (m : Int)] U fun e w' => e = .returned (.int .u64 (Bz.turn (fc zs m + cnt zs m q) m : Int)) ∧ Below U.heap.size U w') := fun U => by
        have := Bz.rturned_any (fc zs m + cnt zs m q) (m : Int) U (by omega)
        rw [Int.toNat_natCast, show min m 64 = m by omega] at this
        exact this
      have HBI : Hid (∀ U, Calls Try.prog 61 #[.int .u64 (Bz.turn (fc zs m + cnt zs m q) m : Int), .int .i64 (m : Int)] U fun e w' => ∃ ao cap, e = .returned (.slice ao m cap) ∧ Bz.Src w' ao (Bz.dig 2 (Bz.turn (fc zs m + cnt zs m q) m) m) ∧ (ao = none → cap = 0) ∧ (∀ b off, ao = some ⟨b, off, none⟩ → U.heap.size ≤ b) ∧ Below U.heap.size U w') := fun U => Bz.bits_form _ m U (by omega) (by omega)
      have HPR : Hid (∀ U, Below w1.heap.size w1 U → U.cell? ⟨G, q, none⟩ = some (.int .u64 ((fc zs m + cnt zs m q : Nat) : Int)) ∧ U.cell? ⟨gl, ol + q, none⟩ = some (.int .i64 (m : Int))) := fun U kb => by
        constructor
        · have := (C1.out.below kb HG1.out).cell q (by rw [codes_len]; exact hq)
          rw [codes_get HWI.out hm e2] at this
          exact this
        · obtain ⟨b1, o1, e, hh⟩ := (S1.out.below kb) (by omega)
          cases e
          have := hh q hq
          rw [e2] at this
          exact this
      have HBD : Hid (Below w1.heap.size w1 wr.drew) := HB.out.trans (((Kp.refl (fun _ => False) wr).drew).below HB.out.size (fun _ h => h.elim))
      have hq1 : (q : Int) < (zs.length : Int) := by omega
      have hq0 : (0 : Int) ≤ (q : Int) := by omega
      clear hcs hcl e1 e2 es ec HLG2 HPV2 hfit yc yl
      generalize Bz.turn (fc zs m + cnt zs m q) m = tv at *
      generalize fc zs m + cnt zs m q = cv at *
      generalize pvn zs ss k = pk at *
      generalize lgn zs ss k = lk at *
      go_wp2_with fail
      change (Code.region 7 o34r7 true).wp _ _ _ _
      refine wp_region_plan (fun U => Below w1.heap.size w1 U) [] c34r7 p34r7_0 hmix b34r7 d34r7 (fun _ _ d _ _ h => by cases d <;> exact h) ?_
      refine plan_take (o := q34r7_0) (r := p34r7_1) ?vc0 HBD.out (by rfl) ?hyc0 ?restc0
      case hyc0 => (intro w hSw; (try dsimp only at hSw); simp only [q34r7_0]; go_simp; try with_reducible rfl)
      try simp only [q34r7_0, Act.put, List.setIfInBounds_toArray, List.set_cons_zero, List.set_cons_succ]
      refine plan_take (o := q34r7_1) (r := p34r7_2) ?vc1 HBD.out (by rfl) ?hyc1 ?restc1
      case hyc1 => (intro w hSw; (try dsimp only at hSw); simp only [q34r7_1]; go_simp; try with_reducible rfl)
      try simp only [q34r7_1, Act.put, List.setIfInBounds_toArray, List.set_cons_zero, List.set_cons_succ]
      refine plan_take (o := q34r7_2) (r := p34r7_3) ?vc2 HBD.out (by rfl) ?hyc2 ?restc2
      case hyc2 => (intro w hSw; (try dsimp only at hSw); simp only [q34r7_2]; go_simp; try with_reducible rfl)
      try simp only [q34r7_2, Act.put, List.setIfInBounds_toArray, List.set_cons_zero, List.set_cons_succ]
      refine plan_take (o := q34r7_3) (r := p34r7_4) ?vc3 HBD.out (by rfl) ?hyc3 ?restc3
      case hyc3 => (intro w hSw; (try dsimp only at hSw); simp only [q34r7_3]; go_simp; try with_reducible rfl)
      try simp only [q34r7_3, Act.put, List.setIfInBounds_toArray, List.set_cons_zero, List.set_cons_succ]
      refine plan_take (o := q34r7_4) (r := p34r7_5) (.int .u64 (cv : Int)) HBD.out (by rfl) ?hyc4 ?restc4
      case hyc4 => (intro w hSw; (try dsimp only at hSw); have y1 := (HPR.out _ hSw).1; simp only [q34r7_4]; go_simp; try with_reducible rfl)
      try simp only [q34r7_4, Act.put, List.setIfInBounds_toArray, List.set_cons_zero, List.set_cons_succ]
      refine plan_take (o := q34r7_5) (r := p34r7_6) ?vc5 HBD.out (by rfl) ?hyc5 ?restc5
      case hyc5 => (intro w hSw; (try dsimp only at hSw); simp only [q34r7_5]; go_simp; try with_reducible rfl)
      try simp only [q34r7_5, Act.put, List.setIfInBounds_toArray, List.set_cons_zero, List.set_cons_succ]
      refine plan_take (o := q34r7_6) (r := p34r7_7) ?vc6 HBD.out (by rfl) ?hyc6 ?restc6
      case hyc6 => (intro w hSw; (try dsimp only at hSw); simp only [q34r7_6]; go_simp; try with_reducible rfl)
      try simp only [q34r7_6, Act.put, List.setIfInBounds_toArray, List.set_cons_zero, List.set_cons_succ]
      refine plan_take (o := q34r7_7) (r := p34r7_8) ?vc7 HBD.out (by rfl) ?hyc7 ?restc7
      case hyc7 => (intro w hSw; (try dsimp only at hSw); simp only [q34r7_7]; go_simp; try with_reducible rfl)
      try simp only [q34r7_7, Act.put, List.setIfInBounds_toArray, List.set_cons_zero, List.set_cons_succ]
      refine plan_take (o := q34r7_8) (r := p34r7_9) (.int .i64 (m : Int)) HBD.out (by rfl) ?hyc8 ?restc8
      case hyc8 => (intro w hSw; (try dsimp only at hSw); have y1 := (HPR.out _ hSw).2; simp only [q34r7_8]; go_simp; try with_reducible rfl)
      try simp only [q34r7_8, Act.put, List.setIfInBounds_toArray, List.set_cons_zero, List.set_cons_succ]
      refine plan_take (o := q34r7_10) (r := p34r7_10) ?vc10 HBD.out (by rfl) ?hyc10 ?restc10
      case hyc10 => (intro w hSw; (try dsimp only at hSw); simp only [q34r7_10]; go_simp; try with_reducible rfl)
      try simp only [q34r7_10, Act.put, List.setIfInBounds_toArray, List.set_cons_zero, List.set_cons_succ]
      refine plan_take (o := q34r7_11) (r := p34r7_11) ?vc11 HBD.out (by rfl) ?hyc11 ?restc11
      case hyc11 => (intro w hSw; (try dsimp only at hSw); simp only [q34r7_11]; go_simp; try with_reducible rfl)
      try simp only [q34r7_11, Act.put, List.setIfInBounds_toArray, List.set_cons_zero, List.set_cons_succ]
      refine plan_take (o := q34r7_12) (r := p34r7_12) ?vc12 HBD.out (by rfl) ?hyc12 ?restc12
      case hyc12 => (intro w hSw; (try dsimp only at hSw); simp only [q34r7_12]; go_simp; try with_reducible rfl)
      try simp only [q34r7_12, Act.put, List.setIfInBounds_toArray, List.set_cons_zero, List.set_cons_succ]
      refine plan_take (o := q34r7_13) (r := p34r7_13) (.int .i64 (m : Int)) HBD.out (by rfl) ?hyc13 ?restc13
      case hyc13 => (intro w hSw; (try dsimp only at hSw); have y1 := (HPR.out _ hSw).2; simp only [q34r7_13]; go_simp; try with_reducible rfl)
      try simp only [q34r7_13, Act.put, List.setIfInBounds_toArray, List.set_cons_zero, List.set_cons_succ]
      refine plan_act (o := q34r7_9) (r := p34r7_14) (fun K hK => ?_)
      simp only [q34r7_9]
      refine ite_pos2 (by rfl) ?_
      go_simp
      refine (HTU.out _).mono ?_
      rintro e w5 ⟨rfl, b5⟩
      have K5 : Hid (Kp (fun _ => False) wr w5) := (Kp.refl (fun _ => False) wr).drew.trans (Kp.of_below (F := fun _ => False) b5) (fun _ _ h => h)
      have B5 : Hid (Below w1.heap.size w1 w5) := HB.out.trans (K5.out.below HB.out.size (fun _ h => h.elim))
      clear b5
      go_wp2_with fail
      refine hK.out _ _ (fun _ => B5.out) ?_
      clear hK K
      try simp only [q34r7_9, Act.put, List.setIfInBounds_toArray, List.set_cons_zero, List.set_cons_succ]
      refine plan_act (o := q34r7_14) (r := p34r7_15) (fun K hK => ?_)
      simp only [q34r7_14]
      refine ite_pos2 (by rfl) ?_
      go_simp
      refine (HBI.out _).mono ?_
      rintro e w6 ⟨ab, cb, rfl, s6, z6, _, b6⟩
      have K6 : Hid (Kp (fun _ => False) wr w6) := K5.out.trans (Kp.of_below (F := fun _ => False) b6) (fun _ _ h => h)
      have S6 := hid s6
      have Z6 := hid z6
      have B6 : Hid (Below w1.heap.size w1 w6) := HB.out.trans (K6.out.below HB.out.size (fun _ h => h.elim))
      clear b6 s6 z6
      go_wp2_with fail
      refine hK.out _ _ (fun _ => B6.out) ?_
      clear hK K
      try simp only [q34r7_14, Act.put, List.setIfInBounds_toArray, List.set_cons_zero, List.set_cons_succ]
      obtain ⟨i0, hi, hz0, hz1, hz2⟩ := info_parts Bz.Try.info5
      obtain ⟨v9, w9, rr, o9, g9, _⟩ := Bz.run_append_rw (P := Try.prog) w6 w1.heap.size 50 50 i0 Try.underlying50 hi hz0 hz1 hz2 u6 (Bz.dig 2 pk lk) (HO.out.kp (kpZ K6.out) (fun _ _ h => h)) ab cb (Bz.dig 2 tv m) Z6.out S6.out (by rw [Bz.dig_length, Bz.dig_length]; omega) (Nat.le_trans HB.out.size K6.out.size)
      rw [Bz.dig_length] at rr
      refine plan_act (o := q34r7_15) (r := p34r7_16) (fun K hK => ?_)
      simp only [q34r7_15]
      refine ite_pos2 (by rfl) ?_
      refine Lib.wp_append_run _ _ _ _ _ rfl _ _ rfl rfl _ _ rr ?_
      have B9 : Hid (Below w1.heap.size w1 w9) := (HB.out.trans (K6.out.below HB.out.size (fun _ h => h.elim))).trans ((Kp.of_grown (F := fun i => u6.ownBlock = some i) g9 (fun i e => e)).below (Nat.le_trans HB.out.size K6.out.size) (fun i e => (HO.out.lt i e).1))
      have O9 := hid o9
      refine hK.out _ _ (fun _ => B9.out) ?_
      clear hK K rr o9 g9
      try simp only [q34r7_15, Act.put, List.setIfInBounds_toArray, List.set_cons_zero, List.set_cons_succ]
      refine plan_take (o := q34r7_16) (r := p34r7_17) ?vc16 B9.out (by rfl) ?hyc16 ?restc16
      case hyc16 => (intro w hSw; (try dsimp only at hSw); simp only [q34r7_16]; go_simp; try with_reducible rfl)
      try simp only [q34r7_16, Act.put, List.setIfInBounds_toArray, List.set_cons_zero, List.set_cons_succ]
      refine plan_done ?_
      go_wp2_with fail
      go_roundw
      case rel => exact ⟨k + 1, by go_num, hlt, by rw [HDG.out]; exact O9, B9⟩
      case measure => simp [intOf]; omega
    · obtain rfl : k = n := by omega
      have hk1 : ¬ (k : Int) < (k : Int) := by omega
      go_wp2_with fail
      go_ret
      exact ⟨_, rfl, HO.out.mono (by have := HGG.out; have := HG1.out; omega), B1.out.trans (HB.out.mono (by have := HGG.out; have := HG1.out; omega))⟩
end Go.Proofs.Ythpocbpleffdpaa
