/- HuffCoding: the law's walk, the other ways. -/
import Derived.Test.YthpocbpleffdpaaEf
namespace Go.Proofs.Ythpocbpleffdpaa
open Go.RowKit Go.Shelf
set_option linter.unusedVariables false
set_option linter.unusedSimpArgs false
set_option maxRecDepth 100000
set_option maxHeartbeats 8000000 in
theorem law6_big1 (a0 a1 a2 : Option Addr) (c0 c1 c2 : Nat) (zs ss B : List Int) (skip leave : Int) (w : World) (h1 : 400 < ss.length) :
    Calls Try.prog 6 #[.agg #[.slice a0 zs.length c0, .slice a1 ss.length c1, .slice a2 B.length c2, .int .i64 skip, .int .i64 leave]] w fun e w' => e = .returned (.bool true) ∧ Kp (fun _ => False) w w' := by
  have k0 : Kp (fun _ => False) w (w.alloc (.cells #[.slice a0 zs.length c0, .slice a1 ss.length c1, .slice a2 B.length c2, .int .i64 skip, .int .i64 leave] 52)) := (Kp.refl _ _).alloc _
  have ST : Hid (Sc 52 (w.alloc (.cells #[.slice a0 zs.length c0, .slice a1 ss.length c1, .slice a2 B.length c2, .int .i64 skip, .int .i64 leave] 52)) w.heap.size #[.slice a0 zs.length c0, .slice a1 ss.length c1, .slice a2 B.length c2, .int .i64 skip, .int .i64 leave]) := Sc.new 52 w _
  have K0 := hid k0
  obtain ⟨X0, hX0⟩ : ∃ X0, X0 = w.alloc (.cells #[.slice a0 zs.length c0, .slice a1 ss.length c1, .slice a2 B.length c2, .int .i64 skip, .int .i64 leave] 52) := ⟨_, rfl⟩
  rw [← hX0] at K0 ST
  have hX1 := hX0.symm
  have HWK := hid works_any
  have HNU := hid num_any
  have t1 : X0.cell? ⟨w.heap.size, 1, none⟩ = some (.slice a1 ss.length c1) := ST.out.cell 1
  have t2 : X0.cell? ⟨w.heap.size, 2, none⟩ = some (.slice a2 B.length c2) := ST.out.cell 2
  have hd1 : (400 : Int) < (ss.length : Int) := by omega
  have hd3 : decide ((400 : Int) < (ss.length : Int)) = true := by simp; omega
  clear hX0 k0
  generalize ss.length = m1 at *
  generalize B.length = m2 at *
  refine calls_of_wp (c := cA6) Try.func6 (by kernel_rfl) ?_
  simp only [Try.ntmps6, List.size_toArray, List.length_cons, List.length_nil, Nat.reduceAdd, Nat.reduceSub, Array.replicate_succ, Array.replicate_zero, List.push_toArray, List.append_toArray, List.nil_append, List.cons_append]
  unfold cA6
  generalize hQ : bodyPost _ _ _ = QQ
  go_wp2_with (first | (go_at_call 14; refine (HWK.out _).mono ?_; rintro e w5 ⟨rfl, b5⟩))
  subst hQ
  go_ret
  exact ⟨rfl, K0.out.trans (Kp.of_below b5) (fun _ _ x => x)⟩
set_option maxHeartbeats 8000000 in
theorem law6_big2 (a0 a1 a2 : Option Addr) (c0 c1 c2 : Nat) (zs ss B : List Int) (skip leave : Int) (w : World) (h1 : ss.length ≤ 400) (h2 : 400 < B.length) :
    Calls Try.prog 6 #[.agg #[.slice a0 zs.length c0, .slice a1 ss.length c1, .slice a2 B.length c2, .int .i64 skip, .int .i64 leave]] w fun e w' => e = .returned (.bool true) ∧ Kp (fun _ => False) w w' := by
  have k0 : Kp (fun _ => False) w (w.alloc (.cells #[.slice a0 zs.length c0, .slice a1 ss.length c1, .slice a2 B.length c2, .int .i64 skip, .int .i64 leave] 52)) := (Kp.refl _ _).alloc _
  have ST : Hid (Sc 52 (w.alloc (.cells #[.slice a0 zs.length c0, .slice a1 ss.length c1, .slice a2 B.length c2, .int .i64 skip, .int .i64 leave] 52)) w.heap.size #[.slice a0 zs.length c0, .slice a1 ss.length c1, .slice a2 B.length c2, .int .i64 skip, .int .i64 leave]) := Sc.new 52 w _
  have K0 := hid k0
  obtain ⟨X0, hX0⟩ : ∃ X0, X0 = w.alloc (.cells #[.slice a0 zs.length c0, .slice a1 ss.length c1, .slice a2 B.length c2, .int .i64 skip, .int .i64 leave] 52) := ⟨_, rfl⟩
  rw [← hX0] at K0 ST
  have hX1 := hX0.symm
  have HWK := hid works_any
  have HNU := hid num_any
  have t1 : X0.cell? ⟨w.heap.size, 1, none⟩ = some (.slice a1 ss.length c1) := ST.out.cell 1
  have t2 : X0.cell? ⟨w.heap.size, 2, none⟩ = some (.slice a2 B.length c2) := ST.out.cell 2
  have hd1 : ¬ (400 : Int) < (ss.length : Int) := by omega
  have hd2 : (400 : Int) < (B.length : Int) := by omega
  have hd3 : decide ((400 : Int) < (ss.length : Int)) = false := by simp; omega
  have hd4 : decide ((400 : Int) < (B.length : Int)) = true := by simp; omega
  have hd5 : ¬ 400 < ss.length := by omega
  clear hX0 k0
  generalize ss.length = m1 at *
  generalize B.length = m2 at *
  refine calls_of_wp (c := cA6) Try.func6 (by kernel_rfl) ?_
  simp only [Try.ntmps6, List.size_toArray, List.length_cons, List.length_nil, Nat.reduceAdd, Nat.reduceSub, Array.replicate_succ, Array.replicate_zero, List.push_toArray, List.append_toArray, List.nil_append, List.cons_append]
  unfold cA6
  generalize hQ : bodyPost _ _ _ = QQ
  go_wp2_with (first | (go_at_call 14; refine (HWK.out _).mono ?_; rintro e w5 ⟨rfl, b5⟩))
  subst hQ
  go_ret
  exact ⟨rfl, K0.out.trans (Kp.of_below b5) (fun _ _ x => x)⟩
set_option maxHeartbeats 8000000 in
theorem law6_bad (a0 a1 a2 : Option Addr) (c0 c1 c2 : Nat) (zs ss B : List Int) (skip leave : Int) (w : World) (hl : zs.length ≤ 17592186044400) (hs0 : Src .i64 w a0 zs) (hn0 : a0 = none → c0 = 0) (h1 : ss.length ≤ 400) (h2 : B.length ≤ 400) (hm : may zs ≠ 0) :
    Calls Try.prog 6 #[.agg #[.slice a0 zs.length c0, .slice a1 ss.length c1, .slice a2 B.length c2, .int .i64 skip, .int .i64 leave]] w fun e w' => e = .returned (.bool true) ∧ Kp (fun _ => False) w w' := by
  have hmix : Try.prog.follows .mixedOrders = true := by kernel_rfl
  have k0 : Kp (fun _ => False) w (w.alloc (.cells #[.slice a0 zs.length c0, .slice a1 ss.length c1, .slice a2 B.length c2, .int .i64 skip, .int .i64 leave] 52)) := (Kp.refl _ _).alloc _
  have ST : Hid (Sc 52 (w.alloc (.cells #[.slice a0 zs.length c0, .slice a1 ss.length c1, .slice a2 B.length c2, .int .i64 skip, .int .i64 leave] 52)) w.heap.size #[.slice a0 zs.length c0, .slice a1 ss.length c1, .slice a2 B.length c2, .int .i64 skip, .int .i64 leave]) := Sc.new 52 w _
  have K0 := hid k0
  obtain ⟨X0, hX0⟩ : ∃ X0, X0 = w.alloc (.cells #[.slice a0 zs.length c0, .slice a1 ss.length c1, .slice a2 B.length c2, .int .i64 skip, .int .i64 leave] 52) := ⟨_, rfl⟩
  rw [← hX0] at K0 ST
  have hX1 := hX0.symm
  have HWK := hid works_any
  have HNU := hid num_any
  have t1 : X0.cell? ⟨w.heap.size, 1, none⟩ = some (.slice a1 ss.length c1) := ST.out.cell 1
  have t2 : X0.cell? ⟨w.heap.size, 2, none⟩ = some (.slice a2 B.length c2) := ST.out.cell 2
  have HLE := hid (lent_any a0 c0 zs X0 hl (hs0.kp K0.out (fun _ _ _ x => x)) hn0)
  have HNW : Hid (∀ U G c tl, Rw .i64 3 U G (zs ++ (77 :: tl)) → Calls Try.prog 26 #[.slice (some ⟨G, 0, none⟩) zs.length c] U fun e w' => e = .returned (.tuple #[.pointer none, .int .i64 (may zs)]) ∧ Below U.heap.size U w') := fun U G c tl h => new_bad (some ⟨G, 0, none⟩) c zs U (row_src h) hm (by omega)
  have HKE : Hid (∀ U G c tl, zs.length + 1 ≤ c → Rw .i64 3 U G (zs ++ (77 :: tl)) → Src .i64 U a0 zs → Calls Try.prog 11 #[.slice (some ⟨G, 0, none⟩) zs.length c, .slice a0 zs.length c0] U fun e w' => e = .returned (.bool true) ∧ Below U.heap.size U w') := fun U G c tl h1 h2 h3 => kept_eq G c a0 c0 zs tl U hl h1 h2 h3
  have HMY : Hid (∀ U, Src .i64 U a0 zs → Calls Try.prog 16 #[.slice a0 zs.length c0] U fun e w' => e = .returned (.int .i64 (may zs)) ∧ U = w') := fun U h => may_any a0 c0 zs U (by omega) h
  have HS0 : Hid (∀ U, Kp (fun _ => False) X0 U → Src .i64 U a0 zs) := fun U k => (hs0.kp K0.out (fun _ _ _ x => x)).kp k (fun _ _ _ x => x)
  have HT0 : Hid (∀ U, Kp (fun _ => False) X0 U → U.cell? ⟨w.heap.size, 0, none⟩ = some (.slice a0 zs.length c0)) := fun U k => (ST.out.kp k (fun h => h)).cell 0
  have t0 := HT0.out X0 (Kp.refl _ _)
  have hd1 : ¬ (400 : Int) < (ss.length : Int) := by omega
  have hd2 : ¬ (400 : Int) < (B.length : Int) := by omega
  have hd3 : decide ((400 : Int) < (ss.length : Int)) = false := by simp; omega
  have hd4 : decide ((400 : Int) < (B.length : Int)) = false := by simp; omega
  have hd5 : ¬ 400 < ss.length := by omega
  have hd6 : ¬ 400 < B.length := by omega
  have hd7 : (may zs != 0) = true := by simpa using hm
  have hd8 : (may zs == 0) = false := by simpa using hm
  clear hs0 hn0 hX0 h1 h2 hm k0 hl
  generalize ss.length = m1 at *
  generalize B.length = m2 at *
  generalize may zs = mz at *
  refine calls_of_wp (c := cA6) Try.func6 (by kernel_rfl) ?_
  simp only [Try.ntmps6, List.size_toArray, List.length_cons, List.length_nil, Nat.reduceAdd, Nat.reduceSub, Array.replicate_succ, Array.replicate_zero, List.push_toArray, List.append_toArray, List.nil_append, List.cons_append]
  unfold cA6
  go_wp2_with fail
  refine HLE.out.mono ?_
  rintro e w1 ⟨G, c, tl, rfl, hG, r1, hc1, hc2, b1⟩
  have R1 := hid r1
  have K1 : Hid (Kp (fun _ => False) X0 w1) := Kp.of_below b1
  have HC1 := hid hc1
  clear b1 r1 hG hc1 hc2 t1 t2
  go_wp2_with fail
  refine (HNW.out w1 G c tl R1.out).mono ?_
  rintro e w2 ⟨rfl, b2⟩
  have R2 := hid (R1.out.below b2 R1.out.lt)
  have K2 := hid (K1.out.trans (Kp.of_below b2) (fun _ _ x => x))
  have t0b := HT0.out w2 K2.out
  clear b2 t0
  go_wp2_with fail
  refine (HKE.out w2 G c tl HC1.out R2.out (HS0.out w2 K2.out)).mono ?_
  rintro e w3 ⟨rfl, b3⟩
  have k3 : Kp (fun _ => False) w2 w3 := Kp.of_below b3
  have K3 := hid (K2.out.trans k3 (fun _ _ x => x))
  have t0c := HT0.out w3 K3.out
  clear b3 k3 t0b
  go_wp2_with fail
  refine (HMY.out w3 (HS0.out w3 K3.out)).mono ?_
  rintro e w4 ⟨rfl, rfl⟩
  go_wp2_with fail
  refine wp_region_held_drew (S := fun U => Kp (fun _ => False) X0 U) (by kernel_rfl) (K3.out.trans (drewN_kp _ _ 1) (fun _ _ h => h)) (fun h0 => ?_)
  refine wpAnyH_take (i := 0) (oi := { dst := some 41, op := Go.Op.move (Go.Operand.tmp 4), type := 53, pos := "law.go:200", after := #[], guard := none }) (v := ?vz0) rfl (by kernel_rfl) (by kernel_rfl) (by kernel_rfl) (fun _ _ _ h => h) (Or.inl ⟨by rfl, ?hyz0⟩) (K3.out.trans (drewN_kp (fun _ => False) _ 1) (fun _ _ h => h)) ?restz0
  case hyz0 => (intro w hSw; (try dsimp only at hSw); go_simp; try with_reducible rfl)
  try simp only [Act.put, List.setIfInBounds_toArray, List.set_cons_zero, List.set_cons_succ]
  refine wpAnyH_take (i := 1) (oi := { dst := some 42, op := Go.Op.binOp Go.BinOp.eql 53 (Go.Operand.tmp 41) (Go.Operand.const (Go.Value.pointer none)) 53, type := 4, pos := "law.go:200", after := #[{ on := 0, ground := Go.Ground.data }], guard := none }) (v := ?vz1) rfl (by kernel_rfl) (by kernel_rfl) (by kernel_rfl) (fun _ _ _ h => h) (Or.inl ⟨by rfl, ?hyz1⟩) (K3.out.trans (drewN_kp (fun _ => False) _ 1) (fun _ _ h => h)) ?restz1
  case hyz1 => (intro w hSw; (try dsimp only at hSw); go_simp; try with_reducible rfl)
  try simp only [Act.put, List.setIfInBounds_toArray, List.set_cons_zero, List.set_cons_succ]
  refine wpAnyH_take (i := 2) (oi := { dst := some 43, op := Go.Op.move (Go.Operand.tmp 42), type := 4, pos := "law.go:200", after := #[{ on := 1, ground := Go.Ground.data }], guard := none }) (v := ?vz2) rfl (by kernel_rfl) (by kernel_rfl) (by kernel_rfl) (fun _ _ _ h => h) (Or.inl ⟨by rfl, ?hyz2⟩) (K3.out.trans (drewN_kp (fun _ => False) _ 1) (fun _ _ h => h)) ?restz2
  case hyz2 => (intro w hSw; (try dsimp only at hSw); go_simp; try with_reducible rfl)
  try simp only [Act.put, List.setIfInBounds_toArray, List.set_cons_zero, List.set_cons_succ]
  refine wpAnyH_take (i := 3) (oi := { dst := some 44, op := Go.Op.move (Go.Operand.tmp 5), type := 24, pos := "law.go:200", after := #[{ on := 2, ground := Go.Ground.guard }], guard := some (2, true) }) (v := ?vz3) rfl (by kernel_rfl) (by kernel_rfl) (by kernel_rfl) (fun _ _ _ h => h) (Or.inl ⟨by rfl, ?hyz3⟩) (K3.out.trans (drewN_kp (fun _ => False) _ 1) (fun _ _ h => h)) ?restz3
  case hyz3 => (intro w hSw; (try dsimp only at hSw); go_simp; try with_reducible rfl)
  try simp only [Act.put, List.setIfInBounds_toArray, List.set_cons_zero, List.set_cons_succ]
  refine wpAnyH_take (i := 5) (oi := { dst := some 46, op := Go.Op.fieldAddr 52 (Go.Operand.tmp 1) 0, type := 0, pos := "law.go:200", after := #[{ on := 2, ground := Go.Ground.guard }], guard := some (2, true) }) (v := ?vz5) rfl (by kernel_rfl) (by kernel_rfl) (by kernel_rfl) (fun _ _ _ h => h) (Or.inl ⟨by rfl, ?hyz5⟩) (K3.out.trans (drewN_kp (fun _ => False) _ 1) (fun _ _ h => h)) ?restz5
  case hyz5 => (intro w hSw; (try dsimp only at hSw); go_simp; try with_reducible rfl)
  try simp only [Act.put, List.setIfInBounds_toArray, List.set_cons_zero, List.set_cons_succ]
  refine wpAnyH_take (i := 6) (oi := { dst := some 47, op := Go.Op.load 22 (Go.Operand.tmp 46), type := 22, pos := "law.go:200", after := #[{ on := 5, ground := Go.Ground.data }, { on := 2, ground := Go.Ground.guard }], guard := some (2, true) }) (v := ?vz6) rfl (by kernel_rfl) (by kernel_rfl) (by kernel_rfl) (fun _ _ _ h => h) (Or.inl ⟨by rfl, ?hyz6⟩) (K3.out.trans (drewN_kp (fun _ => False) _ 1) (fun _ _ h => h)) ?restz6
  case hyz6 => (intro w hSw; have t0 := HT0.out w hSw; (try dsimp only at hSw); go_simp; try with_reducible rfl)
  try simp only [Act.put, List.setIfInBounds_toArray, List.set_cons_zero, List.set_cons_succ]
  refine wpAnyH_ready (rs := [4]) (by kernel_rfl) (by simp) ?_
  refine AllReadyH.cons (o := { dst := some 45, op := Go.Op.call { callee := Go.Callee.value (Go.Operand.func 13), args := #[Go.Operand.tmp 44], argTypes := #[24] }, type := 3, pos := "law.go:200", after := #[{ on := 3, ground := Go.Ground.data }, { on := 2, ground := Go.Ground.chain }, { on := 2, ground := Go.Ground.guard }], guard := some (2, true) }) rfl (fun K hK => ?_) AllReadyH.nil
  go_simp
  refine (HNU.out _ _).mono ?_
  rintro e w4 ⟨rfl, rfl⟩
  go_wp2_with fail
  refine hK.out _ _ (K3.out.trans (drewN_kp (fun _ => False) _ 1) (fun _ _ h => h)) (fun h0 => ?_)
  clear hK K
  try simp only [Act.put, List.setIfInBounds_toArray, List.set_cons_zero, List.set_cons_succ]
  refine wpAnyH_ready (rs := [7]) (by kernel_rfl) (by simp) ?_
  refine AllReadyH.cons (o := { dst := some 48, op := Go.Op.call { callee := Go.Callee.value (Go.Operand.func 16), args := #[Go.Operand.tmp 47], argTypes := #[22] }, type := 3, pos := "law.go:200", after := #[{ on := 6, ground := Go.Ground.data }, { on := 4, ground := Go.Ground.chain }, { on := 2, ground := Go.Ground.guard }], guard := some (2, true) }) rfl (fun K hK => ?_) AllReadyH.nil
  go_simp
  refine (HMY.out _ (HS0.out _ (K3.out.trans (drewN_kp (fun _ => False) _ 1) (fun _ _ h => h)))).mono ?_
  rintro e w5 ⟨rfl, rfl⟩
  go_wp2_with fail
  refine hK.out _ _ (K3.out.trans (drewN_kp (fun _ => False) _ 1) (fun _ _ h => h)) (fun h0 => ?_)
  clear hK K
  try simp only [Act.put, List.setIfInBounds_toArray, List.set_cons_zero, List.set_cons_succ]
  refine wpAnyH_take (i := 8) (oi := { dst := some 49, op := Go.Op.binOp Go.BinOp.eql 3 (Go.Operand.tmp 45) (Go.Operand.tmp 48) 3, type := 4, pos := "law.go:200", after := #[{ on := 4, ground := Go.Ground.data }, { on := 7, ground := Go.Ground.data }, { on := 2, ground := Go.Ground.guard }], guard := some (2, true) }) (v := ?vz8) rfl (by kernel_rfl) (by kernel_rfl) (by kernel_rfl) (fun _ _ _ h => h) (Or.inl ⟨by rfl, ?hyz8⟩) (K3.out.trans (drewN_kp (fun _ => False) _ 1) (fun _ _ h => h)) ?restz8
  case hyz8 => (intro w hSw; (try dsimp only at hSw); go_simp; try with_reducible rfl)
  try simp only [Act.put, List.setIfInBounds_toArray, List.set_cons_zero, List.set_cons_succ]
  refine wpAnyH_take (i := 9) (oi := { dst := some 50, op := Go.Op.pick (Go.Operand.tmp 43) (Go.Operand.tmp 49) (Go.Operand.const (Go.Value.bool false)), type := 4, pos := "law.go:200", after := #[{ on := 2, ground := Go.Ground.data }, { on := 8, ground := Go.Ground.data }], guard := none }) (v := ?vz9) rfl (by kernel_rfl) (by kernel_rfl) (by kernel_rfl) (fun _ _ _ h => h) (Or.inl ⟨by rfl, ?hyz9⟩) (K3.out.trans (drewN_kp (fun _ => False) _ 1) (fun _ _ h => h)) ?restz9
  case hyz9 => (intro w hSw; (try dsimp only at hSw); go_simp; try with_reducible rfl)
  try simp only [Act.put, List.setIfInBounds_toArray, List.set_cons_zero, List.set_cons_succ]
  refine wpAnyH_take (i := 10) (oi := { dst := some 51, op := Go.Op.move (Go.Operand.tmp 50), type := 4, pos := "law.go:200", after := #[{ on := 9, ground := Go.Ground.data }, { on := 7, ground := Go.Ground.chain }], guard := none }) (v := ?vz10) rfl (by kernel_rfl) (by kernel_rfl) (by kernel_rfl) (fun _ _ _ h => h) (Or.inl ⟨by rfl, ?hyz10⟩) (K3.out.trans (drewN_kp (fun _ => False) _ 1) (fun _ _ h => h)) ?restz10
  case hyz10 => (intro w hSw; (try dsimp only at hSw); go_simp; try with_reducible rfl)
  try simp only [Act.put, List.setIfInBounds_toArray, List.set_cons_zero, List.set_cons_succ]
  refine wpAnyH_ready (rs := [11]) (by kernel_rfl) (by simp) ?_
  refine AllReadyH.cons (o := { dst := some 52, op := Go.Op.call { callee := Go.Callee.value (Go.Operand.func 14), args := #[], argTypes := #[] }, type := 4, pos := "law.go:200", after := #[{ on := 10, ground := Go.Ground.chain }, { on := 10, ground := Go.Ground.guard }], guard := some (10, true) }) rfl (fun K hK => ?_) AllReadyH.nil
  go_simp
  refine (HWK.out _).mono ?_
  rintro e w6 ⟨rfl, b6⟩
  have K6 : Hid (Kp (fun _ => False) X0 w6) := (K3.out.trans (drewN_kp (fun _ => False) _ 1) (fun _ _ h => h)).trans (Kp.of_below b6) (fun _ _ h => h)
  clear b6
  go_wp2_with fail
  refine hK.out _ _ K6.out (fun h0 => ?_)
  clear hK K
  try simp only [Act.put, List.setIfInBounds_toArray, List.set_cons_zero, List.set_cons_succ]
  refine wpAnyH_take (i := 12) (oi := { dst := some 53, op := Go.Op.pick (Go.Operand.tmp 51) (Go.Operand.tmp 52) (Go.Operand.const (Go.Value.bool false)), type := 4, pos := "law.go:200", after := #[{ on := 10, ground := Go.Ground.data }, { on := 11, ground := Go.Ground.data }], guard := none }) (v := ?vz12) rfl (by kernel_rfl) (by kernel_rfl) (by kernel_rfl) (fun _ _ _ h => h) (Or.inl ⟨by rfl, ?hyz12⟩) K6.out ?restz12
  case hyz12 => (intro w hSw; (try dsimp only at hSw); go_simp; try with_reducible rfl)
  try simp only [Act.put, List.setIfInBounds_toArray, List.set_cons_zero, List.set_cons_succ]
  refine wpAnyH_take (i := 13) (oi := { dst := some 2, op := Go.Op.assign (Go.Operand.tmp 53), type := 4, pos := "law.go:200", after := #[{ on := 12, ground := Go.Ground.data }, { on := 11, ground := Go.Ground.chain }, { on := 0, ground := Go.Ground.phase }, { on := 1, ground := Go.Ground.phase }, { on := 2, ground := Go.Ground.phase }, { on := 3, ground := Go.Ground.phase }, { on := 4, ground := Go.Ground.phase }, { on := 5, ground := Go.Ground.phase }, { on := 6, ground := Go.Ground.phase }, { on := 7, ground := Go.Ground.phase }, { on := 8, ground := Go.Ground.phase }, { on := 9, ground := Go.Ground.phase }, { on := 10, ground := Go.Ground.phase }, { on := 11, ground := Go.Ground.phase }, { on := 12, ground := Go.Ground.phase }], guard := none }) (v := ?vz13) rfl (by kernel_rfl) (by kernel_rfl) (by kernel_rfl) (fun _ _ _ h => h) (Or.inl ⟨by rfl, ?hyz13⟩) K6.out ?restz13
  case hyz13 => (intro w hSw; (try dsimp only at hSw); go_simp; try with_reducible rfl)
  try simp only [Act.put, List.setIfInBounds_toArray, List.set_cons_zero, List.set_cons_succ]
  refine wpAnyH_done (by kernel_rfl) ?_ _
  go_wp2_with fail
  go_ret
  exact ⟨rfl, K0.out.trans K6.out (fun _ _ h => h)⟩
/-- HuffCoding, whatever comes in. -/
theorem law6_any (a0 a1 a2 : Option Addr) (c0 c1 c2 : Nat) (zs ss B : List Int) (skip leave : Int) (w : World) (hl : zs.length ≤ 17592186044400) (hs0 : Src .i64 w a0 zs) (hn0 : a0 = none → c0 = 0) (hs1 : Src .i64 w a1 ss) (hs2 : Src .u8 w a2 B) (hB : Bz.Byt B) :
    Calls Try.prog 6 #[.agg #[.slice a0 zs.length c0, .slice a1 ss.length c1, .slice a2 B.length c2, .int .i64 skip, .int .i64 leave]] w fun e w' => e = .returned (.bool true) ∧ Kp (fun _ => False) w w' := by
  by_cases h1 : ss.length ≤ 400
  · by_cases h2 : B.length ≤ 400
    · by_cases hm : may zs = 0
      · exact law6_ok a0 a1 a2 c0 c1 c2 zs ss B skip leave w hs0 hn0 hs1 hs2 hB h1 h2 hm
      · exact law6_bad a0 a1 a2 c0 c1 c2 zs ss B skip leave w hl hs0 hn0 h1 h2 hm
    · exact law6_big2 a0 a1 a2 c0 c1 c2 zs ss B skip leave w h1 (by omega)
  · exact law6_big1 a0 a1 a2 c0 c1 c2 zs ss B skip leave w (by omega)
end Go.Proofs.Ythpocbpleffdpaa
