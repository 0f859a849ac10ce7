/- LaterPlays: step, those that put. -/
import Derived.Test.YtgfondgejimkkaaPcX
import Derived.Test.YtgfondgejimkkaaPaX
import Derived.Test.YtgfondgejimkkaaSa
import Derived.Test.YtgfondgejimkkaaWo
import Derived.Deep.CutRange
namespace Go.Proofs.Ytgfondgejimkkaa
open Go.RowKit
set_option linter.unusedVariables false
set_option linter.unusedSimpArgs false
theorem Lw.boxed {Q : Nat} {R : List Rn} {F : Nat → Prop} {W : World} {cs : Array Value} (h : Lw Q R F W) : ¬ F W.heap.size := fun hf => by have := h.lt hf; omega
theorem eql_r (h : Rn) (w : World) : (binOp .eql 38 (.agg #[.int .i64 h.a, .int .i64 h.n]) (.agg #[.int .i64 h.a, .int .i64 h.n])).run Try.prog w = .ok (.bool true) w := by
  obtain ⟨b0, b1⟩ := h
  go_simp
  try simp
set_option maxRecDepth 100000 in
set_option maxHeartbeats 8000000 in
theorem step_cut (W : World) (Q rq : Nat) (l : List Rn) (F : Nat → Prop) (kd lv : Int) (sl : Value) (x : Rn) (m : Int) (hk : kd = 3 ∨ kd = 4) (hx : x.i6) (hL : Lw Q l F W) (hR : RL rq W l) :
    Calls Try.prog 14 #[.pointer (some ⟨Q, 0, none⟩), .pointer (some ⟨rq, 0, none⟩), .agg #[.int .i64 kd, .int .i64 lv, sl, .int .i64 x.a, .int .i64 x.n, .int .i64 m]] W fun e w' => e = .returned (.bool true) ∧ ∃ l', Ch F Q rq W l' w' := by
  have ka : Kp (fun _ => False) W (W.alloc (.cells #[.int .i64 kd, .int .i64 lv, sl, .int .i64 x.a, .int .i64 x.n, .int .i64 m] 40)) := (Kp.refl _ _).alloc _
  have s5 := St.new 40 W #[.int .i64 kd, .int .i64 lv, sl, .int .i64 x.a, .int .i64 x.n, .int .i64 m]
  have HC := hid (cut_two (hL.kp0 ka) (hR.kp ka (fun _ x => x)) x hx)
  have HNB : Hid (¬ F W.heap.size) := fun hf => by have := hL.lt hf; omega
  have HNU := hid num_any
  have S5 := hid s5
  have KA := hid ka
  clear hL hR ka s5 hx
  obtain ⟨xa, xn⟩ := x
  dsimp only at *
  rcases hk with rfl | rfl
  all_goals
    go_enter Try.func14, Try.ntmps14
    go_wp2_with fail
    refine HC.out.mono ?_
    rintro e w1 ⟨n, er, rfl, k1, h2⟩
    have S51 := hid (S5.out.kp k1 HNB.out)
    have z3 : w1.cell? ⟨W.heap.size, 3, none⟩ = some (.int .i64 xa) := S51.out.cell 3
    have z4 : w1.cell? ⟨W.heap.size, 4, none⟩ = some (.int .i64 xn) := S51.out.cell 4
    have H2 := hid (h2 w1 (Kp.refl _ _))
    clear h2 k1 HC
    go_wp2_with fail
    refine H2.out.mono ?_
    rintro e w2 ⟨rfl, l', c2⟩
    have C2 := hid (c2.pre KA.out)
    clear c2 H2 z3 z4
    go_wp2_with (first | (go_at_call 11; refine (HNU.out _ _).mono ?_; rintro e1 w9 ⟨rfl, rfl⟩))
    go_ret
    exact ⟨by simp, l', C2.out⟩
set_option maxRecDepth 100000 in
set_option maxHeartbeats 8000000 in
theorem step_next (W : World) (Q rq : Nat) (l : List Rn) (F : Nat → Prop) (lv : Int) (sl : Value) (x : Rn) (m : Int) (hm : m ≤ 9223372036854775807) (hL : Lw Q l F W) (hR : RL rq W l) :
    Calls Try.prog 14 #[.pointer (some ⟨Q, 0, none⟩), .pointer (some ⟨rq, 0, none⟩), .agg #[.int .i64 5, .int .i64 lv, sl, .int .i64 x.a, .int .i64 x.n, .int .i64 m]] W fun e w' => e = .returned (.bool true) ∧ ∃ l', Ch F Q rq W l' w' := by
  have ka : Kp (fun _ => False) W (W.alloc (.cells #[.int .i64 5, .int .i64 lv, sl, .int .i64 x.a, .int .i64 x.n, .int .i64 m] 40)) := (Kp.refl _ _).alloc _
  have s5 := St.new 40 W #[.int .i64 5, .int .i64 lv, sl, .int .i64 x.a, .int .i64 x.n, .int .i64 m]
  have HC := hid (next_two (hL.kp0 ka) (hR.kp ka (fun _ x => x)) m hm)
  have HNB : Hid (¬ F W.heap.size) := fun hf => by have := hL.lt hf; omega
  have HRQ : Hid (rq < W.heap.size) := hR.lt
  have HNU := hid num_any
  have HEQ := hid eql_r
  have S5 := hid s5
  have KA := hid ka
  clear hL hR ka s5 hm
  obtain ⟨xa, xn⟩ := x
  dsimp only at *
  go_enter Try.func14, Try.ntmps14
  go_wp2_with fail
  refine HC.out.mono ?_
  rintro e w1 ⟨y, er, rfl, k1, h2⟩
  have S51 := hid (S5.out.kp k1 HNB.out)
  have H2 := hid h2
  have HW1 : Hid (rq < w1.heap.size) := Nat.lt_of_lt_of_le HRQ.out (Nat.le_trans KA.out.size k1.size)
  clear h2 k1 HC
  go_wp2_with (first | (refine wpList_store_r rfl _ _ rfl _ rfl (e' := y) rfl (Rn.B.new w1 zRn) ?_; intro w2 s2 k2; have k3 := ((Kp.refl (fun _ => False) w1).alloc (.cells zRn.cs 38)).trans k2 (fun i hi e => by omega); have E2 := hid s2; have z5 : w2.cell? ⟨W.heap.size, 5, none⟩ = some (.int .i64 m) := (S51.out.kp k3 (fun h => h)).cell 5; have H3 := hid (H2.out w2 k3); clear s2 k2 k3))
  refine H3.out.mono ?_
  rintro e w3 ⟨rfl, k3, l', c3⟩
  have C3 := hid (c3.pre KA.out)
  have E3 := hid (E2.out.kp k3 (by have := HW1.out; omega))
  clear c3 k3 H3 H2 E2 z5
  go_wp2_with (first | (refine wpList_store_r rfl _ _ rfl _ rfl (e' := y) rfl (Rn.B.new w3 zRn) ?_; intro w4 s4 k4; have k5 := ((Kp.refl (fun _ => False) w3).alloc (.cells zRn.cs 38)).trans k4 (fun i hi e => by omega); have E4 := hid s4; have E34 := hid (E3.out.kp k5 (fun h => h)); have C4 := hid (C3.out.post k5); have a0 : w4.cell? ⟨w1.heap.size, 0, none⟩ = some (.int .i64 y.a) := E34.out.cell 0; have a1 : w4.cell? ⟨w1.heap.size, 1, none⟩ = some (.int .i64 y.n) := E34.out.cell 1; have b0 : w4.cell? ⟨w3.heap.size, 0, none⟩ = some (.int .i64 y.a) := E4.out.cell 0; have b1 : w4.cell? ⟨w3.heap.size, 1, none⟩ = some (.int .i64 y.n) := E4.out.cell 1; have heq := HEQ.out y w4; clear s4 k4 k5) | (go_at_call 11; refine (HNU.out _ _).mono ?_; rintro e1 w9 ⟨rfl, rfl⟩))
  go_ret
  exact ⟨by simp, l', C4.out⟩
set_option maxRecDepth 100000 in
set_option maxHeartbeats 8000000 in
theorem step_great (W : World) (Q rq : Nat) (l : List Rn) (F : Nat → Prop) (lv : Int) (sl : Value) (x : Rn) (m : Int) (hL : Lw Q l F W) (hR : RL rq W l) :
    Calls Try.prog 14 #[.pointer (some ⟨Q, 0, none⟩), .pointer (some ⟨rq, 0, none⟩), .agg #[.int .i64 6, .int .i64 lv, sl, .int .i64 x.a, .int .i64 x.n, .int .i64 m]] W fun e w' => e = .returned (.bool true) ∧ ∃ l', Ch F Q rq W l' w' := by
  have ka : Kp (fun _ => False) W (W.alloc (.cells #[.int .i64 6, .int .i64 lv, sl, .int .i64 x.a, .int .i64 x.n, .int .i64 m] 40)) := (Kp.refl _ _).alloc _
  have s5 := St.new 40 W #[.int .i64 6, .int .i64 lv, sl, .int .i64 x.a, .int .i64 x.n, .int .i64 m]
  have HC := hid (great_two (hL.kp0 ka) (hR.kp ka (fun _ x => x)))
  have HNB : Hid (¬ F W.heap.size) := fun hf => by have := hL.lt hf; omega
  have HRQ : Hid (rq < W.heap.size) := hR.lt
  have HNU := hid num_any
  have HEQ := hid eql_r
  have S5 := hid s5
  have KA := hid ka
  clear hL hR ka s5
  obtain ⟨xa, xn⟩ := x
  dsimp only at *
  go_enter Try.func14, Try.ntmps14
  go_wp2_with fail
  refine HC.out.mono ?_
  rintro e w1 ⟨y, er, rfl, k1, h2⟩
  have S51 := hid (S5.out.kp k1 HNB.out)
  have H2 := hid h2
  have HW1 : Hid (rq < w1.heap.size) := Nat.lt_of_lt_of_le HRQ.out (Nat.le_trans KA.out.size k1.size)
  clear h2 k1 HC
  go_wp2_with (first | (refine wpList_store_r rfl _ _ rfl _ rfl (e' := y) rfl (Rn.B.new w1 zRn) ?_; intro w2 s2 k2; have k3 := ((Kp.refl (fun _ => False) w1).alloc (.cells zRn.cs 38)).trans k2 (fun i hi e => by omega); have E2 := hid s2; have H3 := hid (H2.out w2 k3); clear s2 k2 k3))
  refine H3.out.mono ?_
  rintro e w3 ⟨rfl, k3, l', c3⟩
  have C3 := hid (c3.pre KA.out)
  have E3 := hid (E2.out.kp k3 (by have := HW1.out; omega))
  clear c3 k3 H3 H2 E2
  go_wp2_with (first | (refine wpList_store_r rfl _ _ rfl _ rfl (e' := y) rfl (Rn.B.new w3 zRn) ?_; intro w4 s4 k4; have k5 := ((Kp.refl (fun _ => False) w3).alloc (.cells zRn.cs 38)).trans k4 (fun i hi e => by omega); have E4 := hid s4; have E34 := hid (E3.out.kp k5 (fun h => h)); have C4 := hid (C3.out.post k5); have a0 : w4.cell? ⟨w1.heap.size, 0, none⟩ = some (.int .i64 y.a) := E34.out.cell 0; have a1 : w4.cell? ⟨w1.heap.size, 1, none⟩ = some (.int .i64 y.n) := E34.out.cell 1; have b0 : w4.cell? ⟨w3.heap.size, 0, none⟩ = some (.int .i64 y.a) := E4.out.cell 0; have b1 : w4.cell? ⟨w3.heap.size, 1, none⟩ = some (.int .i64 y.n) := E4.out.cell 1; have heq := HEQ.out y w4; clear s4 k4 k5) | (go_at_call 11; refine (HNU.out _ _).mono ?_; rintro e1 w9 ⟨rfl, rfl⟩))
  go_ret
  exact ⟨by simp, l', C4.out⟩
theorem drainl_any (W : World) (Q rq : Nat) (l : List Rn) (F : Nat → Prop) (kd lv : Int) (sl : Value) (x : Rn) (most : Int) (hm2 : most ≤ 9223372036854775807) (hL : Lw Q l F W) (hR : RL rq W l) :
    Calls Try.prog 38 #[.pointer (some ⟨Q, 0, none⟩), .pointer (some ⟨rq, 0, none⟩), .agg #[.int .i64 kd, .int .i64 lv, sl, .int .i64 x.a, .int .i64 x.n, .int .i64 most]] W fun e w' => e = .returned (.bool true) ∧ ∃ l', Ch F Q rq W l' w' := by
  by_cases h : most < 1
  · exact drainl_none W Q rq l F kd lv sl x most h hm2 hL hR
  · exact drainl_some W Q rq l F kd lv sl x most (by omega) hm2 hL hR
set_option maxRecDepth 100000 in
set_option maxHeartbeats 8000000 in
theorem step_drain (W : World) (Q rq : Nat) (l : List Rn) (F : Nat → Prop) (lv : Int) (sl : Value) (x : Rn) (m : Int) (hm : m ≤ 9223372036854775807) (hL : Lw Q l F W) (hR : RL rq W l) :
    Calls Try.prog 14 #[.pointer (some ⟨Q, 0, none⟩), .pointer (some ⟨rq, 0, none⟩), .agg #[.int .i64 7, .int .i64 lv, sl, .int .i64 x.a, .int .i64 x.n, .int .i64 m]] W fun e w' => e = .returned (.bool true) ∧ ∃ l', Ch F Q rq W l' w' := by
  have ka : Kp (fun _ => False) W (W.alloc (.cells #[.int .i64 7, .int .i64 lv, sl, .int .i64 x.a, .int .i64 x.n, .int .i64 m] 40)) := (Kp.refl _ _).alloc _
  have HC := hid (drainl_any _ Q rq l F 7 lv sl x m hm (hL.kp0 ka) (hR.kp ka (fun _ x => x)))
  have KA := hid ka
  clear hL hR ka hm
  obtain ⟨xa, xn⟩ := x
  dsimp only at *
  go_enter Try.func14, Try.ntmps14
  go_wp2_with fail
  refine HC.out.mono ?_
  rintro e w1 ⟨rfl, l', c1⟩
  have C1 := hid (c1.pre KA.out)
  clear c1 HC
  go_wp2_with fail
  go_ret
  exact ⟨rfl, l', C1.out⟩
set_option maxRecDepth 100000 in
set_option maxHeartbeats 8000000 in
theorem step_over (W : World) (Q rq : Nat) (l : List Rn) (F : Nat → Prop) (lv : Int) (sl : Value) (x : Rn) (m : Int) (hx : x.i6) (hL : Lw Q l F W) (hR : RL rq W l) :
    Calls Try.prog 14 #[.pointer (some ⟨Q, 0, none⟩), .pointer (some ⟨rq, 0, none⟩), .agg #[.int .i64 8, .int .i64 lv, sl, .int .i64 x.a, .int .i64 x.n, .int .i64 m]] W fun e w' => e = .returned (.bool true) ∧ ∃ l', Ch F Q rq W l' w' := by
  have ka : Kp (fun _ => False) W (W.alloc (.cells #[.int .i64 8, .int .i64 lv, sl, .int .i64 x.a, .int .i64 x.n, .int .i64 m] 40)) := (Kp.refl _ _).alloc _
  have s5 := St.new 40 W #[.int .i64 8, .int .i64 lv, sl, .int .i64 x.a, .int .i64 x.n, .int .i64 m]
  have HC : Hid (Calls Try.prog 23 #[.pointer (some ⟨Q, 0, none⟩), .agg #[.int .i64 x.a, .int .i64 x.n]] (W.alloc (.cells #[.int .i64 8, .int .i64 lv, sl, .int .i64 x.a, .int .i64 x.n, .int .i64 m] 40)) (OvR (W.alloc (.cells #[.int .i64 8, .int .i64 lv, sl, .int .i64 x.a, .int .i64 x.n, .int .i64 m] 40)) l x)) := over_w (hL.kp0 ka) x hx
  have HMY : Hid (∀ U, Calls Try.prog 21 #[.agg #[.int .i64 x.a, .int .i64 x.n]] U fun e w' => e = .returned (.bool (mayb x)) ∧ Kp (fun _ => False) U w') := fun U => rmay_any x U hx
  have HRO : Hid (Mayr x → ∀ U, Kp (fun _ => False) W U → Calls Try.prog 39 #[.pointer (some ⟨rq, 0, none⟩), .agg #[.int .i64 x.a, .int .i64 x.n]] U fun e w' => e = .returned (.int .i64 (ovl l x)) ∧ Kp (fun _ => False) U w') := fun hm U k => rover_any U rq l x hm (hR.kp k (fun _ x => x))
  have HCH : Hid (∀ U, Kp (fun _ => False) W U → Ch F Q rq W l U) := fun U k => Ch.same hL hR k
  have HNU := hid num_any
  have S5 := hid s5
  have KA := hid ka
  have HMB := hid (mayb_iff x)
  clear hL hR ka s5 hx
  go_enter Try.func14, Try.ntmps14
  go_wp2_with fail
  refine HC.out.mono ?_
  rintro e w1 ⟨k1, h1⟩
  have S51 := hid (S5.out.kp k1 (fun h => h))
  have K1 := hid (KA.out.trans k1 (fun _ _ h => h))
  have z3 : w1.cell? ⟨W.heap.size, 3, none⟩ = some (.int .i64 x.a) := S51.out.cell 3
  have z4 : w1.cell? ⟨W.heap.size, 4, none⟩ = some (.int .i64 x.n) := S51.out.cell 4
  have HM1 := hid (HMY.out w1)
  clear k1 HC HMY
  rcases h1 with ⟨hm, rfl⟩ | ⟨hm, rfl⟩
  · have hmf : mayb x = false := by
      cases h : mayb x
      · rfl
      · exact absurd (HMB.out.1 h) hm
    rw [hmf] at HM1
    clear hm hmf HRO HMB
    go_wp2_with fail
    refine HM1.out.mono ?_
    rintro e w2 ⟨rfl, k2⟩
    have K2 := hid (K1.out.trans k2 (fun _ _ h => h))
    clear k2 HM1 z3 z4
    go_wp2_with (first | (go_at_call 11; refine (HNU.out _ _).mono ?_; rintro e1 w9 ⟨rfl, rfl⟩))
    go_ret
    exact ⟨rfl, l, HCH.out _ K2.out⟩
  · have HR1 := hid (HRO.out hm)
    rw [HMB.out.2 hm] at HM1
    clear hm HRO HMB
    generalize ovl l x = ov at *
    go_wp2_with fail
    refine HM1.out.mono ?_
    rintro e w2 ⟨rfl, k2⟩
    have K2 := hid (K1.out.trans k2 (fun _ _ h => h))
    have y3 : w2.cell? ⟨W.heap.size, 3, none⟩ = some (.int .i64 x.a) := (S51.out.kp k2 (fun h => h)).cell 3
    have y4 : w2.cell? ⟨W.heap.size, 4, none⟩ = some (.int .i64 x.n) := (S51.out.kp k2 (fun h => h)).cell 4
    have HR2 := hid (HR1.out w2 K2.out)
    clear k2 HM1 z3 z4 HR1
    go_wp2_with fail
    refine HR2.out.mono ?_
    rintro e w3 ⟨rfl, k3⟩
    have K3 := hid (K2.out.trans k3 (fun _ _ h => h))
    clear k3 HR2 y3 y4
    go_wp2_with (first | (go_at_call 11; refine (HNU.out _ _).mono ?_; rintro e1 w9 ⟨rfl, rfl⟩))
    go_ret
    exact ⟨by simp, l, HCH.out _ K3.out⟩
set_option maxRecDepth 100000 in
set_option maxHeartbeats 8000000 in
theorem step_else (W : World) (Q rq : Nat) (l : List Rn) (F : Nat → Prop) (kd lv : Int) (sl : Value) (x : Rn) (m : Int) (hk : kd < 0 ∨ 8 < kd) (hL : Lw Q l F W) (hR : RL rq W l) :
    Calls Try.prog 14 #[.pointer (some ⟨Q, 0, none⟩), .pointer (some ⟨rq, 0, none⟩), .agg #[.int .i64 kd, .int .i64 lv, sl, .int .i64 x.a, .int .i64 x.n, .int .i64 m]] W fun e w' => e = .returned (.bool true) ∧ ∃ l', Ch F Q rq W l' w' := by
  have ka : Kp (fun _ => False) W (W.alloc (.cells #[.int .i64 kd, .int .i64 lv, sl, .int .i64 x.a, .int .i64 x.n, .int .i64 m] 40)) := (Kp.refl _ _).alloc _
  have HCH := hid (Ch.same hL hR ka)
  have e0 : (kd == 0) = false := by simp; omega
  have e1 : (kd == 1) = false := by simp; omega
  have e2 : (kd == 2) = false := by simp; omega
  have e3 : (kd == 3) = false := by simp; omega
  have e4 : (kd == 4) = false := by simp; omega
  have e5 : (kd == 5) = false := by simp; omega
  have e6 : (kd == 6) = false := by simp; omega
  have e7 : (kd == 7) = false := by simp; omega
  have e8 : (kd == 8) = false := by simp; omega
  clear hL hR ka hk
  go_enter Try.func14, Try.ntmps14
  go_wp2_with fail
  go_ret
  exact ⟨rfl, l, HCH.out⟩
end Go.Proofs.Ytgfondgejimkkaa

namespace Go.Proofs.Ytgfondgejimkkaa
open Go.RowKit
set_option linter.unusedVariables false
set_option linter.unusedSimpArgs false
theorem eq_of_gd {A B : List Rn} (hl : A.length = B.length) (h : ∀ i, i < A.length → A.getD i zRn = B.getD i zRn) : A = B := by
  apply List.ext_getElem hl
  intro i h1 h2
  have := h i h1
  rw [gd h1, gd h2] at this
  exact this
set_option maxRecDepth 100000 in
set_option maxHeartbeats 8000000 in
theorem rsame_any (w : World) (ao bo : Option Addr) (n m ca cb : Nat) (A B : List Rn) (hA : A.length = n) (hB : B.length = m) (hn : n ≤ 1000000) (hm : m ≤ 1000000) (sA : Srcr w ao A) (sB : Srcr w bo B) :
    Calls Try.prog 19 #[.slice ao n ca, .slice bo m cb] w fun e w' => ∃ r : Bool, e = .returned (.bool r) ∧ (r = true ↔ A = B) ∧ Kp (fun _ => False) w w' := by
  have HA := hid hA
  have HB := hid hB
  have SA := hid sA
  have SB := hid sB
  have HNQ := hid neq_r
  clear hA hB sA sB
  go_enter Try.func19, Try.ntmps19
  by_cases hnm : n = m
  · subst hnm
    go_wp2_with fail
    go_loopw [5] (fun i wr => ∃ (k : Nat), i = .int .i64 (k : Int) ∧ k ≤ n ∧ Hid (Kp (fun _ => False) w wr) ∧ Hid (∀ j, j < k → A.getD j zRn = B.getD j zRn)) (fun i _ => n - (intOf i).toNat)
    case atStart => exact ⟨0, rfl, Nat.zero_le _, Kp.refl _ _, fun j hj => by omega⟩
    case round =>
      obtain ⟨k, rfl, hk, HK, HE⟩ := hrel
      by_cases hlt : k < n
      · have hka : k < A.length := by have := HA.out; omega
        have hkb : k < B.length := by have := HB.out; omega
        obtain ⟨g1, o1, rfl, _, x0, x1⟩ := (SA.out.kp HK.out (fun _ _ _ _ h => h)).at (i := k) hka
        obtain ⟨g2, o2, rfl, _, y0, y1⟩ := (SB.out.kp HK.out (fun _ _ _ _ h => h)).at (i := k) hkb
        have HEN : Hid (A.getD k zRn = B.getD k zRn → ∀ j, j < k + 1 → A.getD j zRn = B.getD j zRn) := fun h j hj => by
          by_cases hj2 : j < k
          · exact HE.out j hj2
          · obtain rfl : j = k := by omega
            exact h
        have HNE : Hid (A.getD k zRn ≠ B.getD k zRn → A ≠ B) := fun h e => h (by rw [e])
        have hnq := HNQ.out (A.getD k zRn) (B.getD k zRn)
        generalize A.getD k zRn = x at *
        generalize B.getD k zRn = y at *
        by_cases hxy : x = y
        · have hq : Rn.eq x y = true := by rw [hxy]; exact Rn.eq_self _
          rw [hq] at hnq
          have HXY := hid hxy
          clear hxy hq
          generalize x.a = xa at *
          generalize x.n = xn at *
          generalize y.a = ya at *
          generalize y.n = yn at *
          go_wp2_with fail
          go_quiet (fail)
          go_wp2_with fail
          go_roundw
          case rel => exact ⟨k + 1, by go_num, hlt, HK.out.trans (drewN_kp _ _ _) (fun _ _ h => h), HEN.out HXY.out⟩
          case measure => simp [intOf]; omega
        · have hq : Rn.eq x y = false := Rn.eq_ne hxy
          rw [hq] at hnq
          have HXY := hid hxy
          clear hxy hq
          generalize x.a = xa at *
          generalize x.n = xn at *
          generalize y.a = ya at *
          generalize y.n = yn at *
          go_wp2_with fail
          go_quiet (fail)
          go_wp2_with fail
          go_ret
          exact ⟨false, rfl, ⟨fun h => (by cases h), fun h => absurd h (HNE.out HXY.out)⟩, HK.out.trans (drewN_kp _ _ _) (fun _ _ h => h)⟩
      · obtain rfl : k = n := by omega
        go_wp2_with fail
        go_ret
        exact ⟨true, rfl, ⟨fun _ => eq_of_gd (by rw [HA.out, HB.out]) (fun i hi => HE.out i (by have := HA.out; omega)), fun _ => rfl⟩, HK.out⟩
  · have hd : ((n : Int) != (m : Int)) = true := by rw [bne_iff_ne]; omega
    go_wp2_with fail
    go_ret
    exact ⟨false, rfl, ⟨fun h => (by cases h), fun h => absurd (by rw [← HA.out, ← HB.out, h]) hnm⟩, Kp.refl _ _⟩
end Go.Proofs.Ytgfondgejimkkaa

namespace Go.Proofs.Ytgfondgejimkkaa
open Go.RowKit
set_option linter.unusedVariables false
set_option linter.unusedSimpArgs false
theorem ownr_blk {w : World} {base g : Nat} {v : Value} {l : List Rn} (h : Ownr w base v l) (e : v.ownBlock = some g) : base ≤ g ∧ g < w.heap.size := ⟨(h.blk e).1, (h.blk e).2.1⟩
theorem own_appr2 {w : World} {base : Nat} {v : Value} {l M : List Rn} {ao : Option Addr} {m c : Nat} {ty : TypeId} (h : Ownr w base v l) (hm : m = M.length) (hz : ao = none → c = 0) (hS : Srcr w ao M) (hl : l.length + m ≤ 1000000) (hbase : base ≤ w.heap.size) :
    ∃ v' w', (Builtin.append_ #[22, 22] ty #[v, .slice ao m c]).run Try.prog w = .ok v' w' ∧ Ownr w' base v' (l ++ M) ∧ Kp (fun i => v.ownBlock = some i) w w' := by
  obtain ⟨i0, hi, hz0, hz1, hz2⟩ := info_parts Try.inf38
  cases ao with
  | none =>
    have hc := hz rfl
    have h0 : M.length = 0 := by
      by_cases h0 : M.length = 0
      · exact h0
      · obtain ⟨b, off, e, _⟩ := hS (by omega)
        cases e
    obtain rfl : M = [] := List.length_eq_zero_iff.1 h0
    rw [h0] at hm
    subst hm hc
    exact ⟨v, w, run_append_owned_none (P := Try.prog) (w := w) base 22 ty 38 i0 2 Try.underlying22 hi v l.length (flr l) h, by rw [List.append_nil]; exact h, Kp.refl _ _⟩
  | some ad =>
    obtain ⟨v', w', h1, h2, h3, h4, h5⟩ := run_append_own_at (P := Try.prog) w base 22 ty 38 i0 _ 2 16 Try.underlying22 hi hz0 hz1 hz2 rfl (by decide) v l.length (flr l) h ad m c (flr M) (by rw [flr_len, hm]) (hS.news ad rfl) (flr_one M) (by unfold maxLen; omega) (by omega) hbase
    refine ⟨v', w', h1, ?_, Kp.of_grown h3 (fun i e => e)⟩
    unfold Ownr
    rw [flr_append, List.length_append, ← hm]
    exact h2
theorem own_app12 {w : World} {base b : Nat} {v : Value} {l : List Rn} {x : Rn} {ty : TypeId} (h : Ownr w base v l) (hb : St 38 w b x.cs) (hl : l.length ≤ 100000) (hbase : base ≤ w.heap.size) :
    ∃ v' w', (Builtin.append_ #[22, 22] ty #[v, .slice (some ⟨b, 0, none⟩) 1 1]).run Try.prog w = .ok v' w' ∧ Ownr w' base v' (l ++ [x]) ∧ Kp (fun i => v.ownBlock = some i) w w' := by
  obtain ⟨i0, hi, hz0, hz1, hz2⟩ := info_parts Try.inf38
  obtain ⟨v', w', h1, h2, h3, h4, h5⟩ := run_append_own_at (P := Try.prog) w base 22 ty 38 i0 _ 2 16 Try.underlying22 hi hz0 hz1 hz2 rfl (by decide) v l.length (flr l) h ⟨b, 0, none⟩ 1 1 x.cl rfl (fun j u hu => by rw [add_z, hb.cell j]; simpa [Rn.cs, Rn.cl] using hu) (fun u hu => by simp [Rn.cl] at hu; rcases hu with rfl | rfl <;> rfl) (by unfold maxLen; omega) (by omega) hbase
  refine ⟨v', w', h1, ?_, Kp.of_grown h3 (fun i e => e)⟩
  unfold Ownr
  rw [flr_append, List.length_append, List.length_singleton]
  simpa [flr] using h2
theorem own_form {w : World} {base : Nat} {v : Value} {M : List Rn} {x : Rn} (h : Ownr w base v (M ++ [x])) : ∃ G c cur, v = .slice (some ⟨G, 0, none⟩) (M.length + 1) c ∧ base ≤ G ∧ w.heap[G]? = some (.cells cur 38 (0, 0)) ∧ M.length + 1 ≤ c ∧ c ≤ maxLen ∧ cur.size = c * 2 ∧ cur.toList.take ((M.length + 1) * 2) = flr (M ++ [x]) := by
  rcases h.2 with ⟨_, h0⟩ | ⟨g, cap, cur, e, h1, h2, h3, h4, h5, h6⟩
  · simp at h0
  · simp only [List.length_append, List.length_singleton] at *
    exact ⟨g, cap, cur, e, h1, h2, h3, h4, h5, h6⟩
theorem srcr_pre {w : World} {ao : Option Addr} {M : List Rn} {x : Rn} (h : Srcr w ao (M ++ [x])) : Srcr w ao M := fun hp => by
  obtain ⟨b, off, e, hb, hc⟩ := h (by simp)
  refine ⟨b, off, e, hb, fun j u hu => hc j u ?_⟩
  rw [flr_append, List.getElem?_append_left (List.getElem?_eq_some_iff.1 hu).1]
  exact hu
theorem own_lit0 (w : World) (base : Nat) (hb : base ≤ w.heap.size) : Ownr (w.alloc (.cells #[] 38)) base (.slice (some ⟨w.heap.size, 0, none⟩) 0 0) [] := World.ownsRow_lit w #[] 0 hb (by unfold maxLen; omega) rfl
set_option maxRecDepth 100000 in
set_option maxHeartbeats 16000000 in
theorem step_put0 (W : World) (Q rq : Nat) (l M : List Rn) (F : Nat → Prop) (lv : Int) (ao : Option Addr) (n cap : Nat) (x : Rn) (m : Int) (hM : M.length = n) (hn : n ≤ 40) (h6 : ∀ y ∈ M, y.i6) (hz : ao = none → cap = 0) (hs : Srcr W ao M) (hlow : ∀ b off, ao = some ⟨b, off, none⟩ → 0 < M.length → ¬ F b ∧ b ≠ rq) (hL : Lw Q l F W) (hR : RL rq W l) :
    Calls Try.prog 14 #[.pointer (some ⟨Q, 0, none⟩), .pointer (some ⟨rq, 0, none⟩), .agg #[.int .i64 0, .int .i64 lv, .slice ao n cap, .int .i64 x.a, .int .i64 x.n, .int .i64 m]] W fun e w' => e = .returned (.bool true) ∧ ∃ l', Ch F Q rq W l' w' := by
  have hmix : Try.prog.follows .mixedOrders = true := by kernel_rfl
  have ka : Kp (fun _ => False) W (W.alloc (.cells #[.int .i64 0, .int .i64 lv, .slice ao n cap, .int .i64 x.a, .int .i64 x.n, .int .i64 m] 40)) := (Kp.refl _ _).alloc _
  have s5 := St.new 40 W #[.int .i64 0, .int .i64 lv, .slice ao n cap, .int .i64 x.a, .int .i64 x.n, .int .i64 m]
  have HXS : Hid ((W.alloc (.cells #[.int .i64 0, .int .i64 lv, .slice ao n cap, .int .i64 x.a, .int .i64 x.n, .int .i64 m] 40)).heap.size = W.heap.size + 1) := World.size_alloc _ _
  have HLX := hid (hL.kp0 ka)
  have HRX := hid (hR.kp ka (fun _ x => x))
  have HNB : Hid (¬ F W.heap.size) := fun hf => by have := hL.lt hf; omega
  have HRQ : Hid (rq < W.heap.size) := hR.lt
  have HS := hid (hs.kp ka (fun _ _ _ _ h => h))
  have HNU := hid num_any
  have HRS := hid rsame_any
  have S5 := hid s5
  have KA := hid ka
  have HMN := hid hM
  have H6 := hid h6
  have HZ := hid hz
  have HLO := hid hlow
  clear hL hR ka s5 hM h6 hz hs hlow
  obtain ⟨xa, xn⟩ := x
  dsimp only at *
  · go_enter Try.func14, Try.ntmps14
    go_wp2_with fail
    generalize hX : W.alloc (.cells #[.int .i64 0, .int .i64 lv, .slice ao n cap, .int .i64 xa, .int .i64 xn, .int .i64 m] 40) = X at *
    clear hX
    obtain ⟨T, hT⟩ : ∃ T, T = W.heap.size := ⟨_, rfl⟩
    rw [← hT] at S5 HXS HNB HRQ ⊢
    have HT := hid hT
    clear hT
    have HKa : Hid (Kp (fun _ => False) X (X.alloc (.cells #[] 38)).drew) := ((Kp.refl _ _).alloc _).drew
    have HKb : Hid (Kp (fun _ => False) X ((X.alloc (.cells #[] 38)).alloc (.cells #[.int .i64 77, .int .i64 0] 38)).drew) := (((Kp.refl _ _).alloc _).alloc _).drew
    have HKc : Hid (Kp (fun _ => False) X ((X.alloc (.cells #[.int .i64 77, .int .i64 0] 38)).alloc (.cells #[] 38)).drew) := (((Kp.refl _ _).alloc _).alloc _).drew
    have HKd : Hid (Kp (fun _ => False) X (X.alloc (.cells #[.int .i64 77, .int .i64 0] 38)).drew) := ((Kp.refl _ _).alloc _).drew
    have HOa : Hid (Ownr (X.alloc (.cells #[] 38)).drew X.heap.size (.slice (some ⟨X.heap.size, 0, none⟩) 0 0) []) := own_lit0 X X.heap.size (Nat.le_refl _)
    have HOb : Hid (Ownr ((X.alloc (.cells #[] 38)).alloc (.cells #[.int .i64 77, .int .i64 0] 38)).drew X.heap.size (.slice (some ⟨X.heap.size, 0, none⟩) 0 0) []) := (own_lit0 X X.heap.size (Nat.le_refl _)).kp ((Kp.refl (fun _ => False) _).alloc _).drew (fun _ _ h => h)
    have HOc : Hid (Ownr ((X.alloc (.cells #[.int .i64 77, .int .i64 0] 38)).alloc (.cells #[] 38)).drew X.heap.size (.slice (some ⟨X.heap.size + 1, 0, none⟩) 0 0) []) := by
      have := own_lit0 (X.alloc (.cells #[.int .i64 77, .int .i64 0] 38)) X.heap.size (by rw [World.size_alloc]; omega)
      rw [World.size_alloc] at this
      exact this
    have HSb : Hid (St 38 ((X.alloc (.cells #[] 38)).alloc (.cells #[.int .i64 77, .int .i64 0] 38)).drew (X.heap.size + 1) #[.int .i64 77, .int .i64 0]) := by
      have := St.new 38 (X.alloc (.cells #[] 38)) #[.int .i64 77, .int .i64 0]
      rw [World.size_alloc] at this
      exact this
    have HSc : Hid (St 38 ((X.alloc (.cells #[.int .i64 77, .int .i64 0] 38)).alloc (.cells #[] 38)).drew X.heap.size #[.int .i64 77, .int .i64 0]) := (St.new 38 X #[.int .i64 77, .int .i64 0]).kp ((Kp.refl (fun _ => False) _).alloc _).drew (fun h => h)
    go_cut [7] from 32 to 42 (fun v7 wx => ∃ G c, v7 = .slice (some ⟨G, 0, none⟩) n c ∧ Ownr wx X.heap.size (.slice (some ⟨G, 0, none⟩) (M.length + 1) c) (M ++ [⟨77, 0⟩]) ∧ X.heap.size ≤ G ∧ Kp (fun _ => False) X wx)
    case first =>
      refine wp_region_G (fun U => U.cell? ⟨T, 2, none⟩ = some (.slice ao n cap)) [] hmix ((S5.out.kp (Kp.refl (fun _ => False) X).drew (fun h => h)).cell 2) (fun h0 => ?_)
      refine wpAnyG_take (i := 1) (oi := { dst := some 33, op := Go.Op.fieldAddr 40 (Go.Operand.tmp 5) 2, type := 0, pos := "law.go:77", after := #[], guard := none }) (v := ?vs1) rfl (by kernel_rfl) (fun _ _ _ h => h) (Or.inl ⟨by rfl, ?hys1⟩) h0 ?rests1
      case hys1 => (intro w hSw; (try dsimp only at hSw); go_simp; try with_reducible rfl)
      try simp only [Act.put, List.setIfInBounds_toArray, List.set_cons_zero, List.set_cons_succ]
      refine wpAnyG_take (i := 2) (oi := { dst := some 34, op := Go.Op.load 22 (Go.Operand.tmp 33), type := 22, pos := "law.go:77", after := #[{ on := 1, ground := Go.Ground.data }], guard := none }) (v := ?vs2) rfl (by kernel_rfl) (fun _ _ _ h => h) (Or.inl ⟨by rfl, ?hys2⟩) h0 ?rests2
      case hys2 => (intro w hSw; (try dsimp only at hSw); go_simp; try with_reducible rfl)
      try simp only [Act.put, List.setIfInBounds_toArray, List.set_cons_zero, List.set_cons_succ]
      refine wpAnyG_take (i := 4) (oi := { dst := some 36, op := Go.Op.build 38 #[(0, Go.Operand.const (Go.Value.int Go.IntKind.i64 77))], type := 38, pos := "law.go:77", after := #[], guard := none }) (v := ?vs4) rfl (by kernel_rfl) (fun _ _ _ h => h) (Or.inl ⟨by rfl, ?hys4⟩) h0 ?rests4
      case hys4 => (intro w hSw; (try dsimp only at hSw); go_simp; try with_reducible rfl)
      try simp only [Act.put, List.setIfInBounds_toArray, List.set_cons_zero, List.set_cons_succ]
      refine wpAnyG_take (i := 7) (oi := { dst := some 39, op := Go.Op.fieldAddr 40 (Go.Operand.tmp 5) 2, type := 0, pos := "law.go:77", after := #[], guard := none }) (v := ?vs7) rfl (by kernel_rfl) (fun _ _ _ h => h) (Or.inl ⟨by rfl, ?hys7⟩) h0 ?rests7
      case hys7 => (intro w hSw; (try dsimp only at hSw); go_simp; try with_reducible rfl)
      try simp only [Act.put, List.setIfInBounds_toArray, List.set_cons_zero, List.set_cons_succ]
      refine wpAnyG_take (i := 8) (oi := { dst := some 40, op := Go.Op.load 22 (Go.Operand.tmp 39), type := 22, pos := "law.go:77", after := #[{ on := 7, ground := Go.Ground.data }], guard := none }) (v := ?vs8) rfl (by kernel_rfl) (fun _ _ _ h => h) (Or.inl ⟨by rfl, ?hys8⟩) h0 ?rests8
      case hys8 => (intro w hSw; (try dsimp only at hSw); go_simp; try with_reducible rfl)
      try simp only [Act.put, List.setIfInBounds_toArray, List.set_cons_zero, List.set_cons_succ]
      refine wpAnyG_take (i := 9) (oi := { dst := some 41, op := Go.Op.call { callee := Go.Callee.builtin Go.Builtin.len, args := #[Go.Operand.tmp 40], argTypes := #[22] }, type := 3, pos := "law.go:77", after := #[{ on := 8, ground := Go.Ground.data }], guard := none }) (v := ?vs9) rfl (by kernel_rfl) (fun _ _ _ h => h) (Or.inl ⟨by rfl, ?hys9⟩) h0 ?rests9
      case hys9 => (intro w hSw; (try dsimp only at hSw); go_simp; try with_reducible rfl)
      try simp only [Act.put, List.setIfInBounds_toArray, List.set_cons_zero, List.set_cons_succ]
      refine wpAnyG_two (i := 0) (j := 5) (o := { dst := some 32, op := Go.Op.buildSlice 22 0 #[], type := 22, pos := "law.go:77", after := #[], guard := none }) (o' := { dst := some 37, op := Go.Op.buildSlice 22 1 #[(0, Go.Operand.tmp 36)], type := 22, pos := "law.go:77", after := #[{ on := 4, ground := Go.Ground.data }], guard := none }) (by kernel_rfl) rfl rfl (fun K hK => ?_) (fun K hK => ?_)
      · go_simp
        refine hK.out _ _ (fun _ _ => ((S5.out.kp HKa.out (fun h => h)).cell 2)) ?_
        clear hK K
        try simp only [Act.put, List.setIfInBounds_toArray, List.set_cons_zero, List.set_cons_succ]
        refine wpAnyG_two (i := 3) (j := 5) (o := { dst := some 35, op := Go.Op.call { callee := Go.Callee.builtin Go.Builtin.append, args := #[Go.Operand.tmp 32, Go.Operand.tmp 34], argTypes := #[22, 22] }, type := 22, pos := "law.go:77", after := #[{ on := 0, ground := Go.Ground.data }, { on := 2, ground := Go.Ground.data }], guard := none }) (o' := { dst := some 37, op := Go.Op.buildSlice 22 1 #[(0, Go.Operand.tmp 36)], type := 22, pos := "law.go:77", after := #[{ on := 4, ground := Go.Ground.data }], guard := none }) (by kernel_rfl) rfl rfl (fun K hK => ?_) (fun K hK => ?_)
        · skip
          obtain ⟨v1, w1, rr, o1, k1⟩ := own_appr2 (ty := 22) HOa.out rfl HZ.out (HS.out.kp HKa.out (fun _ _ _ _ h => h)) (by have := HMN.out; simp; omega) HKa.out.size
          rw [HMN.out] at rr
          refine ite_pos2 (by rfl) ?_
          refine Lib.wp_append_run _ _ _ _ _ rfl _ _ rfl rfl _ _ rr ?_
          have K1 : Hid (Kp (fun _ => False) X w1) := HKa.out.trans k1 (fun i hi e => by have := (ownr_blk HOa.out e).1; omega)
          have O1 : Hid (Ownr w1 X.heap.size v1 M) := by rw [List.nil_append] at o1; exact o1
          refine hK.out _ _ (fun _ _ => ((S5.out.kp K1.out (fun h => h)).cell 2)) ?_
          clear hK K
          try simp only [Act.put, List.setIfInBounds_toArray, List.set_cons_zero, List.set_cons_succ]
          clear rr o1 k1
          refine wpAnyG_one (i := 5) (o := { dst := some 37, op := Go.Op.buildSlice 22 1 #[(0, Go.Operand.tmp 36)], type := 22, pos := "law.go:77", after := #[{ on := 4, ground := Go.Ground.data }], guard := none }) (by kernel_rfl) rfl (fun K hK => ?_)
          go_simp
          have K1b : Hid (Kp (fun _ => False) X (w1.alloc (.cells #[.int .i64 77, .int .i64 0] 38))) := K1.out.alloc _
          have O1b := hid (O1.out.kp ((Kp.refl (fun _ => False) w1).alloc (.cells #[.int .i64 77, .int .i64 0] 38)) (fun _ _ h => h))
          refine hK.out _ _ (fun _ _ => ((S5.out.kp K1b.out (fun h => h)).cell 2)) ?_
          clear hK K
          try simp only [Act.put, List.setIfInBounds_toArray, List.set_cons_zero, List.set_cons_succ]
          refine wpAnyG_one (i := 6) (o := { dst := some 38, op := Go.Op.call { callee := Go.Callee.builtin Go.Builtin.append, args := #[Go.Operand.tmp 35, Go.Operand.tmp 37], argTypes := #[22, 22] }, type := 22, pos := "law.go:77", after := #[{ on := 3, ground := Go.Ground.data }, { on := 5, ground := Go.Ground.data }, { on := 3, ground := Go.Ground.chain }], guard := none }) (by kernel_rfl) rfl (fun K hK => ?_)
          obtain ⟨v2, w2, rr, o2, k2⟩ := own_app12 (ty := 22) (x := ⟨77, 0⟩) O1b.out (St.new 38 w1 #[.int .i64 77, .int .i64 0]) (by have := HMN.out; omega) K1b.out.size
          try simp only [Rn.cs] at rr
          refine ite_pos2 (by rfl) ?_
          refine Lib.wp_append_run _ _ _ _ _ rfl _ _ rfl rfl _ _ rr ?_
          have K2 : Hid (Kp (fun _ => False) X w2) := K1b.out.trans k2 (fun i hi e => by have := (ownr_blk O1b.out e).1; omega)
          have O2 := hid o2
          refine hK.out _ _ (fun _ _ => ((S5.out.kp K2.out (fun h => h)).cell 2)) ?_
          clear hK K
          try simp only [Act.put, List.setIfInBounds_toArray, List.set_cons_zero, List.set_cons_succ]
          clear rr o2 k2
          obtain ⟨G, c, cur, e2, hG, hg, hc1, hc2, hc3, hc4⟩ := own_form O2.out
          subst e2
          have hc5 : (n : Int) ≤ (c : Int) := by have := HMN.out; omega
          have hc6 : (0 : Int) ≤ (n : Int) := by omega
          refine wpAnyG_take (i := 10) (oi := { dst := some 42, op := Go.Op.slice 22 (Go.Operand.tmp 38) none (some (Go.Operand.tmp 41)) none, type := 22, pos := "law.go:77", after := #[{ on := 6, ground := Go.Ground.data }, { on := 9, ground := Go.Ground.data }], guard := none }) (v := ?va10) rfl (by kernel_rfl) (fun _ _ _ h => h) (Or.inl ⟨by rfl, ?hya10⟩) ((S5.out.kp K2.out (fun h => h)).cell 2) ?resta10
          case hya10 => (intro w hSw; (try dsimp only at hSw); go_simp; try with_reducible rfl)
          try simp only [Act.put, List.setIfInBounds_toArray, List.set_cons_zero, List.set_cons_succ]
          refine wpAnyG_take (i := 11) (oi := { dst := some 7, op := Go.Op.assign (Go.Operand.tmp 42), type := 22, pos := "law.go:77", after := #[{ on := 10, ground := Go.Ground.data }, { on := 6, ground := Go.Ground.chain }, { on := 0, ground := Go.Ground.phase }, { on := 1, ground := Go.Ground.phase }, { on := 2, ground := Go.Ground.phase }, { on := 3, ground := Go.Ground.phase }, { on := 4, ground := Go.Ground.phase }, { on := 5, ground := Go.Ground.phase }, { on := 6, ground := Go.Ground.phase }, { on := 7, ground := Go.Ground.phase }, { on := 8, ground := Go.Ground.phase }, { on := 9, ground := Go.Ground.phase }, { on := 10, ground := Go.Ground.phase }], guard := none }) (v := ?va11) rfl (by kernel_rfl) (fun _ _ _ h => h) (Or.inl ⟨by rfl, ?hya11⟩) ((S5.out.kp K2.out (fun h => h)).cell 2) ?resta11
          case hya11 => (intro w hSw; (try dsimp only at hSw); go_simp; try with_reducible rfl)
          try simp only [Act.put, List.setIfInBounds_toArray, List.set_cons_zero, List.set_cons_succ]
          refine wpAnyG_done (by kernel_rfl) ?_ _
          go_wp2_with fail
          go_meet
          case rel => exact ⟨G, c, rfl, O2.out, hG, K2.out⟩
        · go_simp
          refine hK.out _ _ (fun _ _ => ((S5.out.kp HKb.out (fun h => h)).cell 2)) ?_
          clear hK K
          try simp only [Act.put, List.setIfInBounds_toArray, List.set_cons_zero, List.set_cons_succ]
          refine wpAnyG_one (i := 3) (o := { dst := some 35, op := Go.Op.call { callee := Go.Callee.builtin Go.Builtin.append, args := #[Go.Operand.tmp 32, Go.Operand.tmp 34], argTypes := #[22, 22] }, type := 22, pos := "law.go:77", after := #[{ on := 0, ground := Go.Ground.data }, { on := 2, ground := Go.Ground.data }], guard := none }) (by kernel_rfl) rfl (fun K hK => ?_)
          obtain ⟨v1, w1, rr, o1, k1⟩ := own_appr2 (ty := 22) HOb.out rfl HZ.out (HS.out.kp HKb.out (fun _ _ _ _ h => h)) (by have := HMN.out; simp; omega) HKb.out.size
          rw [HMN.out] at rr
          refine ite_pos2 (by rfl) ?_
          refine Lib.wp_append_run _ _ _ _ _ rfl _ _ rfl rfl _ _ rr ?_
          have K1 : Hid (Kp (fun _ => False) X w1) := HKb.out.trans k1 (fun i hi e => by have := (ownr_blk HOb.out e).1; omega)
          have O1 : Hid (Ownr w1 X.heap.size v1 M) := by rw [List.nil_append] at o1; exact o1
          have S7 : Hid (St 38 w1 (X.heap.size + 1) #[.int .i64 77, .int .i64 0]) := HSb.out.kp k1 (fun e => by simp [Value.ownBlock] at e)
          refine hK.out _ _ (fun _ _ => ((S5.out.kp K1.out (fun h => h)).cell 2)) ?_
          clear hK K
          try simp only [Act.put, List.setIfInBounds_toArray, List.set_cons_zero, List.set_cons_succ]
          clear rr o1 k1
          refine wpAnyG_one (i := 6) (o := { dst := some 38, op := Go.Op.call { callee := Go.Callee.builtin Go.Builtin.append, args := #[Go.Operand.tmp 35, Go.Operand.tmp 37], argTypes := #[22, 22] }, type := 22, pos := "law.go:77", after := #[{ on := 3, ground := Go.Ground.data }, { on := 5, ground := Go.Ground.data }, { on := 3, ground := Go.Ground.chain }], guard := none }) (by kernel_rfl) rfl (fun K hK => ?_)
          obtain ⟨v2, w2, rr, o2, k2⟩ := own_app12 (ty := 22) (x := ⟨77, 0⟩) O1.out S7.out (by have := HMN.out; omega) K1.out.size
          try simp only [Rn.cs] at rr
          refine ite_pos2 (by rfl) ?_
          refine Lib.wp_append_run _ _ _ _ _ rfl _ _ rfl rfl _ _ rr ?_
          have K2 : Hid (Kp (fun _ => False) X w2) := K1.out.trans k2 (fun i hi e => by have := (ownr_blk O1.out e).1; omega)
          have O2 := hid o2
          refine hK.out _ _ (fun _ _ => ((S5.out.kp K2.out (fun h => h)).cell 2)) ?_
          clear hK K
          try simp only [Act.put, List.setIfInBounds_toArray, List.set_cons_zero, List.set_cons_succ]
          clear rr o2 k2
          obtain ⟨G, c, cur, e2, hG, hg, hc1, hc2, hc3, hc4⟩ := own_form O2.out
          subst e2
          have hc5 : (n : Int) ≤ (c : Int) := by have := HMN.out; omega
          have hc6 : (0 : Int) ≤ (n : Int) := by omega
          refine wpAnyG_take (i := 10) (oi := { dst := some 42, op := Go.Op.slice 22 (Go.Operand.tmp 38) none (some (Go.Operand.tmp 41)) none, type := 22, pos := "law.go:77", after := #[{ on := 6, ground := Go.Ground.data }, { on := 9, ground := Go.Ground.data }], guard := none }) (v := ?vb10) rfl (by kernel_rfl) (fun _ _ _ h => h) (Or.inl ⟨by rfl, ?hyb10⟩) ((S5.out.kp K2.out (fun h => h)).cell 2) ?restb10
          case hyb10 => (intro w hSw; (try dsimp only at hSw); go_simp; try with_reducible rfl)
          try simp only [Act.put, List.setIfInBounds_toArray, List.set_cons_zero, List.set_cons_succ]
          refine wpAnyG_take (i := 11) (oi := { dst := some 7, op := Go.Op.assign (Go.Operand.tmp 42), type := 22, pos := "law.go:77", after := #[{ on := 10, ground := Go.Ground.data }, { on := 6, ground := Go.Ground.chain }, { on := 0, ground := Go.Ground.phase }, { on := 1, ground := Go.Ground.phase }, { on := 2, ground := Go.Ground.phase }, { on := 3, ground := Go.Ground.phase }, { on := 4, ground := Go.Ground.phase }, { on := 5, ground := Go.Ground.phase }, { on := 6, ground := Go.Ground.phase }, { on := 7, ground := Go.Ground.phase }, { on := 8, ground := Go.Ground.phase }, { on := 9, ground := Go.Ground.phase }, { on := 10, ground := Go.Ground.phase }], guard := none }) (v := ?vb11) rfl (by kernel_rfl) (fun _ _ _ h => h) (Or.inl ⟨by rfl, ?hyb11⟩) ((S5.out.kp K2.out (fun h => h)).cell 2) ?restb11
          case hyb11 => (intro w hSw; (try dsimp only at hSw); go_simp; try with_reducible rfl)
          try simp only [Act.put, List.setIfInBounds_toArray, List.set_cons_zero, List.set_cons_succ]
          refine wpAnyG_done (by kernel_rfl) ?_ _
          go_wp2_with fail
          go_meet
          case rel => exact ⟨G, c, rfl, O2.out, hG, K2.out⟩
      · go_simp
        refine hK.out _ _ (fun _ _ => ((S5.out.kp HKd.out (fun h => h)).cell 2)) ?_
        clear hK K
        try simp only [Act.put, List.setIfInBounds_toArray, List.set_cons_zero, List.set_cons_succ]
        refine wpAnyG_one (i := 0) (o := { dst := some 32, op := Go.Op.buildSlice 22 0 #[], type := 22, pos := "law.go:77", after := #[], guard := none }) (by kernel_rfl) rfl (fun K hK => ?_)
        go_simp
        refine hK.out _ _ (fun _ _ => ((S5.out.kp HKc.out (fun h => h)).cell 2)) ?_
        clear hK K
        try simp only [Act.put, List.setIfInBounds_toArray, List.set_cons_zero, List.set_cons_succ]
        refine wpAnyG_one (i := 3) (o := { dst := some 35, op := Go.Op.call { callee := Go.Callee.builtin Go.Builtin.append, args := #[Go.Operand.tmp 32, Go.Operand.tmp 34], argTypes := #[22, 22] }, type := 22, pos := "law.go:77", after := #[{ on := 0, ground := Go.Ground.data }, { on := 2, ground := Go.Ground.data }], guard := none }) (by kernel_rfl) rfl (fun K hK => ?_)
        obtain ⟨v1, w1, rr, o1, k1⟩ := own_appr2 (ty := 22) HOc.out rfl HZ.out (HS.out.kp HKc.out (fun _ _ _ _ h => h)) (by have := HMN.out; simp; omega) HKc.out.size
        rw [HMN.out] at rr
        refine ite_pos2 (by rfl) ?_
        refine Lib.wp_append_run _ _ _ _ _ rfl _ _ rfl rfl _ _ rr ?_
        have K1 : Hid (Kp (fun _ => False) X w1) := HKc.out.trans k1 (fun i hi e => by have := (ownr_blk HOc.out e).1; omega)
        have O1 : Hid (Ownr w1 X.heap.size v1 M) := by rw [List.nil_append] at o1; exact o1
        have S7 : Hid (St 38 w1 X.heap.size #[.int .i64 77, .int .i64 0]) := HSc.out.kp k1 (fun e => by simp [Value.ownBlock] at e)
        refine hK.out _ _ (fun _ _ => ((S5.out.kp K1.out (fun h => h)).cell 2)) ?_
        clear hK K
        try simp only [Act.put, List.setIfInBounds_toArray, List.set_cons_zero, List.set_cons_succ]
        clear rr o1 k1
        refine wpAnyG_one (i := 6) (o := { dst := some 38, op := Go.Op.call { callee := Go.Callee.builtin Go.Builtin.append, args := #[Go.Operand.tmp 35, Go.Operand.tmp 37], argTypes := #[22, 22] }, type := 22, pos := "law.go:77", after := #[{ on := 3, ground := Go.Ground.data }, { on := 5, ground := Go.Ground.data }, { on := 3, ground := Go.Ground.chain }], guard := none }) (by kernel_rfl) rfl (fun K hK => ?_)
        obtain ⟨v2, w2, rr, o2, k2⟩ := own_app12 (ty := 22) (x := ⟨77, 0⟩) O1.out S7.out (by have := HMN.out; omega) K1.out.size
        try simp only [Rn.cs] at rr
        refine ite_pos2 (by rfl) ?_
        refine Lib.wp_append_run _ _ _ _ _ rfl _ _ rfl rfl _ _ rr ?_
        have K2 : Hid (Kp (fun _ => False) X w2) := K1.out.trans k2 (fun i hi e => by have := (ownr_blk O1.out e).1; omega)
        have O2 := hid o2
        refine hK.out _ _ (fun _ _ => ((S5.out.kp K2.out (fun h => h)).cell 2)) ?_
        clear hK K
        try simp only [Act.put, List.setIfInBounds_toArray, List.set_cons_zero, List.set_cons_succ]
        clear rr o2 k2
        obtain ⟨G, c, cur, e2, hG, hg, hc1, hc2, hc3, hc4⟩ := own_form O2.out
        subst e2
        have hc5 : (n : Int) ≤ (c : Int) := by have := HMN.out; omega
        have hc6 : (0 : Int) ≤ (n : Int) := by omega
        refine wpAnyG_take (i := 10) (oi := { dst := some 42, op := Go.Op.slice 22 (Go.Operand.tmp 38) none (some (Go.Operand.tmp 41)) none, type := 22, pos := "law.go:77", after := #[{ on := 6, ground := Go.Ground.data }, { on := 9, ground := Go.Ground.data }], guard := none }) (v := ?vc10) rfl (by kernel_rfl) (fun _ _ _ h => h) (Or.inl ⟨by rfl, ?hyc10⟩) ((S5.out.kp K2.out (fun h => h)).cell 2) ?restc10
        case hyc10 => (intro w hSw; (try dsimp only at hSw); go_simp; try with_reducible rfl)
        try simp only [Act.put, List.setIfInBounds_toArray, List.set_cons_zero, List.set_cons_succ]
        refine wpAnyG_take (i := 11) (oi := { dst := some 7, op := Go.Op.assign (Go.Operand.tmp 42), type := 22, pos := "law.go:77", after := #[{ on := 10, ground := Go.Ground.data }, { on := 6, ground := Go.Ground.chain }, { on := 0, ground := Go.Ground.phase }, { on := 1, ground := Go.Ground.phase }, { on := 2, ground := Go.Ground.phase }, { on := 3, ground := Go.Ground.phase }, { on := 4, ground := Go.Ground.phase }, { on := 5, ground := Go.Ground.phase }, { on := 6, ground := Go.Ground.phase }, { on := 7, ground := Go.Ground.phase }, { on := 8, ground := Go.Ground.phase }, { on := 9, ground := Go.Ground.phase }, { on := 10, ground := Go.Ground.phase }], guard := none }) (v := ?vc11) rfl (by kernel_rfl) (fun _ _ _ h => h) (Or.inl ⟨by rfl, ?hyc11⟩) ((S5.out.kp K2.out (fun h => h)).cell 2) ?restc11
        case hyc11 => (intro w hSw; (try dsimp only at hSw); go_simp; try with_reducible rfl)
        try simp only [Act.put, List.setIfInBounds_toArray, List.set_cons_zero, List.set_cons_succ]
        refine wpAnyG_done (by kernel_rfl) ?_ _
        go_wp2_with fail
        go_meet
        case rel => exact ⟨G, c, rfl, O2.out, hG, K2.out⟩
    case rest =>
      obtain ⟨G, c, rfl, oG, hG, kG⟩ := hcut
      clear HKa HKb HKc HKd HOa HOb HOc HSb HSc
      have S5c := hid (S5.out.kp kG (fun h => h))
      have LX := hid (HLX.out.kp0 kG)
      have RX := hid (HRX.out.kp kG (fun _ h => h))
      have HRW : Hid (∃ cur, St 38 wc G cur) := by
        obtain ⟨_, _, cur, h9⟩ := oG.blk (g := G) rfl
        exact ⟨cur, h9⟩
      have SG : Hid (Srcr wc (some ⟨G, 0, none⟩) (M ++ [⟨77, 0⟩])) := by
        obtain ⟨a1, c1, e1, s1, _⟩ := oG.src
        simp only [Value.slice.injEq] at e1
        rw [← e1.1] at s1
        exact s1
      have hcl : M.length + 1 ≤ c := by
        rcases oG.2 with ⟨e0, _⟩ | ⟨g, cp, cur, e0, _, _, h3, _⟩
        · cases e0
        · simp only [Value.slice.injEq] at e0
          rw [← e0.2.2] at h3
          simpa using h3
      have SM : Hid (Srcr wc (some ⟨G, 0, none⟩) M) := srcr_pre SG.out
      have KW := hid (KA.out.trans kG (fun _ _ h => h))
      have SA := hid (HS.out.kp kG (fun _ _ _ _ h => h))
      have HPT := hid (put_two LX.out RX.out (some ⟨G, 0, none⟩) n c M HMN.out (by omega) H6.out (fun e => by cases e) SM.out)
      have HNG : Hid (¬ F G) := by
        obtain ⟨cur, h9⟩ := HRW.out
        exact LX.out.no38 G cur h9
      have HGQ : Hid (G ≠ rq) := fun e => by have h1 : rq < T := HRQ.out; have h2 : X.heap.size = T + 1 := HXS.out; omega
      clear oG kG SM HRW hG
      go_wp2_with fail
      refine HPT.out.mono ?_
      rintro e w1 ⟨pm, er, rfl, k1, h2⟩
      have S51 := hid (S5c.out.kp k1 HNB.out)
      have z2 : w1.cell? ⟨T, 2, none⟩ = some (.slice ao n cap) := S51.out.cell 2
      have SA1 : Hid (Srcr w1 ao M) := srcr_kp2 SA.out k1 (fun b off e hp => (HLO.out b off e hp).1)
      have SG1 : Hid (Srcr w1 (some ⟨G, 0, none⟩) (M ++ [⟨77, 0⟩])) := SG.out.kp k1 (fun b off e _ => by cases e; exact HNG.out)
      have H2 := hid (h2 w1 ao cap (Kp.refl _ _) SA1.out)
      clear h2 k1 HPT S5c SA SG
      go_wp2_with fail
      refine H2.out.mono ?_
      rintro e w2 ⟨rfl, k2, l', c2⟩
      have C2 := hid (c2.pre KW.out)
      have S52 := hid (S51.out.kp k2 (by have h1 : rq < T := HRQ.out; omega))
      have SA2 : Hid (Srcr w2 ao M) := srcr_kp2 SA1.out k2 (fun b off e hp => (HLO.out b off e hp).2)
      have SG2 : Hid (Srcr w2 (some ⟨G, 0, none⟩) (M ++ [⟨77, 0⟩])) := SG1.out.kp k2 (fun b off e _ => by cases e; exact HGQ.out)
      clear c2 k2 H2 z2 S51 SA1 SG1
      have KD : Hid (Kp (fun _ => False) w2 w2.drew) := (Kp.refl (fun _ => False) w2).drew
      have HPR : Hid (∀ U, Kp (fun _ => False) w2 U → U.cell? ⟨T, 2, none⟩ = some (.slice ao n cap) ∧ U.cell? ⟨G, n * 2, none⟩ = some (.int .i64 77)) := fun U k => by
        refine ⟨(S52.out.kp k (fun h => h)).cell 2, ?_⟩
        obtain ⟨b, off, e, _, y0, _⟩ := (SG2.out.kp k (fun _ _ _ _ h => h)).at (i := n) (by have := HMN.out; simp; omega)
        cases e
        rw [Nat.zero_add] at y0
        rw [y0]
        have : (M ++ [(⟨77, 0⟩ : Rn)]).getD n zRn = ⟨77, 0⟩ := by rw [← HMN.out]; simp [List.getD]
        rw [this]
      have HSM := hid (HRS.out w2.drew (some ⟨G, 0, none⟩) ao n n c cap M M HMN.out HMN.out (by omega) (by omega) (srcr_pre (SG2.out.kp KD.out (fun _ _ _ _ h => h))) (SA2.out.kp KD.out (fun _ _ _ _ h => h)))
      have cc0 := HPR.out w2 (Kp.refl _ _)
      have cd0 := HPR.out w2.drew KD.out
      have hc5 : (n : Int) + 1 ≤ (c : Int) := by have := HMN.out; omega
      have hc6 : (0 : Int) ≤ (n : Int) + 1 := by omega
      have hc7 : (n : Int) < (n : Int) + 1 := by omega
      have hc8 : (0 : Int) ≤ (n : Int) := by omega
      have hw1 : IntKind.i64.wrap ((n : Int) + 1) = (n : Int) + 1 := by rw [IntKind.wrap_i64]; omega
      clear SG2 SA2 S52 HRS
      go_wp2_with fail
      go_region_held3 (fun U : World => U.cell? ⟨T, 2, none⟩ = some (.slice ao n cap) ∧ U.cell? ⟨G, n * 2, none⟩ = some (.int .i64 77)) (first | exact cc0 | exact cd0 | exact cc3) (first | (go_at_call 11; refine (HNU.out _ _).mono ?_; rintro e1 w9 ⟨rfl, rfl⟩) | (go_at_call 19; refine HSM.out.mono ?_; rintro e w3 ⟨r, rfl, hr, k3⟩; obtain rfl : r = true := (by first | exact hr.2 rfl | exact hr.2 trivial); have K3 := hid (KD.out.trans k3 (fun _ _ h => h)); have cc3 := HPR.out w3 K3.out; clear k3 hr))
      all_goals
        go_wp2_with fail
        go_ret
        exact ⟨by simp, l', C2.out.post K3.out⟩
set_option maxRecDepth 100000 in
set_option maxHeartbeats 16000000 in
theorem step_put1 (W : World) (Q rq : Nat) (l M : List Rn) (F : Nat → Prop) (lv : Int) (ao : Option Addr) (n cap : Nat) (x : Rn) (m : Int) (hM : M.length = n) (hn : n ≤ 40) (h6 : ∀ y ∈ M, y.i6) (hz : ao = none → cap = 0) (hs : Srcr W ao M) (hlow : ∀ b off, ao = some ⟨b, off, none⟩ → 0 < M.length → ¬ F b ∧ b ≠ rq) (hL : Lw Q l F W) (hR : RL rq W l) :
    Calls Try.prog 14 #[.pointer (some ⟨Q, 0, none⟩), .pointer (some ⟨rq, 0, none⟩), .agg #[.int .i64 1, .int .i64 lv, .slice ao n cap, .int .i64 x.a, .int .i64 x.n, .int .i64 m]] W fun e w' => e = .returned (.bool true) ∧ ∃ l', Ch F Q rq W l' w' := by
  have hmix : Try.prog.follows .mixedOrders = true := by kernel_rfl
  have ka : Kp (fun _ => False) W (W.alloc (.cells #[.int .i64 1, .int .i64 lv, .slice ao n cap, .int .i64 x.a, .int .i64 x.n, .int .i64 m] 40)) := (Kp.refl _ _).alloc _
  have s5 := St.new 40 W #[.int .i64 1, .int .i64 lv, .slice ao n cap, .int .i64 x.a, .int .i64 x.n, .int .i64 m]
  have HXS : Hid ((W.alloc (.cells #[.int .i64 1, .int .i64 lv, .slice ao n cap, .int .i64 x.a, .int .i64 x.n, .int .i64 m] 40)).heap.size = W.heap.size + 1) := World.size_alloc _ _
  have HLX := hid (hL.kp0 ka)
  have HRX := hid (hR.kp ka (fun _ x => x))
  have HNB : Hid (¬ F W.heap.size) := fun hf => by have := hL.lt hf; omega
  have HRQ : Hid (rq < W.heap.size) := hR.lt
  have HS := hid (hs.kp ka (fun _ _ _ _ h => h))
  have HNU := hid num_any
  have HRS := hid rsame_any
  have S5 := hid s5
  have KA := hid ka
  have HMN := hid hM
  have H6 := hid h6
  have HZ := hid hz
  have HLO := hid hlow
  clear hL hR ka s5 hM h6 hz hs hlow
  obtain ⟨xa, xn⟩ := x
  dsimp only at *
  · go_enter Try.func14, Try.ntmps14
    go_wp2_with fail
    generalize hX : W.alloc (.cells #[.int .i64 1, .int .i64 lv, .slice ao n cap, .int .i64 xa, .int .i64 xn, .int .i64 m] 40) = X at *
    clear hX
    obtain ⟨T, hT⟩ : ∃ T, T = W.heap.size := ⟨_, rfl⟩
    rw [← hT] at S5 HXS HNB HRQ ⊢
    have HT := hid hT
    clear hT
    have HKa : Hid (Kp (fun _ => False) X (X.alloc (.cells #[] 38)).drew) := ((Kp.refl _ _).alloc _).drew
    have HKb : Hid (Kp (fun _ => False) X ((X.alloc (.cells #[] 38)).alloc (.cells #[.int .i64 77, .int .i64 0] 38)).drew) := (((Kp.refl _ _).alloc _).alloc _).drew
    have HKc : Hid (Kp (fun _ => False) X ((X.alloc (.cells #[.int .i64 77, .int .i64 0] 38)).alloc (.cells #[] 38)).drew) := (((Kp.refl _ _).alloc _).alloc _).drew
    have HKd : Hid (Kp (fun _ => False) X (X.alloc (.cells #[.int .i64 77, .int .i64 0] 38)).drew) := ((Kp.refl _ _).alloc _).drew
    have HOa : Hid (Ownr (X.alloc (.cells #[] 38)).drew X.heap.size (.slice (some ⟨X.heap.size, 0, none⟩) 0 0) []) := own_lit0 X X.heap.size (Nat.le_refl _)
    have HOb : Hid (Ownr ((X.alloc (.cells #[] 38)).alloc (.cells #[.int .i64 77, .int .i64 0] 38)).drew X.heap.size (.slice (some ⟨X.heap.size, 0, none⟩) 0 0) []) := (own_lit0 X X.heap.size (Nat.le_refl _)).kp ((Kp.refl (fun _ => False) _).alloc _).drew (fun _ _ h => h)
    have HOc : Hid (Ownr ((X.alloc (.cells #[.int .i64 77, .int .i64 0] 38)).alloc (.cells #[] 38)).drew X.heap.size (.slice (some ⟨X.heap.size + 1, 0, none⟩) 0 0) []) := by
      have := own_lit0 (X.alloc (.cells #[.int .i64 77, .int .i64 0] 38)) X.heap.size (by rw [World.size_alloc]; omega)
      rw [World.size_alloc] at this
      exact this
    have HSb : Hid (St 38 ((X.alloc (.cells #[] 38)).alloc (.cells #[.int .i64 77, .int .i64 0] 38)).drew (X.heap.size + 1) #[.int .i64 77, .int .i64 0]) := by
      have := St.new 38 (X.alloc (.cells #[] 38)) #[.int .i64 77, .int .i64 0]
      rw [World.size_alloc] at this
      exact this
    have HSc : Hid (St 38 ((X.alloc (.cells #[.int .i64 77, .int .i64 0] 38)).alloc (.cells #[] 38)).drew X.heap.size #[.int .i64 77, .int .i64 0]) := (St.new 38 X #[.int .i64 77, .int .i64 0]).kp ((Kp.refl (fun _ => False) _).alloc _).drew (fun h => h)
    go_cut [7] from 32 to 42 (fun v7 wx => ∃ G c, v7 = .slice (some ⟨G, 0, none⟩) n c ∧ Ownr wx X.heap.size (.slice (some ⟨G, 0, none⟩) (M.length + 1) c) (M ++ [⟨77, 0⟩]) ∧ X.heap.size ≤ G ∧ Kp (fun _ => False) X wx)
    case first =>
      refine wp_region_G (fun U => U.cell? ⟨T, 2, none⟩ = some (.slice ao n cap)) [] hmix ((S5.out.kp (Kp.refl (fun _ => False) X).drew (fun h => h)).cell 2) (fun h0 => ?_)
      refine wpAnyG_take (i := 1) (oi := { dst := some 33, op := Go.Op.fieldAddr 40 (Go.Operand.tmp 5) 2, type := 0, pos := "law.go:77", after := #[], guard := none }) (v := ?vs1) rfl (by kernel_rfl) (fun _ _ _ h => h) (Or.inl ⟨by rfl, ?hys1⟩) h0 ?rests1
      case hys1 => (intro w hSw; (try dsimp only at hSw); go_simp; try with_reducible rfl)
      try simp only [Act.put, List.setIfInBounds_toArray, List.set_cons_zero, List.set_cons_succ]
      refine wpAnyG_take (i := 2) (oi := { dst := some 34, op := Go.Op.load 22 (Go.Operand.tmp 33), type := 22, pos := "law.go:77", after := #[{ on := 1, ground := Go.Ground.data }], guard := none }) (v := ?vs2) rfl (by kernel_rfl) (fun _ _ _ h => h) (Or.inl ⟨by rfl, ?hys2⟩) h0 ?rests2
      case hys2 => (intro w hSw; (try dsimp only at hSw); go_simp; try with_reducible rfl)
      try simp only [Act.put, List.setIfInBounds_toArray, List.set_cons_zero, List.set_cons_succ]
      refine wpAnyG_take (i := 4) (oi := { dst := some 36, op := Go.Op.build 38 #[(0, Go.Operand.const (Go.Value.int Go.IntKind.i64 77))], type := 38, pos := "law.go:77", after := #[], guard := none }) (v := ?vs4) rfl (by kernel_rfl) (fun _ _ _ h => h) (Or.inl ⟨by rfl, ?hys4⟩) h0 ?rests4
      case hys4 => (intro w hSw; (try dsimp only at hSw); go_simp; try with_reducible rfl)
      try simp only [Act.put, List.setIfInBounds_toArray, List.set_cons_zero, List.set_cons_succ]
      refine wpAnyG_take (i := 7) (oi := { dst := some 39, op := Go.Op.fieldAddr 40 (Go.Operand.tmp 5) 2, type := 0, pos := "law.go:77", after := #[], guard := none }) (v := ?vs7) rfl (by kernel_rfl) (fun _ _ _ h => h) (Or.inl ⟨by rfl, ?hys7⟩) h0 ?rests7
      case hys7 => (intro w hSw; (try dsimp only at hSw); go_simp; try with_reducible rfl)
      try simp only [Act.put, List.setIfInBounds_toArray, List.set_cons_zero, List.set_cons_succ]
      refine wpAnyG_take (i := 8) (oi := { dst := some 40, op := Go.Op.load 22 (Go.Operand.tmp 39), type := 22, pos := "law.go:77", after := #[{ on := 7, ground := Go.Ground.data }], guard := none }) (v := ?vs8) rfl (by kernel_rfl) (fun _ _ _ h => h) (Or.inl ⟨by rfl, ?hys8⟩) h0 ?rests8
      case hys8 => (intro w hSw; (try dsimp only at hSw); go_simp; try with_reducible rfl)
      try simp only [Act.put, List.setIfInBounds_toArray, List.set_cons_zero, List.set_cons_succ]
      refine wpAnyG_take (i := 9) (oi := { dst := some 41, op := Go.Op.call { callee := Go.Callee.builtin Go.Builtin.len, args := #[Go.Operand.tmp 40], argTypes := #[22] }, type := 3, pos := "law.go:77", after := #[{ on := 8, ground := Go.Ground.data }], guard := none }) (v := ?vs9) rfl (by kernel_rfl) (fun _ _ _ h => h) (Or.inl ⟨by rfl, ?hys9⟩) h0 ?rests9
      case hys9 => (intro w hSw; (try dsimp only at hSw); go_simp; try with_reducible rfl)
      try simp only [Act.put, List.setIfInBounds_toArray, List.set_cons_zero, List.set_cons_succ]
      refine wpAnyG_two (i := 0) (j := 5) (o := { dst := some 32, op := Go.Op.buildSlice 22 0 #[], type := 22, pos := "law.go:77", after := #[], guard := none }) (o' := { dst := some 37, op := Go.Op.buildSlice 22 1 #[(0, Go.Operand.tmp 36)], type := 22, pos := "law.go:77", after := #[{ on := 4, ground := Go.Ground.data }], guard := none }) (by kernel_rfl) rfl rfl (fun K hK => ?_) (fun K hK => ?_)
      · go_simp
        refine hK.out _ _ (fun _ _ => ((S5.out.kp HKa.out (fun h => h)).cell 2)) ?_
        clear hK K
        try simp only [Act.put, List.setIfInBounds_toArray, List.set_cons_zero, List.set_cons_succ]
        refine wpAnyG_two (i := 3) (j := 5) (o := { dst := some 35, op := Go.Op.call { callee := Go.Callee.builtin Go.Builtin.append, args := #[Go.Operand.tmp 32, Go.Operand.tmp 34], argTypes := #[22, 22] }, type := 22, pos := "law.go:77", after := #[{ on := 0, ground := Go.Ground.data }, { on := 2, ground := Go.Ground.data }], guard := none }) (o' := { dst := some 37, op := Go.Op.buildSlice 22 1 #[(0, Go.Operand.tmp 36)], type := 22, pos := "law.go:77", after := #[{ on := 4, ground := Go.Ground.data }], guard := none }) (by kernel_rfl) rfl rfl (fun K hK => ?_) (fun K hK => ?_)
        · skip
          obtain ⟨v1, w1, rr, o1, k1⟩ := own_appr2 (ty := 22) HOa.out rfl HZ.out (HS.out.kp HKa.out (fun _ _ _ _ h => h)) (by have := HMN.out; simp; omega) HKa.out.size
          rw [HMN.out] at rr
          refine ite_pos2 (by rfl) ?_
          refine Lib.wp_append_run _ _ _ _ _ rfl _ _ rfl rfl _ _ rr ?_
          have K1 : Hid (Kp (fun _ => False) X w1) := HKa.out.trans k1 (fun i hi e => by have := (ownr_blk HOa.out e).1; omega)
          have O1 : Hid (Ownr w1 X.heap.size v1 M) := by rw [List.nil_append] at o1; exact o1
          refine hK.out _ _ (fun _ _ => ((S5.out.kp K1.out (fun h => h)).cell 2)) ?_
          clear hK K
          try simp only [Act.put, List.setIfInBounds_toArray, List.set_cons_zero, List.set_cons_succ]
          clear rr o1 k1
          refine wpAnyG_one (i := 5) (o := { dst := some 37, op := Go.Op.buildSlice 22 1 #[(0, Go.Operand.tmp 36)], type := 22, pos := "law.go:77", after := #[{ on := 4, ground := Go.Ground.data }], guard := none }) (by kernel_rfl) rfl (fun K hK => ?_)
          go_simp
          have K1b : Hid (Kp (fun _ => False) X (w1.alloc (.cells #[.int .i64 77, .int .i64 0] 38))) := K1.out.alloc _
          have O1b := hid (O1.out.kp ((Kp.refl (fun _ => False) w1).alloc (.cells #[.int .i64 77, .int .i64 0] 38)) (fun _ _ h => h))
          refine hK.out _ _ (fun _ _ => ((S5.out.kp K1b.out (fun h => h)).cell 2)) ?_
          clear hK K
          try simp only [Act.put, List.setIfInBounds_toArray, List.set_cons_zero, List.set_cons_succ]
          refine wpAnyG_one (i := 6) (o := { dst := some 38, op := Go.Op.call { callee := Go.Callee.builtin Go.Builtin.append, args := #[Go.Operand.tmp 35, Go.Operand.tmp 37], argTypes := #[22, 22] }, type := 22, pos := "law.go:77", after := #[{ on := 3, ground := Go.Ground.data }, { on := 5, ground := Go.Ground.data }, { on := 3, ground := Go.Ground.chain }], guard := none }) (by kernel_rfl) rfl (fun K hK => ?_)
          obtain ⟨v2, w2, rr, o2, k2⟩ := own_app12 (ty := 22) (x := ⟨77, 0⟩) O1b.out (St.new 38 w1 #[.int .i64 77, .int .i64 0]) (by have := HMN.out; omega) K1b.out.size
          try simp only [Rn.cs] at rr
          refine ite_pos2 (by rfl) ?_
          refine Lib.wp_append_run _ _ _ _ _ rfl _ _ rfl rfl _ _ rr ?_
          have K2 : Hid (Kp (fun _ => False) X w2) := K1b.out.trans k2 (fun i hi e => by have := (ownr_blk O1b.out e).1; omega)
          have O2 := hid o2
          refine hK.out _ _ (fun _ _ => ((S5.out.kp K2.out (fun h => h)).cell 2)) ?_
          clear hK K
          try simp only [Act.put, List.setIfInBounds_toArray, List.set_cons_zero, List.set_cons_succ]
          clear rr o2 k2
          obtain ⟨G, c, cur, e2, hG, hg, hc1, hc2, hc3, hc4⟩ := own_form O2.out
          subst e2
          have hc5 : (n : Int) ≤ (c : Int) := by have := HMN.out; omega
          have hc6 : (0 : Int) ≤ (n : Int) := by omega
          refine wpAnyG_take (i := 10) (oi := { dst := some 42, op := Go.Op.slice 22 (Go.Operand.tmp 38) none (some (Go.Operand.tmp 41)) none, type := 22, pos := "law.go:77", after := #[{ on := 6, ground := Go.Ground.data }, { on := 9, ground := Go.Ground.data }], guard := none }) (v := ?va10) rfl (by kernel_rfl) (fun _ _ _ h => h) (Or.inl ⟨by rfl, ?hya10⟩) ((S5.out.kp K2.out (fun h => h)).cell 2) ?resta10
          case hya10 => (intro w hSw; (try dsimp only at hSw); go_simp; try with_reducible rfl)
          try simp only [Act.put, List.setIfInBounds_toArray, List.set_cons_zero, List.set_cons_succ]
          refine wpAnyG_take (i := 11) (oi := { dst := some 7, op := Go.Op.assign (Go.Operand.tmp 42), type := 22, pos := "law.go:77", after := #[{ on := 10, ground := Go.Ground.data }, { on := 6, ground := Go.Ground.chain }, { on := 0, ground := Go.Ground.phase }, { on := 1, ground := Go.Ground.phase }, { on := 2, ground := Go.Ground.phase }, { on := 3, ground := Go.Ground.phase }, { on := 4, ground := Go.Ground.phase }, { on := 5, ground := Go.Ground.phase }, { on := 6, ground := Go.Ground.phase }, { on := 7, ground := Go.Ground.phase }, { on := 8, ground := Go.Ground.phase }, { on := 9, ground := Go.Ground.phase }, { on := 10, ground := Go.Ground.phase }], guard := none }) (v := ?va11) rfl (by kernel_rfl) (fun _ _ _ h => h) (Or.inl ⟨by rfl, ?hya11⟩) ((S5.out.kp K2.out (fun h => h)).cell 2) ?resta11
          case hya11 => (intro w hSw; (try dsimp only at hSw); go_simp; try with_reducible rfl)
          try simp only [Act.put, List.setIfInBounds_toArray, List.set_cons_zero, List.set_cons_succ]
          refine wpAnyG_done (by kernel_rfl) ?_ _
          go_wp2_with fail
          go_meet
          case rel => exact ⟨G, c, rfl, O2.out, hG, K2.out⟩
        · go_simp
          refine hK.out _ _ (fun _ _ => ((S5.out.kp HKb.out (fun h => h)).cell 2)) ?_
          clear hK K
          try simp only [Act.put, List.setIfInBounds_toArray, List.set_cons_zero, List.set_cons_succ]
          refine wpAnyG_one (i := 3) (o := { dst := some 35, op := Go.Op.call { callee := Go.Callee.builtin Go.Builtin.append, args := #[Go.Operand.tmp 32, Go.Operand.tmp 34], argTypes := #[22, 22] }, type := 22, pos := "law.go:77", after := #[{ on := 0, ground := Go.Ground.data }, { on := 2, ground := Go.Ground.data }], guard := none }) (by kernel_rfl) rfl (fun K hK => ?_)
          obtain ⟨v1, w1, rr, o1, k1⟩ := own_appr2 (ty := 22) HOb.out rfl HZ.out (HS.out.kp HKb.out (fun _ _ _ _ h => h)) (by have := HMN.out; simp; omega) HKb.out.size
          rw [HMN.out] at rr
          refine ite_pos2 (by rfl) ?_
          refine Lib.wp_append_run _ _ _ _ _ rfl _ _ rfl rfl _ _ rr ?_
          have K1 : Hid (Kp (fun _ => False) X w1) := HKb.out.trans k1 (fun i hi e => by have := (ownr_blk HOb.out e).1; omega)
          have O1 : Hid (Ownr w1 X.heap.size v1 M) := by rw [List.nil_append] at o1; exact o1
          have S7 : Hid (St 38 w1 (X.heap.size + 1) #[.int .i64 77, .int .i64 0]) := HSb.out.kp k1 (fun e => by simp [Value.ownBlock] at e)
          refine hK.out _ _ (fun _ _ => ((S5.out.kp K1.out (fun h => h)).cell 2)) ?_
          clear hK K
          try simp only [Act.put, List.setIfInBounds_toArray, List.set_cons_zero, List.set_cons_succ]
          clear rr o1 k1
          refine wpAnyG_one (i := 6) (o := { dst := some 38, op := Go.Op.call { callee := Go.Callee.builtin Go.Builtin.append, args := #[Go.Operand.tmp 35, Go.Operand.tmp 37], argTypes := #[22, 22] }, type := 22, pos := "law.go:77", after := #[{ on := 3, ground := Go.Ground.data }, { on := 5, ground := Go.Ground.data }, { on := 3, ground := Go.Ground.chain }], guard := none }) (by kernel_rfl) rfl (fun K hK => ?_)
          obtain ⟨v2, w2, rr, o2, k2⟩ := own_app12 (ty := 22) (x := ⟨77, 0⟩) O1.out S7.out (by have := HMN.out; omega) K1.out.size
          try simp only [Rn.cs] at rr
          refine ite_pos2 (by rfl) ?_
          refine Lib.wp_append_run _ _ _ _ _ rfl _ _ rfl rfl _ _ rr ?_
          have K2 : Hid (Kp (fun _ => False) X w2) := K1.out.trans k2 (fun i hi e => by have := (ownr_blk O1.out e).1; omega)
          have O2 := hid o2
          refine hK.out _ _ (fun _ _ => ((S5.out.kp K2.out (fun h => h)).cell 2)) ?_
          clear hK K
          try simp only [Act.put, List.setIfInBounds_toArray, List.set_cons_zero, List.set_cons_succ]
          clear rr o2 k2
          obtain ⟨G, c, cur, e2, hG, hg, hc1, hc2, hc3, hc4⟩ := own_form O2.out
          subst e2
          have hc5 : (n : Int) ≤ (c : Int) := by have := HMN.out; omega
          have hc6 : (0 : Int) ≤ (n : Int) := by omega
          refine wpAnyG_take (i := 10) (oi := { dst := some 42, op := Go.Op.slice 22 (Go.Operand.tmp 38) none (some (Go.Operand.tmp 41)) none, type := 22, pos := "law.go:77", after := #[{ on := 6, ground := Go.Ground.data }, { on := 9, ground := Go.Ground.data }], guard := none }) (v := ?vb10) rfl (by kernel_rfl) (fun _ _ _ h => h) (Or.inl ⟨by rfl, ?hyb10⟩) ((S5.out.kp K2.out (fun h => h)).cell 2) ?restb10
          case hyb10 => (intro w hSw; (try dsimp only at hSw); go_simp; try with_reducible rfl)
          try simp only [Act.put, List.setIfInBounds_toArray, List.set_cons_zero, List.set_cons_succ]
          refine wpAnyG_take (i := 11) (oi := { dst := some 7, op := Go.Op.assign (Go.Operand.tmp 42), type := 22, pos := "law.go:77", after := #[{ on := 10, ground := Go.Ground.data }, { on := 6, ground := Go.Ground.chain }, { on := 0, ground := Go.Ground.phase }, { on := 1, ground := Go.Ground.phase }, { on := 2, ground := Go.Ground.phase }, { on := 3, ground := Go.Ground.phase }, { on := 4, ground := Go.Ground.phase }, { on := 5, ground := Go.Ground.phase }, { on := 6, ground := Go.Ground.phase }, { on := 7, ground := Go.Ground.phase }, { on := 8, ground := Go.Ground.phase }, { on := 9, ground := Go.Ground.phase }, { on := 10, ground := Go.Ground.phase }], guard := none }) (v := ?vb11) rfl (by kernel_rfl) (fun _ _ _ h => h) (Or.inl ⟨by rfl, ?hyb11⟩) ((S5.out.kp K2.out (fun h => h)).cell 2) ?restb11
          case hyb11 => (intro w hSw; (try dsimp only at hSw); go_simp; try with_reducible rfl)
          try simp only [Act.put, List.setIfInBounds_toArray, List.set_cons_zero, List.set_cons_succ]
          refine wpAnyG_done (by kernel_rfl) ?_ _
          go_wp2_with fail
          go_meet
          case rel => exact ⟨G, c, rfl, O2.out, hG, K2.out⟩
      · go_simp
        refine hK.out _ _ (fun _ _ => ((S5.out.kp HKd.out (fun h => h)).cell 2)) ?_
        clear hK K
        try simp only [Act.put, List.setIfInBounds_toArray, List.set_cons_zero, List.set_cons_succ]
        refine wpAnyG_one (i := 0) (o := { dst := some 32, op := Go.Op.buildSlice 22 0 #[], type := 22, pos := "law.go:77", after := #[], guard := none }) (by kernel_rfl) rfl (fun K hK => ?_)
        go_simp
        refine hK.out _ _ (fun _ _ => ((S5.out.kp HKc.out (fun h => h)).cell 2)) ?_
        clear hK K
        try simp only [Act.put, List.setIfInBounds_toArray, List.set_cons_zero, List.set_cons_succ]
        refine wpAnyG_one (i := 3) (o := { dst := some 35, op := Go.Op.call { callee := Go.Callee.builtin Go.Builtin.append, args := #[Go.Operand.tmp 32, Go.Operand.tmp 34], argTypes := #[22, 22] }, type := 22, pos := "law.go:77", after := #[{ on := 0, ground := Go.Ground.data }, { on := 2, ground := Go.Ground.data }], guard := none }) (by kernel_rfl) rfl (fun K hK => ?_)
        obtain ⟨v1, w1, rr, o1, k1⟩ := own_appr2 (ty := 22) HOc.out rfl HZ.out (HS.out.kp HKc.out (fun _ _ _ _ h => h)) (by have := HMN.out; simp; omega) HKc.out.size
        rw [HMN.out] at rr
        refine ite_pos2 (by rfl) ?_
        refine Lib.wp_append_run _ _ _ _ _ rfl _ _ rfl rfl _ _ rr ?_
        have K1 : Hid (Kp (fun _ => False) X w1) := HKc.out.trans k1 (fun i hi e => by have := (ownr_blk HOc.out e).1; omega)
        have O1 : Hid (Ownr w1 X.heap.size v1 M) := by rw [List.nil_append] at o1; exact o1
        have S7 : Hid (St 38 w1 X.heap.size #[.int .i64 77, .int .i64 0]) := HSc.out.kp k1 (fun e => by simp [Value.ownBlock] at e)
        refine hK.out _ _ (fun _ _ => ((S5.out.kp K1.out (fun h => h)).cell 2)) ?_
        clear hK K
        try simp only [Act.put, List.setIfInBounds_toArray, List.set_cons_zero, List.set_cons_succ]
        clear rr o1 k1
        refine wpAnyG_one (i := 6) (o := { dst := some 38, op := Go.Op.call { callee := Go.Callee.builtin Go.Builtin.append, args := #[Go.Operand.tmp 35, Go.Operand.tmp 37], argTypes := #[22, 22] }, type := 22, pos := "law.go:77", after := #[{ on := 3, ground := Go.Ground.data }, { on := 5, ground := Go.Ground.data }, { on := 3, ground := Go.Ground.chain }], guard := none }) (by kernel_rfl) rfl (fun K hK => ?_)
        obtain ⟨v2, w2, rr, o2, k2⟩ := own_app12 (ty := 22) (x := ⟨77, 0⟩) O1.out S7.out (by have := HMN.out; omega) K1.out.size
        try simp only [Rn.cs] at rr
        refine ite_pos2 (by rfl) ?_
        refine Lib.wp_append_run _ _ _ _ _ rfl _ _ rfl rfl _ _ rr ?_
        have K2 : Hid (Kp (fun _ => False) X w2) := K1.out.trans k2 (fun i hi e => by have := (ownr_blk O1.out e).1; omega)
        have O2 := hid o2
        refine hK.out _ _ (fun _ _ => ((S5.out.kp K2.out (fun h => h)).cell 2)) ?_
        clear hK K
        try simp only [Act.put, List.setIfInBounds_toArray, List.set_cons_zero, List.set_cons_succ]
        clear rr o2 k2
        obtain ⟨G, c, cur, e2, hG, hg, hc1, hc2, hc3, hc4⟩ := own_form O2.out
        subst e2
        have hc5 : (n : Int) ≤ (c : Int) := by have := HMN.out; omega
        have hc6 : (0 : Int) ≤ (n : Int) := by omega
        refine wpAnyG_take (i := 10) (oi := { dst := some 42, op := Go.Op.slice 22 (Go.Operand.tmp 38) none (some (Go.Operand.tmp 41)) none, type := 22, pos := "law.go:77", after := #[{ on := 6, ground := Go.Ground.data }, { on := 9, ground := Go.Ground.data }], guard := none }) (v := ?vc10) rfl (by kernel_rfl) (fun _ _ _ h => h) (Or.inl ⟨by rfl, ?hyc10⟩) ((S5.out.kp K2.out (fun h => h)).cell 2) ?restc10
        case hyc10 => (intro w hSw; (try dsimp only at hSw); go_simp; try with_reducible rfl)
        try simp only [Act.put, List.setIfInBounds_toArray, List.set_cons_zero, List.set_cons_succ]
        refine wpAnyG_take (i := 11) (oi := { dst := some 7, op := Go.Op.assign (Go.Operand.tmp 42), type := 22, pos := "law.go:77", after := #[{ on := 10, ground := Go.Ground.data }, { on := 6, ground := Go.Ground.chain }, { on := 0, ground := Go.Ground.phase }, { on := 1, ground := Go.Ground.phase }, { on := 2, ground := Go.Ground.phase }, { on := 3, ground := Go.Ground.phase }, { on := 4, ground := Go.Ground.phase }, { on := 5, ground := Go.Ground.phase }, { on := 6, ground := Go.Ground.phase }, { on := 7, ground := Go.Ground.phase }, { on := 8, ground := Go.Ground.phase }, { on := 9, ground := Go.Ground.phase }, { on := 10, ground := Go.Ground.phase }], guard := none }) (v := ?vc11) rfl (by kernel_rfl) (fun _ _ _ h => h) (Or.inl ⟨by rfl, ?hyc11⟩) ((S5.out.kp K2.out (fun h => h)).cell 2) ?restc11
        case hyc11 => (intro w hSw; (try dsimp only at hSw); go_simp; try with_reducible rfl)
        try simp only [Act.put, List.setIfInBounds_toArray, List.set_cons_zero, List.set_cons_succ]
        refine wpAnyG_done (by kernel_rfl) ?_ _
        go_wp2_with fail
        go_meet
        case rel => exact ⟨G, c, rfl, O2.out, hG, K2.out⟩
    case rest =>
      obtain ⟨G, c, rfl, oG, hG, kG⟩ := hcut
      clear HKa HKb HKc HKd HOa HOb HOc HSb HSc
      have S5c := hid (S5.out.kp kG (fun h => h))
      have LX := hid (HLX.out.kp0 kG)
      have RX := hid (HRX.out.kp kG (fun _ h => h))
      have HRW : Hid (∃ cur, St 38 wc G cur) := by
        obtain ⟨_, _, cur, h9⟩ := oG.blk (g := G) rfl
        exact ⟨cur, h9⟩
      have SG : Hid (Srcr wc (some ⟨G, 0, none⟩) (M ++ [⟨77, 0⟩])) := by
        obtain ⟨a1, c1, e1, s1, _⟩ := oG.src
        simp only [Value.slice.injEq] at e1
        rw [← e1.1] at s1
        exact s1
      have hcl : M.length + 1 ≤ c := by
        rcases oG.2 with ⟨e0, _⟩ | ⟨g, cp, cur, e0, _, _, h3, _⟩
        · cases e0
        · simp only [Value.slice.injEq] at e0
          rw [← e0.2.2] at h3
          simpa using h3
      have SM : Hid (Srcr wc (some ⟨G, 0, none⟩) M) := srcr_pre SG.out
      have KW := hid (KA.out.trans kG (fun _ _ h => h))
      have SA := hid (HS.out.kp kG (fun _ _ _ _ h => h))
      have HPT := hid (put_two LX.out RX.out (some ⟨G, 0, none⟩) n c M HMN.out (by omega) H6.out (fun e => by cases e) SM.out)
      have HNG : Hid (¬ F G) := by
        obtain ⟨cur, h9⟩ := HRW.out
        exact LX.out.no38 G cur h9
      have HGQ : Hid (G ≠ rq) := fun e => by have h1 : rq < T := HRQ.out; have h2 : X.heap.size = T + 1 := HXS.out; omega
      clear oG kG SM HRW hG
      go_wp2_with fail
      refine HPT.out.mono ?_
      rintro e w1 ⟨pm, er, rfl, k1, h2⟩
      have S51 := hid (S5c.out.kp k1 HNB.out)
      have z2 : w1.cell? ⟨T, 2, none⟩ = some (.slice ao n cap) := S51.out.cell 2
      have SA1 : Hid (Srcr w1 ao M) := srcr_kp2 SA.out k1 (fun b off e hp => (HLO.out b off e hp).1)
      have SG1 : Hid (Srcr w1 (some ⟨G, 0, none⟩) (M ++ [⟨77, 0⟩])) := SG.out.kp k1 (fun b off e _ => by cases e; exact HNG.out)
      have H2 := hid (h2 w1 ao cap (Kp.refl _ _) SA1.out)
      clear h2 k1 HPT S5c SA SG
      go_wp2_with fail
      refine H2.out.mono ?_
      rintro e w2 ⟨rfl, k2, l', c2⟩
      have C2 := hid (c2.pre KW.out)
      have S52 := hid (S51.out.kp k2 (by have h1 : rq < T := HRQ.out; omega))
      have SA2 : Hid (Srcr w2 ao M) := srcr_kp2 SA1.out k2 (fun b off e hp => (HLO.out b off e hp).2)
      have SG2 : Hid (Srcr w2 (some ⟨G, 0, none⟩) (M ++ [⟨77, 0⟩])) := SG1.out.kp k2 (fun b off e _ => by cases e; exact HGQ.out)
      clear c2 k2 H2 z2 S51 SA1 SG1
      have KD : Hid (Kp (fun _ => False) w2 w2.drew) := (Kp.refl (fun _ => False) w2).drew
      have HPR : Hid (∀ U, Kp (fun _ => False) w2 U → U.cell? ⟨T, 2, none⟩ = some (.slice ao n cap) ∧ U.cell? ⟨G, n * 2, none⟩ = some (.int .i64 77)) := fun U k => by
        refine ⟨(S52.out.kp k (fun h => h)).cell 2, ?_⟩
        obtain ⟨b, off, e, _, y0, _⟩ := (SG2.out.kp k (fun _ _ _ _ h => h)).at (i := n) (by have := HMN.out; simp; omega)
        cases e
        rw [Nat.zero_add] at y0
        rw [y0]
        have : (M ++ [(⟨77, 0⟩ : Rn)]).getD n zRn = ⟨77, 0⟩ := by rw [← HMN.out]; simp [List.getD]
        rw [this]
      have HSM := hid (HRS.out w2.drew (some ⟨G, 0, none⟩) ao n n c cap M M HMN.out HMN.out (by omega) (by omega) (srcr_pre (SG2.out.kp KD.out (fun _ _ _ _ h => h))) (SA2.out.kp KD.out (fun _ _ _ _ h => h)))
      have cc0 := HPR.out w2 (Kp.refl _ _)
      have cd0 := HPR.out w2.drew KD.out
      have hc5 : (n : Int) + 1 ≤ (c : Int) := by have := HMN.out; omega
      have hc6 : (0 : Int) ≤ (n : Int) + 1 := by omega
      have hc7 : (n : Int) < (n : Int) + 1 := by omega
      have hc8 : (0 : Int) ≤ (n : Int) := by omega
      have hw1 : IntKind.i64.wrap ((n : Int) + 1) = (n : Int) + 1 := by rw [IntKind.wrap_i64]; omega
      clear SG2 SA2 S52 HRS
      go_wp2_with fail
      go_region_held3 (fun U : World => U.cell? ⟨T, 2, none⟩ = some (.slice ao n cap) ∧ U.cell? ⟨G, n * 2, none⟩ = some (.int .i64 77)) (first | exact cc0 | exact cd0 | exact cc3) (first | (go_at_call 11; refine (HNU.out _ _).mono ?_; rintro e1 w9 ⟨rfl, rfl⟩) | (go_at_call 19; refine HSM.out.mono ?_; rintro e w3 ⟨r, rfl, hr, k3⟩; obtain rfl : r = true := (by first | exact hr.2 rfl | exact hr.2 trivial); have K3 := hid (KD.out.trans k3 (fun _ _ h => h)); have cc3 := HPR.out w3 K3.out; clear k3 hr))
      all_goals
        go_wp2_with fail
        go_ret
        exact ⟨by simp, l', C2.out.post K3.out⟩
set_option maxRecDepth 100000 in
set_option maxHeartbeats 16000000 in
theorem step_put2 (W : World) (Q rq : Nat) (l M : List Rn) (F : Nat → Prop) (lv : Int) (ao : Option Addr) (n cap : Nat) (x : Rn) (m : Int) (hM : M.length = n) (hn : n ≤ 40) (h6 : ∀ y ∈ M, y.i6) (hz : ao = none → cap = 0) (hs : Srcr W ao M) (hlow : ∀ b off, ao = some ⟨b, off, none⟩ → 0 < M.length → ¬ F b ∧ b ≠ rq) (hL : Lw Q l F W) (hR : RL rq W l) :
    Calls Try.prog 14 #[.pointer (some ⟨Q, 0, none⟩), .pointer (some ⟨rq, 0, none⟩), .agg #[.int .i64 2, .int .i64 lv, .slice ao n cap, .int .i64 x.a, .int .i64 x.n, .int .i64 m]] W fun e w' => e = .returned (.bool true) ∧ ∃ l', Ch F Q rq W l' w' := by
  have hmix : Try.prog.follows .mixedOrders = true := by kernel_rfl
  have ka : Kp (fun _ => False) W (W.alloc (.cells #[.int .i64 2, .int .i64 lv, .slice ao n cap, .int .i64 x.a, .int .i64 x.n, .int .i64 m] 40)) := (Kp.refl _ _).alloc _
  have s5 := St.new 40 W #[.int .i64 2, .int .i64 lv, .slice ao n cap, .int .i64 x.a, .int .i64 x.n, .int .i64 m]
  have HXS : Hid ((W.alloc (.cells #[.int .i64 2, .int .i64 lv, .slice ao n cap, .int .i64 x.a, .int .i64 x.n, .int .i64 m] 40)).heap.size = W.heap.size + 1) := World.size_alloc _ _
  have HLX := hid (hL.kp0 ka)
  have HRX := hid (hR.kp ka (fun _ x => x))
  have HNB : Hid (¬ F W.heap.size) := fun hf => by have := hL.lt hf; omega
  have HRQ : Hid (rq < W.heap.size) := hR.lt
  have HS := hid (hs.kp ka (fun _ _ _ _ h => h))
  have HNU := hid num_any
  have HRS := hid rsame_any
  have S5 := hid s5
  have KA := hid ka
  have HMN := hid hM
  have H6 := hid h6
  have HZ := hid hz
  have HLO := hid hlow
  clear hL hR ka s5 hM h6 hz hs hlow
  obtain ⟨xa, xn⟩ := x
  dsimp only at *
  · go_enter Try.func14, Try.ntmps14
    go_wp2_with fail
    generalize hX : W.alloc (.cells #[.int .i64 2, .int .i64 lv, .slice ao n cap, .int .i64 xa, .int .i64 xn, .int .i64 m] 40) = X at *
    clear hX
    obtain ⟨T, hT⟩ : ∃ T, T = W.heap.size := ⟨_, rfl⟩
    rw [← hT] at S5 HXS HNB HRQ ⊢
    have HT := hid hT
    clear hT
    have HKa : Hid (Kp (fun _ => False) X (X.alloc (.cells #[] 38)).drew) := ((Kp.refl _ _).alloc _).drew
    have HKb : Hid (Kp (fun _ => False) X ((X.alloc (.cells #[] 38)).alloc (.cells #[.int .i64 77, .int .i64 0] 38)).drew) := (((Kp.refl _ _).alloc _).alloc _).drew
    have HKc : Hid (Kp (fun _ => False) X ((X.alloc (.cells #[.int .i64 77, .int .i64 0] 38)).alloc (.cells #[] 38)).drew) := (((Kp.refl _ _).alloc _).alloc _).drew
    have HKd : Hid (Kp (fun _ => False) X (X.alloc (.cells #[.int .i64 77, .int .i64 0] 38)).drew) := ((Kp.refl _ _).alloc _).drew
    have HOa : Hid (Ownr (X.alloc (.cells #[] 38)).drew X.heap.size (.slice (some ⟨X.heap.size, 0, none⟩) 0 0) []) := own_lit0 X X.heap.size (Nat.le_refl _)
    have HOb : Hid (Ownr ((X.alloc (.cells #[] 38)).alloc (.cells #[.int .i64 77, .int .i64 0] 38)).drew X.heap.size (.slice (some ⟨X.heap.size, 0, none⟩) 0 0) []) := (own_lit0 X X.heap.size (Nat.le_refl _)).kp ((Kp.refl (fun _ => False) _).alloc _).drew (fun _ _ h => h)
    have HOc : Hid (Ownr ((X.alloc (.cells #[.int .i64 77, .int .i64 0] 38)).alloc (.cells #[] 38)).drew X.heap.size (.slice (some ⟨X.heap.size + 1, 0, none⟩) 0 0) []) := by
      have := own_lit0 (X.alloc (.cells #[.int .i64 77, .int .i64 0] 38)) X.heap.size (by rw [World.size_alloc]; omega)
      rw [World.size_alloc] at this
      exact this
    have HSb : Hid (St 38 ((X.alloc (.cells #[] 38)).alloc (.cells #[.int .i64 77, .int .i64 0] 38)).drew (X.heap.size + 1) #[.int .i64 77, .int .i64 0]) := by
      have := St.new 38 (X.alloc (.cells #[] 38)) #[.int .i64 77, .int .i64 0]
      rw [World.size_alloc] at this
      exact this
    have HSc : Hid (St 38 ((X.alloc (.cells #[.int .i64 77, .int .i64 0] 38)).alloc (.cells #[] 38)).drew X.heap.size #[.int .i64 77, .int .i64 0]) := (St.new 38 X #[.int .i64 77, .int .i64 0]).kp ((Kp.refl (fun _ => False) _).alloc _).drew (fun h => h)
    go_cut [7] from 32 to 42 (fun v7 wx => ∃ G c, v7 = .slice (some ⟨G, 0, none⟩) n c ∧ Ownr wx X.heap.size (.slice (some ⟨G, 0, none⟩) (M.length + 1) c) (M ++ [⟨77, 0⟩]) ∧ X.heap.size ≤ G ∧ Kp (fun _ => False) X wx)
    case first =>
      refine wp_region_G (fun U => U.cell? ⟨T, 2, none⟩ = some (.slice ao n cap)) [] hmix ((S5.out.kp (Kp.refl (fun _ => False) X).drew (fun h => h)).cell 2) (fun h0 => ?_)
      refine wpAnyG_take (i := 1) (oi := { dst := some 33, op := Go.Op.fieldAddr 40 (Go.Operand.tmp 5) 2, type := 0, pos := "law.go:77", after := #[], guard := none }) (v := ?vs1) rfl (by kernel_rfl) (fun _ _ _ h => h) (Or.inl ⟨by rfl, ?hys1⟩) h0 ?rests1
      case hys1 => (intro w hSw; (try dsimp only at hSw); go_simp; try with_reducible rfl)
      try simp only [Act.put, List.setIfInBounds_toArray, List.set_cons_zero, List.set_cons_succ]
      refine wpAnyG_take (i := 2) (oi := { dst := some 34, op := Go.Op.load 22 (Go.Operand.tmp 33), type := 22, pos := "law.go:77", after := #[{ on := 1, ground := Go.Ground.data }], guard := none }) (v := ?vs2) rfl (by kernel_rfl) (fun _ _ _ h => h) (Or.inl ⟨by rfl, ?hys2⟩) h0 ?rests2
      case hys2 => (intro w hSw; (try dsimp only at hSw); go_simp; try with_reducible rfl)
      try simp only [Act.put, List.setIfInBounds_toArray, List.set_cons_zero, List.set_cons_succ]
      refine wpAnyG_take (i := 4) (oi := { dst := some 36, op := Go.Op.build 38 #[(0, Go.Operand.const (Go.Value.int Go.IntKind.i64 77))], type := 38, pos := "law.go:77", after := #[], guard := none }) (v := ?vs4) rfl (by kernel_rfl) (fun _ _ _ h => h) (Or.inl ⟨by rfl, ?hys4⟩) h0 ?rests4
      case hys4 => (intro w hSw; (try dsimp only at hSw); go_simp; try with_reducible rfl)
      try simp only [Act.put, List.setIfInBounds_toArray, List.set_cons_zero, List.set_cons_succ]
      refine wpAnyG_take (i := 7) (oi := { dst := some 39, op := Go.Op.fieldAddr 40 (Go.Operand.tmp 5) 2, type := 0, pos := "law.go:77", after := #[], guard := none }) (v := ?vs7) rfl (by kernel_rfl) (fun _ _ _ h => h) (Or.inl ⟨by rfl, ?hys7⟩) h0 ?rests7
      case hys7 => (intro w hSw; (try dsimp only at hSw); go_simp; try with_reducible rfl)
      try simp only [Act.put, List.setIfInBounds_toArray, List.set_cons_zero, List.set_cons_succ]
      refine wpAnyG_take (i := 8) (oi := { dst := some 40, op := Go.Op.load 22 (Go.Operand.tmp 39), type := 22, pos := "law.go:77", after := #[{ on := 7, ground := Go.Ground.data }], guard := none }) (v := ?vs8) rfl (by kernel_rfl) (fun _ _ _ h => h) (Or.inl ⟨by rfl, ?hys8⟩) h0 ?rests8
      case hys8 => (intro w hSw; (try dsimp only at hSw); go_simp; try with_reducible rfl)
      try simp only [Act.put, List.setIfInBounds_toArray, List.set_cons_zero, List.set_cons_succ]
      refine wpAnyG_take (i := 9) (oi := { dst := some 41, op := Go.Op.call { callee := Go.Callee.builtin Go.Builtin.len, args := #[Go.Operand.tmp 40], argTypes := #[22] }, type := 3, pos := "law.go:77", after := #[{ on := 8, ground := Go.Ground.data }], guard := none }) (v := ?vs9) rfl (by kernel_rfl) (fun _ _ _ h => h) (Or.inl ⟨by rfl, ?hys9⟩) h0 ?rests9
      case hys9 => (intro w hSw; (try dsimp only at hSw); go_simp; try with_reducible rfl)
      try simp only [Act.put, List.setIfInBounds_toArray, List.set_cons_zero, List.set_cons_succ]
      refine wpAnyG_two (i := 0) (j := 5) (o := { dst := some 32, op := Go.Op.buildSlice 22 0 #[], type := 22, pos := "law.go:77", after := #[], guard := none }) (o' := { dst := some 37, op := Go.Op.buildSlice 22 1 #[(0, Go.Operand.tmp 36)], type := 22, pos := "law.go:77", after := #[{ on := 4, ground := Go.Ground.data }], guard := none }) (by kernel_rfl) rfl rfl (fun K hK => ?_) (fun K hK => ?_)
      · go_simp
        refine hK.out _ _ (fun _ _ => ((S5.out.kp HKa.out (fun h => h)).cell 2)) ?_
        clear hK K
        try simp only [Act.put, List.setIfInBounds_toArray, List.set_cons_zero, List.set_cons_succ]
        refine wpAnyG_two (i := 3) (j := 5) (o := { dst := some 35, op := Go.Op.call { callee := Go.Callee.builtin Go.Builtin.append, args := #[Go.Operand.tmp 32, Go.Operand.tmp 34], argTypes := #[22, 22] }, type := 22, pos := "law.go:77", after := #[{ on := 0, ground := Go.Ground.data }, { on := 2, ground := Go.Ground.data }], guard := none }) (o' := { dst := some 37, op := Go.Op.buildSlice 22 1 #[(0, Go.Operand.tmp 36)], type := 22, pos := "law.go:77", after := #[{ on := 4, ground := Go.Ground.data }], guard := none }) (by kernel_rfl) rfl rfl (fun K hK => ?_) (fun K hK => ?_)
        · skip
          obtain ⟨v1, w1, rr, o1, k1⟩ := own_appr2 (ty := 22) HOa.out rfl HZ.out (HS.out.kp HKa.out (fun _ _ _ _ h => h)) (by have := HMN.out; simp; omega) HKa.out.size
          rw [HMN.out] at rr
          refine ite_pos2 (by rfl) ?_
          refine Lib.wp_append_run _ _ _ _ _ rfl _ _ rfl rfl _ _ rr ?_
          have K1 : Hid (Kp (fun _ => False) X w1) := HKa.out.trans k1 (fun i hi e => by have := (ownr_blk HOa.out e).1; omega)
          have O1 : Hid (Ownr w1 X.heap.size v1 M) := by rw [List.nil_append] at o1; exact o1
          refine hK.out _ _ (fun _ _ => ((S5.out.kp K1.out (fun h => h)).cell 2)) ?_
          clear hK K
          try simp only [Act.put, List.setIfInBounds_toArray, List.set_cons_zero, List.set_cons_succ]
          clear rr o1 k1
          refine wpAnyG_one (i := 5) (o := { dst := some 37, op := Go.Op.buildSlice 22 1 #[(0, Go.Operand.tmp 36)], type := 22, pos := "law.go:77", after := #[{ on := 4, ground := Go.Ground.data }], guard := none }) (by kernel_rfl) rfl (fun K hK => ?_)
          go_simp
          have K1b : Hid (Kp (fun _ => False) X (w1.alloc (.cells #[.int .i64 77, .int .i64 0] 38))) := K1.out.alloc _
          have O1b := hid (O1.out.kp ((Kp.refl (fun _ => False) w1).alloc (.cells #[.int .i64 77, .int .i64 0] 38)) (fun _ _ h => h))
          refine hK.out _ _ (fun _ _ => ((S5.out.kp K1b.out (fun h => h)).cell 2)) ?_
          clear hK K
          try simp only [Act.put, List.setIfInBounds_toArray, List.set_cons_zero, List.set_cons_succ]
          refine wpAnyG_one (i := 6) (o := { dst := some 38, op := Go.Op.call { callee := Go.Callee.builtin Go.Builtin.append, args := #[Go.Operand.tmp 35, Go.Operand.tmp 37], argTypes := #[22, 22] }, type := 22, pos := "law.go:77", after := #[{ on := 3, ground := Go.Ground.data }, { on := 5, ground := Go.Ground.data }, { on := 3, ground := Go.Ground.chain }], guard := none }) (by kernel_rfl) rfl (fun K hK => ?_)
          obtain ⟨v2, w2, rr, o2, k2⟩ := own_app12 (ty := 22) (x := ⟨77, 0⟩) O1b.out (St.new 38 w1 #[.int .i64 77, .int .i64 0]) (by have := HMN.out; omega) K1b.out.size
          try simp only [Rn.cs] at rr
          refine ite_pos2 (by rfl) ?_
          refine Lib.wp_append_run _ _ _ _ _ rfl _ _ rfl rfl _ _ rr ?_
          have K2 : Hid (Kp (fun _ => False) X w2) := K1b.out.trans k2 (fun i hi e => by have := (ownr_blk O1b.out e).1; omega)
          have O2 := hid o2
          refine hK.out _ _ (fun _ _ => ((S5.out.kp K2.out (fun h => h)).cell 2)) ?_
          clear hK K
          try simp only [Act.put, List.setIfInBounds_toArray, List.set_cons_zero, List.set_cons_succ]
          clear rr o2 k2
          obtain ⟨G, c, cur, e2, hG, hg, hc1, hc2, hc3, hc4⟩ := own_form O2.out
          subst e2
          have hc5 : (n : Int) ≤ (c : Int) := by have := HMN.out; omega
          have hc6 : (0 : Int) ≤ (n : Int) := by omega
          refine wpAnyG_take (i := 10) (oi := { dst := some 42, op := Go.Op.slice 22 (Go.Operand.tmp 38) none (some (Go.Operand.tmp 41)) none, type := 22, pos := "law.go:77", after := #[{ on := 6, ground := Go.Ground.data }, { on := 9, ground := Go.Ground.data }], guard := none }) (v := ?va10) rfl (by kernel_rfl) (fun _ _ _ h => h) (Or.inl ⟨by rfl, ?hya10⟩) ((S5.out.kp K2.out (fun h => h)).cell 2) ?resta10
          case hya10 => (intro w hSw; (try dsimp only at hSw); go_simp; try with_reducible rfl)
          try simp only [Act.put, List.setIfInBounds_toArray, List.set_cons_zero, List.set_cons_succ]
          refine wpAnyG_take (i := 11) (oi := { dst := some 7, op := Go.Op.assign (Go.Operand.tmp 42), type := 22, pos := "law.go:77", after := #[{ on := 10, ground := Go.Ground.data }, { on := 6, ground := Go.Ground.chain }, { on := 0, ground := Go.Ground.phase }, { on := 1, ground := Go.Ground.phase }, { on := 2, ground := Go.Ground.phase }, { on := 3, ground := Go.Ground.phase }, { on := 4, ground := Go.Ground.phase }, { on := 5, ground := Go.Ground.phase }, { on := 6, ground := Go.Ground.phase }, { on := 7, ground := Go.Ground.phase }, { on := 8, ground := Go.Ground.phase }, { on := 9, ground := Go.Ground.phase }, { on := 10, ground := Go.Ground.phase }], guard := none }) (v := ?va11) rfl (by kernel_rfl) (fun _ _ _ h => h) (Or.inl ⟨by rfl, ?hya11⟩) ((S5.out.kp K2.out (fun h => h)).cell 2) ?resta11
          case hya11 => (intro w hSw; (try dsimp only at hSw); go_simp; try with_reducible rfl)
          try simp only [Act.put, List.setIfInBounds_toArray, List.set_cons_zero, List.set_cons_succ]
          refine wpAnyG_done (by kernel_rfl) ?_ _
          go_wp2_with fail
          go_meet
          case rel => exact ⟨G, c, rfl, O2.out, hG, K2.out⟩
        · go_simp
          refine hK.out _ _ (fun _ _ => ((S5.out.kp HKb.out (fun h => h)).cell 2)) ?_
          clear hK K
          try simp only [Act.put, List.setIfInBounds_toArray, List.set_cons_zero, List.set_cons_succ]
          refine wpAnyG_one (i := 3) (o := { dst := some 35, op := Go.Op.call { callee := Go.Callee.builtin Go.Builtin.append, args := #[Go.Operand.tmp 32, Go.Operand.tmp 34], argTypes := #[22, 22] }, type := 22, pos := "law.go:77", after := #[{ on := 0, ground := Go.Ground.data }, { on := 2, ground := Go.Ground.data }], guard := none }) (by kernel_rfl) rfl (fun K hK => ?_)
          obtain ⟨v1, w1, rr, o1, k1⟩ := own_appr2 (ty := 22) HOb.out rfl HZ.out (HS.out.kp HKb.out (fun _ _ _ _ h => h)) (by have := HMN.out; simp; omega) HKb.out.size
          rw [HMN.out] at rr
          refine ite_pos2 (by rfl) ?_
          refine Lib.wp_append_run _ _ _ _ _ rfl _ _ rfl rfl _ _ rr ?_
          have K1 : Hid (Kp (fun _ => False) X w1) := HKb.out.trans k1 (fun i hi e => by have := (ownr_blk HOb.out e).1; omega)
          have O1 : Hid (Ownr w1 X.heap.size v1 M) := by rw [List.nil_append] at o1; exact o1
          have S7 : Hid (St 38 w1 (X.heap.size + 1) #[.int .i64 77, .int .i64 0]) := HSb.out.kp k1 (fun e => by simp [Value.ownBlock] at e)
          refine hK.out _ _ (fun _ _ => ((S5.out.kp K1.out (fun h => h)).cell 2)) ?_
          clear hK K
          try simp only [Act.put, List.setIfInBounds_toArray, List.set_cons_zero, List.set_cons_succ]
          clear rr o1 k1
          refine wpAnyG_one (i := 6) (o := { dst := some 38, op := Go.Op.call { callee := Go.Callee.builtin Go.Builtin.append, args := #[Go.Operand.tmp 35, Go.Operand.tmp 37], argTypes := #[22, 22] }, type := 22, pos := "law.go:77", after := #[{ on := 3, ground := Go.Ground.data }, { on := 5, ground := Go.Ground.data }, { on := 3, ground := Go.Ground.chain }], guard := none }) (by kernel_rfl) rfl (fun K hK => ?_)
          obtain ⟨v2, w2, rr, o2, k2⟩ := own_app12 (ty := 22) (x := ⟨77, 0⟩) O1.out S7.out (by have := HMN.out; omega) K1.out.size
          try simp only [Rn.cs] at rr
          refine ite_pos2 (by rfl) ?_
          refine Lib.wp_append_run _ _ _ _ _ rfl _ _ rfl rfl _ _ rr ?_
          have K2 : Hid (Kp (fun _ => False) X w2) := K1.out.trans k2 (fun i hi e => by have := (ownr_blk O1.out e).1; omega)
          have O2 := hid o2
          refine hK.out _ _ (fun _ _ => ((S5.out.kp K2.out (fun h => h)).cell 2)) ?_
          clear hK K
          try simp only [Act.put, List.setIfInBounds_toArray, List.set_cons_zero, List.set_cons_succ]
          clear rr o2 k2
          obtain ⟨G, c, cur, e2, hG, hg, hc1, hc2, hc3, hc4⟩ := own_form O2.out
          subst e2
          have hc5 : (n : Int) ≤ (c : Int) := by have := HMN.out; omega
          have hc6 : (0 : Int) ≤ (n : Int) := by omega
          refine wpAnyG_take (i := 10) (oi := { dst := some 42, op := Go.Op.slice 22 (Go.Operand.tmp 38) none (some (Go.Operand.tmp 41)) none, type := 22, pos := "law.go:77", after := #[{ on := 6, ground := Go.Ground.data }, { on := 9, ground := Go.Ground.data }], guard := none }) (v := ?vb10) rfl (by kernel_rfl) (fun _ _ _ h => h) (Or.inl ⟨by rfl, ?hyb10⟩) ((S5.out.kp K2.out (fun h => h)).cell 2) ?restb10
          case hyb10 => (intro w hSw; (try dsimp only at hSw); go_simp; try with_reducible rfl)
          try simp only [Act.put, List.setIfInBounds_toArray, List.set_cons_zero, List.set_cons_succ]
          refine wpAnyG_take (i := 11) (oi := { dst := some 7, op := Go.Op.assign (Go.Operand.tmp 42), type := 22, pos := "law.go:77", after := #[{ on := 10, ground := Go.Ground.data }, { on := 6, ground := Go.Ground.chain }, { on := 0, ground := Go.Ground.phase }, { on := 1, ground := Go.Ground.phase }, { on := 2, ground := Go.Ground.phase }, { on := 3, ground := Go.Ground.phase }, { on := 4, ground := Go.Ground.phase }, { on := 5, ground := Go.Ground.phase }, { on := 6, ground := Go.Ground.phase }, { on := 7, ground := Go.Ground.phase }, { on := 8, ground := Go.Ground.phase }, { on := 9, ground := Go.Ground.phase }, { on := 10, ground := Go.Ground.phase }], guard := none }) (v := ?vb11) rfl (by kernel_rfl) (fun _ _ _ h => h) (Or.inl ⟨by rfl, ?hyb11⟩) ((S5.out.kp K2.out (fun h => h)).cell 2) ?restb11
          case hyb11 => (intro w hSw; (try dsimp only at hSw); go_simp; try with_reducible rfl)
          try simp only [Act.put, List.setIfInBounds_toArray, List.set_cons_zero, List.set_cons_succ]
          refine wpAnyG_done (by kernel_rfl) ?_ _
          go_wp2_with fail
          go_meet
          case rel => exact ⟨G, c, rfl, O2.out, hG, K2.out⟩
      · go_simp
        refine hK.out _ _ (fun _ _ => ((S5.out.kp HKd.out (fun h => h)).cell 2)) ?_
        clear hK K
        try simp only [Act.put, List.setIfInBounds_toArray, List.set_cons_zero, List.set_cons_succ]
        refine wpAnyG_one (i := 0) (o := { dst := some 32, op := Go.Op.buildSlice 22 0 #[], type := 22, pos := "law.go:77", after := #[], guard := none }) (by kernel_rfl) rfl (fun K hK => ?_)
        go_simp
        refine hK.out _ _ (fun _ _ => ((S5.out.kp HKc.out (fun h => h)).cell 2)) ?_
        clear hK K
        try simp only [Act.put, List.setIfInBounds_toArray, List.set_cons_zero, List.set_cons_succ]
        refine wpAnyG_one (i := 3) (o := { dst := some 35, op := Go.Op.call { callee := Go.Callee.builtin Go.Builtin.append, args := #[Go.Operand.tmp 32, Go.Operand.tmp 34], argTypes := #[22, 22] }, type := 22, pos := "law.go:77", after := #[{ on := 0, ground := Go.Ground.data }, { on := 2, ground := Go.Ground.data }], guard := none }) (by kernel_rfl) rfl (fun K hK => ?_)
        obtain ⟨v1, w1, rr, o1, k1⟩ := own_appr2 (ty := 22) HOc.out rfl HZ.out (HS.out.kp HKc.out (fun _ _ _ _ h => h)) (by have := HMN.out; simp; omega) HKc.out.size
        rw [HMN.out] at rr
        refine ite_pos2 (by rfl) ?_
        refine Lib.wp_append_run _ _ _ _ _ rfl _ _ rfl rfl _ _ rr ?_
        have K1 : Hid (Kp (fun _ => False) X w1) := HKc.out.trans k1 (fun i hi e => by have := (ownr_blk HOc.out e).1; omega)
        have O1 : Hid (Ownr w1 X.heap.size v1 M) := by rw [List.nil_append] at o1; exact o1
        have S7 : Hid (St 38 w1 X.heap.size #[.int .i64 77, .int .i64 0]) := HSc.out.kp k1 (fun e => by simp [Value.ownBlock] at e)
        refine hK.out _ _ (fun _ _ => ((S5.out.kp K1.out (fun h => h)).cell 2)) ?_
        clear hK K
        try simp only [Act.put, List.setIfInBounds_toArray, List.set_cons_zero, List.set_cons_succ]
        clear rr o1 k1
        refine wpAnyG_one (i := 6) (o := { dst := some 38, op := Go.Op.call { callee := Go.Callee.builtin Go.Builtin.append, args := #[Go.Operand.tmp 35, Go.Operand.tmp 37], argTypes := #[22, 22] }, type := 22, pos := "law.go:77", after := #[{ on := 3, ground := Go.Ground.data }, { on := 5, ground := Go.Ground.data }, { on := 3, ground := Go.Ground.chain }], guard := none }) (by kernel_rfl) rfl (fun K hK => ?_)
        obtain ⟨v2, w2, rr, o2, k2⟩ := own_app12 (ty := 22) (x := ⟨77, 0⟩) O1.out S7.out (by have := HMN.out; omega) K1.out.size
        try simp only [Rn.cs] at rr
        refine ite_pos2 (by rfl) ?_
        refine Lib.wp_append_run _ _ _ _ _ rfl _ _ rfl rfl _ _ rr ?_
        have K2 : Hid (Kp (fun _ => False) X w2) := K1.out.trans k2 (fun i hi e => by have := (ownr_blk O1.out e).1; omega)
        have O2 := hid o2
        refine hK.out _ _ (fun _ _ => ((S5.out.kp K2.out (fun h => h)).cell 2)) ?_
        clear hK K
        try simp only [Act.put, List.setIfInBounds_toArray, List.set_cons_zero, List.set_cons_succ]
        clear rr o2 k2
        obtain ⟨G, c, cur, e2, hG, hg, hc1, hc2, hc3, hc4⟩ := own_form O2.out
        subst e2
        have hc5 : (n : Int) ≤ (c : Int) := by have := HMN.out; omega
        have hc6 : (0 : Int) ≤ (n : Int) := by omega
        refine wpAnyG_take (i := 10) (oi := { dst := some 42, op := Go.Op.slice 22 (Go.Operand.tmp 38) none (some (Go.Operand.tmp 41)) none, type := 22, pos := "law.go:77", after := #[{ on := 6, ground := Go.Ground.data }, { on := 9, ground := Go.Ground.data }], guard := none }) (v := ?vc10) rfl (by kernel_rfl) (fun _ _ _ h => h) (Or.inl ⟨by rfl, ?hyc10⟩) ((S5.out.kp K2.out (fun h => h)).cell 2) ?restc10
        case hyc10 => (intro w hSw; (try dsimp only at hSw); go_simp; try with_reducible rfl)
        try simp only [Act.put, List.setIfInBounds_toArray, List.set_cons_zero, List.set_cons_succ]
        refine wpAnyG_take (i := 11) (oi := { dst := some 7, op := Go.Op.assign (Go.Operand.tmp 42), type := 22, pos := "law.go:77", after := #[{ on := 10, ground := Go.Ground.data }, { on := 6, ground := Go.Ground.chain }, { on := 0, ground := Go.Ground.phase }, { on := 1, ground := Go.Ground.phase }, { on := 2, ground := Go.Ground.phase }, { on := 3, ground := Go.Ground.phase }, { on := 4, ground := Go.Ground.phase }, { on := 5, ground := Go.Ground.phase }, { on := 6, ground := Go.Ground.phase }, { on := 7, ground := Go.Ground.phase }, { on := 8, ground := Go.Ground.phase }, { on := 9, ground := Go.Ground.phase }, { on := 10, ground := Go.Ground.phase }], guard := none }) (v := ?vc11) rfl (by kernel_rfl) (fun _ _ _ h => h) (Or.inl ⟨by rfl, ?hyc11⟩) ((S5.out.kp K2.out (fun h => h)).cell 2) ?restc11
        case hyc11 => (intro w hSw; (try dsimp only at hSw); go_simp; try with_reducible rfl)
        try simp only [Act.put, List.setIfInBounds_toArray, List.set_cons_zero, List.set_cons_succ]
        refine wpAnyG_done (by kernel_rfl) ?_ _
        go_wp2_with fail
        go_meet
        case rel => exact ⟨G, c, rfl, O2.out, hG, K2.out⟩
    case rest =>
      obtain ⟨G, c, rfl, oG, hG, kG⟩ := hcut
      clear HKa HKb HKc HKd HOa HOb HOc HSb HSc
      have S5c := hid (S5.out.kp kG (fun h => h))
      have LX := hid (HLX.out.kp0 kG)
      have RX := hid (HRX.out.kp kG (fun _ h => h))
      have HRW : Hid (∃ cur, St 38 wc G cur) := by
        obtain ⟨_, _, cur, h9⟩ := oG.blk (g := G) rfl
        exact ⟨cur, h9⟩
      have SG : Hid (Srcr wc (some ⟨G, 0, none⟩) (M ++ [⟨77, 0⟩])) := by
        obtain ⟨a1, c1, e1, s1, _⟩ := oG.src
        simp only [Value.slice.injEq] at e1
        rw [← e1.1] at s1
        exact s1
      have hcl : M.length + 1 ≤ c := by
        rcases oG.2 with ⟨e0, _⟩ | ⟨g, cp, cur, e0, _, _, h3, _⟩
        · cases e0
        · simp only [Value.slice.injEq] at e0
          rw [← e0.2.2] at h3
          simpa using h3
      have SM : Hid (Srcr wc (some ⟨G, 0, none⟩) M) := srcr_pre SG.out
      have KW := hid (KA.out.trans kG (fun _ _ h => h))
      have SA := hid (HS.out.kp kG (fun _ _ _ _ h => h))
      have HPT := hid (put_two LX.out RX.out (some ⟨G, 0, none⟩) n c M HMN.out (by omega) H6.out (fun e => by cases e) SM.out)
      have HNG : Hid (¬ F G) := by
        obtain ⟨cur, h9⟩ := HRW.out
        exact LX.out.no38 G cur h9
      have HGQ : Hid (G ≠ rq) := fun e => by have h1 : rq < T := HRQ.out; have h2 : X.heap.size = T + 1 := HXS.out; omega
      clear oG kG SM HRW hG
      go_wp2_with fail
      refine HPT.out.mono ?_
      rintro e w1 ⟨pm, er, rfl, k1, h2⟩
      have S51 := hid (S5c.out.kp k1 HNB.out)
      have z2 : w1.cell? ⟨T, 2, none⟩ = some (.slice ao n cap) := S51.out.cell 2
      have SA1 : Hid (Srcr w1 ao M) := srcr_kp2 SA.out k1 (fun b off e hp => (HLO.out b off e hp).1)
      have SG1 : Hid (Srcr w1 (some ⟨G, 0, none⟩) (M ++ [⟨77, 0⟩])) := SG.out.kp k1 (fun b off e _ => by cases e; exact HNG.out)
      have H2 := hid (h2 w1 ao cap (Kp.refl _ _) SA1.out)
      clear h2 k1 HPT S5c SA SG
      go_wp2_with fail
      refine H2.out.mono ?_
      rintro e w2 ⟨rfl, k2, l', c2⟩
      have C2 := hid (c2.pre KW.out)
      have S52 := hid (S51.out.kp k2 (by have h1 : rq < T := HRQ.out; omega))
      have SA2 : Hid (Srcr w2 ao M) := srcr_kp2 SA1.out k2 (fun b off e hp => (HLO.out b off e hp).2)
      have SG2 : Hid (Srcr w2 (some ⟨G, 0, none⟩) (M ++ [⟨77, 0⟩])) := SG1.out.kp k2 (fun b off e _ => by cases e; exact HGQ.out)
      clear c2 k2 H2 z2 S51 SA1 SG1
      have KD : Hid (Kp (fun _ => False) w2 w2.drew) := (Kp.refl (fun _ => False) w2).drew
      have HPR : Hid (∀ U, Kp (fun _ => False) w2 U → U.cell? ⟨T, 2, none⟩ = some (.slice ao n cap) ∧ U.cell? ⟨G, n * 2, none⟩ = some (.int .i64 77)) := fun U k => by
        refine ⟨(S52.out.kp k (fun h => h)).cell 2, ?_⟩
        obtain ⟨b, off, e, _, y0, _⟩ := (SG2.out.kp k (fun _ _ _ _ h => h)).at (i := n) (by have := HMN.out; simp; omega)
        cases e
        rw [Nat.zero_add] at y0
        rw [y0]
        have : (M ++ [(⟨77, 0⟩ : Rn)]).getD n zRn = ⟨77, 0⟩ := by rw [← HMN.out]; simp [List.getD]
        rw [this]
      have HSM := hid (HRS.out w2.drew (some ⟨G, 0, none⟩) ao n n c cap M M HMN.out HMN.out (by omega) (by omega) (srcr_pre (SG2.out.kp KD.out (fun _ _ _ _ h => h))) (SA2.out.kp KD.out (fun _ _ _ _ h => h)))
      have cc0 := HPR.out w2 (Kp.refl _ _)
      have cd0 := HPR.out w2.drew KD.out
      have hc5 : (n : Int) + 1 ≤ (c : Int) := by have := HMN.out; omega
      have hc6 : (0 : Int) ≤ (n : Int) + 1 := by omega
      have hc7 : (n : Int) < (n : Int) + 1 := by omega
      have hc8 : (0 : Int) ≤ (n : Int) := by omega
      have hw1 : IntKind.i64.wrap ((n : Int) + 1) = (n : Int) + 1 := by rw [IntKind.wrap_i64]; omega
      clear SG2 SA2 S52 HRS
      go_wp2_with fail
      go_region_held3 (fun U : World => U.cell? ⟨T, 2, none⟩ = some (.slice ao n cap) ∧ U.cell? ⟨G, n * 2, none⟩ = some (.int .i64 77)) (first | exact cc0 | exact cd0 | exact cc3) (first | (go_at_call 11; refine (HNU.out _ _).mono ?_; rintro e1 w9 ⟨rfl, rfl⟩) | (go_at_call 19; refine HSM.out.mono ?_; rintro e w3 ⟨r, rfl, hr, k3⟩; obtain rfl : r = true := (by first | exact hr.2 rfl | exact hr.2 trivial); have K3 := hid (KD.out.trans k3 (fun _ _ h => h)); have cc3 := HPR.out w3 K3.out; clear k3 hr))
      all_goals
        go_wp2_with fail
        go_ret
        exact ⟨by simp, l', C2.out.post K3.out⟩
end Go.Proofs.Ytgfondgejimkkaa
