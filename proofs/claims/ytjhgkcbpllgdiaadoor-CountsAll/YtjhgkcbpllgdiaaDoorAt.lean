/- CountsAll: both turns and the end. -/
import Derived.Test.YtjhgkcbpllgdiaaDoorAu
namespace Go.Proofs.YtjhgkcbpllgdiaaDoor
open Go.RowKit Go.Shelf
attribute [local go_sem] Oper.semAt_some
set_option linter.unusedVariables false
theorem Sqs.same {X Y : World} {gf : Nat} {pb : Array Value} {zs : List Int} {W M : Nat} {R0 : Nat → Prop} (h : Sqs X gf pb zs W M R0) (k : Kp (fun _ => False) X Y) : Sqs Y gf pb zs W M R0 :=
  ⟨fun i hi => Nat.lt_of_lt_of_le (h.lt i hi) k.size, h.eg, fun Z kz => h.sq Z (k.trans kz (fun _ _ x => x))⟩
/-- How many there are, of an order or of none. -/
def Mo (o : Int) (zs : List Int) (W M : Nat) : Prop := (∃ k : Nat, o = (k : Int) ∧ k < 7 ∧ W = 2 ^ k ∧ M = 8 * zs.length / 2 ^ k) ∨ (¬ Ord o ∧ M = 0)
theorem Mo.oo {o : Int} {zs : List Int} {W M : Nat} (h : Mo o zs W M) : Oo o zs W M := fun h0 => by
  rcases h with h | ⟨_, h⟩
  · exact h
  · omega
/-- Ahead of a turn. -/
structure Tn (w X Y : World) (T2 T4 T5 T7 T21 T22 : Nat) (ao : Option Addr) (cap : Nat) (zs : List Int) (o lv : Int) (W M t gf : Nat) (pb : Array Value) (R0 : Nat → Prop) : Prop where
  b : Bs w Y T2 T4 T5 T7 ao cap zs o lv
  m : St 3 Y T21 #[.int .i64 (M : Int)]
  n : St 3 Y T22 #[.int .i64 (t : Int)]
  s : Sqs Y gf pb zs W M R0
set_option maxRecDepth 100000 in
set_option maxHeartbeats 8000000 in
theorem turns_wp (w X : World) (T2 T4 T5 T7 T21 T22 gf : Nat) (pb : Array Value) (R0 : Nat → Prop) (ao : Option Addr) (cap : Nat) (zs : List Int) (o lv : Int) (W M : Nat) (f : Nat → Value)
    (hl : zs.length ≤ 600) (hz : Byt zs) (hM : Mo o zs W M) (hb : Bs w X T2 T4 T5 T7 ao cap zs o lv) (s21 : St 3 X T21 #[.int .i64 (M : Int)]) (s22 : St 3 X T22 #[.int .i64 ((0 : Nat) : Int)]) (hs : Sqs X gf pb zs W M R0) :
    cM.wpIn Fence.wide 20 Tryd.prog (postE 4 (fun a' Z => ∃ D0 D1, (∃ f', a' = { tmps := eF T2 T4 T5 T7 (.func (.func gf) pb #[]) f', defers := [{ target := .collected D1, args := #[] }, { target := .collected D0, args := #[] }] }) ∧ X.heap.size ≤ D0 ∧ D0 < D1 ∧ Z.heap[D0]? = some (.deferred (some [])) ∧ Z.heap[D1]? = some (.deferred (some [])) ∧ Kp (fun _ => False) X Z))
      { tmps := eT T2 T4 T5 T7 T21 T22 (.func (.func gf) pb #[]) f, defers := [] } X := by
  have TW := hid (fun (A : Act) (Y : World) (T22' t : Nat) (ds : List Deferred) (ht : A.tmps = eT T2 T4 T5 T7 T21 T22' (.func (.func gf) pb #[]) (fun i => A.tmps.getD i undef)) (hd : A.defers = ds) (k : Kp (fun _ => False) X Y) (s : St 3 Y T22' #[.int .i64 (t : Int)]) => (by
    obtain ⟨f, rfl⟩ := act_of ht hd
    exact turn_wp w Y T2 T4 T5 T7 T21 T22' gf pb R0 ao cap zs o lv W M t ds f hl hz hM.oo (hb.same k) (s21.kp k (fun x => x)) s (hs.same k) : cT.wpIn Fence.wide 20 Tryd.prog (postN (fun a' Z => ∃ D, (∃ f', a' = { tmps := eT T2 T4 T5 T7 T21 T22' (.func (.func gf) pb #[]) f', defers := { target := .collected D, args := #[] } :: ds }) ∧ Y.heap.size ≤ D ∧ Z.heap[D]? = some (.deferred (some [])) ∧ Kp (fun _ => False) Y Z)) A Y))
  have S22 := hid s22
  have c22 : X.cell? ⟨T22, 0, none⟩ = some (.int .i64 0) := s22.cell 0
  clear hz hM hb s21 s22 hs
  unfold cM eT
  generalize hQ : postE 4 _ = QQ
  refine wpIn_loop_rounds 3 ?_
  rw [roundsIn_succ]
  gi_wp2_with fail
  refine wpIn_mono (TW.out _ X T22 0 [] ?h1 rfl (Kp.refl _ _) S22.out) ?_
  case h1 => kernel_rfl
  intro e a1 X1 hh
  cases e with
  | normal =>
    obtain ⟨D0, ⟨f1, rfl⟩, hD0, hd0, k1⟩ := hh
    have K1 := hid k1
    have HD0 := hid hD0
    have HH0 := hid hd0
    have c1 : X1.cell? ⟨T22, 0, none⟩ = some (.int .i64 0) := (S22.out.kp k1 (fun x => x)).cell 0
    clear k1 hD0 hd0 c22
    unfold eT
    gi_wp2_with fail
    have ka : Kp (fun _ => False) X1 (X1.alloc (.cells #[.int .i64 1] 3)) := (Kp.refl _ _).alloc _
    have S1 : Hid (St 3 (X1.alloc (.cells #[.int .i64 1] 3)) X1.heap.size #[.int .i64 ((1 : Nat) : Int)]) := St.new 3 X1 _
    have K2 := hid (K1.out.trans ka (fun _ _ x => x))
    have H20 : Hid ((X1.alloc (.cells #[.int .i64 1] 3)).heap[D0]? = some (.deferred (some []))) := (ka.block D0 (Array.getElem?_eq_some_iff.1 HH0.out).1 (fun x => x)).trans HH0.out
    obtain ⟨V1, hV1⟩ : ∃ V, V = X1.alloc (.cells #[.int .i64 1] 3) := ⟨_, rfl⟩
    obtain ⟨B1, hB1⟩ : ∃ B, B = X1.heap.size := ⟨_, rfl⟩
    rw [← hV1, ← hB1] at S1
    rw [← hV1] at H20 K2 ⊢
    rw [← hB1]
    clear ka hV1 hB1 c1
    have c2 : V1.cell? ⟨B1, 0, none⟩ = some (.int .i64 1) := S1.out.cell 0
    rw [roundsIn_succ]
    gi_wp2_with fail
    refine wpIn_mono (TW.out _ V1 B1 1 [{ target := .collected D0, args := #[] }] ?h2 rfl K2.out S1.out) ?_
    case h2 => kernel_rfl
    intro e a2 X2 hh
    cases e with
    | normal =>
      obtain ⟨D1, ⟨f2, rfl⟩, hD1, hd1, k2⟩ := hh
      have K3 := hid (K2.out.trans k2 (fun _ _ x => x))
      have HD1 : Hid (D0 < D1) := by have := (Array.getElem?_eq_some_iff.1 H20.out).1; show _ < _; omega
      have HH1 := hid hd1
      have H30 : Hid (X2.heap[D0]? = some (.deferred (some []))) := (k2.block D0 (Array.getElem?_eq_some_iff.1 H20.out).1 (fun x => x)).trans H20.out
      have c3 : X2.cell? ⟨B1, 0, none⟩ = some (.int .i64 1) := (S1.out.kp k2 (fun x => x)).cell 0
      clear k2 hD1 hd1 c2
      unfold eT
      gi_wp2_with fail
      have ka : Kp (fun _ => False) X2 (X2.alloc (.cells #[.int .i64 2] 3)) := (Kp.refl _ _).alloc _
      have c4 : (X2.alloc (.cells #[.int .i64 2] 3)).cell? ⟨X2.heap.size, 0, none⟩ = some (.int .i64 2) := (St.new 3 X2 #[.int .i64 2]).cell 0
      have K4 := hid (K3.out.trans ka (fun _ _ x => x))
      have H40 : Hid ((X2.alloc (.cells #[.int .i64 2] 3)).heap[D0]? = some (.deferred (some []))) := (ka.block D0 (Array.getElem?_eq_some_iff.1 H30.out).1 (fun x => x)).trans H30.out
      have H41 : Hid ((X2.alloc (.cells #[.int .i64 2] 3)).heap[D1]? = some (.deferred (some []))) := (ka.block D1 (Array.getElem?_eq_some_iff.1 HH1.out).1 (fun x => x)).trans HH1.out
      clear ka
      rw [roundsIn_succ]
      gi_wp2_with fail
      subst hQ
      exact ⟨rfl, D0, D1, act_of (by kernel_rfl) rfl, HD0.out, HD1.out, H40.out, H41.out, K4.out⟩
    | _ => exact hh.elim
  | _ => exact hh.elim
set_option maxRecDepth 100000 in
set_option maxHeartbeats 8000000 in
theorem tail_wp (w X : World) (T2 T4 T5 T7 gf : Nat) (pb : Array Value) (R0 : Nat → Prop) (ao : Option Addr) (cap : Nat) (zs : List Int) (o lv : Int) (W M : Nat) (f : Nat → Value)
    (hl : zs.length ≤ 600) (hz : Byt zs) (hM : Mo o zs W M) (hb : Bs w X T2 T4 T5 T7 ao cap zs o lv) (hs : Sqs X gf pb zs W M R0) :
    cE.wpIn Fence.wide 20 Tryd.prog (bodyPostM Fence.wide 20 Tryd.prog Tryd.f5 (fun e w' => e = .returned (.bool true) ∧ Kp (fun _ => False) w w'))
      { tmps := eF T2 T4 T5 T7 (.func (.func gf) pb #[]) f, defers := [] } X := by
  have TU := hid (fun (A : Act) (Y : World) (T21 T22 : Nat) (ht : A.tmps = eT T2 T4 T5 T7 T21 T22 (.func (.func gf) pb #[]) (fun i => A.tmps.getD i undef)) (hd : A.defers = []) (k : Kp (fun _ => False) X Y) (s21 : St 3 Y T21 #[.int .i64 (M : Int)]) (s22 : St 3 Y T22 #[.int .i64 ((0 : Nat) : Int)]) => (by
    obtain ⟨f, rfl⟩ := act_of ht hd
    exact turns_wp w Y T2 T4 T5 T7 T21 T22 gf pb R0 ao cap zs o lv W M f hl hz hM (hb.same k) s21 s22 (hs.same k) : cM.wpIn Fence.wide 20 Tryd.prog (postE 4 (fun a' Z => ∃ D0 D1, (∃ f', a' = { tmps := eF T2 T4 T5 T7 (.func (.func gf) pb #[]) f', defers := [{ target := .collected D1, args := #[] }, { target := .collected D0, args := #[] }] }) ∧ Y.heap.size ≤ D0 ∧ D0 < D1 ∧ Z.heap[D0]? = some (.deferred (some [])) ∧ Z.heap[D1]? = some (.deferred (some [])) ∧ Kp (fun _ => False) Y Z)) A Y))
  have BS := hid hb
  have HM := hid hM
  have ka : Kp (fun _ => False) X (X.alloc (.cells #[.int .i64 0] 3)) := (Kp.refl _ _).alloc _
  have S0 : Hid (St 3 (X.alloc (.cells #[.int .i64 0] 3)) X.heap.size #[.int .i64 0]) := St.new 3 X _
  have B0 := hid (hb.same ka)
  have K0 := hid ka
  have c5 : (X.alloc (.cells #[.int .i64 0] 3)).cell? ⟨T5, 0, none⟩ = some (.int .i64 o) := B0.out.s5.cell 0
  have c2 : (X.alloc (.cells #[.int .i64 0] 3)).cell? ⟨T2, 0, none⟩ = some (.slice ao zs.length cap) := B0.out.s2.cell 0
  have hlz : zs.length ≤ 1000000000000 := by omega
  clear hz hM hb hs ka
  unfold cE eF
  generalize hQ : bodyPostM _ _ _ _ _ = QQ
  gi_wp2_with fail
  obtain ⟨V, hV⟩ : ∃ V, V = X.alloc (.cells #[.int .i64 0] 3) := ⟨_, rfl⟩
  obtain ⟨T21, hT⟩ : ∃ B, B = X.heap.size := ⟨_, rfl⟩
  rw [← hV, ← hT] at S0
  rw [← hV] at B0 K0 c5 c2 ⊢
  rw [← hT]
  have LT : Hid (X.heap.size ≤ T21) := by show _ ≤ _; omega
  clear hV hT
  rcases HM.out with ⟨k, rfl, h7, rfl, rfl⟩ | ⟨hno, rfl⟩
  · refine ⟨trivial, (callsIn_wide.2 (rwidth_ok k V h7)).mono ?_⟩
    rintro r wx ⟨rfl, rfl⟩
    have RM := hid (rmany_ok ao zs.length cap k V hlz h7)
    have hp := pow_pos7 k
    have f21 : V.frozen? ⟨T21, 0, none⟩ = false := S0.out.frozen 0
    have c21 : V.cell? ⟨T21, 0, none⟩ = some (.int .i64 0) := S0.out.cell 0
    clear HM
    generalize 8 * zs.length / 2 ^ k = M at *
    generalize 2 ^ k = W at *
    have k1 := kp_setCell V T21 0 (.int .i64 (M : Int)) (fun j => j = T21) rfl
    have s1 : St 3 (V.setCell ⟨T21, 0, none⟩ (.int .i64 (M : Int))) T21 #[.int .i64 (M : Int)] := by
      have h := S0.out.set 0 (.int .i64 (M : Int))
      simpa using h
    have S1 := hid s1
    have K1 := hid (K0.out.trans k1 (fun i h1 h2 => by have := LT.out; omega))
    have hsz : Hid ((V.setCell ⟨T21, 0, none⟩ (.int .i64 (M : Int))).heap.size = V.heap.size) := by show _ = _; simp
    have db : decide ((0 : Int) < (W : Int)) = true := by simp; omega
    have db2 : (0 : Int) < (W : Int) := by omega
    have db3 : decide (0 < W) = true := by simpa using hp
    clear k1 s1
    gi_wp2_with fail
    refine ⟨trivial, (callsIn_wide.2 RM.out).mono ?_⟩
    rintro r wx ⟨rfl, rfl⟩
    gi_wp2_with fail
    obtain ⟨V2, hV2⟩ : ∃ V2, V2 = V.setCell ⟨T21, 0, none⟩ (.int .i64 (M : Int)) := ⟨_, rfl⟩
    rw [← hV2] at S1 K1 hsz ⊢
    clear hV2 f21 c21 db db2 db3
    have ka : Kp (fun _ => False) V2 (V2.alloc (.cells #[.int .i64 0] 3)) := (Kp.refl _ _).alloc _
    have S22 : Hid (St 3 (V2.alloc (.cells #[.int .i64 0] 3)) V.heap.size #[.int .i64 ((0 : Nat) : Int)]) := by
      have h := St.new 3 V2 #[.int .i64 0]
      rw [hsz.out] at h
      exact h
    have S21 := hid (S1.out.kp ka (fun x => x))
    have K2 := hid (K1.out.trans ka (fun _ _ x => x))
    clear ka
    gi_wp2_with fail
    refine wpIn_mono (TU.out _ (V2.alloc (.cells #[.int .i64 0] 3)) T21 V.heap.size ?h1 rfl K2.out S21.out S22.out) ?_
    case h1 => kernel_rfl
    intro e a1 Z hh
    cases e with
    | exit id =>
      obtain ⟨rfl, D0, D1, ⟨f1, rfl⟩, hD0, hD1, h0, h1, k1⟩ := hh
      have BZ := hid (BS.out.same (K2.out.trans k1 (fun _ _ x => x)))
      have L0 : Hid (T4 < D0) := by have h2 := BS.out.s4.lt; have h3 := K2.out.size; show _ < _; omega
      have L1 := hid hD1
      have H0 := hid h0
      have H1 := hid h1
      clear hD0 hD1 h0 h1 k1
      unfold eF
      gi_wp2_with fail
      refine ⟨trivial, (callsIn_wide.2 (known_any Z BZ.out.wd)).mono ?_⟩
      rintro r V3 ⟨rfl, k3⟩
      have K3 := hid k3
      have SR3 := hid (BZ.out.s4.kp k3 (fun x => x))
      have cR : V3.cell? ⟨T4, 0, none⟩ = some (.bool false) := SR3.out.cell 0
      have fR : V3.frozen? ⟨T4, 0, none⟩ = false := SR3.out.frozen 0
      have lR : T4 < V3.heap.size := SR3.out.lt
      clear k3
      gi_wp2_with fail
      subst hQ
      have l0 := L0.out
      have l1 := L1.out
      have h0 := (K3.out.block D0 (Array.getElem?_eq_some_iff.1 H0.out).1 (fun x => x)).trans H0.out
      have h1 := (K3.out.block D1 (Array.getElem?_eq_some_iff.1 H1.out).1 (fun x => x)).trans H1.out
      have k4 := kp_setCell V3 T4 0 (.bool true) (fun j => j = T4) rfl
      have s4 := SR3.out.set 0 (.bool true)
      have h0' := (k4.block D0 (Array.getElem?_eq_some_iff.1 h0).1 (by omega)).trans h0
      have h1' := (k4.block D1 (Array.getElem?_eq_some_iff.1 h1).1 (by omega)).trans h1
      have k5 := kp_putG (V3.setCell ⟨T4, 0, none⟩ (.bool true)) D1 (.deferred none)
      have h0'' := (k5.block D0 (Array.getElem?_eq_some_iff.1 h0').1 (by omega)).trans h0'
      have k6 := kp_putG ((V3.setCell ⟨T4, 0, none⟩ (.bool true)).putObj D1 (.deferred none)) D0 (.deferred none)
      have s6 := (s4.kp k5 (by omega)).kp k6 (by omega)
      refine ⟨by simp, .inl ⟨_, _, rfl, run_takeDeferred h1', ?_⟩⟩
      refine ⟨by simp, .inl ⟨_, _, rfl, run_takeDeferred h0'', ?_⟩⟩
      refine ⟨_, results_cell1 Tryd.results5 _ _ T4 rfl (load_bool4 (s6.cell 0)), rfl, ?_⟩
      have hl4 := BZ.out.l4
      exact (((BZ.out.kp.trans K3.out (fun _ _ x => x)).trans k4 (fun i h1 h2 => by omega)).trans k5 (fun i h1 h2 => by omega)).trans k6 (fun i h1 h2 => by omega)
    | _ => exact hh.elim
  · refine ⟨trivial, (callsIn_wide.2 (rwidth_no o V hno)).mono ?_⟩
    rintro r wx ⟨rfl, rfl⟩
    have S1 : Hid (St 3 V T21 #[.int .i64 ((0 : Nat) : Int)]) := S0.out
    have K1 := K0
    clear HM
    gi_wp2_with fail
    have ka : Kp (fun _ => False) V (V.alloc (.cells #[.int .i64 0] 3)) := (Kp.refl _ _).alloc _
    have S22 : Hid (St 3 (V.alloc (.cells #[.int .i64 0] 3)) V.heap.size #[.int .i64 ((0 : Nat) : Int)]) := St.new 3 V _
    have S21 := hid (S1.out.kp ka (fun x => x))
    have K2 := hid (K1.out.trans ka (fun _ _ x => x))
    clear ka
    gi_wp2_with fail
    refine wpIn_mono (TU.out _ (V.alloc (.cells #[.int .i64 0] 3)) T21 V.heap.size ?h2 rfl K2.out S21.out S22.out) ?_
    case h2 => kernel_rfl
    intro e a1 Z hh
    cases e with
    | exit id =>
      obtain ⟨rfl, D0, D1, ⟨f1, rfl⟩, hD0, hD1, h0, h1, k1⟩ := hh
      have BZ := hid (BS.out.same (K2.out.trans k1 (fun _ _ x => x)))
      have L0 : Hid (T4 < D0) := by have h2 := BS.out.s4.lt; have h3 := K2.out.size; show _ < _; omega
      have L1 := hid hD1
      have H0 := hid h0
      have H1 := hid h1
      clear hD0 hD1 h0 h1 k1
      unfold eF
      gi_wp2_with fail
      refine ⟨trivial, (callsIn_wide.2 (known_any Z BZ.out.wd)).mono ?_⟩
      rintro r V3 ⟨rfl, k3⟩
      have K3 := hid k3
      have SR3 := hid (BZ.out.s4.kp k3 (fun x => x))
      have cR : V3.cell? ⟨T4, 0, none⟩ = some (.bool false) := SR3.out.cell 0
      have fR : V3.frozen? ⟨T4, 0, none⟩ = false := SR3.out.frozen 0
      have lR : T4 < V3.heap.size := SR3.out.lt
      clear k3
      gi_wp2_with fail
      subst hQ
      have l0 := L0.out
      have l1 := L1.out
      have h0 := (K3.out.block D0 (Array.getElem?_eq_some_iff.1 H0.out).1 (fun x => x)).trans H0.out
      have h1 := (K3.out.block D1 (Array.getElem?_eq_some_iff.1 H1.out).1 (fun x => x)).trans H1.out
      have k4 := kp_setCell V3 T4 0 (.bool true) (fun j => j = T4) rfl
      have s4 := SR3.out.set 0 (.bool true)
      have h0' := (k4.block D0 (Array.getElem?_eq_some_iff.1 h0).1 (by omega)).trans h0
      have h1' := (k4.block D1 (Array.getElem?_eq_some_iff.1 h1).1 (by omega)).trans h1
      have k5 := kp_putG (V3.setCell ⟨T4, 0, none⟩ (.bool true)) D1 (.deferred none)
      have h0'' := (k5.block D0 (Array.getElem?_eq_some_iff.1 h0').1 (by omega)).trans h0'
      have k6 := kp_putG ((V3.setCell ⟨T4, 0, none⟩ (.bool true)).putObj D1 (.deferred none)) D0 (.deferred none)
      have s6 := (s4.kp k5 (by omega)).kp k6 (by omega)
      refine ⟨by simp, .inl ⟨_, _, rfl, run_takeDeferred h1', ?_⟩⟩
      refine ⟨by simp, .inl ⟨_, _, rfl, run_takeDeferred h0'', ?_⟩⟩
      refine ⟨_, results_cell1 Tryd.results5 _ _ T4 rfl (load_bool4 (s6.cell 0)), rfl, ?_⟩
      have hl4 := BZ.out.l4
      exact (((BZ.out.kp.trans K3.out (fun _ _ x => x)).trans k4 (fun i h1 h2 => by omega)).trans k5 (fun i h1 h2 => by omega)).trans k6 (fun i h1 h2 => by omega)
    | _ => exact hh.elim
end Go.Proofs.YtjhgkcbpllgdiaaDoor
