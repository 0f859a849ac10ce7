/- counts: Widen. -/
import Derived.Test.YtjhgkcbpllgdiaaDoorWb
import Derived.Test.YtjhgkcbpllgdiaaDoorCv
namespace Go.Proofs.YtjhgkcbpllgdiaaDoor
open Go.RowKit Go.Shelf
attribute [local go_sem] Oper.semAt_some
set_option linter.unusedVariables false
theorem results_cell2 {P : Program} {fn : Func} {p q : Tmp} {tp tq : TypeId} (h : fn.results = #[.cell p tp, .cell q tq]) (tmps : Array Value) (w : World) (b c : Nat) {v x : Value} (hp : tmps.getD p undef = .pointer (some ⟨b, 0, none⟩)) (hq : tmps.getD q undef = .pointer (some ⟨c, 0, none⟩)) (hl : (loadVar tp ⟨b, 0, none⟩).run P w = .ok v w) (hm : (loadVar tq ⟨c, 0, none⟩).run P w = .ok x w) :
    (results fn tmps).run P w = .ok (.tuple #[v, x]) w := by
  have hp' : tmps[p]?.getD undef = .pointer (some ⟨b, 0, none⟩) := by simpa using hp
  have hq' : tmps[q]?.getD undef = .pointer (some ⟨c, 0, none⟩) := by simpa using hq
  simp [results, h, hp', hq', asAddr, hl, hm, Result.andThen]
theorem load22 {w : World} {b : Nat} {ao : Option Addr} {n c : Nat} (h : w.cell? ⟨b, 0, none⟩ = some (.slice ao n c)) : (loadVar 22 ⟨b, 0, none⟩).run Tryd.prog w = .ok (.slice ao n c) w := by
  simp [go_sem, h]
theorem load27 {w : World} {b : Nat} {x : Int} (h : w.cell? ⟨b, 0, none⟩ = some (.int .i64 x)) : (loadVar 27 ⟨b, 0, none⟩).run Tryd.prog w = .ok (.int .i64 x) w := by
  simp [go_sem, h]
/-- The two cells of the answer. -/
structure RC (w : World) (c6 c7 : Nat) (v x : Value) : Prop where
  s6 : St 22 w c6 #[v]
  s7 : St 27 w c7 #[x]
theorem RC.kp {F : Nat → Prop} {w w' : World} {c6 c7 : Nat} {v x : Value} (h : RC w c6 c7 v x) (k : Kp F w w') (h6 : ¬ F c6) (h7 : ¬ F c7) : RC w' c6 c7 v x := ⟨h.s6.kp k h6, h.s7.kp k h7⟩
theorem RC.put {w : World} {c6 c7 : Nat} {v x : Value} (h : RC w c6 c7 v x) (hne : c6 ≠ c7) (v' x' : Value) : RC ((w.setCell ⟨c6, 0, none⟩ v').setCell ⟨c7, 0, none⟩ x') c6 c7 v' x' :=
  ⟨(St.set h.s6 0 v').kp (kp_setCell _ c7 0 x' (fun i => i = c7) rfl) hne, St.set (h.s7.kp (kp_setCell w c6 0 v' (fun i => i = c6) rfl) (fun e => hne e.symm)) 0 x'⟩
theorem rc_kp (w : World) (c6 c7 : Nat) (v' x' : Value) : Kp (fun i => i = c6 ∨ i = c7) w ((w.setCell ⟨c6, 0, none⟩ v').setCell ⟨c7, 0, none⟩ x') :=
  (kp_setCell w c6 0 v' (fun i => i = c6 ∨ i = c7) (.inl rfl)).trans (kp_setCell _ c7 0 x' (fun i => i = c6 ∨ i = c7) (.inr rfl)) (fun _ _ x => x)
theorem RC.out {w : World} {c6 c7 : Nat} {ao : Option Addr} {n c : Nat} {x : Int} (h : RC w c6 c7 (.slice ao n c) (.int .i64 x)) (tmps : Array Value) (hp : tmps.getD 6 undef = .pointer (some ⟨c6, 0, none⟩)) (hq : tmps.getD 7 undef = .pointer (some ⟨c7, 0, none⟩)) : (results Tryd.f20 tmps).run Tryd.prog w = .ok (.tuple #[.slice ao n c, .int .i64 x]) w :=
  results_cell2 Tryd.results20 tmps w c6 c7 hp hq (load22 (h.s6.cell 0)) (load27 (h.s7.cell 0))
set_option maxRecDepth 100000 in
set_option maxHeartbeats 1000000 in
theorem widen_no1 (ao : Option Addr) (n cap : Nat) (o t : Int) (w : World) (ho : ¬ Ord o) : Calls Tryd.prog 20 #[.slice ao n cap, .int .i64 o, .int .i64 t] w fun e w' => e = .returned (.tuple #[.slice none 0 0, .int .i64 2]) ∧ Kp (fun _ => False) w w' := by
  have LN := hid (fun w => laid_no ao n cap o w ho)
  have A1 := St.new 22 w #[.slice none 0 0]
  have A2 := St.new 27 (w.alloc (.cells #[.slice none 0 0] 22)) #[.int .i64 0]
  have k2 : Kp (fun _ => False) w ((w.alloc (.cells #[.slice none 0 0] 22)).alloc (.cells #[.int .i64 0] 27)) := ((Kp.refl _ _).alloc _).alloc _
  have R0 : Hid (RC ((w.alloc (.cells #[.slice none 0 0] 22)).alloc (.cells #[.int .i64 0] 27)) w.heap.size (w.heap.size + 1) (.slice none 0 0) (.int .i64 0)) := ⟨A1.kp ((Kp.refl (fun _ => False) _).alloc _) (fun x => x), by rw [World.size_alloc] at A2; exact A2⟩
  have K0 := hid k2
  clear A1 A2 k2 ho
  go_enter Tryd.func20, Tryd.ntmps20
  go_wp2_with fail
  refine (LN.out _).mono ?_
  rintro e w1 ⟨rfl, k1⟩
  have K1 := hid (K0.out.trans k1 (fun _ _ x => x))
  have R1 := hid (R0.out.kp k1 (fun x => x) (fun x => x))
  have B2 := hid (Rb.new w1 (.slice none 0 0) 0)
  have R2 := hid (R1.out.kp ((Kp.refl (fun _ => False) w1).alloc (.cells (rc (.slice none 0 0) 0) 58)) (fun x => x) (fun x => x))
  have K2 : Hid (Kp (fun _ => False) w (w1.alloc (.cells (rc (.slice none 0 0) 0) 58))) := K1.out.alloc _
  have H7 : Hid (w.heap.size + 1 < w1.heap.size) := R1.out.s7.lt
  clear k1
  go_wp2_with (refine wpList_store_rb rfl (.tmp 8) (.tmp 17) rfl w1.heap.size rfl (W' := 0) rfl B2.out ?_; intro w2 b2 k2; have K3 := hid (K2.out.trans k2 (fun i h1 h2 => by have := k2.size; have := K1.out.size; omega)); have R3 := hid (R2.out.kp k2 (by have := H7.out; omega) (by have := H7.out; omega)); have f6 := R3.out.s6.frozen 0; have f7 := R3.out.s7.frozen 0; have q6 := R3.out.s6.cell 0; have q7 := R3.out.s7.cell 0; clear k2 b2)
  refine bodyPost_ret ((R3.out.put (by omega) _ _).out _ rfl rfl) rfl ⟨rfl, K3.out.trans (rc_kp _ _ _ _ _) (fun i h1 h2 => by omega)⟩
set_option maxRecDepth 100000 in
set_option maxHeartbeats 1000000 in
theorem widen_no2 (ao : Option Addr) (n cap o : Nat) (t : Int) (w : World) (ho : o < 7) (ht : ¬ Ord t) (hw : Wd w) : Calls Tryd.prog 20 #[.slice ao n cap, .int .i64 (o : Int), .int .i64 t] w fun e w' => e = .returned (.tuple #[.slice none 0 0, .int .i64 2]) ∧ Kp (fun _ => False) w w' := by
  have LO := hid (fun (X : World) (h : Wd X) => laid_ok ao n cap o X ho h)
  have LN := hid (fun w => laid_no none 0 0 t w ht)
  have W0 := hid hw
  have A1 := St.new 22 w #[.slice none 0 0]
  have A2 := St.new 27 (w.alloc (.cells #[.slice none 0 0] 22)) #[.int .i64 0]
  have k2 : Kp (fun _ => False) w ((w.alloc (.cells #[.slice none 0 0] 22)).alloc (.cells #[.int .i64 0] 27)) := ((Kp.refl _ _).alloc _).alloc _
  have R0 : Hid (RC ((w.alloc (.cells #[.slice none 0 0] 22)).alloc (.cells #[.int .i64 0] 27)) w.heap.size (w.heap.size + 1) (.slice none 0 0) (.int .i64 0)) := ⟨A1.kp ((Kp.refl (fun _ => False) _).alloc _) (fun x => x), by rw [World.size_alloc] at A2; exact A2⟩
  have K0 := hid k2
  clear A1 A2 k2 ht hw
  generalize 2 ^ o = W at *
  go_enter Tryd.func20, Tryd.ntmps20
  go_wp2_with fail
  refine (LO.out _ (W0.out.kp K0.out (fun x => x))).mono ?_
  rintro e w1 ⟨rfl, k1⟩
  have K1 := hid (K0.out.trans k1 (fun _ _ x => x))
  have R1 := hid (R0.out.kp k1 (fun x => x) (fun x => x))
  have B2 := hid (Rb.new w1 (.slice none 0 0) 0)
  have R2 := hid (R1.out.kp ((Kp.refl (fun _ => False) w1).alloc (.cells (rc (.slice none 0 0) 0) 58)) (fun x => x) (fun x => x))
  have K2 : Hid (Kp (fun _ => False) w (w1.alloc (.cells (rc (.slice none 0 0) 0) 58))) := K1.out.alloc _
  have H7 : Hid (w.heap.size + 1 < w1.heap.size) := R1.out.s7.lt
  clear k1
  go_wp2_with (refine wpList_store_rb rfl (.tmp 8) (.tmp 17) rfl w1.heap.size rfl (W' := W) rfl B2.out ?_; intro w2 b2 k2; have K3 := hid (K2.out.trans k2 (fun i h1 h2 => by have := k2.size; have := K1.out.size; omega)); have R3 := hid (R2.out.kp k2 (by have := H7.out; omega) (by have := H7.out; omega)); clear k2 b2)
  refine (LN.out _).mono ?_
  rintro e w3 ⟨rfl, k3⟩
  have K4 := hid (K3.out.trans k3 (fun _ _ x => x))
  have R4 := hid (R3.out.kp k3 (fun x => x) (fun x => x))
  have B5 := hid (Rb.new w3 (.slice none 0 0) 0)
  have R5 := hid (R4.out.kp ((Kp.refl (fun _ => False) w3).alloc (.cells (rc (.slice none 0 0) 0) 58)) (fun x => x) (fun x => x))
  have K5 : Hid (Kp (fun _ => False) w (w3.alloc (.cells (rc (.slice none 0 0) 0) 58))) := K4.out.alloc _
  have H8 : Hid (w.heap.size + 1 < w3.heap.size) := R4.out.s7.lt
  clear k3
  go_wp2_with (refine wpList_store_rb rfl (.tmp 10) (.tmp 25) rfl w3.heap.size rfl (W' := 0) rfl B5.out ?_; intro w5 b5 k5; have K6 := hid (K5.out.trans k5 (fun i h1 h2 => by have := k5.size; have := K4.out.size; omega)); have R6 := hid (R5.out.kp k5 (by have := H8.out; omega) (by have := H8.out; omega)); have f6 := R6.out.s6.frozen 0; have f7 := R6.out.s7.frozen 0; have q6 := R6.out.s6.cell 0; have q7 := R6.out.s7.cell 0; clear k5 b5)
  refine bodyPost_ret ((R6.out.put (by omega) _ _).out _ rfl rfl) rfl ⟨rfl, K6.out.trans (rc_kp _ _ _ _ _) (fun i h1 h2 => by omega)⟩
end Go.Proofs.YtjhgkcbpllgdiaaDoor
