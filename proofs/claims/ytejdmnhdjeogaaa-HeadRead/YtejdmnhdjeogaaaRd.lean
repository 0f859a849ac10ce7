/- head: heads held against one another; Read. -/
import Derived.Test.YtejdmnhdjeogaaaEx
namespace Go.Proofs.Ytejdmnhdjeogaaa
open Go.RowKit
set_option linter.unusedVariables false
def eqH (h k : Hd) : Bool := h.bits == k.bits && (h.flags == k.flags && (h.size == k.size && (h.l1 == k.l1 && (h.l1len == k.l1len && (h.order == k.order && (h.counts == k.counts && (h.countslen == k.countslen && (h.snaps == k.snaps && (h.snapsat == k.snapsat && (h.snapslen == k.snapslen && (h.maps == k.maps && (h.mapsat == k.mapsat && (h.mapslen == k.mapslen && (h.name.toList == k.name.toList))))))))))))))
theorem eqH_self (h : Hd) : eqH h h = true := by simp [eqH]
theorem eqH_eq {h k : Hd} (e : eqH h k = true) : h = k := by
  simp only [eqH, Bool.and_eq_true] at e
  obtain ⟨e1, e2, e3, e4, e5, e6, e7, e8, e9, e10, e11, e12, e13, e14, e15⟩ := e
  have n := str_eq e15
  simp only [beq_iff_eq] at e1 e2 e3 e4 e5 e6 e7 e8 e9 e10 e11 e12 e13 e14
  obtain ⟨b1, b2, b3, b4, b5, b6, b7, b8, b9, b10, b11, b12, b13, b14, b15⟩ := h
  obtain ⟨c1, c2, c3, c4, c5, c6, c7, c8, c9, c10, c11, c12, c13, c14, c15⟩ := k
  dsimp only at *
  subst e1 e2 e3 e4 e5 e6 e7 e8 e9 e10 e11 e12 e13 e14 n
  rfl
theorem eqH_ne {h k : Hd} (e : h ≠ k) : eqH h k = false := by
  cases hq : eqH h k with
  | false => rfl
  | true => exact absurd (eqH_eq hq) e
set_option maxRecDepth 100000 in
set_option maxHeartbeats 4000000 in
theorem exec_eq_hd {o : Oper} {a : Act} {w : World} {x y : Operand} {h k : Hd} (ho : o.op = .binOp .eql 24 x y 24) (hx : a.eval x = .agg h.cs) (hy : a.eval y = .agg k.cs) :
    (execOp a.eval o).run Try.prog w = .ok (.value (.bool (eqH h k))) w := by
  obtain ⟨b1, b2, b3, b4, b5, b6, b7, b8, b9, b10, b11, b12, b13, b14, b15⟩ := h
  obtain ⟨c1, c2, c3, c4, c5, c6, c7, c8, c9, c10, c11, c12, c13, c14, c15⟩ := k
  unfold execOp
  simp only [ho, hx, hy, Hd.cs]
  clear ho hx hy
  go_simp
  unfold eqH
  dsimp only
  by_cases e1 : b1 = c1
  case neg => rw [if_neg e1, beq_false_of_ne e1]; rfl
  rw [if_pos e1, show (b1 == c1) = true by simp [e1], Bool.true_and]
  by_cases e2 : b2 = c2
  case neg => rw [if_neg e2, beq_false_of_ne e2]; rfl
  rw [if_pos e2, show (b2 == c2) = true by simp [e2], Bool.true_and]
  by_cases e3 : b3 = c3
  case neg => rw [if_neg e3, beq_false_of_ne e3]; rfl
  rw [if_pos e3, show (b3 == c3) = true by simp [e3], Bool.true_and]
  by_cases e4 : b4 = c4
  case neg => rw [if_neg e4, beq_false_of_ne e4]; rfl
  rw [if_pos e4, show (b4 == c4) = true by simp [e4], Bool.true_and]
  by_cases e5 : b5 = c5
  case neg => rw [if_neg e5, beq_false_of_ne e5]; rfl
  rw [if_pos e5, show (b5 == c5) = true by simp [e5], Bool.true_and]
  by_cases e6 : b6 = c6
  case neg => rw [if_neg e6, beq_false_of_ne e6]; rfl
  rw [if_pos e6, show (b6 == c6) = true by simp [e6], Bool.true_and]
  by_cases e7 : b7 = c7
  case neg => rw [if_neg e7, beq_false_of_ne e7]; rfl
  rw [if_pos e7, show (b7 == c7) = true by simp [e7], Bool.true_and]
  by_cases e8 : b8 = c8
  case neg => rw [if_neg e8, beq_false_of_ne e8]; rfl
  rw [if_pos e8, show (b8 == c8) = true by simp [e8], Bool.true_and]
  by_cases e9 : b9 = c9
  case neg => rw [if_neg e9, beq_false_of_ne e9]; rfl
  rw [if_pos e9, show (b9 == c9) = true by simp [e9], Bool.true_and]
  by_cases e10 : b10 = c10
  case neg => rw [if_neg e10, beq_false_of_ne e10]; rfl
  rw [if_pos e10, show (b10 == c10) = true by simp [e10], Bool.true_and]
  by_cases e11 : b11 = c11
  case neg => rw [if_neg e11, beq_false_of_ne e11]; rfl
  rw [if_pos e11, show (b11 == c11) = true by simp [e11], Bool.true_and]
  by_cases e12 : b12 = c12
  case neg => rw [if_neg e12, beq_false_of_ne e12]; rfl
  rw [if_pos e12, show (b12 == c12) = true by simp [e12], Bool.true_and]
  by_cases e13 : b13 = c13
  case neg => rw [if_neg e13, beq_false_of_ne e13]; rfl
  rw [if_pos e13, show (b13 == c13) = true by simp [e13], Bool.true_and]
  by_cases e14 : b14 = c14
  case neg => rw [if_neg e14, beq_false_of_ne e14]; rfl
  rw [if_pos e14, show (b14 == c14) = true by simp [e14], Bool.true_and]
  by_cases e15 : b15.toList = c15.toList
  case neg => rw [if_neg e15, beq_false_of_ne e15]
  rw [if_pos e15, show (b15.toList == c15.toList) = true by simp [e15]]
theorem wp_eq_hd {o : Oper} {a : Act} {w : World} {K : Act → World → Prop} {Q : Exit → Act → World → Prop} (x y : Operand) (ho : o.op = .binOp .eql 24 x y 24) {h k : Hd} (hx : a.eval x = .agg h.cs) (hy : a.eval y = .agg k.cs) {b : Bool} (hb : eqH h k = b)
    (hk : K (a.put o.dst (.bool b)) w) : o.wp Try.prog a w K Q := by
  unfold Oper.wp
  rw [exec_eq_hd ho hx hy, hb]
  exact hk
theorem wpList_eq_hd {ops : Array Oper} {rest : List Oper} {o : Oper} {a : Act} {w : World} {Q : Exit → Act → World → Prop} (hgd : o.guard = none) (x y : Operand) (ho : o.op = .binOp .eql 24 x y 24) {h k : Hd} (hx : a.eval x = .agg h.cs) (hy : a.eval y = .agg k.cs) {b : Bool} (hb : eqH h k = b)
    (hk : wpList Try.prog ops Q rest (a.put o.dst (.bool b)) w) : wpList Try.prog ops Q (o :: rest) a w := wpList_plain hgd fun _ hK => wp_eq_hd x y ho hx hy hb (hK _ _ hk)
theorem wpList_eq_hd_g {ops : Array Oper} {rest : List Oper} {o : Oper} {a : Act} {w : World} {Q : Exit → Act → World → Prop} (hw : Region.wanted o (yielded ops a.tmps) = true) (x y : Operand) (ho : o.op = .binOp .eql 24 x y 24) {h k : Hd} (hx : a.eval x = .agg h.cs) (hy : a.eval y = .agg k.cs) {b : Bool} (hb : eqH h k = b)
    (hk : wpList Try.prog ops Q rest (a.put o.dst (.bool b)) w) : wpList Try.prog ops Q (o :: rest) a w := wpList_step fun _ hK => by rw [if_pos hw]; exact wp_eq_hd x y ho hx hy hb (hK _ _ hk)
theorem results_cell_tmp2 {P : Program} {fn : Func} {p u : Tmp} {ty : TypeId} (h : fn.results = #[.cell p ty, .tmp u]) (tmps : Array Value) (w : World) (b : Nat) {v x : Value} (hp : tmps.getD p undef = .pointer (some ⟨b, 0, none⟩)) (hu : tmps.getD u undef = x) (hl : (loadVar ty ⟨b, 0, none⟩).run P w = .ok v w) :
    (results fn tmps).run P w = .ok (.tuple #[v, x]) w := by
  rw [results_cell_tmp h]
  simp [hp, hu, asAddr, hl, Result.andThen]
theorem taken_no (g off n cap : Nat) (zs : List Int) (w : World) (hz : Bz w g off n cap zs) (h5 : 512 ≤ n) (hc : ¬ Cnd zs) : Calls Try.prog 30 #[.slice (some ⟨g, off, none⟩) n cap] w fun e w' => e = .returned (.agg zH.cs) ∧ Kp (fun _ => False) w w' := by
  refine (taken_any g off n cap zs w hz h5).mono ?_
  rintro e w1 ⟨⟨c, _⟩ | ⟨_, rfl⟩, k1⟩
  · exact absurd c hc
  · exact ⟨rfl, k1⟩
theorem taken_yes (g off n cap : Nat) (zs : List Int) (w : World) (hz : Bz w g off n cap zs) (h5 : 512 ≤ n) (hc : Cnd zs) : Calls Try.prog 30 #[.slice (some ⟨g, off, none⟩) n cap] w fun e w' => e = .returned (.agg (rdH zs).cs) ∧ Kp (fun _ => False) w w' := by
  refine (taken_any g off n cap zs w hz h5).mono ?_
  rintro e w1 ⟨⟨_, rfl⟩ | ⟨c, _⟩, k1⟩
  · exact ⟨rfl, k1⟩
  · exact absurd hc c
set_option maxRecDepth 100000 in
set_option maxHeartbeats 4000000 in
theorem read_short (ao : Option Addr) (n cap : Nat) (w : World) (h5 : n < 512) : Calls Try.prog 15 #[.slice ao n cap] w fun e w' => e = .returned (.tuple #[.agg (zH).cs, .int .i64 180]) ∧ Kp (fun _ => False) w w' := by
  have HB := hid (Hb.new w zH)
  have HK : Hid (Kp (fun _ => False) w (w.alloc (.cells zH.cs 24))) := (Kp.refl _ _).alloc _
  have HE := hid (eqH_self zH)
  go_enter Try.func15, Try.ntmps15
  go_wp2_with (first | (go_at_call 30; refine (taken_short ao n cap (w.alloc (.cells zH.cs 24)) h5).mono ?_; rintro e w1 ⟨rfl, k1⟩) | (refine wpList_store_hd rfl (.tmp 4) (.tmp 6) rfl w1.heap.size rfl (h := zH) (h' := zH) rfl (Hb.new w1 zH) ?_; intro w2 b2 k2) | (refine wpList_load_hd rfl (.tmp 4) rfl w1.heap.size rfl b2 ?_) | (refine wpList_eq_hd rfl (.tmp 7) (.tmp 8) rfl (h := zH) (k := zH) rfl rfl HE.out ?_) | (refine wpList_store_hd rfl (.tmp 2) (.tmp 10) rfl w.heap.size rfl (h := zH) (h' := zH) rfl (((HB.out.kp k1 (fun x => x)).kp ((Kp.refl (fun _ => False) _).alloc _) (fun x => x)).kp k2 (by have h1 := HB.out.lt; have h2 := k1.size; omega)) ?_; intro w3 b3 k3))
  refine bodyPost_ret (results_cell_tmp2 Try.results15 _ _ _ rfl rfl b3.load) rfl ⟨rfl, ?_⟩
  have h1 := HB.out.lt
  have h2 := k1.size
  have h3 := HK.out.size
  exact (((HK.out.trans k1 (fun _ _ x => x)).alloc _).trans k2 (fun i h4 h5 => by omega)).trans k3 (fun i h4 h5 => by omega)
set_option maxRecDepth 100000 in
set_option maxHeartbeats 4000000 in
theorem read_no (g off n cap : Nat) (zs : List Int) (w : World) (hz : Bz w g off n cap zs) (h5 : 512 ≤ n) (hc : ¬ Cnd zs) : Calls Try.prog 15 #[.slice (some ⟨g, off, none⟩) n cap] w fun e w' => e = .returned (.tuple #[.agg (zH).cs, .int .i64 180]) ∧ Kp (fun _ => False) w w' := by
  have HB := hid (Hb.new w zH)
  have HK : Hid (Kp (fun _ => False) w (w.alloc (.cells zH.cs 24))) := (Kp.refl _ _).alloc _
  have HE := hid (eqH_self zH)
  have HZ := hid hz
  have HCC := hid hc
  clear hz hc
  go_enter Try.func15, Try.ntmps15
  go_wp2_with (first | (go_at_call 30; refine (taken_no g off n cap zs _ (HZ.out.kp HK.out) h5 HCC.out).mono ?_; rintro e w1 ⟨rfl, k1⟩) | (refine wpList_store_hd rfl (.tmp 4) (.tmp 6) rfl w1.heap.size rfl (h := zH) (h' := zH) rfl (Hb.new w1 zH) ?_; intro w2 b2 k2) | (refine wpList_load_hd rfl (.tmp 4) rfl w1.heap.size rfl b2 ?_) | (refine wpList_eq_hd rfl (.tmp 7) (.tmp 8) rfl (h := zH) (k := zH) rfl rfl HE.out ?_) | (refine wpList_store_hd rfl (.tmp 2) (.tmp 10) rfl w.heap.size rfl (h := zH) (h' := zH) rfl (((HB.out.kp k1 (fun x => x)).kp ((Kp.refl (fun _ => False) _).alloc _) (fun x => x)).kp k2 (by have h1 := HB.out.lt; have h2 := k1.size; omega)) ?_; intro w3 b3 k3))
  refine bodyPost_ret (results_cell_tmp2 Try.results15 _ _ _ rfl rfl b3.load) rfl ⟨rfl, ?_⟩
  have h1 := HB.out.lt
  have h2 := k1.size
  have h3 := HK.out.size
  exact (((HK.out.trans k1 (fun _ _ x => x)).alloc _).trans k2 (fun i h4 h5 => by omega)).trans k3 (fun i h4 h5 => by omega)
set_option maxRecDepth 100000 in
set_option maxHeartbeats 4000000 in
theorem read_yes (g off n cap : Nat) (zs : List Int) (w : World) (hz : Bz w g off n cap zs) (h5 : 512 ≤ n) (hc : Cnd zs) : Calls Try.prog 15 #[.slice (some ⟨g, off, none⟩) n cap] w fun e w' => e = .returned (.tuple #[.agg (rdH zs).cs, .int .i64 0]) ∧ Kp (fun _ => False) w w' := by
  have HB := hid (Hb.new w zH)
  have HK : Hid (Kp (fun _ => False) w (w.alloc (.cells zH.cs 24))) := (Kp.refl _ _).alloc _
  have HE : Hid (eqH (rdH zs) zH = false) := eqH_ne (fun e => by have := hc.may.b9; rw [e] at this; exact absurd this (by decide))
  have HZ := hid hz
  have HCC := hid hc
  clear hz hc
  go_enter Try.func15, Try.ntmps15
  go_wp2_with (first | (go_at_call 30; refine (taken_yes g off n cap zs _ (HZ.out.kp HK.out) h5 HCC.out).mono ?_; rintro e w1 ⟨rfl, k1⟩) | (refine wpList_store_hd rfl (.tmp 4) (.tmp 6) rfl w1.heap.size rfl (h := zH) (h' := rdH zs) rfl (Hb.new w1 zH) ?_; intro w2 b2 k2) | (refine wpList_load_hd rfl (.tmp 4) rfl w1.heap.size rfl b2 ?_) | (refine wpList_eq_hd rfl (.tmp 7) (.tmp 8) rfl (h := rdH zs) (k := zH) rfl rfl HE.out ?_) | (refine wpList_store_hd rfl (.tmp 2) (.tmp 11) rfl w.heap.size rfl (h := zH) (h' := rdH zs) rfl (((HB.out.kp k1 (fun x => x)).kp ((Kp.refl (fun _ => False) _).alloc _) (fun x => x)).kp k2 (by have h1 := HB.out.lt; have h2 := k1.size; omega)) ?_; intro w3 b3 k3))
  refine bodyPost_ret (results_cell_tmp2 Try.results15 _ _ _ rfl rfl b3.load) rfl ⟨rfl, ?_⟩
  have h1 := HB.out.lt
  have h2 := k1.size
  have h3 := HK.out.size
  exact (((HK.out.trans k1 (fun _ _ x => x)).alloc _).trans k2 (fun i h4 h5 => by omega)).trans k3 (fun i h4 h5 => by omega)
end Go.Proofs.Ytejdmnhdjeogaaa
