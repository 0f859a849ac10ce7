/- entry: blocks of entries, entries held against one another; clustered, Bits, Cluster, Place, piece, joined, parted. -/
import Derived.Test.YtkmkhjcmgockkaaEn
import Derived.Test.YtkmkhjcmgockkaaRq
namespace Go.Proofs.Ytkmkhjcmgockkaa
open Go.RowKit
set_option linter.unusedVariables false
/-- A block that holds an entry. -/
def Eb (w : World) (g : Nat) (e : En) : Prop := St 24 w g e.cs
theorem info24 : (Try.prog.info? 24).map (·.size) = some 3 := by kernel_rfl
theorem Eb.load {w : World} {g : Nat} {e : En} (s : Eb w g e) : (loadVar 24 ⟨g, 0, none⟩).run Try.prog w = .ok (.agg e.cs) w :=
  run_loadVar_row w g 24 24 _ (0, 0) _ s Try.underlying24 rfl (by rw [info24]; rfl)
theorem Eb.new (w : World) (e : En) : Eb (w.alloc (.cells e.cs 24)) w.heap.size e := St.new 24 w _
theorem Eb.kp {F : Nat → Prop} {w w' : World} {g : Nat} {e : En} (s : Eb w g e) (k : Kp F w w') (hf : ¬ F g) : Eb w' g e := St.kp s k hf
theorem Eb.cell {w : World} {g : Nat} {e : En} (s : Eb w g e) (i : Nat) : w.cell? ⟨g, i, none⟩ = e.cs[i]? := St.cell s i
theorem Eb.lt {w : World} {g : Nat} {e : En} (s : Eb w g e) : g < w.heap.size := St.lt s
theorem exec_load_en {o : Oper} {a : Act} {w : World} {x : Operand} {g : Nat} {e : En} (ho : o.op = .load 24 x) (hx : a.eval x = .pointer (some ⟨g, 0, none⟩)) (s : Eb w g e) :
    (execOp a.eval o).run Try.prog w = .ok (.value (.agg e.cs)) w := by
  unfold execOp
  simp only [ho, hx, Instr.loadAt, Instr.sureAddr, Sem.run_bind, Sem.run_pure, Result.andThen_ok, s.load]
theorem wp_load_en {o : Oper} {a : Act} {w : World} {K : Act → World → Prop} {Q : Exit → Act → World → Prop} (x : Operand) (ho : o.op = .load 24 x) (g : Nat) (hx : a.eval x = .pointer (some ⟨g, 0, none⟩)) {e : En} (s : Eb w g e)
    (hk : K (a.put o.dst (.agg e.cs)) w) : o.wp Try.prog a w K Q := wp_load_row 24 x ho g hx 24 e.cs (0, 0) _ s Try.underlying24 rfl (by rw [info24]; rfl) hk
theorem wpList_load_en {ops : Array Oper} {rest : List Oper} {o : Oper} {a : Act} {w : World} {Q : Exit → Act → World → Prop} (hgd : o.guard = none) (x : Operand) (ho : o.op = .load 24 x) (g : Nat) (hx : a.eval x = .pointer (some ⟨g, 0, none⟩)) {e : En} (s : Eb w g e)
    (hk : wpList Try.prog ops Q rest (a.put o.dst (.agg e.cs)) w) : wpList Try.prog ops Q (o :: rest) a w := wpList_plain hgd fun _ hK => wp_load_en x ho g hx s (hK _ _ hk)
theorem wpList_load_en_g {ops : Array Oper} {rest : List Oper} {o : Oper} {a : Act} {w : World} {Q : Exit → Act → World → Prop} (hw : Region.wanted o (yielded ops a.tmps) = true) (x : Operand) (ho : o.op = .load 24 x) (g : Nat) (hx : a.eval x = .pointer (some ⟨g, 0, none⟩)) {e : En} (s : Eb w g e)
    (hk : wpList Try.prog ops Q rest (a.put o.dst (.agg e.cs)) w) : wpList Try.prog ops Q (o :: rest) a w := wpList_step fun _ hK => by rw [if_pos hw]; exact wp_load_en x ho g hx s (hK _ _ hk)
theorem cs_one (e : En) : e.cs.all (·.oneCell') = true := by simp [En.cs, Value.oneCell']
theorem kp_setRow (w : World) (g : Nat) (cs : Array Value) : Kp (fun i => i = g) w (w.setRow g cs) := Kp.of_grown (grown_setRow g cs) (fun i e => by cases e; rfl)
/-- An entry is stored whole. -/
theorem wpList_store_en {ops : Array Oper} {rest : List Oper} {o : Oper} {a : Act} {w : World} {Q : Exit → Act → World → Prop} (hgd : o.guard = none) (x y : Operand) (ho : o.op = .store 24 x y) (g : Nat) (hx : a.eval x = .pointer (some ⟨g, 0, none⟩)) {e e' : En} (hy : a.eval y = .agg e'.cs) (s : Eb w g e)
    (hk : ∀ w', Eb w' g e' → Kp (fun i => i = g) w w' → wpList Try.prog ops Q rest (a.put o.dst undef) w') : wpList Try.prog ops Q (o :: rest) a w :=
  wpList_store_row hgd 24 x y ho g e'.cs hx hy 24 e.cs s (by rw [info24]; rfl) rfl (cs_one e') (hk _ (setRow_heap w g _ _ 24 _ s) (kp_setRow w g _))
def eqE (a b : En) : Bool := a.kind == b.kind && (a.place == b.place && a.len == b.len)
theorem eqE_self (e : En) : eqE e e = true := by simp [eqE]
theorem eqE_eq {a b : En} (h : eqE a b = true) : a = b := by
  simp only [eqE, Bool.and_eq_true, beq_iff_eq] at h
  exact En.ext' h.1 h.2.1 h.2.2
theorem eqE_ne {a b : En} (h : a ≠ b) : eqE a b = false := by
  cases hq : eqE a b with
  | false => rfl
  | true => exact absurd (eqE_eq hq) h
set_option maxHeartbeats 1000000 in
theorem exec_eq_en {o : Oper} {a : Act} {w : World} {x y : Operand} {h k : En} (ho : o.op = .binOp .eql 24 x y 24) (hx : a.eval x = .agg h.cs) (hy : a.eval y = .agg k.cs) :
    (execOp a.eval o).run Try.prog w = .ok (.value (.bool (eqE h k))) w := by
  obtain ⟨b1, b2, b3⟩ := h
  obtain ⟨c1, c2, c3⟩ := k
  unfold execOp
  simp only [ho, hx, hy, En.cs]
  clear ho hx hy
  go_simp
  unfold eqE
  dsimp only
  by_cases e1 : b1 = c1
  case neg => rw [if_neg e1, beq_false_of_ne e1]; rfl
  rw [if_pos e1, show (b1 == c1) = true by simp [e1], Bool.true_and]
  by_cases e2 : b2 = c2
  case neg => rw [if_neg e2, beq_false_of_ne e2]; rfl
  rw [if_pos e2, show (b2 == c2) = true by simp [e2], Bool.true_and]
  by_cases e3 : b3 = c3
  case neg => rw [if_neg e3, beq_false_of_ne e3]
  rw [if_pos e3, show (b3 == c3) = true by simp [e3]]
theorem wp_eq_en {o : Oper} {a : Act} {w : World} {K : Act → World → Prop} {Q : Exit → Act → World → Prop} (x y : Operand) (ho : o.op = .binOp .eql 24 x y 24) {h k : En} (hx : a.eval x = .agg h.cs) (hy : a.eval y = .agg k.cs) {b : Bool} (hb : eqE h k = b)
    (hk : K (a.put o.dst (.bool b)) w) : o.wp Try.prog a w K Q := by
  unfold Oper.wp
  rw [exec_eq_en ho hx hy, hb]
  exact hk
theorem wpList_eq_en {ops : Array Oper} {rest : List Oper} {o : Oper} {a : Act} {w : World} {Q : Exit → Act → World → Prop} (hgd : o.guard = none) (x y : Operand) (ho : o.op = .binOp .eql 24 x y 24) {h k : En} (hx : a.eval x = .agg h.cs) (hy : a.eval y = .agg k.cs) {b : Bool} (hb : eqE h k = b)
    (hk : wpList Try.prog ops Q rest (a.put o.dst (.bool b)) w) : wpList Try.prog ops Q (o :: rest) a w := wpList_plain hgd fun _ hK => wp_eq_en x y ho hx hy hb (hK _ _ hk)
theorem wpList_eq_en_g {ops : Array Oper} {rest : List Oper} {o : Oper} {a : Act} {w : World} {Q : Exit → Act → World → Prop} (hw : Region.wanted o (yielded ops a.tmps) = true) (x y : Operand) (ho : o.op = .binOp .eql 24 x y 24) {h k : En} (hx : a.eval x = .agg h.cs) (hy : a.eval y = .agg k.cs) {b : Bool} (hb : eqE h k = b)
    (hk : wpList Try.prog ops Q rest (a.put o.dst (.bool b)) w) : wpList Try.prog ops Q (o :: rest) a w := wpList_step fun _ hK => by rw [if_pos hw]; exact wp_eq_en x y ho hx hy hb (hK _ _ hk)
set_option maxHeartbeats 1000000 in
theorem exec_ne_en {o : Oper} {a : Act} {w : World} {x y : Operand} {h k : En} (ho : o.op = .binOp .neq 24 x y 24) (hx : a.eval x = .agg h.cs) (hy : a.eval y = .agg k.cs) :
    (execOp a.eval o).run Try.prog w = .ok (.value (.bool (!eqE h k))) w := by
  obtain ⟨b1, b2, b3⟩ := h
  obtain ⟨c1, c2, c3⟩ := k
  unfold execOp
  simp only [ho, hx, hy, En.cs]
  clear ho hx hy
  go_simp
  unfold eqE
  dsimp only
  by_cases e1 : b1 = c1
  case neg => rw [if_neg e1, beq_false_of_ne e1]; rfl
  rw [if_pos e1, show (b1 == c1) = true by simp [e1], Bool.true_and]
  by_cases e2 : b2 = c2
  case neg => rw [if_neg e2, beq_false_of_ne e2]; rfl
  rw [if_pos e2, show (b2 == c2) = true by simp [e2], Bool.true_and]
  by_cases e3 : b3 = c3
  case neg => rw [if_neg e3, beq_false_of_ne e3]; rfl
  rw [if_pos e3, show (b3 == c3) = true by simp [e3]]; rfl
theorem wp_ne_en {o : Oper} {a : Act} {w : World} {K : Act → World → Prop} {Q : Exit → Act → World → Prop} (x y : Operand) (ho : o.op = .binOp .neq 24 x y 24) {h k : En} (hx : a.eval x = .agg h.cs) (hy : a.eval y = .agg k.cs) {b : Bool} (hb : (!eqE h k) = b)
    (hk : K (a.put o.dst (.bool b)) w) : o.wp Try.prog a w K Q := by
  unfold Oper.wp
  rw [exec_ne_en ho hx hy, hb]
  exact hk
theorem wpList_ne_en {ops : Array Oper} {rest : List Oper} {o : Oper} {a : Act} {w : World} {Q : Exit → Act → World → Prop} (hgd : o.guard = none) (x y : Operand) (ho : o.op = .binOp .neq 24 x y 24) {h k : En} (hx : a.eval x = .agg h.cs) (hy : a.eval y = .agg k.cs) {b : Bool} (hb : (!eqE h k) = b)
    (hk : wpList Try.prog ops Q rest (a.put o.dst (.bool b)) w) : wpList Try.prog ops Q (o :: rest) a w := wpList_plain hgd fun _ hK => wp_ne_en x y ho hx hy hb (hK _ _ hk)
theorem wpList_ne_en_g {ops : Array Oper} {rest : List Oper} {o : Oper} {a : Act} {w : World} {Q : Exit → Act → World → Prop} (hw : Region.wanted o (yielded ops a.tmps) = true) (x y : Operand) (ho : o.op = .binOp .neq 24 x y 24) {h k : En} (hx : a.eval x = .agg h.cs) (hy : a.eval y = .agg k.cs) {b : Bool} (hb : (!eqE h k) = b)
    (hk : wpList Try.prog ops Q rest (a.put o.dst (.bool b)) w) : wpList Try.prog ops Q (o :: rest) a w := wpList_step fun _ hK => by rw [if_pos hw]; exact wp_ne_en x y ho hx hy hb (hK _ _ hk)
theorem results_cell_tmp2 {P : Program} {fn : Func} {p u : Tmp} {ty : TypeId} (h : fn.results = #[.cell p ty, .tmp u]) (tmps : Array Value) (w : World) (b : Nat) {v x : Value} (hp : tmps.getD p undef = .pointer (some ⟨b, 0, none⟩)) (hu : tmps.getD u undef = x) (hl : (loadVar ty ⟨b, 0, none⟩).run P w = .ok v w) :
    (results fn tmps).run P w = .ok (.tuple #[v, x]) w := by
  rw [results_cell_tmp h]
  simp [hp, hu, asAddr, hl, Result.andThen]
set_option maxHeartbeats 400000 in
theorem clustered_yes (b : Int) (w : World) (h : Bt b) : Calls Try.prog 24 #[.int .i64 b] w fun e w' => e = .returned (.bool true) ∧ w = w' := by
  obtain ⟨h1, h2⟩ := h
  go_enter Try.func24, Try.ntmps24
  go_wp2
  go_ret
  exact ⟨rfl, rfl⟩
set_option maxHeartbeats 400000 in
theorem clustered_no (b : Int) (w : World) (h : ¬ Bt b) : Calls Try.prog 24 #[.int .i64 b] w fun e w' => e = .returned (.bool false) ∧ w = w' := by
  by_cases h1 : 9 ≤ b
  · have h2 : ¬ b ≤ 16 := fun h2 => h ⟨h1, h2⟩
    go_enter Try.func24, Try.ntmps24
    go_wp2
    go_ret
    exact ⟨rfl, rfl⟩
  · go_enter Try.func24, Try.ntmps24
    go_wp2
    go_ret
    exact ⟨rfl, rfl⟩
set_option maxHeartbeats 400000 in
theorem rbits_yes (b : Int) (w : World) (h : Bt b) : Calls Try.prog 11 #[.int .i64 b] w fun e w' => e = .returned (.bool true) ∧ w = w' := by
  obtain ⟨h1, h2⟩ := h
  go_enter Try.func11, Try.ntmps11
  go_wp2
  go_ret
  exact ⟨rfl, rfl⟩
set_option maxHeartbeats 400000 in
theorem rbits_no (b : Int) (w : World) (h : ¬ Bt b) : Calls Try.prog 11 #[.int .i64 b] w fun e w' => e = .returned (.bool false) ∧ w = w' := by
  by_cases h1 : 9 ≤ b
  · have h2 : ¬ b ≤ 16 := fun h2 => h ⟨h1, h2⟩
    go_enter Try.func11, Try.ntmps11
    go_wp2
    go_ret
    exact ⟨rfl, rfl⟩
  · go_enter Try.func11, Try.ntmps11
    go_wp2
    go_ret
    exact ⟨rfl, rfl⟩
theorem two_pow_le {k n : Nat} (h : k ≤ n) (hn : n ≤ 16) : (1 : Int) ≤ 2 ^ k ∧ (2 : Int) ^ k ≤ 65536 := by
  have h1 : (2 : Int) ^ k ≤ 2 ^ 16 := by exact_mod_cast Nat.pow_le_pow_right (by omega) (show k ≤ 16 by omega)
  have h2 : (1 : Int) ≤ 2 ^ k := by exact_mod_cast Nat.one_le_two_pow
  exact ⟨h2, h1⟩
set_option maxHeartbeats 1000000 in
theorem rcluster (b : Int) (w : World) (hb : Bt b) : Calls Try.prog 21 #[.int .i64 b] w fun e w' => e = .returned (.int .i64 (clu b)) ∧ w = w' := by
  obtain ⟨h9, h16⟩ := hb
  obtain ⟨n, rfl⟩ := Int.eq_ofNat_of_zero_le (show 0 ≤ b by omega)
  have hn : n ≤ 16 := by omega
  go_enter Try.func21, Try.ntmps21
  go_wp2
  go_loop [3, 4] (fun c i => ∃ k : Nat, k ≤ n ∧ i = .int .i64 k ∧ c = .int .i64 (2 ^ k)) (fun _ i => n - (intOf i).toNat)
  case atStart => exact ⟨0, Nat.zero_le _, rfl, rfl⟩
  case round =>
    obtain ⟨k, hk, rfl, rfl⟩ := hrel
    by_cases hkn : k < n
    · have hp := two_pow_le hk hn
      have hs : (2 : Int) ^ (k + 1) = 2 * 2 ^ k := by rw [Int.pow_succ, Int.mul_comm]
      have HS := hid hs
      clear hs
      generalize hX : (2 : Int) ^ k = X at *
      go_wp2
      go_round
      case rel => exact ⟨k + 1, by omega, by go_num, by rw [HS.out]⟩
      case measure => simp [intOf]; omega
    · have hki : ¬ (k : Int) < (n : Int) := by omega
      have hkk : k = n := by omega
      have HKK := hid hkk
      clear hkk hkn
      go_wp2
      go_ret
      refine ⟨?_, rfl⟩
      rw [HKK.out]
      unfold clu
      rw [Int.toNat_natCast]
      rfl
set_option maxHeartbeats 2000000 in
theorem rplace (x b : Int) (w : World) (hx : I6 x) (hb : Bt b) : Calls Try.prog 22 #[.int .i64 x, .int .i64 b] w fun e w' => Tells e (Plc (clu b) x) ∧ w = w' := by
  have hbd := clu_bd hb
  unfold I6 at hx
  have RC : Hid (∀ w, Calls Try.prog 21 #[.int .i64 b] w fun e w' => e = .returned (.int .i64 (clu b)) ∧ w = w') := fun w => rcluster b w hb
  go_enter Try.func22, Try.ntmps22
  by_cases c1 : 0 < x
  · by_cases c2 : x ≤ 268435456
    · have e1 : x.tmod (clu b) = x % clu b := Int.tmod_eq_emod_of_nonneg (by omega)
      have m0 := Int.emod_nonneg x (show clu b ≠ 0 by omega)
      have m1 := Int.emod_lt_of_pos x (show 0 < clu b by omega)
      have HP : Hid (x % clu b = 0 → Plc (clu b) x) := fun e => ⟨c1, c2, e⟩
      have HN : Hid (x % clu b ≠ 0 → ¬ Plc (clu b) x) := fun e p => e p.2.2
      generalize hm : x % clu b = m at *
      generalize hc : clu b = c at *
      by_cases hz : m = 0
      · subst hz
        go_wp2_with (go_at_call 21; refine (RC.out _).mono ?_; rintro e w' ⟨rfl, rfl⟩)
        go_ret
        exact ⟨Or.inl ⟨HP.out (by trivial), rfl⟩, rfl⟩
      · go_wp2_with (go_at_call 21; refine (RC.out _).mono ?_; rintro e w' ⟨rfl, rfl⟩)
        go_ret
        exact ⟨Or.inr ⟨HN.out hz, by simp [hz]⟩, rfl⟩
    · go_wp2_with fail
      go_ret
      exact ⟨Or.inr ⟨fun p => by have := p.2.1; omega, rfl⟩, rfl⟩
  · go_wp2_with fail
    go_ret
    exact ⟨Or.inr ⟨fun p => by have := p.1; omega, rfl⟩, rfl⟩
theorem rplace_yes {x b : Int} {w : World} (hx : I6 x) (hb : Bt b) (p : Plc (clu b) x) : Calls Try.prog 22 #[.int .i64 x, .int .i64 b] w fun e w' => e = .returned (.bool true) ∧ w = w' := by
  refine (rplace x b w hx hb).mono ?_
  rintro e w' ⟨⟨_, rfl⟩ | ⟨q, _⟩, ew⟩
  · exact ⟨rfl, ew⟩
  · exact absurd p q
theorem rplace_no {x b : Int} {w : World} (hx : I6 x) (hb : Bt b) (p : ¬ Plc (clu b) x) : Calls Try.prog 22 #[.int .i64 x, .int .i64 b] w fun e w' => e = .returned (.bool false) ∧ w = w' := by
  refine (rplace x b w hx hb).mono ?_
  rintro e w' ⟨⟨q, _⟩ | ⟨_, rfl⟩, ew⟩
  · exact absurd q p
  · exact ⟨rfl, ew⟩
end Go.Proofs.Ytkmkhjcmgockkaa
