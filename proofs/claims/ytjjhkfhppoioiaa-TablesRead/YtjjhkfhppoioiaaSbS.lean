/- tables: blocks of Sn, held against one another, rows of them. -/
import Derived.Test.YtjjhkfhppoioiaaTn
import Derived.Test.YtjjhkfhppoioiaaRq
import Derived.Test.YtjjhkfhppoioiaaAp
import Derived.ShutString
namespace Go.Proofs.Ytjjhkfhppoioiaa
open Go.RowKit
set_option linter.unusedVariables false
theorem str_eqs {a b : ByteArray} (h : (a.toList == b.toList) = true) : a = b := by
  rw [ByteArray.toList_eq, ByteArray.toList_eq] at h
  exact WideShapes.bytes_inj (by simpa using h)
/-- A block that holds one. -/
def Sn.B (w : World) (g : Nat) (e : Sn) : Prop := St 25 w g e.cs
theorem Try.isz25 : (Try.prog.info? 25).map (·.size) = some 4 := by kernel_rfl
theorem Sn.B.load {w : World} {g : Nat} {e : Sn} (s : Sn.B w g e) : (loadVar 25 ⟨g, 0, none⟩).run Try.prog w = .ok (.agg e.cs) w :=
  run_loadVar_row w g 25 25 _ (0, 0) _ s Try.underlying25 rfl (by rw [Try.isz25]; rfl)
theorem Sn.B.new (w : World) (e : Sn) : Sn.B (w.alloc (.cells e.cs 25)) w.heap.size e := St.new 25 w _
theorem Sn.B.kp {F : Nat → Prop} {w w' : World} {g : Nat} {e : Sn} (s : Sn.B w g e) (k : Kp F w w') (hf : ¬ F g) : Sn.B w' g e := St.kp s k hf
theorem Sn.B.below {w w' : World} {g b : Nat} {e : Sn} (s : Sn.B w g e) (k : Below b w w') (hg : g < b) : Sn.B w' g e := St.below s k hg
theorem Sn.B.cell {w : World} {g : Nat} {e : Sn} (s : Sn.B w g e) (i : Nat) : w.cell? ⟨g, i, none⟩ = e.cs[i]? := St.cell s i
theorem Sn.B.lt {w : World} {g : Nat} {e : Sn} (s : Sn.B w g e) : g < w.heap.size := St.lt s
theorem wp_load_s {o : Oper} {a : Act} {w : World} {K : Act → World → Prop} {Q : Exit → Act → World → Prop} (x : Operand) (ho : o.op = .load 25 x) (g : Nat) (hx : a.eval x = .pointer (some ⟨g, 0, none⟩)) {e : Sn} (s : Sn.B w g e)
    (hk : K (a.put o.dst (.agg e.cs)) w) : o.wp Try.prog a w K Q := wp_load_row 25 x ho g hx 25 e.cs (0, 0) _ s Try.underlying25 rfl (by rw [Try.isz25]; rfl) hk
theorem wpList_load_s {ops : Array Oper} {rest : List Oper} {o : Oper} {a : Act} {w : World} {Q : Exit → Act → World → Prop} (hgd : o.guard = none) (x : Operand) (ho : o.op = .load 25 x) (g : Nat) (hx : a.eval x = .pointer (some ⟨g, 0, none⟩)) {e : Sn} (s : Sn.B w g e)
    (hk : wpList Try.prog ops Q rest (a.put o.dst (.agg e.cs)) w) : wpList Try.prog ops Q (o :: rest) a w := wpList_plain hgd fun _ hK => wp_load_s x ho g hx s (hK _ _ hk)
theorem Sn.one (e : Sn) : e.cs.all (·.oneCell') = true := by simp [Sn.cs, Value.oneCell']
theorem kp_setRows (w : World) (g : Nat) (cs : Array Value) : Kp (fun i => i = g) w (w.setRow g cs) := Kp.of_grown (grown_setRow g cs) (fun i e => by cases e; rfl)
/-- One is stored whole. -/
theorem wpList_store_s {ops : Array Oper} {rest : List Oper} {o : Oper} {a : Act} {w : World} {Q : Exit → Act → World → Prop} (hgd : o.guard = none) (x y : Operand) (ho : o.op = .store 25 x y) (g : Nat) (hx : a.eval x = .pointer (some ⟨g, 0, none⟩)) {e e' : Sn} (hy : a.eval y = .agg e'.cs) (s : Sn.B w g e)
    (hk : ∀ w', Sn.B w' g e' → Kp (fun i => i = g) w w' → wpList Try.prog ops Q rest (a.put o.dst undef) w') : wpList Try.prog ops Q (o :: rest) a w :=
  wpList_store_row hgd 25 x y ho g e'.cs hx hy 25 e.cs s (by rw [Try.isz25]; rfl) rfl (Sn.one e') (hk _ (setRow_heap w g _ _ 25 _ s) (kp_setRows w g _))
def Sn.eq (x y : Sn) : Bool := x.nm.toList == y.nm.toList && (x.a == y.a && (x.b == y.b && x.c == y.c))
theorem Sn.eq_self (e : Sn) : Sn.eq e e = true := by simp [Sn.eq]
theorem Sn.eq_eq {x y : Sn} (h : Sn.eq x y = true) : x = y := by
  simp only [Sn.eq, Bool.and_eq_true, beq_iff_eq] at h
  exact Sn.ext' (str_eqs (by simpa using h.1)) h.2.1 h.2.2.1 h.2.2.2
theorem Sn.eq_ne {x y : Sn} (h : x ≠ y) : Sn.eq x y = false := by
  cases hq : Sn.eq x y with
  | false => rfl
  | true => exact absurd (Sn.eq_eq hq) h
set_option maxHeartbeats 1000000 in
theorem exec_eq_s {o : Oper} {a : Act} {w : World} {x y : Operand} {h k : Sn} (ho : o.op = .binOp .eql 25 x y 25) (hx : a.eval x = .agg h.cs) (hy : a.eval y = .agg k.cs) :
    (execOp a.eval o).run Try.prog w = .ok (.value (.bool (Sn.eq h k))) w := by
  obtain ⟨b0, b1, b2, b3⟩ := h
  obtain ⟨c0, c1, c2, c3⟩ := k
  unfold execOp
  simp only [ho, hx, hy, Sn.cs]
  clear ho hx hy
  go_simp
  unfold Sn.eq
  dsimp only
  by_cases e0 : (b0.toList == c0.toList) = true
  case neg => (have e9 : ¬ b0.toList = c0.toList := by simpa using e0); simp [e9]
  obtain rfl := str_eqs e0
  by_cases e1 : b1 = c1
  case neg => simp [e1]
  subst e1
  by_cases e2 : b2 = c2
  case neg => simp [e2]
  subst e2
  by_cases e3 : b3 = c3
  case neg => simp [e3]
  subst e3
  simp
theorem wp_eq_s {o : Oper} {a : Act} {w : World} {K : Act → World → Prop} {Q : Exit → Act → World → Prop} (x y : Operand) (ho : o.op = .binOp .eql 25 x y 25) {h k : Sn} (hx : a.eval x = .agg h.cs) (hy : a.eval y = .agg k.cs) {b : Bool} (hb : Sn.eq h k = b)
    (hk : K (a.put o.dst (.bool b)) w) : o.wp Try.prog a w K Q := by
  unfold Oper.wp
  rw [exec_eq_s ho hx hy, hb]
  exact hk
theorem wpList_eq_s {ops : Array Oper} {rest : List Oper} {o : Oper} {a : Act} {w : World} {Q : Exit → Act → World → Prop} (hgd : o.guard = none) (x y : Operand) (ho : o.op = .binOp .eql 25 x y 25) {h k : Sn} (hx : a.eval x = .agg h.cs) (hy : a.eval y = .agg k.cs) {b : Bool} (hb : Sn.eq h k = b)
    (hk : wpList Try.prog ops Q rest (a.put o.dst (.bool b)) w) : wpList Try.prog ops Q (o :: rest) a w := wpList_plain hgd fun _ hK => wp_eq_s x y ho hx hy hb (hK _ _ hk)

/-- Rows of them: what lies there. -/
def fls (l : List Sn) : List Value := l.flatMap Sn.cl
theorem fls_len (l : List Sn) : (fls l).length = l.length * 4 := by
  induction l with
  | nil => rfl
  | cons t l ih => simp only [fls, List.flatMap_cons, List.length_append, List.length_cons] at ih ⊢; rw [ih]; simp only [Sn.cl, List.length_cons, List.length_nil]; omega
theorem fls_append (l m : List Sn) : fls (l ++ m) = fls l ++ fls m := by simp [fls]
theorem fls_get (l : List Sn) (i j : Nat) (hi : i < l.length) (hj : j < 4) : (fls l)[i * 4 + j]? = (l.getD i zSn).cl[j]? := by
  induction l generalizing i with
  | nil => simp at hi
  | cons t l ih =>
    have hl : t.cl.length = 4 := rfl
    rw [show fls (t :: l) = t.cl ++ fls l by simp [fls]]
    cases i with
    | zero => rw [List.getElem?_append_left (by rw [hl]; omega)]; simp
    | succ i =>
      rw [List.getElem?_append_right (by rw [hl]; omega), hl, show (i + 1) * 4 + j - 4 = i * 4 + j by omega, ih i (by simpa using hi)]
      simp
theorem fls_one (l : List Sn) : ∀ u ∈ fls l, u.oneCell' = true := by
  intro u hu
  obtain ⟨t, _, h⟩ := List.mem_flatMap.1 hu
  simp only [Sn.cl, List.mem_cons, List.not_mem_nil, or_false] at h
  rcases h with rfl | rfl | rfl | rfl <;> rfl
/-- Where a row is read. -/
def Srcs (w : World) (ao : Option Addr) (l : List Sn) : Prop := 0 < l.length → ∃ b off, ao = some ⟨b, off, none⟩ ∧ b < w.heap.size ∧ ∀ j u, (fls l)[j]? = some u → w.cell? ⟨b, off + j, none⟩ = some u
theorem Srcs.nil (w : World) (ao : Option Addr) : Srcs w ao [] := fun h => absurd h (by simp)
theorem Srcs.kp {F : Nat → Prop} {w w' : World} {ao : Option Addr} {l : List Sn} (h : Srcs w ao l) (k : Kp F w w') (hf : ∀ b off, ao = some ⟨b, off, none⟩ → b < w.heap.size → ¬ F b) : Srcs w' ao l := by
  intro hp
  obtain ⟨b, off, rfl, hb, hc⟩ := h hp
  exact ⟨b, off, rfl, Nat.lt_of_lt_of_le hb k.size, fun j u hu => kp_cell k (hc j u hu) (hf b off rfl hb)⟩
theorem Srcs.below {w w' : World} {ao : Option Addr} {l : List Sn} (h : Srcs w ao l) (k : Below w.heap.size w w') : Srcs w' ao l := h.kp (F := fun i => w.heap.size ≤ i) ⟨k.os, k.tape, k.output, k.size, fun i hi _ => k.block i hi⟩ (fun b off _ h => by omega)
theorem Srcs.at {w : World} {ao : Option Addr} {l : List Sn} (h : Srcs w ao l) {i : Nat} (hi : i < l.length) : ∃ b off, ao = some ⟨b, off, none⟩ ∧ b < w.heap.size ∧ w.cell? ⟨b, off + i * 4, none⟩ = some (.string (l.getD i zSn).nm) ∧ w.cell? ⟨b, off + i * 4 + 1, none⟩ = some (.int .i64 (l.getD i zSn).a) ∧ w.cell? ⟨b, off + i * 4 + 2, none⟩ = some (.int .i64 (l.getD i zSn).b) ∧ w.cell? ⟨b, off + i * 4 + 3, none⟩ = some (.int .i64 (l.getD i zSn).c) := by
  obtain ⟨b, off, rfl, hb, hc⟩ := h (by omega)
  refine ⟨b, off, rfl, hb, ?_⟩
  have g := fun j hj => fls_get l i j hi hj
  refine ⟨?_, ?_, ?_, ?_⟩
  · exact hc (i * 4) _ (g 0 (by omega))
  · rw [Nat.add_assoc]; exact hc (i * 4 + 1) _ (g 1 (by omega))
  · rw [Nat.add_assoc]; exact hc (i * 4 + 2) _ (g 2 (by omega))
  · rw [Nat.add_assoc]; exact hc (i * 4 + 3) _ (g 3 (by omega))
  
theorem Try.inf25 : (Try.prog.info? 25).map (fun i => (i.zero, i.size, i.bytes)) = some (some (.agg #[.string ⟨#[]⟩, .int .i64 0, .int .i64 0, .int .i64 0]), 4, 40) := by kernel_rfl
/-- A row of one's own. -/
def Owns (w : World) (base : Nat) (v : Value) (l : List Sn) : Prop := w.ownsRow base 25 4 v l.length (fls l)
theorem Owns.nil (w : World) (base : Nat) : Owns w base (.slice none 0 0) [] := World.ownsRow_nil w base 25 4
theorem Owns.src {w : World} {base : Nat} {v : Value} {l : List Sn} (h : Owns w base v l) : ∃ ao cap, v = .slice ao l.length cap ∧ Srcs w ao l ∧ l.length ≤ cap ∧ cap ≤ maxLen ∧ (ao = none → cap = 0) := by
  rcases h.2 with ⟨rfl, h0⟩ | ⟨g, cap, cur, rfl, hb, hc, h1, h2, h3, h4⟩
  · rw [h0]
    refine ⟨none, 0, rfl, fun hp => by omega, Nat.zero_le _, by unfold maxLen; omega, fun _ => rfl⟩
  · refine ⟨some ⟨g, 0, none⟩, cap, rfl, fun hp => ⟨g, 0, rfl, ?_, ?_⟩, h1, h2, fun e => by cases e⟩
    · exact (Array.getElem?_eq_some_iff.1 hc).1
    · intro j u hu
      rw [cell_of_row w g (0 + j) _ 25 _ hc, Nat.zero_add]
      have hj : j < (fls l).length := (List.getElem?_eq_some_iff.1 hu).1
      rw [← hu, ← h4, List.getElem?_take_of_lt (by rw [fls_len] at hj; omega), Array.getElem?_toList]
end Go.Proofs.Ytjjhkfhppoioiaa
