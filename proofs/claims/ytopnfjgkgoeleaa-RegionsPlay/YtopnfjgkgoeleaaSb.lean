/- regions: blocks of regions, held against one another, rows of them. -/
import Derived.Test.YtopnfjgkgoeleaaMt
import Derived.Test.YtopnfjgkgoeleaaRq
import Derived.Test.YtopnfjgkgoeleaaKb
import Derived.Laws.AppendOwnNone
import Derived.Laws.OwnMore
namespace Go.Proofs.Ytopnfjgkgoeleaa
open Go.RowKit
set_option linter.unusedVariables false
def Rn.cl (e : Rn) : List Value := [.int .i64 e.k, .int .i64 e.a, .int .i64 e.n]
def Rn.cs (e : Rn) : Array Value := #[.int .i64 e.k, .int .i64 e.a, .int .i64 e.n]
/-- All of it are 64 bits. -/
def Rn.i6 (e : Rn) : Prop := (-9223372036854775808 ≤ e.k ∧ e.k ≤ 9223372036854775807) ∧ (-9223372036854775808 ≤ e.a ∧ e.a ≤ 9223372036854775807) ∧ (-9223372036854775808 ≤ e.n ∧ e.n ≤ 9223372036854775807)
theorem Mayr.i6 {e : Rn} (h : Mayr e) : e.i6 := by unfold Mayr at h; unfold Rn.i6; omega
/-- A block that holds one. -/
def Rn.B (w : World) (g : Nat) (e : Rn) : Prop := St 46 w g e.cs
theorem Try.isz46 : (Try.prog.info? 46).map (·.size) = some 3 := by kernel_rfl
theorem Rn.B.load {w : World} {g : Nat} {e : Rn} (s : Rn.B w g e) : (loadVar 46 ⟨g, 0, none⟩).run Try.prog w = .ok (.agg e.cs) w :=
  run_loadVar_row w g 46 46 _ (0, 0) _ s Try.underlying46 rfl (by rw [Try.isz46]; rfl)
theorem Rn.B.new (w : World) (e : Rn) : Rn.B (w.alloc (.cells e.cs 46)) w.heap.size e := St.new 46 w _
theorem Rn.B.kp {F : Nat → Prop} {w w' : World} {g : Nat} {e : Rn} (s : Rn.B w g e) (k : Kp F w w') (hf : ¬ F g) : Rn.B w' g e := St.kp s k hf
theorem Rn.B.below {w w' : World} {g b : Nat} {e : Rn} (s : Rn.B w g e) (k : Below b w w') (hg : g < b) : Rn.B w' g e := St.below s k hg
theorem Rn.B.cell {w : World} {g : Nat} {e : Rn} (s : Rn.B w g e) (i : Nat) : w.cell? ⟨g, i, none⟩ = e.cs[i]? := St.cell s i
theorem Rn.B.lt {w : World} {g : Nat} {e : Rn} (s : Rn.B w g e) : g < w.heap.size := St.lt s
theorem wp_load_r {o : Oper} {a : Act} {w : World} {K : Act → World → Prop} {Q : Exit → Act → World → Prop} (x : Operand) (ho : o.op = .load 46 x) (g : Nat) (hx : a.eval x = .pointer (some ⟨g, 0, none⟩)) {e : Rn} (s : Rn.B w g e)
    (hk : K (a.put o.dst (.agg e.cs)) w) : o.wp Try.prog a w K Q := wp_load_row 46 x ho g hx 46 e.cs (0, 0) _ s Try.underlying46 rfl (by rw [Try.isz46]; rfl) hk
theorem wpList_load_r {ops : Array Oper} {rest : List Oper} {o : Oper} {a : Act} {w : World} {Q : Exit → Act → World → Prop} (hgd : o.guard = none) (x : Operand) (ho : o.op = .load 46 x) (g : Nat) (hx : a.eval x = .pointer (some ⟨g, 0, none⟩)) {e : Rn} (s : Rn.B w g e)
    (hk : wpList Try.prog ops Q rest (a.put o.dst (.agg e.cs)) w) : wpList Try.prog ops Q (o :: rest) a w := wpList_plain hgd fun _ hK => wp_load_r x ho g hx s (hK _ _ hk)
theorem Rn.one (e : Rn) : e.cs.all (·.oneCell') = true := by simp [Rn.cs, Value.oneCell']
theorem kp_setRowr (w : World) (g : Nat) (cs : Array Value) : Kp (fun i => i = g) w (w.setRow g cs) := Kp.of_grown (grown_setRow g cs) (fun i e => by cases e; rfl)
/-- One is stored whole. -/
theorem wpList_store_r {ops : Array Oper} {rest : List Oper} {o : Oper} {a : Act} {w : World} {Q : Exit → Act → World → Prop} (hgd : o.guard = none) (x y : Operand) (ho : o.op = .store 46 x y) (g : Nat) (hx : a.eval x = .pointer (some ⟨g, 0, none⟩)) {e e' : Rn} (hy : a.eval y = .agg e'.cs) (s : Rn.B w g e)
    (hk : ∀ w', Rn.B w' g e' → Kp (fun i => i = g) w w' → wpList Try.prog ops Q rest (a.put o.dst undef) w') : wpList Try.prog ops Q (o :: rest) a w :=
  wpList_store_row hgd 46 x y ho g e'.cs hx hy 46 e.cs s (by rw [Try.isz46]; rfl) rfl (Rn.one e') (hk _ (setRow_heap w g _ _ 46 _ s) (kp_setRowr w g _))
def Rn.eq (x y : Rn) : Bool := x.k == y.k && (x.a == y.a && x.n == y.n)
theorem Rn.eq_self (e : Rn) : Rn.eq e e = true := by simp [Rn.eq]
theorem Rn.eq_eq {x y : Rn} (h : Rn.eq x y = true) : x = y := by
  simp only [Rn.eq, Bool.and_eq_true, beq_iff_eq] at h
  exact Rn.ext' h.1 h.2.1 h.2.2
theorem Rn.eq_ne {x y : Rn} (h : x ≠ y) : Rn.eq x y = false := by
  cases hq : Rn.eq x y with
  | false => rfl
  | true => exact absurd (Rn.eq_eq hq) h
set_option maxHeartbeats 1000000 in
theorem exec_eq_r {o : Oper} {a : Act} {w : World} {x y : Operand} {h k : Rn} (ho : o.op = .binOp .eql 46 x y 46) (hx : a.eval x = .agg h.cs) (hy : a.eval y = .agg k.cs) :
    (execOp a.eval o).run Try.prog w = .ok (.value (.bool (Rn.eq h k))) w := by
  obtain ⟨b0, b1, b2⟩ := h
  obtain ⟨c0, c1, c2⟩ := k
  unfold execOp
  simp only [ho, hx, hy, Rn.cs]
  clear ho hx hy
  go_simp
  unfold Rn.eq
  dsimp only
  by_cases e0 : b0 = c0
  case neg => simp [e0]
  subst e0
  by_cases e1 : b1 = c1
  case neg => simp [e1]
  subst e1
  by_cases e2 : b2 = c2
  case neg => simp [e2]
  subst e2
  simp
theorem wp_eq_r {o : Oper} {a : Act} {w : World} {K : Act → World → Prop} {Q : Exit → Act → World → Prop} (x y : Operand) (ho : o.op = .binOp .eql 46 x y 46) {h k : Rn} (hx : a.eval x = .agg h.cs) (hy : a.eval y = .agg k.cs) {b : Bool} (hb : Rn.eq h k = b)
    (hk : K (a.put o.dst (.bool b)) w) : o.wp Try.prog a w K Q := by
  unfold Oper.wp
  rw [exec_eq_r ho hx hy, hb]
  exact hk
theorem wpList_eq_r {ops : Array Oper} {rest : List Oper} {o : Oper} {a : Act} {w : World} {Q : Exit → Act → World → Prop} (hgd : o.guard = none) (x y : Operand) (ho : o.op = .binOp .eql 46 x y 46) {h k : Rn} (hx : a.eval x = .agg h.cs) (hy : a.eval y = .agg k.cs) {b : Bool} (hb : Rn.eq h k = b)
    (hk : wpList Try.prog ops Q rest (a.put o.dst (.bool b)) w) : wpList Try.prog ops Q (o :: rest) a w := wpList_plain hgd fun _ hK => wp_eq_r x y ho hx hy hb (hK _ _ hk)

/-- Rows of them: what lies there. -/
def flr (l : List Rn) : List Value := l.flatMap Rn.cl
theorem flr_len (l : List Rn) : (flr l).length = l.length * 3 := by
  induction l with
  | nil => rfl
  | cons t l ih => simp only [flr, List.flatMap_cons, List.length_append, List.length_cons] at ih ⊢; rw [ih]; simp only [Rn.cl, List.length_cons, List.length_nil]; omega
theorem flr_append (l m : List Rn) : flr (l ++ m) = flr l ++ flr m := by simp [flr]
theorem flr_get (l : List Rn) (i j : Nat) (hi : i < l.length) (hj : j < 3) : (flr l)[i * 3 + j]? = (l.getD i zRn).cl[j]? := by
  induction l generalizing i with
  | nil => simp at hi
  | cons t l ih =>
    have hl : t.cl.length = 3 := rfl
    rw [show flr (t :: l) = t.cl ++ flr l by simp [flr]]
    cases i with
    | zero => rw [List.getElem?_append_left (by rw [hl]; omega)]; simp
    | succ i =>
      rw [List.getElem?_append_right (by rw [hl]; omega), hl, show (i + 1) * 3 + j - 3 = i * 3 + j by omega, ih i (by simpa using hi)]
      simp
theorem flr_one (l : List Rn) : ∀ u ∈ flr l, u.oneCell' = true := by
  intro u hu
  obtain ⟨t, _, h⟩ := List.mem_flatMap.1 hu
  simp only [Rn.cl, List.mem_cons, List.not_mem_nil, or_false] at h
  rcases h with rfl | rfl | rfl <;> rfl
/-- Where a row is read. -/
def Srcr (w : World) (ao : Option Addr) (l : List Rn) : Prop := 0 < l.length → ∃ b off, ao = some ⟨b, off, none⟩ ∧ b < w.heap.size ∧ ∀ j u, (flr l)[j]? = some u → w.cell? ⟨b, off + j, none⟩ = some u
theorem Srcr.nil (w : World) (ao : Option Addr) : Srcr w ao [] := fun h => absurd h (by simp)
theorem Srcr.kp {F : Nat → Prop} {w w' : World} {ao : Option Addr} {l : List Rn} (h : Srcr w ao l) (k : Kp F w w') (hf : ∀ b off, ao = some ⟨b, off, none⟩ → b < w.heap.size → ¬ F b) : Srcr w' ao l := by
  intro hp
  obtain ⟨b, off, rfl, hb, hc⟩ := h hp
  exact ⟨b, off, rfl, Nat.lt_of_lt_of_le hb k.size, fun j u hu => kp_cell k (hc j u hu) (hf b off rfl hb)⟩
theorem Srcr.below {w w' : World} {ao : Option Addr} {l : List Rn} (h : Srcr w ao l) (k : Below w.heap.size w w') : Srcr w' ao l := h.kp (F := fun i => w.heap.size ≤ i) ⟨k.os, k.tape, k.output, k.size, fun i hi _ => k.block i hi⟩ (fun b off _ h => by omega)
theorem Srcr.at {w : World} {ao : Option Addr} {l : List Rn} (h : Srcr w ao l) {i : Nat} (hi : i < l.length) : ∃ b off, ao = some ⟨b, off, none⟩ ∧ b < w.heap.size ∧ w.cell? ⟨b, off + i * 3, none⟩ = some (.int .i64 (l.getD i zRn).k) ∧ w.cell? ⟨b, off + i * 3 + 1, none⟩ = some (.int .i64 (l.getD i zRn).a) ∧ w.cell? ⟨b, off + i * 3 + 2, none⟩ = some (.int .i64 (l.getD i zRn).n) := by
  obtain ⟨b, off, rfl, hb, hc⟩ := h (by omega)
  refine ⟨b, off, rfl, hb, ?_⟩
  have g := fun j hj => flr_get l i j hi hj
  refine ⟨?_, ?_, ?_⟩
  · exact hc (i * 3) _ (g 0 (by omega))
  · rw [Nat.add_assoc]; exact hc (i * 3 + 1) _ (g 1 (by omega))
  · rw [Nat.add_assoc]; exact hc (i * 3 + 2) _ (g 2 (by omega))
theorem Try.inf46 : (Try.prog.info? 46).map (fun i => (i.zero, i.size, i.bytes)) = some (some (.agg #[.int .i64 0, .int .i64 0, .int .i64 0]), 3, 24) := by kernel_rfl
/-- A row of one's own. -/
def Ownr (w : World) (base : Nat) (v : Value) (l : List Rn) : Prop := w.ownsRow base 46 3 v l.length (flr l)
theorem Ownr.nil (w : World) (base : Nat) : Ownr w base (.slice none 0 0) [] := World.ownsRow_nil w base 46 3
theorem Ownr.src {w : World} {base : Nat} {v : Value} {l : List Rn} (h : Ownr w base v l) : ∃ ao cap, v = .slice ao l.length cap ∧ Srcr w ao l ∧ l.length ≤ cap ∧ cap ≤ maxLen ∧ (ao = none → cap = 0) := by
  rcases h.2 with ⟨rfl, h0⟩ | ⟨g, cap, cur, rfl, hb, hc, h1, h2, h3, h4⟩
  · rw [h0]
    refine ⟨none, 0, rfl, fun hp => by omega, Nat.zero_le _, by unfold maxLen; omega, fun _ => rfl⟩
  · refine ⟨some ⟨g, 0, none⟩, cap, rfl, fun hp => ⟨g, 0, rfl, ?_, ?_⟩, h1, h2, fun e => by cases e⟩
    · exact (Array.getElem?_eq_some_iff.1 hc).1
    · intro j u hu
      rw [cell_of_row w g (0 + j) _ 46 _ hc, Nat.zero_add]
      have hj : j < (flr l).length := (List.getElem?_eq_some_iff.1 hu).1
      rw [← hu, ← h4, List.getElem?_take_of_lt (by rw [flr_len] at hj; omega), Array.getElem?_toList]
theorem Srcr.news {w : World} {ao : Option Addr} {l : List Rn} (h : Srcr w ao l) : ∀ ad, ao = some ad → ∀ j u, (flr l)[j]? = some u → w.cell? (ad.add j) = some u := by
  rintro ad rfl j u hu
  have hj : j < (flr l).length := (List.getElem?_eq_some_iff.1 hu).1
  rw [flr_len] at hj
  obtain ⟨b, off, e, _, hc⟩ := h (by omega)
  cases e
  rw [add_o]
  exact hc j u hu
theorem Srcr.pre {w : World} {ao : Option Addr} {l m : List Rn} (h : Srcr w ao (l ++ m)) : Srcr w ao l := by
  intro hp
  obtain ⟨b, off, e, hb, hc⟩ := h (by simp; omega)
  refine ⟨b, off, e, hb, fun j u hu => hc j u ?_⟩
  rw [flr_append, List.getElem?_append_left (List.getElem?_eq_some_iff.1 hu).1]
  exact hu
theorem Srcr.post {w : World} {b off : Nat} {l m : List Rn} (h : Srcr w (some ⟨b, off, none⟩) (l ++ m)) : Srcr w (some ⟨b, off + l.length * 3, none⟩) m := by
  intro hp
  obtain ⟨b', off', e, hb, hc⟩ := h (by simp; omega)
  cases e
  refine ⟨_, _, rfl, hb, fun j u hu => ?_⟩
  rw [Nat.add_assoc]
  refine hc _ u ?_
  rw [flr_append, List.getElem?_append_right (by rw [flr_len]; omega), flr_len]
  simpa using hu
theorem Srcr.take {w : World} {ao : Option Addr} {l : List Rn} (h : Srcr w ao l) (k : Nat) : Srcr w ao (l.take k) := by
  rw [← List.take_append_drop k l] at h
  exact h.pre
theorem Srcr.drop {w : World} {b off : Nat} {l : List Rn} (h : Srcr w (some ⟨b, off, none⟩) l) (k : Nat) (hk : k ≤ l.length) : Srcr w (some ⟨b, off + k * 3, none⟩) (l.drop k) := by
  have h2 := h
  rw [← List.take_append_drop k l] at h2
  have := h2.post
  rwa [List.length_take, Nat.min_eq_left hk] at this
end Go.Proofs.Ytopnfjgkgoeleaa
