import Derived.Test.YtnccklbnncaeoaaGreatJaa
import Derived.Test.YtnccklbnncaeoaaGreatJab
import Derived.Test.YtnccklbnncaeoaaGreatRows
import Derived.BigQuiet
/- Small contracts of store. -/
namespace Go.Proofs.YtnccklbnncaeoaaGreat
open Go.RowKit

/-- No store: nil, or a zero one. -/
def Nos (w : World) (v : Value) : Prop := v = .pointer none ∨ ∃ g, v = .pointer (some ⟨g, 0, none⟩) ∧ w.cell? ⟨g, 0, none⟩ = some (.map none)
theorem Nos.below {w w' : World} {v : Value} (h : Nos w v) (hb : Below w.heap.size w w') : Nos w' v := by
  rcases h with h | ⟨g, h1, h2⟩
  · exact .inl h
  · exact .inr ⟨g, h1, (hb.cell (block_lt_of_cell h2)).trans h2⟩
set_option maxRecDepth 100000 in
set_option maxHeartbeats 400000 in
theorem none_nos (v : Value) (w : World) (h : Nos w v) : Calls Tryz.prog 78 #[v] w fun e w' => e = .returned (.bool true) ∧ w' = w := by
  rcases h with rfl | ⟨g, rfl, hc⟩
  · go_enter Tryz.func78, Tryz.ntmps78
    go_wp2
    go_ret
    exact ⟨rfl, rfl⟩
  · have he : ∀ w : World, (binOp .eql 156 (.map none) (.map none)).run Tryz.prog w = .ok (.bool true) w := fun _ => rfl
    go_enter Tryz.func78, Tryz.ntmps78
    go_wp2
    go_ret
    exact ⟨rfl, rfl⟩
set_option maxRecDepth 100000 in
set_option maxHeartbeats 400000 in
theorem none_live (g m : Nat) (w : World) (hc : w.cell? ⟨g, 0, none⟩ = some (.map (some m))) : Calls Tryz.prog 78 #[.pointer (some ⟨g, 0, none⟩)] w fun e w' => e = .returned (.bool false) ∧ w' = w := by
  have he : ∀ w : World, (binOp .eql 156 (.map (some m)) (.map none)).run Tryz.prog w = .ok (.bool false) w := fun _ => rfl
  go_enter Tryz.func78, Tryz.ntmps78
  go_wp2
  go_ret
  exact ⟨rfl, rfl⟩
set_option maxRecDepth 100000 in
set_option maxHeartbeats 400000 in
theorem came_any (k n : Int) (w : World) : Calls Tryz.prog 90 #[.agg #[.int .i64 k, .int .i64 n]] w fun e w' => e = .returned (.int .i64 (if k = 1 then 5 else if k = 2 then 6 else 0)) ∧ Below w.heap.size w w' := by
  by_cases h1 : k = 1
  · subst h1
    go_enter Tryz.func90, Tryz.ntmps90
    go_wp2
    go_ret
    exact ⟨rfl, (Below.refl _ _).alloc (Nat.le_refl _) _⟩
  · have b1 : (k == 1) = false := beq_eq_false_iff_ne.2 h1
    by_cases h2 : k = 2
    · subst h2
      go_enter Tryz.func90, Tryz.ntmps90
      go_wp2
      go_ret
      exact ⟨rfl, (Below.refl _ _).alloc (Nat.le_refl _) _⟩
    · have b2 : (k == 2) = false := beq_eq_false_iff_ne.2 h2
      rw [if_neg h1, if_neg h2]
      go_enter Tryz.func90, Tryz.ntmps90
      go_wp2
      go_ret
      exact ⟨rfl, (Below.refl _ _).alloc (Nat.le_refl _) _⟩
set_option maxRecDepth 100000 in
set_option maxHeartbeats 400000 in
theorem kept_any (k n m : Int) (w : World) : Calls Tryz.prog 149 #[.agg #[.int .i64 k, .int .i64 n], .int .i64 m] w fun e w' => e = .returned (.int .i64 (if k = 0 then m else min (max n 0) m)) ∧ Below w.heap.size w w' := by
  by_cases h1 : k = 0
  · subst h1
    go_enter Tryz.func149, Tryz.ntmps149
    go_wp2
    go_ret
    exact ⟨rfl, (Below.refl _ _).alloc (Nat.le_refl _) _⟩
  · have b1 : (k == 0) = false := beq_eq_false_iff_ne.2 h1
    rw [if_neg h1]
    go_enter Tryz.func149, Tryz.ntmps149
    go_wp2
    all_goals
      go_ret
      exact ⟨ret_int (by omega), (Below.refl _ _).alloc (Nat.le_refl _) _⟩
set_option maxRecDepth 100000 in
set_option maxHeartbeats 400000 in
theorem ofNoKind_any (k n : Int) (w : World) : Calls Tryz.prog 93 #[.agg #[.int .i64 k, .int .i64 n]] w fun e w' => e = .returned (.bool (decide (k < 0 ∨ 2 < k))) ∧ Below w.heap.size w w' := by
  by_cases h1 : k < 0
  · go_enter Tryz.func93, Tryz.ntmps93
    go_wp2
    go_ret
    exact ⟨ret_bool (by simp [h1]), (Below.refl _ _).alloc (Nat.le_refl _) _⟩
  · by_cases h2 : 2 < k
    · go_enter Tryz.func93, Tryz.ntmps93
      go_wp2
      go_ret
      exact ⟨ret_bool (by simp), (Below.refl _ _).alloc (Nat.le_refl _) _⟩
    · go_enter Tryz.func93, Tryz.ntmps93
      go_wp2
      go_ret
      exact ⟨ret_bool (by simp; omega), (Below.refl _ _).alloc (Nat.le_refl _) _⟩
set_option maxRecDepth 100000 in
set_option maxHeartbeats 400000 in
theorem end_any (p : Int) (ao : Option Addr) (n c : Nat) (w : World) (h0 : 0 ≤ p) (h1 : p + n ≤ 4000000000000000000) : Calls Tryz.prog 179 #[.agg #[.int .i64 p, .slice ao n c]] w fun e w' => e = .returned (.int .i64 (p + n)) ∧ w' = w.alloc (.cells #[.int .i64 p, .slice ao n c] 215) := by
  go_enter Tryz.func179, Tryz.ntmps179
  go_wp2
  go_ret
  exact ⟨rfl, rfl⟩
set_option maxRecDepth 100000 in
set_option maxHeartbeats 400000 in
theorem cuts_any (p n : Int) (w : World) : Calls Tryz.prog 128 #[.int .i64 p, .int .i64 n] w fun e w' => e = .returned (.func (.func 162) #[] #[.pointer (some ⟨w.heap.size, 0, none⟩), .pointer (some ⟨w.heap.size + 1, 0, none⟩)]) ∧ w' = (w.alloc (.cells #[.int .i64 p] 2)).alloc (.cells #[.int .i64 n] 3) := by
  go_enter Tryz.func128, Tryz.ntmps128
  go_wp2
  go_ret
  exact ⟨rfl, rfl⟩
set_option maxRecDepth 100000 in
set_option maxHeartbeats 400000 in
theorem newFile_any (w : World) : Calls Tryz.prog 89 #[] w fun e w' => e = .returned (.pointer (some ⟨w.heap.size + 2, 0, none⟩)) ∧ w' = ((w.alloc (.map #[] 0)).alloc (.map #[] 0)).alloc (.cells #[.int .i64 0, .map (some w.heap.size), .map (some (w.heap.size + 1)), .slice none 0 0] 164) := by
  have hmm := @run_makeMap Tryz.prog
  go_enter Tryz.func89, Tryz.ntmps89
  go_wp2
  go_ret
  exact ⟨rfl, rfl⟩
end Go.Proofs.YtnccklbnncaeoaaGreat
