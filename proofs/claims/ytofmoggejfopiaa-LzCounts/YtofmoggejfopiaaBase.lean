/- Small contracts of lz, and what a struct in memory is. -/
import Derived.Test.YtofmoggejfopiaaRows
import Derived.Test.YtofmoggejfopiaaGen
import Derived.Test.YtofmoggejfopiaaLz
namespace Go.Proofs.Ytofmoggejfopiaa
open Go.RowKit

/-- A struct's cells. -/
def St (t : TypeId) (w : World) (g : Nat) (cs : Array Value) : Prop := w.heap[g]? = some (.cells cs t (0, 0))
theorem St.cell {t : TypeId} {w : World} {g : Nat} {cs : Array Value} (h : St t w g cs) (i : Nat) : w.cell? ⟨g, i, none⟩ = cs[i]? := cell_of_row w g i _ t _ h
theorem St.frozen {t : TypeId} {w : World} {g : Nat} {cs : Array Value} (h : St t w g cs) (i : Nat) : w.frozen? ⟨g, i, none⟩ = false := frozen_of_row w g i _ t h
theorem St.lt {t : TypeId} {w : World} {g : Nat} {cs : Array Value} (h : St t w g cs) : g < w.heap.size := (Array.getElem?_eq_some_iff.1 h).1
theorem St.set {t : TypeId} {w : World} {g : Nat} {cs : Array Value} (h : St t w g cs) (i : Nat) (v : Value) : St t (w.setCell ⟨g, i, none⟩ v) g (cs.set! i v) := by
  unfold St
  rw [heap_setCell_same w g i _ t _ h]; simp
theorem St.kp {t : TypeId} {F : Nat → Prop} {w w' : World} {g : Nat} {cs : Array Value} (h : St t w g cs) (k : Kp F w w') (hf : ¬ F g) : St t w' g cs := by
  unfold St; rw [k.block g h.lt hf]; exact h
theorem St.below {t : TypeId} {w w' : World} {g B : Nat} {cs : Array Value} (h : St t w g cs) (k : Below B w w') (hg : g < B) : St t w' g cs := by
  unfold St; rw [k.block g hg]; exact h
theorem St.new (t : TypeId) (w : World) (cs : Array Value) : St t (w.alloc (.cells cs t)) w.heap.size cs := heap_alloc_new w _
theorem kp_setCell (w : World) (g i : Nat) (v : Value) (F : Nat → Prop) (hF : F g) : Kp F w (w.setCell ⟨g, i, none⟩ v) :=
  ⟨rfl, rfl, rfl, by simp, fun k _ hk => heap_setCell_other w ⟨g, i, none⟩ k v (fun e => hk (by rw [e]; exact hF))⟩
theorem drewN_kp (F : Nat → Prop) (w : World) (n : Nat) : Kp F w (w.drewN n) := by
  induction n generalizing w with
  | zero => exact Kp.refl _ _
  | succ n ih => exact (ih w).drew
theorem wrap_nat (a : Nat) (h : a ≤ 4000000000000000000) : IntKind.i64.wrap (a : Int) = (a : Int) := by rw [IntKind.wrap_i64]; omega

/-- What a value of links tells. -/
def LkV (w : World) (N : Nat) (bv : Value) (L : Nat → Nat) : Prop :=
  (bv = .slice none 0 0 ∧ ∀ q, L q = 1) ∨ ∃ B c, bv = .slice (some ⟨B, 0, none⟩) (N - 2) c ∧ ∀ q, q + 3 ≤ N → w.cell? ⟨B, q, none⟩ = some (.int .u16 (L q : Int)) ∧ L q ≤ 32768
theorem LkV.below {w w' : World} {N : Nat} {bv : Value} {L : Nat → Nat} (h : LkV w N bv L) (hb : Below w.heap.size w w') : LkV w' N bv L := by
  rcases h with h | ⟨B, c, h1, h2⟩
  · exact .inl h
  · refine .inr ⟨B, c, h1, fun q hq => ⟨?_, (h2 q hq).2⟩⟩
    rw [← (h2 q hq).1]
    exact hb.cell (block_lt_of_cell (h2 q hq).1)
theorem LkV.kp {F : Nat → Prop} {w w' : World} {N : Nat} {bv : Value} {L : Nat → Nat} (h : LkV w N bv L) (k : Kp F w w') (hf : ∀ B, bv.ownBlock = some B → ¬ F B) : LkV w' N bv L := by
  rcases h with h | ⟨B, c, rfl, h2⟩
  · exact .inl h
  · refine .inr ⟨B, c, rfl, fun q hq => ⟨?_, (h2 q hq).2⟩⟩
    rw [← (h2 q hq).1]
    have hb := k.block B (block_lt_of_cell (h2 q hq).1) (hf B (by simp [Value.ownBlock]))
    unfold World.cell?
    simp only [hb]
set_option maxRecDepth 100000 in
set_option maxHeartbeats 400000 in
theorem link_any (ao : Option Addr) (n c N : Nat) (bv : Value) (L : Nat → Nat) (q : Nat) (w : World) (hN : N ≤ 1000000000) (h : LkV w N bv L) (hq : q + 3 ≤ N) :
    Calls Try.prog 51 #[.agg #[.slice ao n c, bv], .int .i64 (q : Int)] w fun e w' => e = .returned (.int .i64 (L q : Int)) ∧ Below w.heap.size w w' := by
  rcases h with ⟨rfl, h⟩ | ⟨B, cb, rfl, h⟩
  · rw [h q]
    have he : ∀ w : World, (binOp .eql 69 (.slice none 0 0) (.slice none 0 0)).run Try.prog w = .ok (.bool true) w := fun _ => rfl
    go_enter Try.func51, Try.ntmps51
    go_wp2
    go_ret
    exact ⟨rfl, (Below.refl _ _).alloc (Nat.le_refl _) _⟩
  · obtain ⟨h1, h2⟩ := h q hq
    have hlt := block_lt_of_cell h1
    have h4 : q < N - 2 := by omega
    obtain ⟨x, hx⟩ : ∃ x, x = L q := ⟨_, rfl⟩
    rw [← hx] at h1 h2 ⊢
    have h3 : IntKind.i64.wrap (x : Int) = (x : Int) := wrap_nat _ (by omega)
    clear h hx
    have h5 : N - 2 ≤ 1000000000 := by omega
    obtain ⟨M, hM⟩ : ∃ M, M = N - 2 := ⟨_, rfl⟩
    rw [← hM] at h4 h5 ⊢
    clear hM
    have he : ∀ w : World, (binOp .eql 69 (.slice (some ⟨B, 0, none⟩) M cb) (.slice none 0 0)).run Try.prog w = .ok (.bool false) w := fun _ => rfl
    go_enter Try.func51, Try.ntmps51
    go_wp2
    go_ret
    exact ⟨rfl, (Below.refl _ _).alloc (Nat.le_refl _) _⟩
set_option maxRecDepth 100000 in
set_option maxHeartbeats 400000 in
theorem size_any (y l d : Int) (w : World) : Calls Try.prog 39 #[.agg #[.int .u8 y, .int .i64 l, .int .i64 d]] w fun e w' => e = .returned (.int .i64 (max 1 l)) ∧ Below w.heap.size w w' := by
  go_enter Try.func39, Try.ntmps39
  go_wp2
  all_goals
    go_ret
    exact ⟨ret_int (by omega), (Below.refl _ _).alloc (Nat.le_refl _) _⟩
set_option maxRecDepth 100000 in
set_option maxHeartbeats 400000 in
theorem num_any (a : Int) (w : World) : Calls Try.prog 14 #[.int .i64 a] w fun e w' => e = .returned (.int .i64 a) ∧ w' = w := by
  go_enter Try.func14, Try.ntmps14
  go_wp2
  go_ret
  exact ⟨rfl, rfl⟩
end Go.Proofs.Ytofmoggejfopiaa
