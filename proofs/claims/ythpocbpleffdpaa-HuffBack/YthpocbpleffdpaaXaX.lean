/- The writer in memory (Wr), and the contracts of what puts bits into it. -/
import Derived.WalkKit
import Derived.Laws.CopyOwn
import Derived.WalkSpells
import Derived.WalkLawsBesides
import Derived.Deep.RegionLaw
import Derived.Test.YthpocbpleffdpaaRows
import Derived.Laws.AppendOwnNone
import Derived.Laws.MakeOwn
import Derived.Deep.LoopGhost
import Derived.BigRegion
namespace Go.Proofs.Ythpocbpleffdpaa.Bz
open Go.RowKit

def val : List Int → Int
  | [] => 0
  | b :: r => b + 256 * val r
def num (x : Int) : Nat → List Int
  | 0 => []
  | n + 1 => (x % 256) :: num (x / 256) n

/-- All are bytes. -/
def Byt (zs : List Int) : Prop := ∀ z ∈ zs, 0 ≤ z ∧ z ≤ 255

theorem Byt.take {zs : List Int} (h : Byt zs) (n : Nat) : Byt (zs.take n) := fun z hz => h z (List.mem_of_mem_take hz)
theorem Byt.drop {zs : List Int} (h : Byt zs) (n : Nat) : Byt (zs.drop n) := fun z hz => h z (List.mem_of_mem_drop hz)
theorem Byt.append {a b : List Int} (ha : Byt a) (hb : Byt b) : Byt (a ++ b) := fun z hz => (List.mem_append.1 hz).elim (ha z) (hb z)
theorem getD_lt {α : Type} (l : List α) (i : Nat) (d : α) (h : i < l.length) : l.getD i d = l[i] := by simp [List.getD, h]
theorem getD_ge {α : Type} (l : List α) (i : Nat) (d : α) (h : l.length ≤ i) : l.getD i d = d := by simp [List.getD, List.getElem?_eq_none h]
theorem Byt.get {zs : List Int} (h : Byt zs) (i : Nat) : 0 ≤ zs.getD i 0 ∧ zs.getD i 0 ≤ 255 := by
  by_cases hi : i < zs.length
  · rw [getD_lt _ _ _ hi]; exact h _ (List.getElem_mem hi)
  · rw [getD_ge _ _ _ (by omega)]; omega
theorem num_length (x : Int) (n : Nat) : (num x n).length = n := by
  induction n generalizing x with
  | zero => rfl
  | succ n ih => simp [num, ih]
theorem num_byt (x : Int) (n : Nat) : Byt (num x n) := by
  induction n generalizing x with
  | zero => intro z hz; simp [num] at hz
  | succ n ih =>
    intro z hz
    simp only [num, List.mem_cons] at hz
    rcases hz with rfl | hz
    · omega
    · exact ih _ z hz
theorem val_bound (l : List Int) (h : Byt l) : 0 ≤ val l ∧ val l < 256 ^ l.length := by
  induction l with
  | nil => simp [val]
  | cons b r ih =>
    have hb := h b (by simp)
    have hr := ih (fun z hz => h z (by simp [hz]))
    simp only [val, List.length_cons, Int.pow_succ]
    omega
theorem val_num (x : Int) (n : Nat) : val (num x n) = x % 256 ^ n := by
  induction n generalizing x with
  | zero => simp [num, val]
  | succ n ih =>
    simp only [num, val, ih]
    have hp : (0 : Int) < 256 ^ n := Int.pow_pos (by omega)
    rw [Int.pow_succ, Int.mul_comm (256 ^ n) 256]
    have h1 : x / (256 * 256 ^ n) = x / 256 / 256 ^ n := (Int.ediv_ediv_of_nonneg (by omega)).symm
    rw [Int.emod_def x (256 * 256 ^ n), h1, Int.emod_def (x / 256), Int.emod_def x 256, Int.mul_assoc, Int.mul_sub]
    omega
theorem val_num_of_lt (x : Int) (n : Nat) (h0 : 0 ≤ x) (h : x < 256 ^ n) : val (num x n) = x := by
  rw [val_num]; exact Int.emod_eq_of_lt h0 h
theorem val_drop_step (B : List Int) (j : Nat) (hj : j < B.length) : val (B.drop j) = B.getD j 0 + 256 * val (B.drop (j + 1)) := by
  rw [List.drop_eq_getElem_cons hj, getD_lt _ _ _ hj, val]
theorem pow256_8 : (256 : Int) ^ 8 = 18446744073709551616 := by decide
theorem pow256_le {m n : Nat} (h : m ≤ n) : (256 : Int) ^ m ≤ 256 ^ n := by
  induction n with
  | zero => obtain rfl : m = 0 := by omega
            exact Int.le_refl _
  | succ n ih =>
    by_cases e : m = n + 1
    · subst e; exact Int.le_refl _
    · have := ih (by omega)
      have hp : (0 : Int) < 256 ^ n := Int.pow_pos (by omega)
      rw [Int.pow_succ]; omega
theorem num_take (x : Int) (n m : Nat) (h : m ≤ n) : (num x n).take m = num x m := by
  induction m generalizing x n with
  | zero => simp [num]
  | succ m ih =>
    cases n with
    | zero => omega
    | succ n => simp [num, ih (x / 256) n (by omega)]
theorem num_snoc (x : Int) (n : Nat) : num x (n + 1) = num x n ++ [x / 256 ^ n % 256] := by
  induction n generalizing x with
  | zero => simp [num]
  | succ n ih =>
    rw [num, ih (x / 256)]
    simp only [num, List.cons_append]
    congr 3
    rw [Int.pow_succ, Int.mul_comm, Int.ediv_ediv_of_nonneg (by omega)]

theorem splice_byt {zs cs : List Int} {o : Nat} (h : Byt zs) (hc : Byt cs) : Byt (splice zs o cs) := (h.take o).append (hc.append (h.drop _))
theorem splice_read {α : Type} (zs cs : List α) (o : Nat) (h : o + cs.length ≤ zs.length) : ((splice zs o cs).drop o).take cs.length = cs := by
  unfold splice
  rw [List.drop_append_of_le_length (by simp; omega), List.drop_eq_nil_of_le (by simp; omega), List.nil_append, List.take_append_of_le_length (by omega), List.take_length]
theorem splice_map {α β : Type} (f : α → β) (zs cs : List α) (o : Nat) : (splice zs o cs).map f = splice (zs.map f) o (cs.map f) := by simp [splice, List.map_take, List.map_drop]

end Go.Proofs.Ythpocbpleffdpaa.Bz

namespace Go.Proofs.Ythpocbpleffdpaa.Bz
open Go.RowKit

/-- Block g holds just these bytes (and none of them is frozen). -/
def Rw (t : TypeId) (w : World) (g : Nat) (L : List Int) : Prop := w.heap[g]? = some (.cells (L.map (Value.int .u8)).toArray t (0, 0))

theorem Rw.cell {t : TypeId} {w : World} {g : Nat} {L : List Int} (h : Rw t w g L) (i : Nat) (hi : i < L.length) : w.cell? ⟨g, i, none⟩ = some (.int .u8 (L.getD i 0)) := by
  rw [cell_of_row w g i _ t _ h]
  simp [List.getD, hi]
theorem Rw.frozen {t : TypeId} {w : World} {g : Nat} {L : List Int} (h : Rw t w g L) (i : Nat) : w.frozen? ⟨g, i, none⟩ = false := frozen_of_row w g i _ t h
theorem Rw.lt {t : TypeId} {w : World} {g : Nat} {L : List Int} (h : Rw t w g L) : g < w.heap.size := (Array.getElem?_eq_some_iff.1 h).1
theorem Rw.set {t : TypeId} {w : World} {g : Nat} {L : List Int} (h : Rw t w g L) (i : Nat) (v : Int) : Rw t (w.setCell ⟨g, i, none⟩ (.int .u8 v)) g (L.set i v) := by
  unfold Rw
  rw [heap_setCell_same w g i _ t _ h]
  simp [List.map_set]
theorem Rw.of_block {t : TypeId} {w w' : World} {g : Nat} {L : List Int} (h : Rw t w g L) (hb : w'.heap[g]? = w.heap[g]?) : Rw t w' g L := by unfold Rw; rw [hb]; exact h
theorem Rw.below {t : TypeId} {w w' : World} {g B : Nat} {L : List Int} (h : Rw t w g L) (hb : Below B w w') (hg : g < B) : Rw t w' g L := h.of_block (hb.block g hg)
theorem Rw.grown {t : TypeId} {w w' : World} {g : Nat} {row : Option Nat} {L : List Int} (h : Rw t w g L) (hb : w.grownBy w' row) (hg : some g ≠ row) : Rw t w' g L := h.of_block (hb.block g h.lt hg)
theorem Rw.alloc {t : TypeId} {w : World} {g : Nat} {L : List Int} (h : Rw t w g L) (o : Obj) : Rw t (w.alloc o) g L := h.of_block (Below.heap_alloc w o g h.lt)
theorem Rw.drew {t : TypeId} {w : World} {g : Nat} {L : List Int} (h : Rw t w g L) : Rw t w.drew g L := h
theorem Rw.new (t : TypeId) (w : World) (L : List Int) : Rw t (w.alloc (.cells (L.map (Value.int .u8)).toArray t)) w.heap.size L := heap_alloc_new w _
theorem Rw.at {t : TypeId} {w : World} {g : Nat} {L : List Int} (h : Rw t w g L) : w.heap[g]? = some (.cells (L.map (Value.int .u8)).toArray t (0, 0)) := h
theorem Rw.of {t : TypeId} {w : World} {g : Nat} {L : List Int} (h : w.heap[g]? = some (.cells (L.map (Value.int .u8)).toArray t (0, 0))) : Rw t w g L := h
theorem Rw.cells {t : TypeId} {w : World} {g : Nat} {L : List Int} (h : Rw t w g L) : ∀ i, i < L.length → w.cell? ⟨g, 0 + i, none⟩ = some (.int .u8 (L.getD i 0)) := fun i hi => by rw [Nat.zero_add]; exact h.cell i hi

theorem add_z (g j : Nat) : (⟨g, 0, none⟩ : Addr).add j = ⟨g, j, none⟩ := by unfold Addr.add; split <;> simp_all
theorem add_o (g o j : Nat) : (⟨g, o, none⟩ : Addr).add j = ⟨g, o + j, none⟩ := by unfold Addr.add; split <;> simp_all

theorem grown_trans {a b c : World} {row : Option Nat} (h : a.grownBy b row) (k : b.grownBy c row) : a.grownBy c row :=
  ⟨k.os.trans h.os, k.tape.trans h.tape, k.output.trans h.output, Nat.le_trans h.size k.size, fun i hi hne => (k.block i (Nat.lt_of_lt_of_le hi h.size) hne).trans (h.block i hi hne)⟩
theorem grown_refl (w : World) (row : Option Nat) : w.grownBy w row := ⟨rfl, rfl, rfl, Nat.le_refl _, fun _ _ _ => rfl⟩
theorem grown_of_below {w w' : World} {row : Option Nat} (h : Below w.heap.size w w') : w.grownBy w' row := ⟨h.os, h.tape, h.output, h.size, fun k hk _ => h.block k hk⟩
theorem splice_append {α : Type} (zs tl cs : List α) (o : Nat) (h : o + cs.length ≤ zs.length) : splice (zs ++ tl) o cs = splice zs o cs ++ tl := by
  unfold splice
  rw [List.take_append_of_le_length (by omega), List.drop_append_of_le_length h]
  simp

end Go.Proofs.Ythpocbpleffdpaa.Bz

namespace Go.Proofs.Ythpocbpleffdpaa.Bz
open Go.RowKit

theorem grown_drew {a b : World} {row : Option Nat} (h : a.grownBy b row) : a.grownBy b.drew row := ⟨h.os, h.tape, h.output, h.size, h.block⟩
theorem grown_drew' {a b : World} {row : Option Nat} (h : a.drew.grownBy b row) : a.grownBy b row := ⟨h.os, h.tape, h.output, h.size, h.block⟩
theorem grown_alloc {a b : World} {row : Option Nat} (h : a.grownBy b row) (o : Obj) : a.grownBy (b.alloc o) row := grown_trans h (World.grownBy_alloc b o row)
theorem grown_setRow {w : World} (g : Nat) (cs : Array Value) : w.grownBy (w.setRow g cs) (some g) :=
  ⟨rfl, rfl, rfl, by simp, fun k _ hk => setRow_other w g k cs (fun e => hk (by rw [e]))⟩
theorem grown_setRow_new {a b : World} {row : Option Nat} (h : a.grownBy b row) (g : Nat) (hg : a.heap.size ≤ g) (cs : Array Value) : a.grownBy (b.setRow g cs) row :=
  ⟨h.os, h.tape, h.output, by simpa using h.size, fun k hk hne => (setRow_other b g k cs (by omega)).trans (h.block k hk hne)⟩
theorem below_of_grown {a b : World} {row : Option Nat} (h : a.grownBy b row) (B : Nat) (hB : B ≤ a.heap.size) (hr : ∀ k, row = some k → B ≤ k) : Below B a b := (Below.refl B a).grown h hB hr

theorem Rw.setRow {t : TypeId} {w : World} {g : Nat} {L : List Int} (h : Rw t w g L) (M : List Int) : Rw t (w.setRow g (M.map (Value.int .u8)).toArray) g M := setRow_heap w g _ _ t _ h
theorem Rw.setRow_other {t : TypeId} {w : World} {g k : Nat} {L : List Int} (h : Rw t w g L) (cs : Array Value) (hne : g ≠ k) : Rw t (w.setRow k cs) g L := h.of_block (Go.setRow_other w k g cs hne)

theorem srcs {w : World} {ad : Addr} {cs : List Int} (hsrc : ∀ j, j < cs.length → w.cell? (ad.add j) = some (.int .u8 (cs.getD j 0))) : ∀ j v, (cs.map (Value.int .u8))[j]? = some v → w.cell? (ad.add j) = some v := by
  intro j v hv
  have hj : j < cs.length := by
    have := (List.getElem?_eq_some_iff.1 hv).1
    simpa using this
  rw [hsrc j hj]
  simp [hj] at hv
  simp [List.getD, hj, hv]
theorem ones (cs : List Int) : ∀ v ∈ cs.map (Value.int .u8), v.oneCell' = true := by
  intro v hv
  obtain ⟨n, _, rfl⟩ := List.mem_map.1 hv
  rfl

theorem run_copy_rw {P : Program} (w : World) (dT sT ty elem : TypeId) (g o dLen dCap : Nat) (a : Addr) (sLen sCap : Nat) (L cs : List Int) (t : TypeId)
    (hu : P.underlying dT = some (.slice elem)) (hs : (P.info? elem).map (·.size) = some 1)
    (hg : Rw t w g L) (hn : cs.length = Nat.min sLen dLen) (hsrc : ∀ j, j < cs.length → w.cell? (a.add j) = some (.int .u8 (cs.getD j 0))) (hfit : o + cs.length ≤ L.length) :
    (Builtin.copy_ #[dT, sT] ty #[.slice (some ⟨g, o, none⟩) dLen dCap, .slice (some a) sLen sCap]).run P w =
      .ok (goInt cs.length) (w.setRow g ((splice L o cs).map (Value.int .u8)).toArray) := by
  have h := run_copy_row (P := P) w dT sT ty elem g o dLen dCap a sLen sCap _ t (cs.map (Value.int .u8)) hu hs hg (by simpa using hn) (srcs hsrc) (by simpa using hfit) (ones cs)
  rw [h]
  simp [splice, List.map_take, List.map_drop]

/-- copy as one step of a region that draws its order. -/
theorem step_copy_rw {P : Program} {ops : Array Oper} {o : Oper} {a : Act} {w : World} {K : Act → World → Prop} {Q : Exit → Act → World → Prop} {E : Prop} (hgd : o.guard = none) (d s : Operand) (dT sT : TypeId)
    (ho : o.op = .call { callee := .builtin .copy, args := #[d, s], argTypes := #[dT, sT] }) (elem : TypeId) (hu : P.underlying dT = some (.slice elem)) (hsz : (P.info? elem).map (·.size) = some 1)
    (g off dLen dCap : Nat) (ad : Addr) (sLen sCap : Nat) (hd : a.eval d = .slice (some ⟨g, off, none⟩) dLen dCap) (hs : a.eval s = .slice (some ad) sLen sCap)
    (t : TypeId) (L cs : List Int) (hg : Rw t w g L) (hn : cs.length = Nat.min sLen dLen) (hsrc : ∀ j, j < cs.length → w.cell? (ad.add j) = some (.int .u8 (cs.getD j 0))) (hfit : off + cs.length ≤ L.length)
    (h : ∀ w', Rw t w' g (splice L off cs) → w.grownBy w' (some g) → K (a.put o.dst (goInt cs.length)) w') :
    if Region.wanted o (yielded ops a.tmps) = true then Oper.wp P o a w K Q else E := by
  have hw : Region.wanted o (yielded ops a.tmps) = true := by simp [Region.wanted, hgd]
  rw [if_pos hw]
  have hrun := run_copy_rw (P := P) w dT sT o.type elem g off dLen dCap ad sLen sCap L cs t hu hsz hg hn hsrc hfit
  unfold Oper.wp
  simp [execOp, ho, resolve, invoke, builtin, hd, hs, hrun, Result.andThen]
  exact h _ (hg.setRow _) (grown_setRow _ _)

/-- copy as one step of a list of operations; nothing may go over, and then no address is asked. -/
theorem wpList_copy_rw {P : Program} {w : World} {ops : Array Oper} {rest : List Oper} {o : Oper} {a : Act} {Q : Exit → Act → World → Prop} (hgd : o.guard = none) (d s : Operand) (dT sT : TypeId)
    (ho : o.op = .call { callee := .builtin .copy, args := #[d, s], argTypes := #[dT, sT] }) (elem : TypeId) (hu : P.underlying dT = some (.slice elem)) (hsz : (P.info? elem).map (·.size) = some 1)
    (dp sp : Option Addr) (dLen dCap sLen sCap : Nat) (hd : a.eval d = .slice dp dLen dCap) (hs : a.eval s = .slice sp sLen sCap)
    (g off : Nat) (t : TypeId) (L cs : List Int) (hg : Rw t w g L) (hn : cs.length = Nat.min sLen dLen)
    (hpos : 0 < cs.length → dp = some ⟨g, off, none⟩ ∧ ∃ ad, sp = some ad ∧ ∀ j, j < cs.length → w.cell? (ad.add j) = some (.int .u8 (cs.getD j 0)))
    (hfit : off + cs.length ≤ L.length)
    (h : ∀ w', Rw t w' g (splice L off cs) → w.grownBy w' (some g) → wpList P ops Q rest (a.put o.dst (goInt cs.length)) w') :
    wpList P ops Q (o :: rest) a w := by
  by_cases h0 : cs.length = 0
  · obtain rfl : cs = [] := List.eq_nil_of_length_eq_zero h0
    refine wpList_copy_nothing hgd d s dT sT ho elem hu hsz dp sp dLen dCap sLen sCap hd hs (by simpa using hn.symm) ?_
    exact h w (by simpa [splice] using hg) (grown_refl _ _)
  · obtain ⟨rfl, ad, rfl, hsrc⟩ := hpos (by omega)
    refine wpList_plain hgd fun K hK => ?_
    have hrun := run_copy_rw (P := P) w dT sT o.type elem g off dLen dCap ad sLen sCap L cs t hu hsz hg hn hsrc hfit
    unfold Oper.wp
    simp [execOp, ho, resolve, invoke, builtin, hd, hs, hrun, Result.andThen]
    exact hK _ _ (h _ (hg.setRow _) (grown_setRow _ _))

theorem run_convert_rw {P : Program} (w : World) (src dst e : TypeId) (hs : P.underlying src = some (.slice e)) (he : P.underlying e = some (.int .u8)) (hd : P.underlying dst = some .string)
    (ao : Option Addr) (len cap : Nat) (xs : List Int) (hlen : xs.length = len) (hpos : 0 < len → ∃ b off, ao = some ⟨b, off, none⟩ ∧ ∀ i, i < len → w.cell? ⟨b, off + i, none⟩ = some (.int .u8 (xs.getD i 0))) :
    (convert src dst (.slice ao len cap)).run P w = .ok (.string (strOfNums xs)) w := by
  by_cases h0 : len = 0
  · subst h0
    obtain rfl : xs = [] := List.eq_nil_of_length_eq_zero hlen
    cases ao with
    | none => rw [run_convert_bytes_nil w src e hs he 0 cap dst hd]; rfl
    | some a =>
      rw [run_convert_bytes_string w src dst e _ 0 cap hs he hd, run_bytesToString w a 0 cap [] (by simp [loadCells, loadCellsFrom])]
      rfl
  · obtain ⟨b, off, rfl, hc⟩ := hpos (by omega)
    exact run_convert_bytes_arg w src e hs he b off len cap xs hlen hc dst hd

/-- 'string(b)' as one step. -/
theorem wpList_convert_rw {P : Program} {w : World} {ops : Array Oper} {rest : List Oper} {o : Oper} {a : Act} {Q : Exit → Act → World → Prop} (hgd : o.guard = none) (x : Operand) (src dst e : TypeId)
    (ho : o.op = .convert src dst x) (hs : P.underlying src = some (.slice e)) (he : P.underlying e = some (.int .u8)) (hd : P.underlying dst = some .string)
    (ao : Option Addr) (len cap : Nat) (hx : a.eval x = .slice ao len cap) (xs : List Int) (hlen : xs.length = len) (hpos : 0 < len → ∃ b off, ao = some ⟨b, off, none⟩ ∧ ∀ i, i < len → w.cell? ⟨b, off + i, none⟩ = some (.int .u8 (xs.getD i 0)))
    (h : wpList P ops Q rest (a.put o.dst (.string (strOfNums xs))) w) : wpList P ops Q (o :: rest) a w := by
  refine wpList_plain hgd fun K hK => ?_
  have hrun := run_convert_rw (P := P) w src dst e hs he hd ao len cap xs hlen hpos
  unfold Oper.wp
  simp only [execOp, ho, hx, hrun, Sem.run_bind, Sem.run_pure, Result.andThen_ok]
  exact hK _ _ h

/-- A whole array stored into its block: the world behind it under a name. -/
theorem wpList_store_arr {P : Program} {ops : Array Oper} {rest : List Oper} {o : Oper} {a : Act} {w : World} {Q : Exit → Act → World → Prop} (hgd : o.guard = none) (ty : TypeId) (x y : Operand) (ho : o.op = .store ty x y)
    (g : Nat) (cells : Array Value) (hx : a.eval x = .pointer (some ⟨g, 0, none⟩)) (hy : a.eval y = .agg cells)
    (t : TypeId) (old : Array Value) (hg : w.heap[g]? = some (.cells old t (0, 0))) (hi : (P.info? ty).map (·.size) = some cells.size)
    (hold : old.size = cells.size) (h1 : cells.all (·.oneCell') = true)
    (h : ∀ w', Hid (w'.heap[g]? = some (.cells cells t (0, 0))) → w.grownBy w' (some g) → wpList P ops Q rest (a.put o.dst undef) w') : wpList P ops Q (o :: rest) a w :=
  wpList_store_row hgd ty x y ho g cells hx hy t old hg hi hold h1 (h _ (setRow_heap w g _ _ t _ hg) (grown_setRow _ _))

end Go.Proofs.Ythpocbpleffdpaa.Bz

namespace Go.Proofs.Ythpocbpleffdpaa.Bz
open Go.RowKit

/-- The lowest n digits of x, base b, the lowest first. -/
def dig (b x n : Nat) : List Int := (List.range n).map fun i => ((x / b ^ i % b : Nat) : Int)
/-- The number that digits say, the lowest first. -/
def und (b : Nat) : List Int → Nat
  | [] => 0
  | z :: r => z.toNat + b * und b r

theorem dig_length (b x n : Nat) : (dig b x n).length = n := by simp [dig]
theorem dig_zero (b x : Nat) : dig b x 0 = [] := rfl
theorem dig_get (b x n i : Nat) (h : i < n) : (dig b x n).getD i 0 = ((x / b ^ i % b : Nat) : Int) := by simp [dig, List.getD, h]
theorem dig_add (b x m n : Nat) : dig b x (m + n) = dig b x m ++ dig b (x / b ^ m) n := by
  unfold dig
  rw [List.range_add, List.map_append, List.map_map]
  congr 1
  apply List.map_congr_left
  intro i _
  simp only [Function.comp, Nat.pow_add, Nat.div_div_eq_div_mul]
theorem dig_snoc (b x n : Nat) : dig b x (n + 1) = dig b x n ++ [((x / b ^ n % b : Nat) : Int)] := by
  rw [dig_add]; simp [dig]
theorem dig_cons (b x n : Nat) : dig b x (n + 1) = ((x % b : Nat) : Int) :: dig b (x / b) n := by
  rw [Nat.add_comm, dig_add]; simp [dig]
theorem dig_take (b x n m : Nat) (h : m ≤ n) : (dig b x n).take m = dig b x m := by
  obtain ⟨k, rfl⟩ := Nat.exists_eq_add_of_le h
  rw [dig_add, List.take_append_of_le_length (by rw [dig_length]; omega), List.take_of_length_le (by rw [dig_length]; omega)]
theorem dig_drop (b x n m : Nat) (h : m ≤ n) : (dig b x n).drop m = dig b (x / b ^ m) (n - m) := by
  obtain ⟨k, rfl⟩ := Nat.exists_eq_add_of_le h
  rw [dig_add, List.drop_append_of_le_length (by rw [dig_length]; omega), List.drop_of_length_le (by rw [dig_length]; omega), List.nil_append, Nat.add_sub_cancel_left]
theorem div_mod_pow (b x m i : Nat) (h : i < m) : x % b ^ m / b ^ i % b = x / b ^ i % b := by
  obtain ⟨k, rfl⟩ : ∃ k, m = i + (k + 1) := ⟨m - i - 1, by omega⟩
  rw [Nat.pow_add, Nat.mod_mul_right_div_self, Nat.pow_succ', Nat.mod_mul_right_mod]
theorem dig_mod (b x m n : Nat) (h : n ≤ m) : dig b (x % b ^ m) n = dig b x n := by
  unfold dig
  apply List.map_congr_left
  intro i hi
  rw [div_mod_pow b x m i (by have := List.mem_range.1 hi; omega)]
theorem dig_join (b x y m n : Nat) (hb : 0 < b) (h : x < b ^ m) : dig b (x + y * b ^ m) (m + n) = dig b x m ++ dig b y n := by
  have hp : 0 < b ^ m := Nat.pow_pos hb
  rw [dig_add]
  congr 1
  · rw [← dig_mod b (x + y * b ^ m) m m (Nat.le_refl _), Nat.add_mul_mod_self_right, dig_mod b x m m (Nat.le_refl _)]
  · rw [Nat.add_mul_div_right _ _ hp, Nat.div_eq_of_lt h, Nat.zero_add]
theorem und_append (b : Nat) (l r : List Int) : und b (l ++ r) = und b l + b ^ l.length * und b r := by
  induction l with
  | nil => simp [und]
  | cons z l ih => simp only [List.cons_append, und, ih, List.length_cons, Nat.pow_succ, Nat.mul_add]; rw [← Nat.mul_assoc, Nat.mul_comm b (b ^ l.length)]; omega
theorem und_dig (b x n : Nat) : und b (dig b x n) = x % b ^ n := by
  induction n generalizing x with
  | zero => simp [dig, und, Nat.mod_one]
  | succ n ih =>
    rw [dig_cons, und, ih, Int.toNat_natCast, Nat.pow_succ', Nat.mod_mul]
theorem und_lt (b : Nat) (l : List Int) (h : ∀ z ∈ l, 0 ≤ z ∧ z < (b : Int)) : und b l < b ^ l.length := by
  induction l with
  | nil => simp [und]
  | cons z l ih =>
    have h1 := h z (by simp)
    have h2 := ih (fun y hy => h y (by simp [hy]))
    simp only [und, List.length_cons, Nat.pow_succ']
    have h3 : b * und b l + b ≤ b * b ^ l.length := by
      rw [← Nat.mul_succ]; exact Nat.mul_le_mul_left b h2
    omega
theorem dig_und (b : Nat) (l : List Int) (h : ∀ z ∈ l, 0 ≤ z ∧ z < (b : Int)) : dig b (und b l) l.length = l := by
  induction l with
  | nil => rfl
  | cons z l ih =>
    have h1 := h z (by simp)
    have hb : 0 < b := by omega
    have h2 := ih (fun y hy => h y (by simp [hy]))
    rw [List.length_cons, dig_cons, und]
    have e1 : (z.toNat + b * und b l) % b = z.toNat := by rw [Nat.add_mul_mod_self_left]; exact Nat.mod_eq_of_lt (by omega)
    have e2 : (z.toNat + b * und b l) / b = und b l := by rw [Nat.add_mul_div_left _ _ hb, Nat.div_eq_of_lt (by omega), Nat.zero_add]
    rw [e1, e2, h2, Int.toNat_of_nonneg h1.1]
theorem dig_range (b x n : Nat) (hb : 0 < b) : ∀ z ∈ dig b x n, 0 ≤ z ∧ z < (b : Int) := by
  intro z hz
  obtain ⟨i, _, rfl⟩ := List.mem_map.1 hz
  have := Nat.mod_lt (x / b ^ i) hb
  omega
theorem dig_byt (x n : Nat) : Byt (dig 256 x n) := by
  intro z hz
  have := dig_range 256 x n (by omega) z hz
  omega
theorem byt_range {l : List Int} (h : Byt l) : ∀ z ∈ l, 0 ≤ z ∧ z < ((256 : Nat) : Int) := by
  intro z hz
  have := h z hz
  omega
theorem pow_256 (k : Nat) : 256 ^ k = 2 ^ (8 * k) := by rw [Nat.pow_mul]

/-- The lowest n bits in the other order. -/
def turn (x : Nat) : Nat → Nat
  | 0 => 0
  | n + 1 => x / 2 ^ n % 2 + 2 * turn x n
theorem turn_lt (x n : Nat) : turn x n < 2 ^ n := by
  induction n with
  | zero => simp [turn]
  | succ n ih => simp only [turn, Nat.pow_succ]; omega
theorem turn_bit (x n i : Nat) : (turn x n).testBit i = (decide (i < n) && x.testBit (n - 1 - i)) := by
  induction n generalizing i with
  | zero => simp [turn]
  | succ n ih =>
    cases i with
    | zero =>
      rw [Nat.testBit_zero]
      simp only [turn, Nat.add_mul_mod_self_left, Nat.mod_mod, Nat.testBit_eq_decide_div_mod_eq]
      simp
    | succ i =>
      rw [Nat.testBit_succ, show turn x (n + 1) / 2 = turn x n by simp only [turn]; omega, ih]
      rw [show n + 1 - 1 - (i + 1) = n - 1 - i by omega]
      simp
theorem turn_und (x n : Nat) : und 2 (dig 2 x n).reverse = turn x n := by
  induction n with
  | zero => rfl
  | succ n ih =>
    rw [dig_snoc, List.reverse_append, List.reverse_singleton, List.singleton_append, und, ih, turn, Int.toNat_natCast]
theorem turn_turn (x n : Nat) : turn (turn x n) n = x % 2 ^ n := by
  apply Nat.eq_of_testBit_eq
  intro i
  rw [turn_bit, turn_bit, Nat.testBit_mod_two_pow]
  by_cases h : i < n
  · simp [h, show n - 1 - i < n by omega, show n - 1 - (n - 1 - i) = i by omega]
  · simp [h]

/-- Neighbours of s bits exchanged, by a mask. -/
def sw (s m x : Nat) : Nat := ((x >>> s) &&& m) ||| ((x &&& m) <<< s)
def pl (s m i : Nat) : Nat := if m.testBit i then s + i else i - s
theorem sw_bit (s m x : Nat) (hA : ∀ i < 64, m.testBit i = true → s ≤ i → m.testBit (i - s) = false) (hB : ∀ i < 64, m.testBit i = false → s ≤ i ∧ m.testBit (i - s) = true) (i : Nat) (hi : i < 64) :
    (sw s m x).testBit i = x.testBit (pl s m i) := by
  unfold sw pl
  rw [Nat.testBit_or, Nat.testBit_and, Nat.testBit_shiftRight, Nat.testBit_shiftLeft, Nat.testBit_and]
  by_cases h : m.testBit i = true
  · rw [if_pos h, h]
    by_cases hs : s ≤ i
    · rw [hA i hi h hs]; simp
    · simp [hs]
  · have h' : m.testBit i = false := by simpa using h
    obtain ⟨h1, h2⟩ := hB i hi h'
    rw [if_neg h, h', h2]; simp [h1]
theorem sw_lt (s m x : Nat) (h : m <<< s < 2 ^ 64) : sw s m x < 2 ^ 64 := by
  unfold sw
  rw [Nat.shiftLeft_eq] at h
  have hm : m < 2 ^ 64 := Nat.lt_of_le_of_lt (Nat.le_mul_of_pos_right _ (Nat.pow_pos (by omega))) h
  apply Nat.or_lt_two_pow
  · exact Nat.and_lt_two_pow _ hm
  · rw [Nat.shiftLeft_eq]
    exact Nat.lt_of_le_of_lt (Nat.mul_le_mul_right _ Nat.and_le_right) h

def rev (x : Nat) : Nat :=
  let y := sw 16 281470681808895 (sw 8 71777214294589695 (sw 4 1085102592571150095 (sw 2 3689348814741910323 (sw 1 6148914691236517205 x))))
  (y >>> 32) ||| (y * 2 ^ 32 % 2 ^ 64)
theorem end_bit (y : Nat) (hy : y < 2 ^ 64) (i : Nat) (hi : i < 64) : ((y >>> 32) ||| (y * 2 ^ 32 % 2 ^ 64)).testBit i = y.testBit (if i < 32 then 32 + i else i - 32) := by
  rw [Nat.testBit_or, Nat.testBit_shiftRight, Nat.testBit_mod_two_pow, ← Nat.shiftLeft_eq, Nat.testBit_shiftLeft]
  by_cases h : i < 32
  · simp [h, show ¬ 32 ≤ i by omega]
  · have : y.testBit (32 + i) = false := Nat.testBit_lt_two_pow (Nat.lt_of_lt_of_le hy (Nat.pow_le_pow_right (by omega) (by omega)))
    simp [h, this, hi, show 32 ≤ i by omega]
theorem rev_bit (x i : Nat) (hi : i < 64) : (rev x).testBit i = x.testBit (63 - i) := by
  unfold rev
  simp only []
  have p0 : ∀ i < 64, (if i < 32 then 32 + i else i - 32) < 64 := by intro i h; split <;> omega
  have q16 : ∀ i < 64, pl 16 281470681808895 i < 64 := by decide +kernel
  have q8 : ∀ i < 64, pl 8 71777214294589695 i < 64 := by decide +kernel
  have q4 : ∀ i < 64, pl 4 1085102592571150095 i < 64 := by decide +kernel
  have q2 : ∀ i < 64, pl 2 3689348814741910323 i < 64 := by decide +kernel
  have all : ∀ i < 64, pl 1 6148914691236517205 (pl 2 3689348814741910323 (pl 4 1085102592571150095 (pl 8 71777214294589695 (pl 16 281470681808895 (if i < 32 then 32 + i else i - 32))))) = 63 - i := by decide +kernel
  rw [end_bit _ (sw_lt _ _ _ (by decide)) i hi]
  rw [sw_bit 16 _ _ (by decide +kernel) (by decide +kernel) _ (p0 i hi)]
  rw [sw_bit 8 _ _ (by decide +kernel) (by decide +kernel) _ (q16 _ (p0 i hi))]
  rw [sw_bit 4 _ _ (by decide +kernel) (by decide +kernel) _ (q8 _ (q16 _ (p0 i hi)))]
  rw [sw_bit 2 _ _ (by decide +kernel) (by decide +kernel) _ (q4 _ (q8 _ (q16 _ (p0 i hi))))]
  rw [sw_bit 1 _ _ (by decide +kernel) (by decide +kernel) _ (q2 _ (q4 _ (q8 _ (q16 _ (p0 i hi)))))]
  rw [all i hi]
theorem rev_lt (x : Nat) : rev x < 2 ^ 64 := by
  unfold rev
  simp only []
  apply Nat.or_lt_two_pow
  · rw [Nat.shiftRight_eq_div_pow]
    exact Nat.lt_of_le_of_lt (Nat.div_le_self _ _) (sw_lt _ _ _ (by decide))
  · exact Nat.mod_lt _ (by decide)
theorem rev_turn (x n : Nat) (h : n ≤ 64) : rev x / 2 ^ (64 - n) = turn x n := by
  apply Nat.eq_of_testBit_eq
  intro i
  rw [← Nat.shiftRight_eq_div_pow, Nat.testBit_shiftRight, turn_bit]
  by_cases hi : i < n
  · rw [rev_bit x _ (by omega)]
    simp [hi, show 63 - (64 - n + i) = n - 1 - i by omega]
  · have : (rev x).testBit (64 - n + i) = false := Nat.testBit_lt_two_pow (Nat.lt_of_lt_of_le (rev_lt x) (Nat.pow_le_pow_right (by omega) (by omega)))
    simp [hi, this]

end Go.Proofs.Ythpocbpleffdpaa.Bz

namespace Go.Proofs.Ythpocbpleffdpaa.Bz
open Go.RowKit

theorem Try.info5 : (Try.prog.info? 5).map (fun i => (i.zero, i.size, i.bytes)) = some (some (.int .u8 0), 1, 1) := by kernel_rfl
theorem info5 : (Try.prog.info? 5).map (·.size) = some 1 := by kernel_rfl
theorem ret_bool {a b : Bool} (h : a = b) : Ending.returned (.bool a) = .returned (.bool b) := by rw [h]
theorem ret_int {k : IntKind} {a b : Int} (h : a = b) : Ending.returned (.int k a) = .returned (.int k b) := by rw [h]

/-- The bytes that lie at an address (asked only where there are any). -/
def Src (w : World) (ao : Option Addr) (zs : List Int) : Prop := 0 < zs.length → ∃ b off, ao = some ⟨b, off, none⟩ ∧ ∀ i, i < zs.length → w.cell? ⟨b, off + i, none⟩ = some (.int .u8 (zs.getD i 0))
/-- A slice that reads as these bytes. -/
def Str (w : World) (v : Value) (xs : List Int) : Prop := ∃ ao cap, v = .slice ao xs.length cap ∧ Src w ao xs

theorem Src.below {w w' : World} {ao : Option Addr} {zs : List Int} (h : Src w ao zs) (hb : Below w.heap.size w w') : Src w' ao zs := by
  intro hp
  obtain ⟨b, off, e, hc⟩ := h hp
  refine ⟨b, off, e, fun i hi => ?_⟩
  have hci := hc i hi
  have hlt := block_lt_of_cell hci
  rw [← hci]
  exact hb.cell hlt
theorem Src.nil (w : World) (ao : Option Addr) : Src w ao [] := fun h => absurd h (by simp)
theorem Src.at {w : World} {b off : Nat} {zs : List Int} (h : Src w (some ⟨b, off, none⟩) zs) : ∀ i, i < zs.length → w.cell? ⟨b, off + i, none⟩ = some (.int .u8 (zs.getD i 0)) := by
  intro i hi
  obtain ⟨b', off', e, hc⟩ := h (by omega)
  cases e
  exact hc i hi
theorem Src.mk {w : World} {b off : Nat} {zs : List Int} (h : ∀ i, i < zs.length → w.cell? ⟨b, off + i, none⟩ = some (.int .u8 (zs.getD i 0))) : Src w (some ⟨b, off, none⟩) zs := fun _ => ⟨b, off, rfl, h⟩
theorem Src.take {w : World} {b off : Nat} {zs : List Int} (h : Src w (some ⟨b, off, none⟩) zs) (n : Nat) : Src w (some ⟨b, off, none⟩) (zs.take n) := by
  refine Src.mk fun i hi => ?_
  have hi2 : i < n ∧ i < zs.length := by simp at hi; omega
  rw [h.at i hi2.2]
  simp [List.getD, hi2.1]
theorem Src.drop {w : World} {b off : Nat} {zs : List Int} (h : Src w (some ⟨b, off, none⟩) zs) (n : Nat) : Src w (some ⟨b, off + n, none⟩) (zs.drop n) := by
  refine Src.mk fun i hi => ?_
  have hi2 : n + i < zs.length := by simp at hi; omega
  rw [Nat.add_assoc, h.at (n + i) hi2]
  simp [List.getD]

/-- A slice of the call's own, the bytes that it holds, and bytes behind them up to its capacity. -/
def OwnI (w : World) (base : Nat) (v : Value) (xs : List Int) : Prop :=
  (v = .slice none 0 0 ∧ xs = []) ∨ ∃ g cap tl, v = .slice (some ⟨g, 0, none⟩) xs.length cap ∧ base ≤ g ∧ Rw 5 w g (xs ++ tl) ∧ (xs ++ tl).length = cap ∧ cap ≤ maxLen

theorem OwnI.lt {w : World} {base : Nat} {v : Value} {xs : List Int} (h : OwnI w base v xs) : ∀ k, v.ownBlock = some k → base ≤ k ∧ k < w.heap.size := by
  intro k hk
  rcases h with ⟨rfl, _⟩ | ⟨g, cap, tl, rfl, hb, hr, _⟩
  · simp [Value.ownBlock] at hk
  · simp [Value.ownBlock] at hk
    subst hk
    exact ⟨hb, hr.lt⟩
theorem OwnI.nil (w : World) (base : Nat) : OwnI w base (.slice none 0 0) [] := .inl ⟨rfl, rfl⟩
theorem OwnI.kept {w w' : World} {base : Nat} {v : Value} {xs : List Int} {row : Option Nat} (h : OwnI w base v xs) (hg : w.grownBy w' row) (hne : v.ownBlock = none ∨ v.ownBlock ≠ row) : OwnI w' base v xs := by
  rcases h with ⟨rfl, h2⟩ | ⟨g, cap, tl, rfl, hb, hr, h3, h4⟩
  · exact .inl ⟨rfl, h2⟩
  · exact .inr ⟨g, cap, tl, rfl, hb, hr.grown hg (by simpa [Value.ownBlock] using hne), h3, h4⟩
theorem OwnI.below {w w' : World} {base : Nat} {v : Value} {xs : List Int} (h : OwnI w base v xs) (hb : Below w.heap.size w w') : OwnI w' base v xs :=
  h.kept (grown_of_below (row := none) hb) (by cases hv : v.ownBlock <;> simp)
theorem OwnI.str {w : World} {base : Nat} {v : Value} {xs : List Int} (h : OwnI w base v xs) : Str w v xs := by
  rcases h with ⟨rfl, rfl⟩ | ⟨g, cap, tl, rfl, hb, hr, h3, h4⟩
  · exact ⟨none, 0, rfl, Src.nil _ _⟩
  · refine ⟨_, cap, rfl, Src.mk fun i hi => ?_⟩
    rw [Nat.zero_add, hr.cell i (by simp; omega)]
    simp [List.getD, List.getElem?_append_left hi]

theorem zero_cells (n : Nat) : (Builtin.zeroCells #[.int .u8 0] n).toList = (List.replicate n (0 : Int)).map (Value.int .u8) := by
  apply List.ext_getElem?
  intro i
  by_cases hi : i < n
  · simp [Builtin.zeroCells, hi, Nat.mod_one]
  · simp [Builtin.zeroCells, hi]

theorem arr_rest (xs : List Int) (k : Nat) : ((xs.map (Value.int .u8)).toArray ++ Builtin.zeroCells #[.int .u8 0] k) = ((xs ++ List.replicate k 0).map (Value.int .u8)).toArray := by
  apply Array.ext'
  rw [Array.toList_append, zero_cells]
  simp

theorem run_append_rw {P : Program} (w : World) (base : Nat) (t ty : TypeId) (i : TypeInfo) (ht : P.underlying t = some (.slice 5)) (hi : P.info? 5 = some i) (hz : i.zero = some (.int .u8 0)) (hsize : i.size = 1) (hby : i.bytes = 1)
    (v : Value) (xs : List Int) (hown : OwnI w base v xs) (ao : Option Addr) (c : Nat) (news : List Int) (hn : ao = none → c = 0) (hsrc : Src w ao news)
    (hb : xs.length + news.length ≤ 140737488355328) (hbase : base ≤ w.heap.size) :
    ∃ v' w', (Builtin.append_ #[t, t] ty #[v, .slice ao news.length c]).run P w = .ok v' w' ∧ OwnI w' base v' (xs ++ news) ∧ w.grownBy w' v.ownBlock ∧ ∀ b, v'.ownBlock = some b → v.ownBlock = some b ∨ w.heap.size ≤ b := by
  have hsz : (P.info? 5).map (·.size) = some 1 := by rw [hi]; simp [hsize]
  cases ao with
  | none =>
    have hz0 : news.length = 0 := by
      by_cases h0 : 0 < news.length
      · obtain ⟨b, off, e, _⟩ := hsrc h0; cases e
      · omega
    obtain rfl : news = [] := List.eq_nil_of_length_eq_zero hz0
    obtain rfl : c = 0 := hn rfl
    refine ⟨v, w, ?_, by simpa using hown, grown_refl _ _, fun b hb => .inl hb⟩
    rcases hown with ⟨rfl, rfl⟩ | ⟨g, cap, tl, rfl, hbg, hr, h3, h4⟩
    · simp [Builtin.append_, run_underlying ht, sizeOf, typeInfo, hi, Builtin.lenOf, Builtin.firstCells]
    · have : xs.length ≤ cap := by rw [← h3]; simp
      simp [Builtin.append_, run_underlying ht, sizeOf, typeInfo, hi, Builtin.lenOf, Builtin.firstCells, this, storeCells]
  | some ad =>
    have hnews : ∀ j u, (news.map (Value.int .u8))[j]? = some u → w.cell? (ad.add j) = some u := srcs (by
      intro j hj
      obtain ⟨b, off, e, hc⟩ := hsrc (by omega)
      cases e
      rw [add_o]
      exact hc j hj)
    rcases hown with ⟨rfl, rfl⟩ | ⟨g, cap, tl, rfl, hbg, hr, h3, h4⟩
    · by_cases hm : news.length = 0
      · obtain rfl : news = [] := List.eq_nil_of_length_eq_zero hm
        refine ⟨.slice none 0 0, w, ?_, OwnI.nil _ _, grown_refl _ _, fun b hb => by simp [Value.ownBlock] at hb⟩
        simp [Builtin.append_, run_underlying ht, sizeOf, typeInfo, hi, Builtin.lenOf, Builtin.firstCells, loadCells, loadCellsFrom]
      · have hr := run_append_nil (P := P) w t ty 5 i (.int .u8 0) ht hi hz ad news.length c (news.map (Value.int .u8)) (by simp [hsize]) hnews (by omega) (by omega) (by rw [hby]; simp at hb; omega)
        have hge := grownCap_ge w news.length 0 5
        refine ⟨_, _, hr, .inr ⟨w.heap.size, grownCap w news.length 0 5, List.replicate (grownCap w news.length 0 5 - news.length) 0, by simp, hbase, ?_, by simp; omega, grownCap_le_maxLen w news.length 0 5 (by unfold maxLen; simp at hb; omega)⟩, ⟨rfl, rfl, rfl, by simp, fun k hk _ => Below.heap_alloc w.drew _ k hk⟩, fun b hb => .inr (by simp [Value.ownBlock] at hb; omega)⟩
        show (w.drew.alloc _).heap[w.heap.size]? = _
        rw [show w.heap.size = w.drew.heap.size from rfl, heap_alloc_new, show (Value.int IntKind.u8 0).cells = #[.int .u8 0] from rfl, arr_rest]
        rfl
    · by_cases hroom : xs.length + news.length ≤ cap
      · have hfit : xs.length * i.size + (news.map (Value.int .u8)).length ≤ ((xs ++ tl).map (Value.int .u8)).toArray.size := by simp [hsize]; simp at h3; omega
        have hrun := run_append_room (P := P) w t ty 5 i ht hi g xs.length cap _ hr ad news.length c (news.map (Value.int .u8)) (by simp [hsize]) hnews (ones _) hroom hfit
        refine ⟨_, _, hrun, .inr ⟨g, cap, tl.drop news.length, by simp, hbg, ?_, by simp at h3 ⊢; omega, h4⟩, ⟨rfl, rfl, rfl, by simp, fun k _ hk => setRow_other w g k _ (fun e => hk (by simp [Value.ownBlock, e]))⟩, fun b hb => .inl (by simpa [Value.ownBlock] using hb)⟩
        unfold Rw
        rw [setRow_heap w g _ _ 5 _ hr]
        congr 2
        simp [hsize, List.drop_append]
      · have holds : ∀ j u, (xs.map (Value.int .u8))[j]? = some u → w.cell? ((⟨g, 0, none⟩ : Addr).add j) = some u := srcs (by
          intro j hj
          rw [add_z, hr.cell j (by simp; omega)]
          simp [List.getD, List.getElem?_append_left hj])
        have hrun := run_append_grow (P := P) w t ty 5 i (.int .u8 0) ht hi hz ⟨g, 0, none⟩ xs.length cap (xs.map (Value.int .u8)) (by simp [hsize]) holds ad news.length c (news.map (Value.int .u8)) (by simp [hsize]) hnews (by omega) (by omega) (growslice_fits (by omega) (by rw [hby]; omega))
        have hge := grownCap_ge w (xs.length + news.length) cap 5
        refine ⟨_, _, hrun, .inr ⟨w.heap.size, grownCap w (xs.length + news.length) cap 5, List.replicate (grownCap w (xs.length + news.length) cap 5 - (xs.length + news.length)) 0, by simp, hbase, ?_, by simp; omega, grownCap_le_maxLen w _ cap 5 (by unfold maxLen; omega)⟩, ⟨rfl, rfl, rfl, by simp, fun k hk _ => Below.heap_alloc w.drew _ k hk⟩, fun b hb => .inr (by simp [Value.ownBlock] at hb; omega)⟩
        show (w.drew.alloc _).heap[w.heap.size]? = _
        rw [show w.heap.size = w.drew.heap.size from rfl, heap_alloc_new, show (Value.int IntKind.u8 0).cells = #[.int .u8 0] from rfl, show (List.map (Value.int IntKind.u8) xs).toArray ++ (List.map (Value.int IntKind.u8) news).toArray = (List.map (Value.int IntKind.u8) (xs ++ news)).toArray from by simp, arr_rest]

/-- append of bytes onto a row of one's own that is known whole, as one step. -/
theorem wpList_append_i {w : World} {ops : Array Oper} {rest : List Oper} {o : Oper} {a : Act} {Q : Exit → Act → World → Prop} (hgd : o.guard = none) (s x : Operand)
    (ho : o.op = .call { callee := .builtin .append, args := #[s, x], argTypes := #[50, 50] })
    (base : Nat) (v : Value) (xs : List Int) (hs : a.eval s = v) (hown : OwnI w base v xs)
    (ao : Option Addr) (m c : Nat) (news : List Int) (hx : a.eval x = .slice ao m c) (hl : news.length = m) (hn : ao = none → c = 0) (hsrc : Src w ao news)
    (hb : xs.length + news.length ≤ 140737488355328) (hbase : base ≤ w.heap.size)
    (h : ∀ v' w', OwnI w' base v' (xs ++ news) → w.grownBy w' v.ownBlock → (∀ b, v'.ownBlock = some b → v.ownBlock = some b ∨ w.heap.size ≤ b) → Below base w w' → wpList Try.prog ops Q rest (a.put o.dst v') w') : wpList Try.prog ops Q (o :: rest) a w := by
  obtain ⟨i0, hi, hz0, hz1, hz2⟩ := info_parts Try.info5
  subst hl
  have hlt := hown.lt
  refine wpList_plain hgd fun K hK => ?_
  obtain ⟨v', w', hrun, h1, h2, h3⟩ := run_append_rw (P := Try.prog) w base 50 o.type i0 Try.underlying50 hi hz0 hz1 hz2 v xs hown ao c news hn hsrc hb hbase
  unfold Oper.wp execOp
  simp only [ho, resolve, invoke, builtin, Sem.run_bind, Sem.run_pure, Result.andThen_ok, List.map_toArray, List.map_cons, List.map_nil, hs, hx, hrun]
  exact hK _ _ (h v' w' h1 h2 h3 (below_of_grown h2 _ hbase fun k hk => (hlt k hk).1))


/-- append as one step of a region that draws its order. -/
theorem step_append_i {ops : Array Oper} {o : Oper} {a : Act} {w : World} {K : Act → World → Prop} {Q : Exit → Act → World → Prop} {E : Prop} (hgd : o.guard = none) (s x : Operand)
    (ho : o.op = .call { callee := .builtin .append, args := #[s, x], argTypes := #[50, 50] })
    (base : Nat) (v : Value) (xs : List Int) (hs : a.eval s = v) (hown : OwnI w base v xs)
    (ao : Option Addr) (m c : Nat) (news : List Int) (hx : a.eval x = .slice ao m c) (hl : news.length = m) (hn : ao = none → c = 0) (hsrc : Src w ao news)
    (hb : xs.length + news.length ≤ 140737488355328) (hbase : base ≤ w.heap.size)
    (h : ∀ v' w', OwnI w' base v' (xs ++ news) → w.grownBy w' v.ownBlock → (∀ b, v'.ownBlock = some b → v.ownBlock = some b ∨ w.heap.size ≤ b) → K (a.put o.dst v') w') :
    if Region.wanted o (yielded ops a.tmps) = true then Oper.wp Try.prog o a w K Q else E := by
  have hw : Region.wanted o (yielded ops a.tmps) = true := by simp [Region.wanted, hgd]
  rw [if_pos hw]
  obtain ⟨i0, hi, hz0, hz1, hz2⟩ := info_parts Try.info5
  subst hl
  obtain ⟨v', w', hrun, h1, h2, h3⟩ := run_append_rw (P := Try.prog) w base 50 o.type i0 Try.underlying50 hi hz0 hz1 hz2 v xs hown ao c news hn hsrc hb hbase
  unfold Oper.wp execOp
  simp only [ho, resolve, invoke, builtin, Sem.run_bind, Sem.run_pure, Result.andThen_ok, List.map_toArray, List.map_cons, List.map_nil, hs, hx, hrun]
  exact h v' w' h1 h2 h3
theorem made_cells (n : Nat) : madeCells #[.int .u8 0] n = ((List.replicate n (0 : Int)).map (Value.int .u8)).toArray := by
  apply Array.ext'
  apply List.ext_getElem?
  intro i
  by_cases hi : i < n
  · simp [madeCells, hi, Nat.mod_one]
  · simp [madeCells, hi]

theorem wpList_make_rw {w : World} {ops : Array Oper} {rest : List Oper} {o : Oper} {a : Act} {Q : Exit → Act → World → Prop} (hgd : o.guard = none) (l c : Operand) (ho : o.op = Op.makeSlice 50 l c)
    (n : Nat) (hl : a.eval l = .int .i64 n) (hc : a.eval c = .int .i64 n) (hn : n ≤ 140737488355328)
    (h : ∀ w', Rw 5 w' w.heap.size (List.replicate n 0) → Below w.heap.size w w' → wpList Try.prog ops Q rest (a.put o.dst (.slice (some ⟨w.heap.size, 0, none⟩) n n)) w') : wpList Try.prog ops Q (o :: rest) a w := by
  obtain ⟨i0, hi, hz0, hz1, hz2⟩ := info_parts Try.info5
  refine wpList_plain hgd fun K hK => ?_
  have hr := run_make (P := Try.prog) w 50 5 i0 (.int .u8 0) Try.underlying50 hi hz0 .i64 .i64 n n (by omega) (Int.le_refl _) (by rw [hz2]; omega) (by omega)
  rw [hz1, Int.toNat_natCast, Nat.mul_one, show (Value.int IntKind.u8 0).cells = #[.int .u8 0] from rfl, made_cells] at hr
  unfold Oper.wp
  simp only [execOp, ho, hl, hc, hr, Sem.run_bind, Sem.run_pure, Result.andThen_ok]
  exact hK _ _ (h _ (Rw.new 5 w _) ((Below.refl _ _).alloc (Nat.le_refl _) _))


theorem cv {w : World} {ao : Option Addr} {len c : Nat} {xs : List Int} (hl : xs.length = len) (h : Src w ao xs) : (convert 50 9 (.slice ao len c)).run Try.prog w = .ok (.string (strOfNums xs)) w := by
  subst hl
  exact run_convert_rw w 50 9 5 Try.underlying50 Try.underlying5 Try.underlying9 ao _ c xs rfl h
theorem row_zs {w : World} {G : Nat} {zs tl : List Int} (h : Rw 5 w G (zs ++ tl)) : ∀ i, i < zs.length → w.cell? ⟨G, 0 + i, none⟩ = some (.int .u8 (zs.getD i 0)) := by
  intro i hi
  rw [Nat.zero_add, h.cell i (by simp; omega)]
  simp [List.getD, List.getElem?_append_left hi]
theorem row_src {w : World} {G : Nat} {zs tl : List Int} (h : Rw 5 w G (zs ++ tl)) : Src w (some ⟨G, 0, none⟩) zs := Src.mk (row_zs h)
theorem Rw.src {w : World} {G : Nat} {zs : List Int} (h : Rw 5 w G zs) : Src w (some ⟨G, 0, none⟩) zs := Src.mk h.cells

/-- All that was there is as it was, but for some blocks. -/
structure Kp (F : Nat → Prop) (w w' : World) : Prop where
  os : w'.os = w.os
  tape : w'.tape = w.tape
  output : w'.output = w.output
  size : w.heap.size ≤ w'.heap.size
  block : ∀ k, k < w.heap.size → ¬ F k → w'.heap[k]? = w.heap[k]?
theorem Kp.refl (F : Nat → Prop) (w : World) : Kp F w w := ⟨rfl, rfl, rfl, Nat.le_refl _, fun _ _ _ => rfl⟩
theorem Kp.trans {F G : Nat → Prop} {a b c : World} (h : Kp F a b) (k : Kp G b c) (hg : ∀ i, i < a.heap.size → G i → F i) : Kp F a c :=
  ⟨k.os.trans h.os, k.tape.trans h.tape, k.output.trans h.output, Nat.le_trans h.size k.size, fun i hi hf => (k.block i (Nat.lt_of_lt_of_le hi h.size) (fun x => hf (hg i hi x))).trans (h.block i hi hf)⟩
theorem Kp.mono {F G : Nat → Prop} {a b : World} (h : Kp F a b) (hg : ∀ i, i < a.heap.size → F i → G i) : Kp G a b :=
  ⟨h.os, h.tape, h.output, h.size, fun i hi hf => h.block i hi (fun x => hf (hg i hi x))⟩
theorem Kp.of_grown {F : Nat → Prop} {a b : World} {row : Option Nat} (h : a.grownBy b row) (hg : ∀ i, row = some i → F i) : Kp F a b :=
  ⟨h.os, h.tape, h.output, h.size, fun i hi hf => h.block i hi (fun e => hf (hg i e.symm))⟩
theorem Kp.of_below {F : Nat → Prop} {a b : World} (h : Below a.heap.size a b) : Kp F a b := ⟨h.os, h.tape, h.output, h.size, fun i hi _ => h.block i hi⟩
theorem Kp.below {F : Nat → Prop} {a b : World} {B : Nat} (h : Kp F a b) (hB : B ≤ a.heap.size) (hf : ∀ i, F i → B ≤ i) : Below B a b :=
  ⟨h.os, h.tape, h.output, h.size, fun i hi => h.block i (Nat.lt_of_lt_of_le hi hB) (fun x => absurd (hf i x) (by omega))⟩
theorem Kp.drew {F : Nat → Prop} {a b : World} (h : Kp F a b) : Kp F a b.drew := ⟨h.os, h.tape, h.output, h.size, h.block⟩
theorem Kp.alloc {F : Nat → Prop} {a b : World} (h : Kp F a b) (o : Obj) : Kp F a (b.alloc o) :=
  ⟨h.os, h.tape, h.output, Nat.le_trans h.size (by simp), fun i hi hf => (Below.heap_alloc b o i (Nat.lt_of_lt_of_le hi h.size)).trans (h.block i hi hf)⟩
theorem Rw.kp {t : TypeId} {F : Nat → Prop} {w w' : World} {g : Nat} {L : List Int} (h : Rw t w g L) (k : Kp F w w') (hf : ¬ F g) : Rw t w' g L := h.of_block (k.block g h.lt hf)
theorem Src.kp {F : Nat → Prop} {w w' : World} {ao : Option Addr} {zs : List Int} (h : Src w ao zs) (k : Kp F w w') (hf : ∀ b off, ao = some ⟨b, off, none⟩ → ¬ F b) : Src w' ao zs := by
  intro hp
  obtain ⟨b, off, e, hc⟩ := h hp
  refine ⟨b, off, e, fun i hi => ?_⟩
  have hci := hc i hi
  have hlt := block_lt_of_cell hci
  rw [← hci]
  have hb := k.block b hlt (hf b off e)
  unfold World.cell?
  simp only [hb]
theorem OwnI.kp {F : Nat → Prop} {w w' : World} {base : Nat} {v : Value} {xs : List Int} (h : OwnI w base v xs) (k : Kp F w w') (hf : ∀ b, v.ownBlock = some b → ¬ F b) : OwnI w' base v xs := by
  rcases h with ⟨rfl, h2⟩ | ⟨g, cap, tl, rfl, hb, hr, h3, h4⟩
  · exact .inl ⟨rfl, h2⟩
  · exact .inr ⟨g, cap, tl, rfl, hb, hr.kp k (hf g (by simp [Value.ownBlock])), h3, h4⟩
theorem OwnI.mono {w : World} {base base' : Nat} {v : Value} {xs : List Int} (h : OwnI w base v xs) (hb : base' ≤ base) : OwnI w base' v xs := by
  rcases h with ⟨rfl, h2⟩ | ⟨g, cap, tl, rfl, h1, h2⟩
  · exact .inl ⟨rfl, h2⟩
  · exact .inr ⟨g, cap, tl, rfl, by omega, h2⟩

end Go.Proofs.Ythpocbpleffdpaa.Bz

namespace Go.Proofs.Ythpocbpleffdpaa.Bz
open Go.RowKit

theorem shr_int (x s : Nat) (c : Int) (hc : c = ((2 ^ s : Nat) : Int)) : (x : Int) / c = ((x >>> s : Nat) : Int) := by
  rw [hc, Nat.shiftRight_eq_div_pow]; exact (Int.natCast_ediv x (2 ^ s)).symm
/-- One exchange of neighbours, as the walk spells it. -/
theorem sw_int (s m x : Nat) (c d : Int) (hx : x < 18446744073709551616) (hm : m <<< s < 18446744073709551616) (hc : c = ((2 ^ s : Nat) : Int)) (hd : d = (m : Int)) :
    bits .or .u64 (bits .and .u64 ((x : Int) / c) d) (IntKind.u64.wrap (bits .and .u64 (x : Int) d * c)) = ((sw s m x : Nat) : Int) := by
  have hp : 0 < 2 ^ s := Nat.pow_pos (by omega)
  have hm0 : m < 18446744073709551616 := by
    rw [Nat.shiftLeft_eq] at hm
    exact Nat.lt_of_le_of_lt (Nat.le_mul_of_pos_right _ hp) hm
  have h1 : x >>> s < 18446744073709551616 := by rw [Nat.shiftRight_eq_div_pow]; exact Nat.lt_of_le_of_lt (Nat.div_le_self _ _) hx
  have h2 : (x &&& m) <<< s < 18446744073709551616 := by
    rw [Nat.shiftLeft_eq] at hm ⊢
    exact Nat.lt_of_le_of_lt (Nat.mul_le_mul_right _ Nat.and_le_right) hm
  have h3 : x >>> s &&& m < 18446744073709551616 := Nat.lt_of_le_of_lt Nat.and_le_right hm0
  subst hd
  rw [shr_int x s c hc, u64_and_nat _ _ h1 hm0, u64_and_nat _ _ hx hm0, hc, ← Int.natCast_mul, ← Nat.shiftLeft_eq]
  unfold sw
  generalize (x &&& m) <<< s = q at h2 ⊢
  rw [IntKind.wrap_u64, Int.emod_eq_of_lt (by omega) (by omega), u64_or_nat _ _ h3 h2]
theorem end_int (y : Nat) (hy : y < 18446744073709551616) : bits .or .u64 ((y : Int) / 4294967296) (IntKind.u64.wrap ((y : Int) * 4294967296)) = ((y >>> 32 ||| (y * 2 ^ 32 % 2 ^ 64) : Nat) : Int) := by
  have h1 : y >>> 32 < 18446744073709551616 := by rw [Nat.shiftRight_eq_div_pow]; exact Nat.lt_of_le_of_lt (Nat.div_le_self _ _) hy
  have h2 : y * 2 ^ 32 % 2 ^ 64 < 18446744073709551616 := Nat.mod_lt _ (by decide)
  rw [shr_int y 32 _ (by decide), IntKind.wrap_u64, show ((y : Int) * 4294967296) % 18446744073709551616 = ((y * 2 ^ 32 % 2 ^ 64 : Nat) : Int) by omega, u64_or_nat _ _ h1 h2]

def revb (x : Nat) : Nat :=
  let y := sw 16 281470681808895 (sw 8 71777214294589695 x)
  (y >>> 32) ||| (y * 2 ^ 32 % 2 ^ 64)
theorem rev_revb (x : Nat) : rev x = revb (sw 4 1085102592571150095 (sw 2 3689348814741910323 (sw 1 6148914691236517205 x))) := rfl

set_option maxHeartbeats 400000 in
theorem revb_any (x : Nat) (w : World) (hx : x < 18446744073709551616) :
    Calls Try.prog 93 #[.int .u64 x] w fun e w' => e = .returned (.int .u64 (revb x)) ∧ w = w' := by
  have e1 := sw_int 8 71777214294589695 x 256 71777214294589695 hx (by decide) (by decide) rfl
  have e2 := sw_int 16 281470681808895 (sw 8 71777214294589695 x) 65536 281470681808895 (sw_lt _ _ _ (by decide)) (by decide) (by decide) rfl
  have e3 := end_int (sw 16 281470681808895 (sw 8 71777214294589695 x)) (sw_lt _ _ _ (by decide))
  go_enter Try.func93, Try.ntmps93
  go_wp2
  go_ret
  exact ⟨rfl, rfl⟩

set_option maxHeartbeats 400000 in
theorem rev_any (x : Nat) (w : World) (hx : x < 18446744073709551616) :
    Calls Try.prog 91 #[.int .u64 x] w fun e w' => e = .returned (.int .u64 (rev x)) ∧ w = w' := by
  have e1 := sw_int 1 6148914691236517205 x 2 6148914691236517205 hx (by decide) (by decide) rfl
  have e2 := sw_int 2 3689348814741910323 (sw 1 6148914691236517205 x) 4 3689348814741910323 (sw_lt _ _ _ (by decide)) (by decide) (by decide) rfl
  have e3 := sw_int 4 1085102592571150095 (sw 2 3689348814741910323 (sw 1 6148914691236517205 x)) 16 1085102592571150095 (sw_lt _ _ _ (by decide)) (by decide) (by decide) rfl
  go_enter Try.func91, Try.ntmps91
  go_wp2_with fail
  refine (revb_any _ _ (sw_lt _ _ _ (by decide))).mono ?_
  rintro e w' ⟨rfl, rfl⟩
  clear e1 e2 e3
  go_wp2
  go_ret
  exact ⟨rfl, rfl⟩

theorem turn_int (x m : Nat) (h : m ≤ 64) : ((rev x : Nat) : Int) / 2 ^ (64 - m) = ((turn x m : Nat) : Int) := by
  rw [← rev_turn x m h, Int.natCast_ediv, Int.natCast_pow]; rfl
set_option maxHeartbeats 400000 in
theorem turned_any (x : Nat) (n : Int) (w : World) (hx : x < 18446744073709551616) :
    Calls Try.prog 81 #[.int .u64 x, .int .i64 n] w fun e w' => e = .returned (.int .u64 (turn x (min n.toNat 64))) ∧ w = w' := by
  by_cases h0 : n < 0
  · have e : ((rev x : Nat) : Int) / 18446744073709551616 = ((turn x (min n.toNat 64) : Nat) : Int) := by
      have := rev_lt x
      rw [show min n.toNat 64 = 0 by omega]
      simp only [turn]
      omega
    go_enter Try.func81, Try.ntmps81
    go_wp2_with (go_at_call 91; refine (rev_any x _ hx).mono ?_; rintro e w' ⟨rfl, rfl⟩)
    go_ret
    exact ⟨rfl, rfl⟩
  · obtain ⟨m, rfl⟩ := Int.eq_ofNat_of_zero_le (show 0 ≤ n by omega)
    rw [Int.toNat_natCast]
    by_cases h1 : 64 < m
    · have e : Hid (((rev x : Nat) : Int) = ((turn x (min m 64) : Nat) : Int)) := by
        show _ = _
        rw [show min m 64 = 64 by omega, ← rev_turn x 64 (by omega)]; simp
      go_enter Try.func81, Try.ntmps81
      go_wp2_with (go_at_call 91; refine (rev_any x _ hx).mono ?_; rintro e w' ⟨rfl, rfl⟩)
      go_ret
      exact ⟨ret_int e.out, rfl⟩
    · have e := turn_int x m (by omega)
      rw [show min m 64 = m by omega]
      go_enter Try.func81, Try.ntmps81
      go_wp2_with (go_at_call 91; refine (rev_any x _ hx).mono ?_; rintro e w' ⟨rfl, rfl⟩)
      go_ret
      exact ⟨rfl, rfl⟩

set_option maxHeartbeats 400000 in
theorem wide_any (n : Int) (w : World) : Calls Try.prog 80 #[.int .i64 n] w fun e w' => e = .returned (.bool (decide (0 ≤ n ∧ n ≤ 57))) ∧ w = w' := by
  by_cases h : 0 ≤ n
  · go_enter Try.func80, Try.ntmps80
    go_wp2
    go_ret
    exact ⟨ret_bool (by simp [h]), rfl⟩
  · go_enter Try.func80, Try.ntmps80
    go_wp2
    go_ret
    exact ⟨ret_bool (by simp; omega), rfl⟩

theorem Src.hp {w : World} {ao : Option Addr} {xs : List Int} (h : Src w ao xs) : Hid (0 < xs.length → ∃ ad, ao = some ad ∧ ∀ j, j < xs.length → w.cell? (ad.add j) = some (.int .u8 (xs.getD j 0))) := by
  intro hp
  obtain ⟨b, off, e, hc⟩ := h hp
  exact ⟨_, e, fun j hj => by rw [add_o]; exact hc j hj⟩
set_option maxHeartbeats 400000 in
/-- kept: a copy, in memory of its own. -/
theorem kept_any (ao : Option Addr) (c : Nat) (xs : List Int) (w : World) (hl : xs.length ≤ 140737488355328) (hx : Src w ao xs) :
    Calls Try.prog 67 #[.slice ao xs.length c] w fun e w' => e = .returned (.slice (some ⟨w.heap.size, 0, none⟩) xs.length xs.length) ∧ Rw 5 w' w.heap.size xs ∧ Below w.heap.size w w' := by
  have HM : Hid (xs.length = Nat.min xs.length xs.length) := (Nat.min_self _).symm
  have HF : Hid (0 + xs.length ≤ (List.replicate xs.length (0 : Int)).length) := by show _ ≤ _; simp
  have HSP : Hid (splice (List.replicate xs.length (0 : Int)) 0 xs = xs) := by show _ = _; simp [splice]
  go_enter Try.func67, Try.ntmps67
  go_wp2_with (first | (at_make; refine wpList_make_rw rfl (.tmp 5) (.tmp 5) rfl xs.length rfl rfl hl ?_; intro w1 r1 b1; have HP := (hx.below b1).hp) | (refine wpList_copy_rw rfl (.tmp 7) (.tmp 8) 50 50 rfl 5 Try.underlying50 info5 _ _ _ _ _ _ rfl rfl w.heap.size 0 5 _ xs r1 HM.out (fun h => ⟨rfl, HP.out h⟩) HF.out ?_; intro w2 r2 g2; rw [HSP.out] at r2))
  go_ret
  exact ⟨rfl, r2, b1.trans (below_of_grown g2 _ b1.size (by intro k hk; cases hk; exact Nat.le_refl _))⟩

theorem num_any (n : Int) (w : World) : Calls Try.prog 13 #[.int .i64 n] w fun e w' => e = .returned (.int .i64 n) ∧ w = w' := by
  go_enter Try.func13, Try.ntmps13
  go_wp2
  go_ret
  exact ⟨rfl, rfl⟩

end Go.Proofs.Ythpocbpleffdpaa.Bz

namespace Go.Proofs.Ythpocbpleffdpaa.Bz
open Go.RowKit

/-- A block that holds a struct's fields. -/
def St (t : TypeId) (w : World) (g : Nat) (cs : Array Value) : Prop := w.heap[g]? = some (.cells cs t (0, 0))
theorem St.cell {t : TypeId} {w : World} {g : Nat} {cs : Array Value} (h : St t w g cs) (i : Nat) : w.cell? ⟨g, i, none⟩ = cs[i]? := cell_of_row w g i _ t _ h
theorem St.frozen {t : TypeId} {w : World} {g : Nat} {cs : Array Value} (h : St t w g cs) (i : Nat) : w.frozen? ⟨g, i, none⟩ = false := frozen_of_row w g i _ t h
theorem St.lt {t : TypeId} {w : World} {g : Nat} {cs : Array Value} (h : St t w g cs) : g < w.heap.size := (Array.getElem?_eq_some_iff.1 h).1
theorem St.set {t : TypeId} {w : World} {g : Nat} {cs : Array Value} (h : St t w g cs) (i : Nat) (v : Value) : St t (w.setCell ⟨g, i, none⟩ v) g (cs.set! i v) := by
  unfold St
  rw [heap_setCell_same w g i _ t _ h]; simp
theorem St.kp {t : TypeId} {F : Nat → Prop} {w w' : World} {g : Nat} {cs : Array Value} (h : St t w g cs) (k : Kp F w w') (hf : ¬ F g) : St t w' g cs := by
  unfold St; rw [k.block g h.lt hf]; exact h
theorem St.drew {t : TypeId} {w : World} {g : Nat} {cs : Array Value} (h : St t w g cs) : St t w.drew g cs := h
theorem kp_setCell (w : World) (g i : Nat) (v : Value) (F : Nat → Prop) (hF : F g) : Kp F w (w.setCell ⟨g, i, none⟩ v) :=
  ⟨rfl, rfl, rfl, by simp, fun k _ hk => heap_setCell_other w ⟨g, i, none⟩ k v (fun e => hk (by rw [e]; exact hF))⟩

/-- A writer behind its first k bytes: N bits that say v; 'sl' is its slice of whole bytes. -/
def WrK (w : World) (g : Nat) (sl : Value) (k N v : Nat) : Prop :=
  St 92 w g #[sl, .int .u64 ((v / 256 ^ k : Nat) : Int), .int .i64 ((N - 8 * k : Nat) : Int)] ∧ OwnI w 0 sl (dig 256 v k) ∧ sl.ownBlock ≠ some g
/-- A writer of N bits that say v. -/
def Wr (w : World) (g : Nat) (sl : Value) (N v : Nat) : Prop := v < 2 ^ N ∧ WrK w g sl (N / 8) N v

theorem or_wait (x y m n : Nat) (hy : y < 2 ^ m) (hx : x < 2 ^ n) (h : m + n ≤ 64) : bits .or .u64 (y : Int) (IntKind.u64.wrap ((x : Int) * 2 ^ m)) = ((y + x * 2 ^ m : Nat) : Int) := by
  have hp : 2 ^ m * 2 ^ n ≤ 18446744073709551616 := by
    rw [← Nat.pow_add]; exact Nat.pow_le_pow_right (n := 2) (by omega) h
  have h1 : x * 2 ^ m + 2 ^ m ≤ 2 ^ m * 2 ^ n := by
    rw [← Nat.succ_mul, Nat.mul_comm]; exact Nat.mul_le_mul_left _ hx
  have e : ((x : Int) * 2 ^ m) = ((x * 2 ^ m : Nat) : Int) := by rw [Int.natCast_mul, Int.natCast_pow]; rfl
  rw [e, IntKind.wrap_u64]
  have e2 : x * 2 ^ m ||| y = x * 2 ^ m + y := by rw [Nat.mul_comm]; exact (Nat.two_pow_add_eq_or_of_lt hy x).symm
  rw [Nat.add_comm, ← e2]
  generalize x * 2 ^ m = q at *
  rw [Int.emod_eq_of_lt (by omega) (by omega), u64_or_nat _ _ (by omega) (by omega), Nat.or_comm]
theorem put_num (v x N : Nat) : (v + x * 2 ^ N) / 256 ^ (N / 8) = v / 256 ^ (N / 8) + x * 2 ^ (N - 8 * (N / 8)) := by
  have e : x * 2 ^ N = x * 2 ^ (N - 8 * (N / 8)) * 256 ^ (N / 8) := by
    rw [pow_256, Nat.mul_assoc, ← Nat.pow_add, show N - 8 * (N / 8) + 8 * (N / 8) = N by omega]
  rw [e, Nat.add_mul_div_right _ _ (Nat.pow_pos (by omega))]
theorem put_dig (v x N : Nat) : dig 256 (v + x * 2 ^ N) (N / 8) = dig 256 v (N / 8) := by
  have e : x * 2 ^ N = x * 2 ^ (N - 8 * (N / 8)) * 256 ^ (N / 8) := by
    rw [pow_256, Nat.mul_assoc, ← Nat.pow_add, show N - 8 * (N / 8) + 8 * (N / 8) = N by omega]
  rw [← dig_mod 256 _ (N / 8) (N / 8) (Nat.le_refl _), e, Nat.add_mul_mod_self_right, dig_mod 256 v _ _ (Nat.le_refl _)]
theorem word_lt (v N : Nat) (hv : v < 2 ^ N) (k : Nat) (hk : 8 * k ≤ N) : v / 256 ^ k < 2 ^ (N - 8 * k) := by
  rw [Nat.div_lt_iff_lt_mul (Nat.pow_pos (by omega)), pow_256, ← Nat.pow_add, show N - 8 * k + 8 * k = N by omega]; exact hv
theorem OwnI.alloc {w : World} {base : Nat} {v : Value} {xs : List Int} (h : OwnI w base v xs) (o : Obj) : OwnI (w.alloc o) base v xs := h.kp ((Kp.refl (fun _ => False) w).alloc o) (fun _ _ e => e)
theorem OwnI.drew {w : World} {base : Nat} {v : Value} {xs : List Int} (h : OwnI w base v xs) : OwnI w.drew base v xs := h
theorem Kp.grown {F : Nat → Prop} {a b c : World} {row : Option Nat} (h : Kp F a b) (k : b.grownBy c row) (hg : ∀ i, i < a.heap.size → row = some i → F i) : Kp F a c :=
  ⟨k.os.trans h.os, k.tape.trans h.tape, k.output.trans h.output, Nat.le_trans h.size k.size, fun i hi hf => (k.block i (Nat.lt_of_lt_of_le hi h.size) (fun e => hf (hg i hi e.symm))).trans (h.block i hi hf)⟩
theorem Kp.setCell {F : Nat → Prop} {a b : World} (h : Kp F a b) (g i : Nat) (v : Value) (hF : F g) : Kp F a (b.setCell ⟨g, i, none⟩ v) := h.trans (kp_setCell b g i v F hF) (fun _ _ x => x)
theorem OwnI.some {w : World} {base : Nat} {v : Value} {xs : List Int} (h : OwnI w base v xs) (hp : 0 < xs.length) : ∃ g cap tl, v = .slice (Option.some ⟨g, 0, none⟩) xs.length cap ∧ base ≤ g ∧ Rw 5 w g (xs ++ tl) ∧ (xs ++ tl).length = cap ∧ cap ≤ maxLen := by
  rcases h with ⟨_, rfl⟩ | h
  · simp at hp
  · exact h
theorem len_snoc (b x k : Nat) (z : Int) : (dig b x k ++ [z]).length = k + 1 := by simp [dig_length]
/-- One byte handed on: the row has grown by it, and the word and the count are less by it. -/
theorem put_round (w w1 w2 : World) (g k N v z q : Nat) (ao : Option Addr) (cap : Nat) (sl : Value) (F : Nat → Prop) (b1 : Int) (hg : F g) (hz : z = v / 256 ^ k) (hq : q = N - 8 * k) (hr : 8 ≤ q)
    (hs : St 92 w1 g #[.slice ao k cap, .int .u64 z, .int .i64 q]) (hb : (Value.slice ao k cap).ownBlock ≠ some g) (hlt : ∀ b, (Value.slice ao k cap).ownBlock = some b → F b ∨ w.heap.size ≤ b)
    (K : Kp F w w1) (hb1 : b1 = ((z % 256 : Nat) : Int)) (ho : OwnI w2 0 sl (dig 256 v k ++ [b1])) (hgr : (w1.alloc (.cells #[.int .u8 b1] 5)).drew.grownBy w2 (Value.slice ao k cap).ownBlock)
    (hnew : ∀ b, sl.ownBlock = some b → (Value.slice ao k cap).ownBlock = some b ∨ w1.heap.size + 1 ≤ b) :
    St 92 w2 g #[.slice ao k cap, .int .u64 z, .int .i64 q] ∧ WrK (((w2.setCell ⟨g, 0, none⟩ sl).setCell ⟨g, 1, none⟩ (.int .u64 ((z : Int) / 256))).setCell ⟨g, 2, none⟩ (.int .i64 ((q : Int) - 8))) g sl (k + 1) N v ∧
      Kp F w (((w2.setCell ⟨g, 0, none⟩ sl).setCell ⟨g, 1, none⟩ (.int .u64 ((z : Int) / 256))).setCell ⟨g, 2, none⟩ (.int .i64 ((q : Int) - 8))) ∧ ∀ b, sl.ownBlock = some b → F b ∨ w.heap.size ≤ b := by
  have K1 : Kp (fun i => (Value.slice ao k cap).ownBlock = some i) w1 w2 := Kp.grown ((Kp.refl _ w1).alloc (.cells #[.int .u8 b1] 5)).drew hgr (fun _ _ e => e)
  have hs2 := hs.kp K1 hb
  have hne : sl.ownBlock ≠ some g := by
    intro e
    rcases hnew g e with h | h
    · exact hb h
    · have := hs.lt; omega
  refine ⟨hs2, ⟨?_, ?_, hne⟩, ?_, ?_⟩
  · have e1 : ((v / 256 ^ (k + 1) : Nat) : Int) = (z : Int) / 256 := by rw [Nat.pow_succ, ← Nat.div_div_eq_div_mul, ← hz]; omega
    have e2 : ((N - 8 * (k + 1) : Nat) : Int) = (q : Int) - 8 := by omega
    rw [e1, e2]
    have := ((hs2.set 0 sl).set 1 (.int .u64 ((z : Int) / 256))).set 2 (.int .i64 ((q : Int) - 8))
    simpa using this
  · rw [dig_snoc, ← hz, ← hb1]
    have hx : ∀ b, sl.ownBlock = some b → ¬ b = g := fun b hb2 e => hne (by rw [← e]; exact hb2)
    exact ((ho.kp (kp_setCell w2 g 0 _ (fun k => k = g) rfl) hx).kp (kp_setCell _ g 1 _ (fun k => k = g) rfl) hx).kp (kp_setCell _ g 2 _ (fun k => k = g) rfl) hx
  · have K2 : Kp F w w2 := K.trans K1 (by
      intro i hi e
      rcases hlt i e with h | h
      · exact h
      · omega)
    exact ((K2.setCell g 0 _ hg).setCell g 1 _ hg).setCell g 2 _ hg
  · intro b hb2
    rcases hnew b hb2 with h | h
    · exact hlt b h
    · have := K.size; exact .inr (by omega)
theorem OwnI.slice {w : World} {base : Nat} {v : Value} {xs : List Int} (h : OwnI w base v xs) : ∃ ao cap, v = .slice ao xs.length cap ∧ (ao = none → cap = 0) := by
  rcases h with ⟨rfl, rfl⟩ | ⟨g, cap, tl, rfl, _⟩
  · exact ⟨none, 0, rfl, fun _ => rfl⟩
  · exact ⟨_, cap, rfl, fun e => by cases e⟩

set_option maxHeartbeats 1000000 in
theorem put_walk (g : Nat) (sl : Value) (x n N v : Nat) (w : World) (hN : N ≤ 1000000000) (hn : n ≤ 57) (hx : x < 2 ^ n) (h : Wr w g sl N v) :
    Calls Try.prog 58 #[.pointer (some ⟨g, 0, none⟩), .int .u64 x, .int .i64 n] w fun e w' => e = .returned (.tuple #[]) ∧
      ∃ sl', Wr w' g sl' (N + n) (v + x * 2 ^ N) ∧ Kp (fun i => i = g ∨ sl.ownBlock = some i) w w' ∧ ∀ b, sl'.ownBlock = some b → sl.ownBlock = some b ∨ w.heap.size ≤ b := by
  obtain ⟨hv, hs, ho, hb⟩ := h
  have hvx : v + x * 2 ^ N < 2 ^ (N + n) := by
    rw [Nat.pow_add]
    have : x * 2 ^ N + 2 ^ N ≤ 2 ^ N * 2 ^ n := by rw [← Nat.succ_mul, Nat.mul_comm]; exact Nat.mul_le_mul_left _ hx
    omega
  obtain ⟨F, hF⟩ : ∃ F : Nat → Prop, F = fun i => i = g ∨ sl.ownBlock = some i := ⟨_, rfl⟩
  obtain ⟨N1, hN1⟩ : ∃ N1, N1 = N + n := ⟨_, rfl⟩
  obtain ⟨v1, hv1⟩ : ∃ v1, v1 = v + x * 2 ^ N := ⟨_, rfl⟩
  have hd := put_dig v x N
  have hw := put_num v x N
  have hwl := word_lt v N hv (N / 8) (by omega)
  rw [← hv1] at hd hw hvx ⊢
  rw [← hN1] at hvx ⊢
  rw [← hF]
  have hFg : F g := by rw [hF]; exact .inl rfl
  have hFb : ∀ b, sl.ownBlock = some b → F b ∨ w.heap.size ≤ b := by intro b h; rw [hF]; exact .inl (.inr h)
  have hFn : ∀ b, F b → b ≠ g → sl.ownBlock = some b := by
    intro b h hne
    rw [hF] at h
    exact h.resolve_left hne
  obtain ⟨y, hy⟩ : ∃ y, y = v / 256 ^ (N / 8) := ⟨_, rfl⟩
  obtain ⟨m, hm⟩ : ∃ m, m = N - 8 * (N / 8) := ⟨_, rfl⟩
  rw [← hy, ← hm] at hs hw hwl
  have c1 : w.cell? ⟨g, 1, none⟩ = some (.int .u64 y) := hs.cell 1
  have c2 : w.cell? ⟨g, 2, none⟩ = some (.int .i64 m) := hs.cell 2
  have f1 := hs.frozen 1
  have f2 := hs.frozen 2
  have hm8 : m < 8 := by omega
  have hor := or_wait x y m n hwl hx (by omega)
  have START : Hid (WrK ((w.setCell ⟨g, 1, none⟩ (.int .u64 ((y : Int) + (x : Int) * 2 ^ m))).setCell ⟨g, 2, none⟩ (.int .i64 ((m : Int) + n))) g sl (N / 8) N1 v1 ∧ Kp F w ((w.setCell ⟨g, 1, none⟩ (.int .u64 ((y : Int) + (x : Int) * 2 ^ m))).setCell ⟨g, 2, none⟩ (.int .i64 ((m : Int) + n)))) := by
    refine ⟨⟨?_, ?_, hb⟩, ((Kp.refl F w).setCell g 1 _ hFg).setCell g 2 _ hFg⟩
    · rw [hw, show ((N1 - 8 * (N / 8) : Nat) : Int) = (m : Int) + n by omega, show ((y + x * 2 ^ m : Nat) : Int) = (y : Int) + (x : Int) * 2 ^ m by rw [Int.natCast_add, Int.natCast_mul, Int.natCast_pow]; rfl]
      have := (hs.set 1 (.int .u64 ((y : Int) + (x : Int) * 2 ^ m))).set 2 (.int .i64 ((m : Int) + n))
      simpa using this
    · rw [hd]
      exact (ho.kp (kp_setCell w g 1 _ (fun k => k = g) rfl) (by intro b hb2 e; subst e; exact hb hb2)).kp (kp_setCell _ g 2 _ (fun k => k = g) rfl) (by intro b hb2 e; subst e; exact hb hb2)
  have HN : Hid (N / 8 ≤ N1 / 8) := by show _ ≤ _; omega
  have HN1 : Hid (N1 ≤ 1000000057) := by show _ ≤ _; omega
  have HV : Hid (v1 < 2 ^ N1) := hvx
  have HF : Hid (F g ∧ (∀ b, sl.ownBlock = some b → F b ∨ w.heap.size ≤ b) ∧ (∀ b, F b → b ≠ g → sl.ownBlock = some b)) := ⟨hFg, hFb, hFn⟩
  clear hv1 hd hw hwl hy hm hN1 ho hs hb hx hvx hF hFg hFb hFn
  go_enter Try.func58, Try.ntmps58
  go_wp2
  go_region
  go_wp2_with fail
  go_loopg [] (N1 / 8 - N / 8) (fun r wr => ∃ k sl1, k + r = N1 / 8 ∧ WrK wr g sl1 k N1 v1 ∧ Kp F w wr ∧ ∀ b, sl1.ownBlock = some b → F b ∨ w.heap.size ≤ b)
  case atStart => exact ⟨N / 8, sl, by have := HN.out; omega, START.out.1, START.out.2.drew, HF.out.2.1⟩
  case round =>
    clear START f1 f2 c1 c2
    obtain ⟨k, sl1, hk, ⟨hs, ho, hb⟩, hK, hlt⟩ := hrel
    have hN2 := HN1.out
    obtain ⟨ao, cap, rfl, hnil⟩ := ho.slice
    rw [dig_length] at hs ho hb hlt
    obtain ⟨z, hz⟩ : ∃ z, z = v1 / 256 ^ k := ⟨_, rfl⟩
    obtain ⟨q, hq⟩ : ∃ q, q = N1 - 8 * k := ⟨_, rfl⟩
    have HW : Hid (WrK wr g (.slice ao k cap) k N1 v1) := ⟨hs, ho, hb⟩
    rw [← hz, ← hq] at hs
    have c0 : wr.cell? ⟨g, 0, none⟩ = some (.slice ao k cap) := hs.cell 0
    have c1 : wr.cell? ⟨g, 1, none⟩ = some (.int .u64 z) := hs.cell 1
    have c2 : wr.cell? ⟨g, 2, none⟩ = some (.int .i64 q) := hs.cell 2
    have f0 := hs.frozen 0
    have f1 := hs.frozen 1
    have f2 := hs.frozen 2
    by_cases hr : q < 8
    · have HQ : Hid (q = N1 - 8 * k ∧ k + gk = N1 / 8) := ⟨hq, hk⟩
      clear hq hz hnil
      go_wp2
      go_end0
      obtain ⟨hq, hk⟩ := HQ.out
      obtain rfl : k = N1 / 8 := by omega
      refine ⟨rfl, _, ⟨HV.out, HW.out⟩, hK, fun b hb2 => ?_⟩
      rcases hlt b hb2 with h | h
      · exact .inl (HF.out.2.2 b h (fun e => hb (by rw [← e]; exact hb2)))
      · exact .inr h
    · have HQ : Hid (q = N1 - 8 * k ∧ k + gk = N1 / 8 ∧ z = v1 / 256 ^ k) := ⟨hq, hk, hz⟩
      have hk8 : 8 * k ≤ N1 := by omega
      have hq8 : q ≤ 1000000057 := by omega
      have hgl : g < wr.heap.size := hs.lt
      clear hq hz hk
      have HO : Hid (OwnI (wr.alloc (.cells #[.int .u8 (IntKind.u8.wrap z)] 5)).drew 0 (.slice ao k cap) (dig 256 v1 k)) := (ho.alloc _).drew
      have HS : Hid (Src (wr.alloc (.cells #[.int .u8 (IntKind.u8.wrap z)] 5)).drew (some ⟨wr.heap.size, 0, none⟩) [IntKind.u8.wrap z]) := (Rw.new 5 wr [IntKind.u8.wrap z]).src
      have HL : Hid ((dig 256 v1 k).length + [IntKind.u8.wrap (z : Int)].length ≤ 140737488355328) := by show _ ≤ _; rw [dig_length]; simp; omega
      have HB : Hid (IntKind.u8.wrap (z : Int) = ((z % 256 : Nat) : Int)) := by show _ = _; rw [IntKind.wrap_u8']; omega
      clear hnil
      go_wp2
      go_region_law (refine step_append_i rfl (.tmp 36) (.tmp 42) rfl 0 (.slice ao k cap) (dig 256 v1 k) (by simp [Act.eval]) HO.out (some ⟨wr.heap.size, 0, none⟩) 1 1 [IntKind.u8.wrap z] (by simp [Act.eval]) rfl (fun e => by cases e) HS.out HL.out (Nat.zero_le _) ?_; intro sl2 w2 o2 g2 n2; obtain ⟨s2, W2, K2, L2⟩ := put_round w wr w2 g k N1 v1 z q ao cap sl2 F _ HF.out.1 HQ.out.2.2 HQ.out.1 (Nat.le_of_not_lt hr) hs hb hlt hK HB.out o2 g2 (fun b hb2 => by simpa using n2 b hb2); obtain ⟨G2, c3, tl2, hsl, _⟩ := o2.some (by simp); rw [len_snoc] at hsl; subst hsl; clear o2 n2 g2; have d0 : w2.cell? ⟨g, 0, none⟩ = some (.slice ao k cap) := s2.cell 0; have d1 : w2.cell? ⟨g, 1, none⟩ = some (.int .u64 z) := s2.cell 1; have d2 : w2.cell? ⟨g, 2, none⟩ = some (.int .i64 q) := s2.cell 2; have e0 := s2.frozen 0; have e1 := s2.frozen 1; have e2 := s2.frozen 2)
      all_goals
        have W3 : Hid (_ ∧ _ ∧ _) := ⟨W2, K2, L2⟩
        clear W2 K2 L2
        go_wp2
        go_roundg (gk - 1)
        case measure => have := HQ.out; omega
        case rel => exact ⟨k + 1, _, by have := HQ.out; omega, W3.out.1, W3.out.2.1, W3.out.2.2⟩
end Go.Proofs.Ythpocbpleffdpaa.Bz
