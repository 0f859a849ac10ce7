import Derived.WalkKit
import Derived.WalkSpells
import Derived.WalkLawsBesides
import Derived.Laws.CopyOwn
import Derived.Laws.AppendOwnNone
import Derived.Laws.MakeOwn
import Derived.Deep.RegionLaw
import Derived.Maps.OwnIn
import Derived.Maps.RangeRun
import Derived.RangeFuncNested
import Derived.Test.YtnccklbnncaeoaaGreatRows
import Derived.BigQuiet
/- Rows of integers in memory, of whatever kind and program: what a slice reads as (Src), a row that is known whole (Rw, OwnI), append and make as steps; blocks that are kept (Kp). -/
namespace Go.Proofs.YtnccklbnncaeoaaGreat
open Go.RowKit

theorem bytes_le {b n : Nat} (hb : b ≤ 8) (hn : n ≤ 17592186044416) : n * b ≤ 140737488355328 := by
  have : n * b ≤ 17592186044416 * 8 := Nat.mul_le_mul hn hb
  omega


/-- Block g holds just these bytes (and none of them is frozen). -/
def Rw (κ : IntKind) (t : TypeId) (w : World) (g : Nat) (L : List Int) : Prop := w.heap[g]? = some (.cells (L.map (Value.int κ)).toArray t (0, 0))

theorem Rw.cell {κ : IntKind} {t : TypeId} {w : World} {g : Nat} {L : List Int} (h : Rw κ t w g L) (i : Nat) (hi : i < L.length) : w.cell? ⟨g, i, none⟩ = some (.int κ (L.getD i 0)) := by
  rw [cell_of_row w g i _ t _ h]
  simp [List.getD, hi]
theorem Rw.frozen {κ : IntKind} {t : TypeId} {w : World} {g : Nat} {L : List Int} (h : Rw κ t w g L) (i : Nat) : w.frozen? ⟨g, i, none⟩ = false := frozen_of_row w g i _ t h
theorem Rw.lt {κ : IntKind} {t : TypeId} {w : World} {g : Nat} {L : List Int} (h : Rw κ t w g L) : g < w.heap.size := (Array.getElem?_eq_some_iff.1 h).1
theorem Rw.set {κ : IntKind} {t : TypeId} {w : World} {g : Nat} {L : List Int} (h : Rw κ t w g L) (i : Nat) (v : Int) : Rw κ t (w.setCell ⟨g, i, none⟩ (.int κ v)) g (L.set i v) := by
  unfold Rw
  rw [heap_setCell_same w g i _ t _ h]
  simp [List.map_set]
theorem Rw.of_block {κ : IntKind} {t : TypeId} {w w' : World} {g : Nat} {L : List Int} (h : Rw κ t w g L) (hb : w'.heap[g]? = w.heap[g]?) : Rw κ t w' g L := by unfold Rw; rw [hb]; exact h
theorem Rw.below {κ : IntKind} {t : TypeId} {w w' : World} {g B : Nat} {L : List Int} (h : Rw κ t w g L) (hb : Below B w w') (hg : g < B) : Rw κ t w' g L := h.of_block (hb.block g hg)
theorem Rw.grown {κ : IntKind} {t : TypeId} {w w' : World} {g : Nat} {row : Option Nat} {L : List Int} (h : Rw κ t w g L) (hb : w.grownBy w' row) (hg : some g ≠ row) : Rw κ t w' g L := h.of_block (hb.block g h.lt hg)
theorem Rw.alloc {κ : IntKind} {t : TypeId} {w : World} {g : Nat} {L : List Int} (h : Rw κ t w g L) (o : Obj) : Rw κ t (w.alloc o) g L := h.of_block (Below.heap_alloc w o g h.lt)
theorem Rw.drew {κ : IntKind} {t : TypeId} {w : World} {g : Nat} {L : List Int} (h : Rw κ t w g L) : Rw κ t w.drew g L := h
theorem Rw.new (κ : IntKind) (t : TypeId) (w : World) (L : List Int) : Rw κ t (w.alloc (.cells (L.map (Value.int κ)).toArray t)) w.heap.size L := heap_alloc_new w _
theorem Rw.at {κ : IntKind} {t : TypeId} {w : World} {g : Nat} {L : List Int} (h : Rw κ t w g L) : w.heap[g]? = some (.cells (L.map (Value.int κ)).toArray t (0, 0)) := h
theorem Rw.of {κ : IntKind} {t : TypeId} {w : World} {g : Nat} {L : List Int} (h : w.heap[g]? = some (.cells (L.map (Value.int κ)).toArray t (0, 0))) : Rw κ t w g L := h
theorem Rw.cells {κ : IntKind} {t : TypeId} {w : World} {g : Nat} {L : List Int} (h : Rw κ t w g L) : ∀ i, i < L.length → w.cell? ⟨g, 0 + i, none⟩ = some (.int κ (L.getD i 0)) := fun i hi => by rw [Nat.zero_add]; exact h.cell i hi

theorem add_z (g j : Nat) : (⟨g, 0, none⟩ : Addr).add j = ⟨g, j, none⟩ := by unfold Addr.add; split <;> simp_all
theorem add_o (g o j : Nat) : (⟨g, o, none⟩ : Addr).add j = ⟨g, o + j, none⟩ := by unfold Addr.add; split <;> simp_all

theorem grown_trans {a b c : World} {row : Option Nat} (h : a.grownBy b row) (k : b.grownBy c row) : a.grownBy c row :=
  ⟨k.os.trans h.os, k.tape.trans h.tape, k.output.trans h.output, Nat.le_trans h.size k.size, fun i hi hne => (k.block i (Nat.lt_of_lt_of_le hi h.size) hne).trans (h.block i hi hne)⟩
theorem grown_refl (w : World) (row : Option Nat) : w.grownBy w row := ⟨rfl, rfl, rfl, Nat.le_refl _, fun _ _ _ => rfl⟩
theorem grown_of_below {w w' : World} {row : Option Nat} (h : Below w.heap.size w w') : w.grownBy w' row := ⟨h.os, h.tape, h.output, h.size, fun k hk _ => h.block k hk⟩
theorem splice_append {α : Type} (zs tl cs : List α) (o : Nat) (h : o + cs.length ≤ zs.length) : splice (zs ++ tl) o cs = splice zs o cs ++ tl := by
  unfold splice
  rw [List.take_append_of_le_length (by omega), List.drop_append_of_le_length h]
  simp

theorem grown_drew {a b : World} {row : Option Nat} (h : a.grownBy b row) : a.grownBy b.drew row := ⟨h.os, h.tape, h.output, h.size, h.block⟩
theorem grown_drew' {a b : World} {row : Option Nat} (h : a.drew.grownBy b row) : a.grownBy b row := ⟨h.os, h.tape, h.output, h.size, h.block⟩
theorem grown_alloc {a b : World} {row : Option Nat} (h : a.grownBy b row) (o : Obj) : a.grownBy (b.alloc o) row := grown_trans h (World.grownBy_alloc b o row)
theorem grown_setRow {w : World} (g : Nat) (cs : Array Value) : w.grownBy (w.setRow g cs) (some g) :=
  ⟨rfl, rfl, rfl, by simp, fun k _ hk => setRow_other w g k cs (fun e => hk (by rw [e]))⟩
theorem grown_setRow_new {a b : World} {row : Option Nat} (h : a.grownBy b row) (g : Nat) (hg : a.heap.size ≤ g) (cs : Array Value) : a.grownBy (b.setRow g cs) row :=
  ⟨h.os, h.tape, h.output, by simpa using h.size, fun k hk hne => (setRow_other b g k cs (by omega)).trans (h.block k hk hne)⟩
theorem below_of_grown {a b : World} {row : Option Nat} (h : a.grownBy b row) (B : Nat) (hB : B ≤ a.heap.size) (hr : ∀ k, row = some k → B ≤ k) : Below B a b := (Below.refl B a).grown h hB hr

theorem Rw.setRow {κ : IntKind} {t : TypeId} {w : World} {g : Nat} {L : List Int} (h : Rw κ t w g L) (M : List Int) : Rw κ t (w.setRow g (M.map (Value.int κ)).toArray) g M := setRow_heap w g _ _ t _ h
theorem Rw.setRow_other {κ : IntKind} {t : TypeId} {w : World} {g k : Nat} {L : List Int} (h : Rw κ t w g L) (cs : Array Value) (hne : g ≠ k) : Rw κ t (w.setRow k cs) g L := h.of_block (Go.setRow_other w k g cs hne)

theorem srcs {κ : IntKind} {w : World} {ad : Addr} {cs : List Int} (hsrc : ∀ j, j < cs.length → w.cell? (ad.add j) = some (.int κ (cs.getD j 0))) : ∀ j v, (cs.map (Value.int κ))[j]? = some v → w.cell? (ad.add j) = some v := by
  intro j v hv
  have hj : j < cs.length := by
    have := (List.getElem?_eq_some_iff.1 hv).1
    simpa using this
  rw [hsrc j hj]
  simp [hj] at hv
  simp [List.getD, hj, hv]
theorem ones (κ : IntKind) (cs : List Int) : ∀ v ∈ cs.map (Value.int κ), v.oneCell' = true := by
  intro v hv
  obtain ⟨n, _, rfl⟩ := List.mem_map.1 hv
  rfl

theorem ret_bool {a b : Bool} (h : a = b) : Ending.returned (.bool a) = .returned (.bool b) := by rw [h]
theorem ret_int {k : IntKind} {a b : Int} (h : a = b) : Ending.returned (.int k a) = .returned (.int k b) := by rw [h]

/-- The bytes that lie at an address (asked only where there are any). -/
def Src (κ : IntKind) (w : World) (ao : Option Addr) (zs : List Int) : Prop := 0 < zs.length → ∃ b off, ao = some ⟨b, off, none⟩ ∧ ∀ i, i < zs.length → w.cell? ⟨b, off + i, none⟩ = some (.int κ (zs.getD i 0))
/-- A slice that reads as these bytes. -/
def Str (κ : IntKind) (w : World) (v : Value) (xs : List Int) : Prop := ∃ ao cap, v = .slice ao xs.length cap ∧ Src κ w ao xs

theorem Src.below {κ : IntKind} {w w' : World} {ao : Option Addr} {zs : List Int} (h : Src κ w ao zs) (hb : Below w.heap.size w w') : Src κ w' ao zs := by
  intro hp
  obtain ⟨b, off, e, hc⟩ := h hp
  refine ⟨b, off, e, fun i hi => ?_⟩
  have hci := hc i hi
  have hlt := block_lt_of_cell hci
  rw [← hci]
  exact hb.cell hlt
theorem Src.nil (κ : IntKind) (w : World) (ao : Option Addr) : Src κ w ao [] := fun h => absurd h (by simp)
theorem Src.at {κ : IntKind} {w : World} {b off : Nat} {zs : List Int} (h : Src κ w (some ⟨b, off, none⟩) zs) : ∀ i, i < zs.length → w.cell? ⟨b, off + i, none⟩ = some (.int κ (zs.getD i 0)) := by
  intro i hi
  obtain ⟨b', off', e, hc⟩ := h (by omega)
  cases e
  exact hc i hi
theorem Src.mk {κ : IntKind} {w : World} {b off : Nat} {zs : List Int} (h : ∀ i, i < zs.length → w.cell? ⟨b, off + i, none⟩ = some (.int κ (zs.getD i 0))) : Src κ w (some ⟨b, off, none⟩) zs := fun _ => ⟨b, off, rfl, h⟩
theorem Src.take {κ : IntKind} {w : World} {b off : Nat} {zs : List Int} (h : Src κ w (some ⟨b, off, none⟩) zs) (n : Nat) : Src κ w (some ⟨b, off, none⟩) (zs.take n) := by
  refine Src.mk fun i hi => ?_
  have hi2 : i < n ∧ i < zs.length := by simp at hi; omega
  rw [h.at i hi2.2]
  simp [List.getD, hi2.1]
theorem Src.drop {κ : IntKind} {w : World} {b off : Nat} {zs : List Int} (h : Src κ w (some ⟨b, off, none⟩) zs) (n : Nat) : Src κ w (some ⟨b, off + n, none⟩) (zs.drop n) := by
  refine Src.mk fun i hi => ?_
  have hi2 : n + i < zs.length := by simp at hi; omega
  rw [Nat.add_assoc, h.at (n + i) hi2]
  simp [List.getD]

/-- A slice of the call's own, the bytes that it holds, and bytes behind them up to its capacity. -/
def OwnI (κ : IntKind) (ε : TypeId) (w : World) (base : Nat) (v : Value) (xs : List Int) : Prop :=
  (v = .slice none 0 0 ∧ xs = []) ∨ ∃ g cap tl, v = .slice (some ⟨g, 0, none⟩) xs.length cap ∧ base ≤ g ∧ Rw κ ε w g (xs ++ tl) ∧ (xs ++ tl).length = cap ∧ cap ≤ maxLen

theorem OwnI.lt {κ : IntKind} {ε : TypeId} {w : World} {base : Nat} {v : Value} {xs : List Int} (h : OwnI κ ε w base v xs) : ∀ k, v.ownBlock = some k → base ≤ k ∧ k < w.heap.size := by
  intro k hk
  rcases h with ⟨rfl, _⟩ | ⟨g, cap, tl, rfl, hb, hr, _⟩
  · simp [Value.ownBlock] at hk
  · simp [Value.ownBlock] at hk
    subst hk
    exact ⟨hb, hr.lt⟩
theorem OwnI.nil (κ : IntKind) (ε : TypeId) (w : World) (base : Nat) : OwnI κ ε w base (.slice none 0 0) [] := .inl ⟨rfl, rfl⟩
theorem OwnI.kept {κ : IntKind} {ε : TypeId} {w w' : World} {base : Nat} {v : Value} {xs : List Int} {row : Option Nat} (h : OwnI κ ε w base v xs) (hg : w.grownBy w' row) (hne : v.ownBlock = none ∨ v.ownBlock ≠ row) : OwnI κ ε w' base v xs := by
  rcases h with ⟨rfl, h2⟩ | ⟨g, cap, tl, rfl, hb, hr, h3, h4⟩
  · exact .inl ⟨rfl, h2⟩
  · exact .inr ⟨g, cap, tl, rfl, hb, hr.grown hg (by simpa [Value.ownBlock] using hne), h3, h4⟩
theorem OwnI.below {κ : IntKind} {ε : TypeId} {w w' : World} {base : Nat} {v : Value} {xs : List Int} (h : OwnI κ ε w base v xs) (hb : Below w.heap.size w w') : OwnI κ ε w' base v xs :=
  h.kept (grown_of_below (row := none) hb) (by cases hv : v.ownBlock <;> simp)
theorem OwnI.str {κ : IntKind} {ε : TypeId} {w : World} {base : Nat} {v : Value} {xs : List Int} (h : OwnI κ ε w base v xs) : Str κ w v xs := by
  rcases h with ⟨rfl, rfl⟩ | ⟨g, cap, tl, rfl, hb, hr, h3, h4⟩
  · exact ⟨none, 0, rfl, Src.nil _ _ _⟩
  · refine ⟨_, cap, rfl, Src.mk fun i hi => ?_⟩
    rw [Nat.zero_add, hr.cell i (by simp; omega)]
    simp [List.getD, List.getElem?_append_left hi]

theorem zero_cells (κ : IntKind) (n : Nat) : (Builtin.zeroCells #[.int κ 0] n).toList = (List.replicate n (0 : Int)).map (Value.int κ) := by
  apply List.ext_getElem?
  intro i
  by_cases hi : i < n
  · simp [Builtin.zeroCells, hi, Nat.mod_one]
  · simp [Builtin.zeroCells, hi]

theorem arr_rest (κ : IntKind) (xs : List Int) (k : Nat) : ((xs.map (Value.int κ)).toArray ++ Builtin.zeroCells #[.int κ 0] k) = ((xs ++ List.replicate k 0).map (Value.int κ)).toArray := by
  apply Array.ext'
  rw [Array.toList_append, zero_cells]
  simp

theorem run_append_rw {P : Program} {κ : IntKind} {ε : TypeId} (w : World) (base : Nat) (t ty : TypeId) (i : TypeInfo) (ht : P.underlying t = some (.slice ε)) (hi : P.info? ε = some i) (hz : i.zero = some (.int κ 0)) (hsize : i.size = 1) (hby : i.bytes ≤ 8)
    (v : Value) (xs : List Int) (hown : OwnI κ ε w base v xs) (ao : Option Addr) (c : Nat) (news : List Int) (hn : ao = none → c = 0) (hsrc : Src κ w ao news)
    (hb : xs.length + news.length ≤ 17592186044416) (hbase : base ≤ w.heap.size) :
    ∃ v' w', (Builtin.append_ #[t, t] ty #[v, .slice ao news.length c]).run P w = .ok v' w' ∧ OwnI κ ε w' base v' (xs ++ news) ∧ w.grownBy w' v.ownBlock ∧ ∀ b, v'.ownBlock = some b → v.ownBlock = some b ∨ w.heap.size ≤ b := by
  have hsz : (P.info? ε).map (·.size) = some 1 := by rw [hi]; simp [hsize]
  cases ao with
  | none =>
    have hz0 : news.length = 0 := by
      by_cases h0 : 0 < news.length
      · obtain ⟨b, off, e, _⟩ := hsrc h0; cases e
      · omega
    obtain rfl : news = [] := List.eq_nil_of_length_eq_zero hz0
    obtain rfl : c = 0 := hn rfl
    refine ⟨v, w, ?_, by simpa using hown, grown_refl _ _, fun b hb => .inl hb⟩
    rcases hown with ⟨rfl, rfl⟩ | ⟨g, cap, tl, rfl, hbg, hr, h3, h4⟩
    · simp [Builtin.append_, run_underlying ht, sizeOf, typeInfo, hi, Builtin.lenOf, Builtin.firstCells]
    · have : xs.length ≤ cap := by rw [← h3]; simp
      simp [Builtin.append_, run_underlying ht, sizeOf, typeInfo, hi, Builtin.lenOf, Builtin.firstCells, this, storeCells]
  | some ad =>
    have hnews : ∀ j u, (news.map (Value.int κ))[j]? = some u → w.cell? (ad.add j) = some u := srcs (by
      intro j hj
      obtain ⟨b, off, e, hc⟩ := hsrc (by omega)
      cases e
      rw [add_o]
      exact hc j hj)
    rcases hown with ⟨rfl, rfl⟩ | ⟨g, cap, tl, rfl, hbg, hr, h3, h4⟩
    · by_cases hm : news.length = 0
      · obtain rfl : news = [] := List.eq_nil_of_length_eq_zero hm
        refine ⟨.slice none 0 0, w, ?_, OwnI.nil _ _ _ _, grown_refl _ _, fun b hb => by simp [Value.ownBlock] at hb⟩
        simp [Builtin.append_, run_underlying ht, sizeOf, typeInfo, hi, Builtin.lenOf, Builtin.firstCells, loadCells, loadCellsFrom]
      · have hr := run_append_nil (P := P) w t ty ε i (.int κ 0) ht hi hz ad news.length c (news.map (Value.int κ)) (by simp [hsize]) hnews (by omega) (by omega) (Nat.le_trans (bytes_le hby (by simp at hb; omega)) (by decide))
        have hge := grownCap_ge w news.length 0 ε
        refine ⟨_, _, hr, .inr ⟨w.heap.size, grownCap w news.length 0 ε, List.replicate (grownCap w news.length 0 ε - news.length) 0, by simp, hbase, ?_, by simp; omega, grownCap_le_maxLen w news.length 0 ε (by unfold maxLen; simp at hb; omega)⟩, ⟨rfl, rfl, rfl, by simp, fun k hk _ => Below.heap_alloc w.drew _ k hk⟩, fun b hb => .inr (by simp [Value.ownBlock] at hb; omega)⟩
        show (w.drew.alloc _).heap[w.heap.size]? = _
        rw [show w.heap.size = w.drew.heap.size from rfl, heap_alloc_new, show (Value.int κ 0).cells = #[.int κ 0] from rfl, arr_rest]
        rfl
    · by_cases hroom : xs.length + news.length ≤ cap
      · have hfit : xs.length * i.size + (news.map (Value.int κ)).length ≤ ((xs ++ tl).map (Value.int κ)).toArray.size := by simp [hsize]; simp at h3; omega
        have hrun := run_append_room (P := P) w t ty ε i ht hi g xs.length cap _ hr ad news.length c (news.map (Value.int κ)) (by simp [hsize]) hnews (ones _ _) hroom hfit
        refine ⟨_, _, hrun, .inr ⟨g, cap, tl.drop news.length, by simp, hbg, ?_, by simp at h3 ⊢; omega, h4⟩, ⟨rfl, rfl, rfl, by simp, fun k _ hk => setRow_other w g k _ (fun e => hk (by simp [Value.ownBlock, e]))⟩, fun b hb => .inl (by simpa [Value.ownBlock] using hb)⟩
        unfold Rw
        rw [setRow_heap w g _ _ ε _ hr]
        congr 2
        simp [hsize, List.drop_append]
      · have holds : ∀ j u, (xs.map (Value.int κ))[j]? = some u → w.cell? ((⟨g, 0, none⟩ : Addr).add j) = some u := srcs (by
          intro j hj
          rw [add_z, hr.cell j (by simp; omega)]
          simp [List.getD, List.getElem?_append_left hj])
        have hrun := run_append_grow (P := P) w t ty ε i (.int κ 0) ht hi hz ⟨g, 0, none⟩ xs.length cap (xs.map (Value.int κ)) (by simp [hsize]) holds ad news.length c (news.map (Value.int κ)) (by simp [hsize]) hnews (by omega) (by omega) (growslice_fits (by omega) (bytes_le hby (by omega)))
        have hge := grownCap_ge w (xs.length + news.length) cap ε
        refine ⟨_, _, hrun, .inr ⟨w.heap.size, grownCap w (xs.length + news.length) cap ε, List.replicate (grownCap w (xs.length + news.length) cap ε - (xs.length + news.length)) 0, by simp, hbase, ?_, by simp; omega, grownCap_le_maxLen w _ cap ε (by unfold maxLen; omega)⟩, ⟨rfl, rfl, rfl, by simp, fun k hk _ => Below.heap_alloc w.drew _ k hk⟩, fun b hb => .inr (by simp [Value.ownBlock] at hb; omega)⟩
        show (w.drew.alloc _).heap[w.heap.size]? = _
        rw [show w.heap.size = w.drew.heap.size from rfl, heap_alloc_new, show (Value.int κ 0).cells = #[.int κ 0] from rfl, show (List.map (Value.int κ) xs).toArray ++ (List.map (Value.int κ) news).toArray = (List.map (Value.int κ) (xs ++ news)).toArray from by simp, arr_rest]


/-- append onto a row of one's own that is known whole, as one step. -/
theorem wpList_append_i {P : Program} {κ : IntKind} {w : World} {ops : Array Oper} {rest : List Oper} {o : Oper} {a : Act} {Q : Exit → Act → World → Prop} (T ε : TypeId) (bytes : Nat) (hT : P.underlying T = some (.slice ε)) (hinfo : (P.info? ε).map (fun i => (i.zero, i.size, i.bytes)) = some (some (.int κ 0), 1, bytes)) (hb8 : bytes ≤ 8) (hgd : o.guard = none) (s x : Operand)
    (ho : o.op = .call { callee := .builtin .append, args := #[s, x], argTypes := #[T, T] })
    (base : Nat) (v : Value) (xs : List Int) (hs : a.eval s = v) (hown : OwnI κ ε w base v xs)
    (ao : Option Addr) (m c : Nat) (news : List Int) (hx : a.eval x = .slice ao m c) (hl : news.length = m) (hn : ao = none → c = 0) (hsrc : Src κ w ao news)
    (hb : xs.length + news.length ≤ 17592186044416) (hbase : base ≤ w.heap.size)
    (h : ∀ v' w', OwnI κ ε w' base v' (xs ++ news) → w.grownBy w' v.ownBlock → (∀ b, v'.ownBlock = some b → v.ownBlock = some b ∨ w.heap.size ≤ b) → Below base w w' → wpList P ops Q rest (a.put o.dst v') w') : wpList P ops Q (o :: rest) a w := by
  obtain ⟨i0, hi, hz0, hz1, hz2⟩ := info_parts hinfo
  subst hl
  have hlt := hown.lt
  refine wpList_plain hgd fun K hK => ?_
  obtain ⟨v', w', hrun, h1, h2, h3⟩ := run_append_rw (P := P) w base T o.type i0 hT hi hz0 hz1 (by omega) v xs hown ao c news hn hsrc hb hbase
  unfold Oper.wp execOp
  simp only [ho, resolve, invoke, builtin, Sem.run_bind, Sem.run_pure, Result.andThen_ok, List.map_toArray, List.map_cons, List.map_nil, hs, hx, hrun]
  exact hK _ _ (h v' w' h1 h2 h3 (below_of_grown h2 _ hbase fun q hq => (hlt q hq).1))

/-- append as one step of a region that draws its order. -/
theorem step_append_i {P : Program} {κ : IntKind} {ops : Array Oper} {o : Oper} {a : Act} {w : World} {K : Act → World → Prop} {Q : Exit → Act → World → Prop} {E : Prop} (T ε : TypeId) (bytes : Nat) (hT : P.underlying T = some (.slice ε)) (hinfo : (P.info? ε).map (fun i => (i.zero, i.size, i.bytes)) = some (some (.int κ 0), 1, bytes)) (hb8 : bytes ≤ 8) (hgd : o.guard = none) (s x : Operand)
    (ho : o.op = .call { callee := .builtin .append, args := #[s, x], argTypes := #[T, T] })
    (base : Nat) (v : Value) (xs : List Int) (hs : a.eval s = v) (hown : OwnI κ ε w base v xs)
    (ao : Option Addr) (m c : Nat) (news : List Int) (hx : a.eval x = .slice ao m c) (hl : news.length = m) (hn : ao = none → c = 0) (hsrc : Src κ w ao news)
    (hb : xs.length + news.length ≤ 17592186044416) (hbase : base ≤ w.heap.size)
    (h : ∀ v' w', OwnI κ ε w' base v' (xs ++ news) → w.grownBy w' v.ownBlock → (∀ b, v'.ownBlock = some b → v.ownBlock = some b ∨ w.heap.size ≤ b) → K (a.put o.dst v') w') :
    if Region.wanted o (yielded ops a.tmps) = true then Oper.wp P o a w K Q else E := by
  have hw : Region.wanted o (yielded ops a.tmps) = true := by simp [Region.wanted, hgd]
  rw [if_pos hw]
  obtain ⟨i0, hi, hz0, hz1, hz2⟩ := info_parts hinfo
  subst hl
  obtain ⟨v', w', hrun, h1, h2, h3⟩ := run_append_rw (P := P) w base T o.type i0 hT hi hz0 hz1 (by omega) v xs hown ao c news hn hsrc hb hbase
  unfold Oper.wp execOp
  simp only [ho, resolve, invoke, builtin, Sem.run_bind, Sem.run_pure, Result.andThen_ok, List.map_toArray, List.map_cons, List.map_nil, hs, hx, hrun]
  exact h v' w' h1 h2 h3
theorem made_cells (κ : IntKind) (n : Nat) : madeCells #[.int κ 0] n = ((List.replicate n (0 : Int)).map (Value.int κ)).toArray := by
  apply Array.ext'
  apply List.ext_getElem?
  intro i
  by_cases hi : i < n
  · simp [madeCells, hi, Nat.mod_one]
  · simp [madeCells, hi]
theorem wpList_make_rw {P : Program} {κ : IntKind} {w : World} {ops : Array Oper} {rest : List Oper} {o : Oper} {a : Act} {Q : Exit → Act → World → Prop} (T ε : TypeId) (bytes : Nat) (hT : P.underlying T = some (.slice ε)) (hinfo : (P.info? ε).map (fun i => (i.zero, i.size, i.bytes)) = some (some (.int κ 0), 1, bytes)) (hb8 : bytes ≤ 8) (hgd : o.guard = none) (l c : Operand) (ho : o.op = Op.makeSlice T l c)
    (n : Nat) (hl : a.eval l = .int .i64 n) (hc : a.eval c = .int .i64 n) (hn : n ≤ 17592186044416)
    (h : ∀ w', Rw κ ε w' w.heap.size (List.replicate n 0) → Below w.heap.size w w' → wpList P ops Q rest (a.put o.dst (.slice (some ⟨w.heap.size, 0, none⟩) n n)) w') : wpList P ops Q (o :: rest) a w := by
  obtain ⟨i0, hi, hz0, hz1, hz2⟩ := info_parts hinfo
  refine wpList_plain hgd fun K hK => ?_
  have hmul : bytes * n ≤ 140737488355328 := by
    have : bytes * n ≤ 8 * 17592186044416 := Nat.mul_le_mul hb8 hn
    omega
  have hmul2 : (bytes : Int) * (n : Int) ≤ 140737488355328 := by rw [← Int.natCast_mul]; exact Int.ofNat_le.2 hmul
  have hr := run_make (P := P) w T ε i0 (.int κ 0) hT hi hz0 .i64 .i64 n n (by omega) (Int.le_refl _) (by rw [hz2]; omega) (by omega)
  rw [hz1, Int.toNat_natCast, Nat.mul_one, show (Value.int κ 0).cells = #[.int κ 0] from rfl, made_cells] at hr
  unfold Oper.wp
  simp only [execOp, ho, hl, hc, hr, Sem.run_bind, Sem.run_pure, Result.andThen_ok]
  exact hK _ _ (h _ (Rw.new κ ε w _) ((Below.refl _ _).alloc (Nat.le_refl _) _))

theorem row_zs {κ : IntKind} {ε : TypeId} {w : World} {G : Nat} {zs tl : List Int} (h : Rw κ ε w G (zs ++ tl)) : ∀ i, i < zs.length → w.cell? ⟨G, 0 + i, none⟩ = some (.int κ (zs.getD i 0)) := by
  intro i hi
  rw [Nat.zero_add, h.cell i (by simp; omega)]
  simp [List.getD, List.getElem?_append_left hi]
theorem row_src {κ : IntKind} {ε : TypeId} {w : World} {G : Nat} {zs tl : List Int} (h : Rw κ ε w G (zs ++ tl)) : Src κ w (some ⟨G, 0, none⟩) zs := Src.mk (row_zs h)
theorem Rw.src {κ : IntKind} {ε : TypeId} {w : World} {G : Nat} {zs : List Int} (h : Rw κ ε w G zs) : Src κ w (some ⟨G, 0, none⟩) zs := Src.mk h.cells

/-- All that was there is as it was, but for some blocks. -/
structure Kp (F : Nat → Prop) (w w' : World) : Prop where
  os : w'.os = w.os
  tape : w'.tape = w.tape
  output : w'.output = w.output
  size : w.heap.size ≤ w'.heap.size
  block : ∀ k, k < w.heap.size → ¬ F k → w'.heap[k]? = w.heap[k]?
theorem Kp.refl (F : Nat → Prop) (w : World) : Kp F w w := ⟨rfl, rfl, rfl, Nat.le_refl _, fun _ _ _ => rfl⟩
theorem Kp.trans {F G : Nat → Prop} {a b c : World} (h : Kp F a b) (k : Kp G b c) (hg : ∀ i, i < a.heap.size → G i → F i) : Kp F a c :=
  ⟨k.os.trans h.os, k.tape.trans h.tape, k.output.trans h.output, Nat.le_trans h.size k.size, fun i hi hf => (k.block i (Nat.lt_of_lt_of_le hi h.size) (fun x => hf (hg i hi x))).trans (h.block i hi hf)⟩
theorem Kp.mono {F G : Nat → Prop} {a b : World} (h : Kp F a b) (hg : ∀ i, i < a.heap.size → F i → G i) : Kp G a b :=
  ⟨h.os, h.tape, h.output, h.size, fun i hi hf => h.block i hi (fun x => hf (hg i hi x))⟩
theorem Kp.of_grown {F : Nat → Prop} {a b : World} {row : Option Nat} (h : a.grownBy b row) (hg : ∀ i, row = some i → F i) : Kp F a b :=
  ⟨h.os, h.tape, h.output, h.size, fun i hi hf => h.block i hi (fun e => hf (hg i e.symm))⟩
theorem Kp.of_below {F : Nat → Prop} {a b : World} (h : Below a.heap.size a b) : Kp F a b := ⟨h.os, h.tape, h.output, h.size, fun i hi _ => h.block i hi⟩
theorem Kp.below {F : Nat → Prop} {a b : World} {B : Nat} (h : Kp F a b) (hB : B ≤ a.heap.size) (hf : ∀ i, F i → B ≤ i) : Below B a b :=
  ⟨h.os, h.tape, h.output, h.size, fun i hi => h.block i (Nat.lt_of_lt_of_le hi hB) (fun x => absurd (hf i x) (by omega))⟩
theorem Kp.drew {F : Nat → Prop} {a b : World} (h : Kp F a b) : Kp F a b.drew := ⟨h.os, h.tape, h.output, h.size, h.block⟩
theorem Kp.alloc {F : Nat → Prop} {a b : World} (h : Kp F a b) (o : Obj) : Kp F a (b.alloc o) :=
  ⟨h.os, h.tape, h.output, Nat.le_trans h.size (by simp), fun i hi hf => (Below.heap_alloc b o i (Nat.lt_of_lt_of_le hi h.size)).trans (h.block i hi hf)⟩
theorem Rw.kp {κ : IntKind} {t : TypeId} {F : Nat → Prop} {w w' : World} {g : Nat} {L : List Int} (h : Rw κ t w g L) (k : Kp F w w') (hf : ¬ F g) : Rw κ t w' g L := h.of_block (k.block g h.lt hf)
theorem Src.kp {κ : IntKind} {F : Nat → Prop} {w w' : World} {ao : Option Addr} {zs : List Int} (h : Src κ w ao zs) (k : Kp F w w') (hf : ∀ b off, ao = some ⟨b, off, none⟩ → ¬ F b) : Src κ w' ao zs := by
  intro hp
  obtain ⟨b, off, e, hc⟩ := h hp
  refine ⟨b, off, e, fun i hi => ?_⟩
  have hci := hc i hi
  have hlt := block_lt_of_cell hci
  rw [← hci]
  have hb := k.block b hlt (hf b off e)
  unfold World.cell?
  simp only [hb]
theorem OwnI.kp {κ : IntKind} {ε : TypeId} {F : Nat → Prop} {w w' : World} {base : Nat} {v : Value} {xs : List Int} (h : OwnI κ ε w base v xs) (k : Kp F w w') (hf : ∀ b, v.ownBlock = some b → ¬ F b) : OwnI κ ε w' base v xs := by
  rcases h with ⟨rfl, h2⟩ | ⟨g, cap, tl, rfl, hb, hr, h3, h4⟩
  · exact .inl ⟨rfl, h2⟩
  · exact .inr ⟨g, cap, tl, rfl, hb, hr.kp k (hf g (by simp [Value.ownBlock])), h3, h4⟩
theorem OwnI.mono {κ : IntKind} {ε : TypeId} {w : World} {base base' : Nat} {v : Value} {xs : List Int} (h : OwnI κ ε w base v xs) (hb : base' ≤ base) : OwnI κ ε w base' v xs := by
  rcases h with ⟨rfl, h2⟩ | ⟨g, cap, tl, rfl, h1, h2⟩
  · exact .inl ⟨rfl, h2⟩
  · exact .inr ⟨g, cap, tl, rfl, by omega, h2⟩

end Go.Proofs.YtnccklbnncaeoaaGreat
/- Maps as lists of entries: what a look-up, a store, a delete, len and a range's step do, whatever the program. -/
namespace Go.Proofs.YtnccklbnncaeoaaGreat
open Go.RowKit
open Go.ChangeMaps (setBlock)

section
variable {κ : Type} [DecidableEq κ]

def ent (mk : κ → Value) (e : κ × Value × Nat) : MapEntry := { key := mk e.1, val := e.2.1, born := e.2.2 }
/-- What lies at a key. -/
def mget : List (κ × Value × Nat) → κ → Option Value
  | [], _ => none
  | e :: es, k => if k = e.1 then some e.2.1 else mget es k
/-- A value is laid at a key. -/
def mput : List (κ × Value × Nat) → κ → Value → Nat → List (κ × Value × Nat)
  | [], k, v, c => [(k, v, c)]
  | e :: es, k, v, c => if k = e.1 then (k, v, e.2.2) :: es else e :: mput es k v c
def mclk : List (κ × Value × Nat) → κ → Nat → Nat
  | [], _, c => c + 1
  | e :: es, k, c => if k = e.1 then c else mclk es k c
/-- A key is taken away. -/
def mdel : List (κ × Value × Nat) → κ → List (κ × Value × Nat)
  | [], _ => []
  | e :: es, k => if k = e.1 then es else e :: mdel es k
def fidx : List (κ × Value × Nat) → κ → Nat → Option (Nat × Value)
  | [], _, _ => none
  | e :: es, k, i => if k = e.1 then some (i, e.2.1) else fidx es k (i + 1)
theorem fidx_get (es : List (κ × Value × Nat)) (k : κ) (i : Nat) : (fidx es k i).map (·.2) = mget es k := by
  induction es generalizing i with
  | nil => rfl
  | cons e es ih => unfold fidx mget; by_cases h : k = e.1 <;> simp [h, ih]
theorem mget_put (es : List (κ × Value × Nat)) (k k' : κ) (v : Value) (c : Nat) : mget (mput es k v c) k' = if k' = k then some v else mget es k' := by
  induction es with
  | nil => simp [mput, mget]
  | cons e es ih =>
    unfold mput
    by_cases h : k = e.1
    · rw [if_pos h]
      by_cases h' : k' = k
      · simp [mget, h']
      · have : ¬ k' = e.1 := fun x => h' (x.trans h.symm)
        simp [mget, h', this]
    · rw [if_neg h]
      simp only [mget]
      by_cases h' : k' = e.1
      · have : ¬ k' = k := fun x => h (x.symm.trans h')
        rw [if_pos h', if_neg this, if_pos h']
      · simp only [if_neg h', ih]
/-- Keys and stamps are all apart; stamps lie below the clock. -/
def Kok (es : List (κ × Value × Nat)) (c : Nat) : Prop := (es.map (·.1)).Nodup ∧ (es.map (·.2.2)).Nodup ∧ ∀ e ∈ es, e.2.2 < c
theorem mput_keys (es : List (κ × Value × Nat)) (k : κ) (v : Value) (c : Nat) : (mput es k v c).map (·.1) = if k ∈ es.map (·.1) then es.map (·.1) else es.map (·.1) ++ [k] := by
  induction es with
  | nil => simp [mput]
  | cons e es ih =>
    unfold mput
    by_cases h : k = e.1
    · simp [h]
    · rw [if_neg h, List.map_cons, ih]
      by_cases h' : k ∈ es.map (·.1)
      · rw [if_pos h', if_pos (by simp only [List.map_cons, List.mem_cons]; exact .inr h')]; rfl
      · rw [if_neg h', if_neg (by simp only [List.map_cons, List.mem_cons, not_or]; exact ⟨h, h'⟩)]; rfl
theorem mput_born (es : List (κ × Value × Nat)) (k : κ) (v : Value) (c : Nat) : (mput es k v c).map (·.2.2) = if k ∈ es.map (·.1) then es.map (·.2.2) else es.map (·.2.2) ++ [c] := by
  induction es with
  | nil => simp [mput]
  | cons e es ih =>
    unfold mput
    by_cases h : k = e.1
    · simp [h]
    · rw [if_neg h, List.map_cons, ih]
      by_cases h' : k ∈ es.map (·.1)
      · rw [if_pos h', if_pos (by simp only [List.map_cons, List.mem_cons]; exact .inr h')]; rfl
      · rw [if_neg h', if_neg (by simp only [List.map_cons, List.mem_cons, not_or]; exact ⟨h, h'⟩)]; rfl
theorem mclk_eq (es : List (κ × Value × Nat)) (k : κ) (c : Nat) : mclk es k c = if k ∈ es.map (·.1) then c else c + 1 := by
  induction es with
  | nil => simp [mclk]
  | cons e es ih =>
    unfold mclk
    by_cases h : k = e.1
    · simp [h]
    · rw [if_neg h, ih]
      simp only [List.map_cons, List.mem_cons, h, false_or]
theorem mget_none (es : List (κ × Value × Nat)) (k : κ) : mget es k = none ↔ k ∉ es.map (·.1) := by
  induction es with
  | nil => simp [mget]
  | cons e es ih =>
    unfold mget
    by_cases h : k = e.1
    · simp [h]
    · rw [if_neg h, ih]
      simp only [List.map_cons, List.mem_cons, h, false_or]
theorem Kok.put {es : List (κ × Value × Nat)} {c : Nat} (h : Kok es c) (k : κ) (v : Value) : Kok (mput es k v c) (mclk es k c) := by
  obtain ⟨h1, h2, h3⟩ := h
  have hb : ∀ b ∈ es.map (·.2.2), b < c := by
    intro b hb
    obtain ⟨e, he, rfl⟩ := List.mem_map.1 hb
    exact h3 e he
  have hq : ∀ b ∈ (mput es k v c).map (·.2.2), b < mclk es k c := by
    intro b hm
    rw [mput_born] at hm
    rw [mclk_eq]
    by_cases hk : k ∈ es.map (·.1)
    · rw [if_pos hk] at hm ⊢; exact hb b hm
    · rw [if_neg hk] at hm ⊢
      rcases List.mem_append.1 hm with hm | hm
      · have := hb b hm; omega
      · simp at hm; omega
  refine ⟨?_, ?_, fun e he => hq _ (List.mem_map_of_mem he)⟩
  · rw [mput_keys]
    by_cases hk : k ∈ es.map (·.1)
    · rw [if_pos hk]; exact h1
    · rw [if_neg hk]
      exact List.nodup_append.2 ⟨h1, by simp, fun a ha b hb => by simp at hb; subst hb; exact fun e => hk (e ▸ ha)⟩
  · rw [mput_born]
    by_cases hk : k ∈ es.map (·.1)
    · rw [if_pos hk]; exact h2
    · rw [if_neg hk]
      exact List.nodup_append.2 ⟨h2, by simp, fun a ha b hb' => by simp at hb'; subst hb'; have := hb a ha; omega⟩
theorem mdel_sub (es : List (κ × Value × Nat)) (k : κ) : (mdel es k).Sublist es := by
  induction es with
  | nil => exact List.Sublist.slnil
  | cons e es ih =>
    unfold mdel
    by_cases h : k = e.1
    · rw [if_pos h]; exact List.sublist_cons_self _ _
    · rw [if_neg h]; exact ih.cons_cons _
theorem mget_del {es : List (κ × Value × Nat)} (hn : (es.map (·.1)).Nodup) (k k' : κ) : mget (mdel es k) k' = if k' = k then none else mget es k' := by
  induction es with
  | nil => simp [mdel, mget]
  | cons e es ih =>
    rw [List.map_cons, List.nodup_cons] at hn
    unfold mdel
    by_cases h : k = e.1
    · rw [if_pos h]
      by_cases h' : k' = k
      · rw [if_pos h', mget_none]; rw [h', h]; exact hn.1
      · rw [if_neg h']; conv => rhs; unfold mget
        rw [if_neg (fun x => h' (x.trans h.symm))]
    · rw [if_neg h]; simp only [mget]
      by_cases h' : k' = e.1
      · rw [if_pos h', if_neg (fun x => h (x.symm.trans h')), if_pos h']
      · rw [if_neg h', if_neg h', ih hn.2]
theorem mget_mem {es : List (κ × Value × Nat)} (hn : (es.map (·.1)).Nodup) {e : κ × Value × Nat} (he : e ∈ es) : mget es e.1 = some e.2.1 := by
  induction es with
  | nil => cases he
  | cons x es ih =>
    rw [List.map_cons, List.nodup_cons] at hn
    unfold mget
    rcases List.mem_cons.1 he with rfl | he
    · simp
    · rw [if_neg (fun h => hn.1 (by rw [← h]; exact List.mem_map_of_mem he))]
      exact ih hn.2 he
theorem mem_of_mget {es : List (κ × Value × Nat)} {k : κ} {v : Value} (h : mget es k = some v) : ∃ b, (k, v, b) ∈ es := by
  induction es with
  | nil => cases h
  | cons e es ih =>
    unfold mget at h
    by_cases hk : k = e.1
    · rw [if_pos hk] at h
      cases h
      exact ⟨e.2.2, by rw [hk]; exact List.mem_cons_self⟩
    · rw [if_neg hk] at h
      obtain ⟨b, hb⟩ := ih h
      exact ⟨b, List.mem_cons_of_mem _ hb⟩
end

theorem Kok.sub {κ : Type} {es es' : List (κ × Value × Nat)} {c : Nat} (h : Kok es c) (hs : es'.Sublist es) : Kok es' c :=
  ⟨h.1.sublist (hs.map _), h.2.1.sublist (hs.map _), fun e he => h.2.2 e (hs.subset he)⟩
/-- Block b is a map with these entries. -/
def Mp {κ : Type} (mk : κ → Value) (w : World) (b : Nat) (es : List (κ × Value × Nat)) (c : Nat) : Prop := w.heap[b]? = some (.map (es.map (ent mk)).toArray c) ∧ Kok es c
theorem Mp.lt {κ : Type} {mk : κ → Value} {w : World} {b : Nat} {es : List (κ × Value × Nat)} {c : Nat} (h : Mp mk w b es c) : b < w.heap.size := (Array.getElem?_eq_some_iff.1 h.1).1
theorem Mp.of_block {κ : Type} {mk : κ → Value} {w w' : World} {b : Nat} {es : List (κ × Value × Nat)} {c : Nat} (h : Mp mk w b es c) (hb : w'.heap[b]? = w.heap[b]?) : Mp mk w' b es c := ⟨hb.trans h.1, h.2⟩
theorem Mp.new {κ : Type} (mk : κ → Value) (w : World) : Mp mk (w.alloc (.map #[] 0)) w.heap.size [] 0 := ⟨(MapKept.heap_alloc w _).1, List.nodup_nil, List.nodup_nil, fun _ h => by cases h⟩

theorem mp_set {κ : Type} {mk : κ → Value} {w : World} {b c c' : Nat} {es es' : List (κ × Value × Nat)} (h : Mp mk w b es c) (hk : Kok es' c') : Mp mk (w.putObj b (.map (es'.map (ent mk)).toArray c')) b es' c' ∧ w.grownBy (w.putObj b (.map (es'.map (ent mk)).toArray c')) (some b) :=
  ⟨⟨World.putObj_heap_same h.lt, hk⟩, ⟨rfl, rfl, rfl, by simp, fun k _ hk => World.putObj_heap_other (fun e => hk (by rw [e]))⟩⟩
/-- What is asked of a key's type. -/
structure Ky {κ : Type} (P : Program) (K : TypeId) (d : TypeDesc) (mk : κ → Value) : Prop where
  und : P.underlying K = some d
  is : ∀ a, MapKept.IsKey d (mk a)
  inj : ∀ a b, mk a = mk b → a = b
theorem ky_int {P : Program} {K : TypeId} {q : IntKind} (h : P.underlying K = some (.int q)) : Ky P K (.int q) (Value.int q) := ⟨h, fun _ => rfl, fun _ _ e => by cases e; rfl⟩
theorem ky_str {P : Program} {K : TypeId} (h : P.underlying K = some .string) : Ky P K .string Value.string := ⟨h, fun _ => trivial, fun _ _ e => by cases e; rfl⟩

theorem run_len_mp {κ : Type} {P : Program} {K E T : TypeId} {mk : κ → Value} (ht : P.underlying T = some (.map K E)) {w : World} {b c : Nat} {es : List (κ × Value × Nat)} (h : Mp mk w b es c) (ty : TypeId) :
    (Builtin.len_ #[T] ty #[.map (some b)]).run P w = .ok (.int .i64 es.length) w := by
  simp [Builtin.len_, run_underlying ht, MapKept.run_getObj_map h.1, goInt]

section
variable {κ : Type} [DecidableEq κ] {P : Program} {K E T : TypeId} {d : TypeDesc} {mk : κ → Value}

theorem Ky.find (ky : Ky P K d mk) (k : κ) (es : List (κ × Value × Nat)) (i : Nat) : Instr.findNow d (mk k) (es.map (ent mk)) i = some (fidx es k i) := by
  induction es generalizing i with
  | nil => rfl
  | cons e es ih =>
    obtain ⟨r, hr, hiff⟩ := MapKept.sameNow_of_keys (ky.is k) (ky.is e.1)
    rw [List.map_cons]
    unfold Instr.findNow fidx
    rw [show (ent mk e).key = mk e.1 from rfl, hr]
    cases r with
    | true => rw [if_pos (ky.inj _ _ (hiff.1 rfl))]; rfl
    | false =>
      rw [if_neg (fun h => by have := hiff.2 (by rw [h]); cases this)]
      exact ih (i + 1)
theorem run_lookup_mp (ky : Ky P K d mk) (ht : P.underlying T = some (.map K E)) {w : World} {b c : Nat} {es : List (κ × Value × Nat)} (h : Mp mk w b es c) {z : Value} (hz : (zeroValue E).run P w = .ok z w) (k : κ) :
    (Instr.lookup T (.map (some b)) (mk k) false).run P w = .ok ((mget es k).getD z) w := by
  have hf := ky.find k es 0
  have hg := fidx_get es k 0
  cases hq : fidx es k 0 with
  | none =>
    rw [hq] at hf hg
    rw [← hg]
    simp [Instr.lookup, run_underlying ht, MapKept.run_getObj_map h.1, MapKept.run_checkKey ky.und (ky.is k), MapKept.run_findKey ky.und hf, hz]
  | some r =>
    rw [hq] at hf hg
    rw [← hg]
    simp [Instr.lookup, run_underlying ht, MapKept.run_getObj_map h.1, MapKept.run_checkKey ky.und (ky.is k), MapKept.run_findKey ky.und hf]
theorem fidx_put (es : List (κ × Value × Nat)) (k : κ) (v : Value) (i c : Nat) : (fidx es k i = none ∧ mput es k v c = es ++ [(k, v, c)] ∧ mclk es k c = c + 1 ∧ mdel es k = es) ∨
    ∃ j u, fidx es k i = some (i + j, u) ∧ ∃ e, es[j]? = some e ∧ e.1 = k ∧ mput es k v c = es.set j (k, v, e.2.2) ∧ mclk es k c = c ∧ mdel es k = es.eraseIdx j := by
  induction es generalizing i with
  | nil => exact .inl ⟨rfl, rfl, rfl, rfl⟩
  | cons e es ih =>
    unfold fidx mput mclk mdel
    by_cases h : k = e.1
    · exact .inr ⟨0, e.2.1, by simp [h], e, rfl, h.symm, by simp [h], by simp [h], by simp [h]⟩
    · rcases ih (i + 1) with ⟨h1, h2, h3, h4⟩ | ⟨j, u, h1, e', h2, h3, h4, h5, h6⟩
      · exact .inl ⟨by simp [h, h1], by simp [h, h2], by simp [h, h3], by simp [h, h4]⟩
      · exact .inr ⟨j + 1, u, by simp [h, h1]; omega, e', by simpa using h2, h3, by simp [h, h4], by simp [h, h5], by simp [h, h6]⟩
theorem run_update_mp (ky : Ky P K d mk) (ht : P.underlying T = some (.map K E)) {w : World} {b c : Nat} {es : List (κ × Value × Nat)} (h : Mp mk w b es c) (k : κ) (v : Value) :
    (Instr.mapUpdate T (.map (some b)) (mk k) v).run P w = .ok () (w.putObj b (.map ((mput es k v c).map (ent mk)).toArray (mclk es k c))) := by
  have hf := ky.find k es 0
  rcases fidx_put es k v 0 c with ⟨h1, h2, h3, _⟩ | ⟨j, u, h1, e, h2, h3, h4, h5, _⟩
  · rw [h1] at hf
    rw [h2, h3]
    simp [Instr.mapUpdate, run_underlying ht, MapKept.run_getObj_map h.1, MapKept.run_checkKey ky.und (ky.is k), MapKept.run_findKey ky.und hf, MapKept.run_setObj_map _ h.1]
    simp [World.putObj, ent]
  · rw [h1, Nat.zero_add] at hf
    rw [h4, h5]
    have hj : j < es.length := (List.getElem?_eq_some_iff.1 h2).1
    have hk : ((es.map (ent mk)).toArray[j]?.map (·.key)).getD (mk k) = mk k := by simp [h2, ent, h3]
    simp [Instr.mapUpdate, run_underlying ht, MapKept.run_getObj_map h.1, MapKept.run_checkKey ky.und (ky.is k), MapKept.run_findKey ky.und hf, MapKept.run_setObj_map _ h.1, MapKept.run_keyThatStays (ky.is k), h2, h3, ent]
    simp only [World.putObj]
    have he : (es.map (ent mk)).modify j (fun e => { key := mk k, val := v, born := e.born }) = (es.map (ent mk)).set j { key := mk k, val := v, born := e.2.2 } := by
      apply List.ext_getElem?
      intro i
      simp only [List.getElem?_modify, List.getElem?_map, List.getElem?_set, List.length_map]
      by_cases hi : j = i
      · subst hi
        rw [if_pos rfl, if_pos hj, h2]
        simp [ent]
      · simp [hi]
    rw [he]
theorem run_delete_mp (ky : Ky P K d mk) (ht : P.underlying T = some (.map K E)) {w : World} {b c : Nat} {es : List (κ × Value × Nat)} (h : Mp mk w b es c) (k : κ) (ty : TypeId) :
    (Builtin.delete_ #[T, K] ty #[.map (some b), mk k]).run P w = .ok (.tuple #[]) (w.putObj b (.map ((mdel es k).map (ent mk)).toArray c)) := by
  have hf := ky.find k es 0
  rcases fidx_put es k undef 0 c with ⟨h1, _, _, h2⟩ | ⟨j, u, h1, e, h2, h3, _, _, h4⟩
  · rw [h1] at hf
    rw [h2]
    simp [Builtin.delete_, run_underlying ht, MapKept.run_getObj_map h.1, MapKept.run_checkKey ky.und (ky.is k), MapKept.run_findKey ky.und hf, MapKept.run_setObj_map _ h.1]
    rfl
  · rw [h1, Nat.zero_add] at hf
    rw [h4]
    simp [Builtin.delete_, run_underlying ht, MapKept.run_getObj_map h.1, MapKept.run_checkKey ky.und (ky.is k), MapKept.run_findKey ky.und hf, MapKept.run_setObj_map _ h.1]
    simp only [World.putObj]
    congr 3
    rw [ChangeMaps.map_eraseIdx]
variable {F : Fence} {nF : Nat} {w : World} {ops : Array Oper} {rest : List Oper} {o : Oper} {a : Act} {Q : Exit → Act → World → Prop}
theorem wpList_lookup_mp (hg : o.guard = none) (m x : Operand) (hop : o.op = Op.lookup T m x false) (ky : Ky P K d mk) (ht : P.underlying T = some (.map K E)) (z : Value) (hz : (zeroValue E).run P w = .ok z w) (b c : Nat) (es : List (κ × Value × Nat))
    (hm : a.eval m = .map (some b)) (h : Mp mk w b es c) (k : κ) (hx : a.eval x = mk k) (v : Value) (hv : (mget es k).getD z = v) (hK : wpList P ops Q rest (a.put o.dst v) w) : wpList P ops Q (o :: rest) a w := by
  refine wpList_plain hg fun K' hK' => ?_
  have hrun := run_lookup_mp ky ht h hz k
  rw [hv] at hrun
  unfold Oper.wp
  simp [execOp, hop, hm, hx, hrun]
  exact hK' _ _ hK
theorem wpListIn_lookup_mp (hg : o.guard = none) (m x : Operand) (hop : o.op = Op.lookup T m x false) (ky : Ky P K d mk) (ht : P.underlying T = some (.map K E)) (z : Value) (hz : (zeroValue E).run P w = .ok z w) (b c : Nat) (es : List (κ × Value × Nat))
    (hm : a.eval m = .map (some b)) (h : Mp mk w b es c) (k : κ) (hx : a.eval x = mk k) (v : Value) (hv : (mget es k).getD z = v) (hK : wpListIn F nF P ops Q rest (a.put o.dst v) w) : wpListIn F nF P ops Q (o :: rest) a w := by
  refine wpListIn_plain hg fun K' hK' => ?_
  have hrun := run_lookup_mp ky ht h hz k
  rw [hv] at hrun
  unfold Oper.wpIn
  refine ⟨by simp [Oper.about, hop], ?_⟩
  rw [Oper.semAt_plain F _ _ (by rw [hop]; intro c hc'; cases hc')]
  simp [execOp, hop, hm, hx, hrun]
  exact hK' _ _ hK
theorem wpList_update_mp (hg : o.guard = none) (m x u : Operand) (hop : o.op = Op.mapUpdate T m x u) (ky : Ky P K d mk) (ht : P.underlying T = some (.map K E)) (b c : Nat) (es : List (κ × Value × Nat))
    (hm : a.eval m = .map (some b)) (h : Mp mk w b es c) (k : κ) (hx : a.eval x = mk k) (v : Value) (hv : a.eval u = v) (hK : ∀ w', Mp mk w' b (mput es k v c) (mclk es k c) → w.grownBy w' (some b) → wpList P ops Q rest (a.put o.dst undef) w') : wpList P ops Q (o :: rest) a w := by
  refine wpList_plain hg fun K' hK' => ?_
  have hrun := run_update_mp ky ht h k v
  obtain ⟨r1, r2⟩ := mp_set h (h.2.put k v)
  unfold Oper.wp
  simp [execOp, hop, hm, hx, hv, hrun]
  exact hK' _ _ (hK _ r1 r2)
theorem wpListIn_update_mp (hg : o.guard = none) (m x u : Operand) (hop : o.op = Op.mapUpdate T m x u) (ky : Ky P K d mk) (ht : P.underlying T = some (.map K E)) (b c : Nat) (es : List (κ × Value × Nat))
    (hm : a.eval m = .map (some b)) (h : Mp mk w b es c) (k : κ) (hx : a.eval x = mk k) (v : Value) (hv : a.eval u = v) (hK : ∀ w', Mp mk w' b (mput es k v c) (mclk es k c) → w.grownBy w' (some b) → wpListIn F nF P ops Q rest (a.put o.dst undef) w') : wpListIn F nF P ops Q (o :: rest) a w := by
  refine wpListIn_plain hg fun K' hK' => ?_
  have hrun := run_update_mp ky ht h k v
  obtain ⟨r1, r2⟩ := mp_set h (h.2.put k v)
  unfold Oper.wpIn
  refine ⟨by simp [Oper.about, hop], ?_⟩
  rw [Oper.semAt_plain F _ _ (by rw [hop]; intro c hc'; cases hc')]
  simp [execOp, hop, hm, hx, hv, hrun]
  exact hK' _ _ (hK _ r1 r2)
theorem wpList_delete_mp (hg : o.guard = none) (m x : Operand) (hop : o.op = Op.call { callee := Callee.builtin Builtin.delete, args := #[m, x], argTypes := #[T, K] }) (ky : Ky P K d mk) (ht : P.underlying T = some (.map K E)) (b c : Nat) (es : List (κ × Value × Nat))
    (hm : a.eval m = .map (some b)) (h : Mp mk w b es c) (k : κ) (hx : a.eval x = mk k) (hK : ∀ w', Mp mk w' b (mdel es k) c → w.grownBy w' (some b) → wpList P ops Q rest (a.put o.dst (.tuple #[])) w') : wpList P ops Q (o :: rest) a w := by
  refine wpList_plain hg fun K' hK' => ?_
  have hrun := run_delete_mp ky ht h k o.type
  obtain ⟨r1, r2⟩ := mp_set h (h.2.sub (mdel_sub es k))
  unfold Oper.wp
  simp [execOp, hop, resolve, invoke, builtin, hm, hx, hrun]
  exact hK' _ _ (hK _ r1 r2)
end
theorem wpList_len_mp {κ : Type} {P : Program} {K E T : TypeId} {mk : κ → Value} {w : World} {ops : Array Oper} {rest : List Oper} {o : Oper} {a : Act} {Q : Exit → Act → World → Prop} (hg : o.guard = none) (m : Operand) (hop : o.op = Op.call { callee := Callee.builtin Builtin.len, args := #[m], argTypes := #[T] }) (ht : P.underlying T = some (.map K E)) (b c : Nat) (es : List (κ × Value × Nat))
    (hm : a.eval m = .map (some b)) (h : Mp mk w b es c) (hK : wpList P ops Q rest (a.put o.dst (.int .i64 es.length)) w) : wpList P ops Q (o :: rest) a w := by
  refine wpList_plain hg fun K' hK' => ?_
  have hrun := run_len_mp ht h o.type
  unfold Oper.wp
  simp [execOp, hop, resolve, invoke, builtin, hm, hrun]
  exact hK' _ _ hK
end Go.Proofs.YtnccklbnncaeoaaGreat
/- Small contracts of store. -/
namespace Go.Proofs.YtnccklbnncaeoaaGreat
open Go.RowKit

/-- No store: nil, or a zero one. -/
def Nos (w : World) (v : Value) : Prop := v = .pointer none ∨ ∃ g, v = .pointer (some ⟨g, 0, none⟩) ∧ w.cell? ⟨g, 0, none⟩ = some (.map none)
theorem Nos.below {w w' : World} {v : Value} (h : Nos w v) (hb : Below w.heap.size w w') : Nos w' v := by
  rcases h with h | ⟨g, h1, h2⟩
  · exact .inl h
  · exact .inr ⟨g, h1, (hb.cell (block_lt_of_cell h2)).trans h2⟩
set_option maxRecDepth 100000 in
set_option maxHeartbeats 400000 in
theorem none_nos (v : Value) (w : World) (h : Nos w v) : Calls Tryz.prog 78 #[v] w fun e w' => e = .returned (.bool true) ∧ w' = w := by
  rcases h with rfl | ⟨g, rfl, hc⟩
  · go_enter Tryz.func78, Tryz.ntmps78
    go_wp2
    go_ret
    exact ⟨rfl, rfl⟩
  · have he : ∀ w : World, (binOp .eql 156 (.map none) (.map none)).run Tryz.prog w = .ok (.bool true) w := fun _ => rfl
    go_enter Tryz.func78, Tryz.ntmps78
    go_wp2
    go_ret
    exact ⟨rfl, rfl⟩
set_option maxRecDepth 100000 in
set_option maxHeartbeats 400000 in
theorem none_live (g m : Nat) (w : World) (hc : w.cell? ⟨g, 0, none⟩ = some (.map (some m))) : Calls Tryz.prog 78 #[.pointer (some ⟨g, 0, none⟩)] w fun e w' => e = .returned (.bool false) ∧ w' = w := by
  have he : ∀ w : World, (binOp .eql 156 (.map (some m)) (.map none)).run Tryz.prog w = .ok (.bool false) w := fun _ => rfl
  go_enter Tryz.func78, Tryz.ntmps78
  go_wp2
  go_ret
  exact ⟨rfl, rfl⟩
set_option maxRecDepth 100000 in
set_option maxHeartbeats 400000 in
theorem came_any (k n : Int) (w : World) : Calls Tryz.prog 90 #[.agg #[.int .i64 k, .int .i64 n]] w fun e w' => e = .returned (.int .i64 (if k = 1 then 5 else if k = 2 then 6 else 0)) ∧ Below w.heap.size w w' := by
  by_cases h1 : k = 1
  · subst h1
    go_enter Tryz.func90, Tryz.ntmps90
    go_wp2
    go_ret
    exact ⟨rfl, (Below.refl _ _).alloc (Nat.le_refl _) _⟩
  · have b1 : (k == 1) = false := beq_eq_false_iff_ne.2 h1
    by_cases h2 : k = 2
    · subst h2
      go_enter Tryz.func90, Tryz.ntmps90
      go_wp2
      go_ret
      exact ⟨rfl, (Below.refl _ _).alloc (Nat.le_refl _) _⟩
    · have b2 : (k == 2) = false := beq_eq_false_iff_ne.2 h2
      rw [if_neg h1, if_neg h2]
      go_enter Tryz.func90, Tryz.ntmps90
      go_wp2
      go_ret
      exact ⟨rfl, (Below.refl _ _).alloc (Nat.le_refl _) _⟩
set_option maxRecDepth 100000 in
set_option maxHeartbeats 400000 in
theorem kept_any (k n m : Int) (w : World) : Calls Tryz.prog 149 #[.agg #[.int .i64 k, .int .i64 n], .int .i64 m] w fun e w' => e = .returned (.int .i64 (if k = 0 then m else min (max n 0) m)) ∧ Below w.heap.size w w' := by
  by_cases h1 : k = 0
  · subst h1
    go_enter Tryz.func149, Tryz.ntmps149
    go_wp2
    go_ret
    exact ⟨rfl, (Below.refl _ _).alloc (Nat.le_refl _) _⟩
  · have b1 : (k == 0) = false := beq_eq_false_iff_ne.2 h1
    rw [if_neg h1]
    go_enter Tryz.func149, Tryz.ntmps149
    go_wp2
    all_goals
      go_ret
      exact ⟨ret_int (by omega), (Below.refl _ _).alloc (Nat.le_refl _) _⟩
set_option maxRecDepth 100000 in
set_option maxHeartbeats 400000 in
theorem ofNoKind_any (k n : Int) (w : World) : Calls Tryz.prog 93 #[.agg #[.int .i64 k, .int .i64 n]] w fun e w' => e = .returned (.bool (decide (k < 0 ∨ 2 < k))) ∧ Below w.heap.size w w' := by
  by_cases h1 : k < 0
  · go_enter Tryz.func93, Tryz.ntmps93
    go_wp2
    go_ret
    exact ⟨ret_bool (by simp [h1]), (Below.refl _ _).alloc (Nat.le_refl _) _⟩
  · by_cases h2 : 2 < k
    · go_enter Tryz.func93, Tryz.ntmps93
      go_wp2
      go_ret
      exact ⟨ret_bool (by simp), (Below.refl _ _).alloc (Nat.le_refl _) _⟩
    · go_enter Tryz.func93, Tryz.ntmps93
      go_wp2
      go_ret
      exact ⟨ret_bool (by simp; omega), (Below.refl _ _).alloc (Nat.le_refl _) _⟩
set_option maxRecDepth 100000 in
set_option maxHeartbeats 400000 in
theorem end_any (p : Int) (ao : Option Addr) (n c : Nat) (w : World) (h0 : 0 ≤ p) (h1 : p + n ≤ 4000000000000000000) : Calls Tryz.prog 179 #[.agg #[.int .i64 p, .slice ao n c]] w fun e w' => e = .returned (.int .i64 (p + n)) ∧ w' = w.alloc (.cells #[.int .i64 p, .slice ao n c] 215) := by
  go_enter Tryz.func179, Tryz.ntmps179
  go_wp2
  go_ret
  exact ⟨rfl, rfl⟩
set_option maxRecDepth 100000 in
set_option maxHeartbeats 400000 in
theorem cuts_any (p n : Int) (w : World) : Calls Tryz.prog 128 #[.int .i64 p, .int .i64 n] w fun e w' => e = .returned (.func (.func 162) #[] #[.pointer (some ⟨w.heap.size, 0, none⟩), .pointer (some ⟨w.heap.size + 1, 0, none⟩)]) ∧ w' = (w.alloc (.cells #[.int .i64 p] 2)).alloc (.cells #[.int .i64 n] 3) := by
  go_enter Tryz.func128, Tryz.ntmps128
  go_wp2
  go_ret
  exact ⟨rfl, rfl⟩
set_option maxRecDepth 100000 in
set_option maxHeartbeats 400000 in
theorem newFile_any (w : World) : Calls Tryz.prog 89 #[] w fun e w' => e = .returned (.pointer (some ⟨w.heap.size + 2, 0, none⟩)) ∧ w' = ((w.alloc (.map #[] 0)).alloc (.map #[] 0)).alloc (.cells #[.int .i64 0, .map (some w.heap.size), .map (some (w.heap.size + 1)), .slice none 0 0] 164) := by
  have hmm := @run_makeMap Tryz.prog
  go_enter Tryz.func89, Tryz.ntmps89
  go_wp2
  go_ret
  exact ⟨rfl, rfl⟩
end Go.Proofs.YtnccklbnncaeoaaGreat
