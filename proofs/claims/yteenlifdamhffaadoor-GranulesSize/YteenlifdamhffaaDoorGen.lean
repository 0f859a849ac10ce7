/- Rows of integers in memory, of whatever kind and program: what a slice reads as (Src), a row that is known whole (Rw, OwnI), append and make as steps; blocks that are kept (Kp). -/
import Derived.WalkKit
import Derived.WalkSpells
import Derived.WalkLawsBesides
import Derived.Laws.CopyOwn
import Derived.Laws.AppendOwnNone
import Derived.Laws.MakeOwn
import Derived.Deep.RegionLaw
namespace Go.Proofs.YteenlifdamhffaaDoor
open Go.RowKit

theorem bytes_le {b n : Nat} (hb : b ≤ 8) (hn : n ≤ 17592186044416) : n * b ≤ 140737488355328 := by
  have : n * b ≤ 17592186044416 * 8 := Nat.mul_le_mul hn hb
  omega


/-- Block g holds just these bytes (and none of them is frozen). -/
def Rw (κ : IntKind) (t : TypeId) (w : World) (g : Nat) (L : List Int) : Prop := w.heap[g]? = some (.cells (L.map (Value.int κ)).toArray t (0, 0))

theorem Rw.cell {κ : IntKind} {t : TypeId} {w : World} {g : Nat} {L : List Int} (h : Rw κ t w g L) (i : Nat) (hi : i < L.length) : w.cell? ⟨g, i, none⟩ = some (.int κ (L.getD i 0)) := by
  rw [cell_of_row w g i _ t _ h]
  simp [List.getD, hi]
theorem Rw.frozen {κ : IntKind} {t : TypeId} {w : World} {g : Nat} {L : List Int} (h : Rw κ t w g L) (i : Nat) : w.frozen? ⟨g, i, none⟩ = false := frozen_of_row w g i _ t h
theorem Rw.lt {κ : IntKind} {t : TypeId} {w : World} {g : Nat} {L : List Int} (h : Rw κ t w g L) : g < w.heap.size := (Array.getElem?_eq_some_iff.1 h).1
theorem Rw.set {κ : IntKind} {t : TypeId} {w : World} {g : Nat} {L : List Int} (h : Rw κ t w g L) (i : Nat) (v : Int) : Rw κ t (w.setCell ⟨g, i, none⟩ (.int κ v)) g (L.set i v) := by
  unfold Rw
  rw [heap_setCell_same w g i _ t _ h]
  simp [List.map_set]
theorem Rw.of_block {κ : IntKind} {t : TypeId} {w w' : World} {g : Nat} {L : List Int} (h : Rw κ t w g L) (hb : w'.heap[g]? = w.heap[g]?) : Rw κ t w' g L := by unfold Rw; rw [hb]; exact h
theorem Rw.below {κ : IntKind} {t : TypeId} {w w' : World} {g B : Nat} {L : List Int} (h : Rw κ t w g L) (hb : Below B w w') (hg : g < B) : Rw κ t w' g L := h.of_block (hb.block g hg)
theorem Rw.grown {κ : IntKind} {t : TypeId} {w w' : World} {g : Nat} {row : Option Nat} {L : List Int} (h : Rw κ t w g L) (hb : w.grownBy w' row) (hg : some g ≠ row) : Rw κ t w' g L := h.of_block (hb.block g h.lt hg)
theorem Rw.alloc {κ : IntKind} {t : TypeId} {w : World} {g : Nat} {L : List Int} (h : Rw κ t w g L) (o : Obj) : Rw κ t (w.alloc o) g L := h.of_block (Below.heap_alloc w o g h.lt)
theorem Rw.drew {κ : IntKind} {t : TypeId} {w : World} {g : Nat} {L : List Int} (h : Rw κ t w g L) : Rw κ t w.drew g L := h
theorem Rw.new (κ : IntKind) (t : TypeId) (w : World) (L : List Int) : Rw κ t (w.alloc (.cells (L.map (Value.int κ)).toArray t)) w.heap.size L := heap_alloc_new w _
theorem Rw.at {κ : IntKind} {t : TypeId} {w : World} {g : Nat} {L : List Int} (h : Rw κ t w g L) : w.heap[g]? = some (.cells (L.map (Value.int κ)).toArray t (0, 0)) := h
theorem Rw.of {κ : IntKind} {t : TypeId} {w : World} {g : Nat} {L : List Int} (h : w.heap[g]? = some (.cells (L.map (Value.int κ)).toArray t (0, 0))) : Rw κ t w g L := h
theorem Rw.cells {κ : IntKind} {t : TypeId} {w : World} {g : Nat} {L : List Int} (h : Rw κ t w g L) : ∀ i, i < L.length → w.cell? ⟨g, 0 + i, none⟩ = some (.int κ (L.getD i 0)) := fun i hi => by rw [Nat.zero_add]; exact h.cell i hi

theorem add_z (g j : Nat) : (⟨g, 0, none⟩ : Addr).add j = ⟨g, j, none⟩ := by unfold Addr.add; split <;> simp_all
theorem add_o (g o j : Nat) : (⟨g, o, none⟩ : Addr).add j = ⟨g, o + j, none⟩ := by unfold Addr.add; split <;> simp_all

theorem grown_trans {a b c : World} {row : Option Nat} (h : a.grownBy b row) (k : b.grownBy c row) : a.grownBy c row :=
  ⟨k.os.trans h.os, k.tape.trans h.tape, k.output.trans h.output, Nat.le_trans h.size k.size, fun i hi hne => (k.block i (Nat.lt_of_lt_of_le hi h.size) hne).trans (h.block i hi hne)⟩
theorem grown_refl (w : World) (row : Option Nat) : w.grownBy w row := ⟨rfl, rfl, rfl, Nat.le_refl _, fun _ _ _ => rfl⟩
theorem grown_of_below {w w' : World} {row : Option Nat} (h : Below w.heap.size w w') : w.grownBy w' row := ⟨h.os, h.tape, h.output, h.size, fun k hk _ => h.block k hk⟩
theorem splice_append {α : Type} (zs tl cs : List α) (o : Nat) (h : o + cs.length ≤ zs.length) : splice (zs ++ tl) o cs = splice zs o cs ++ tl := by
  unfold splice
  rw [List.take_append_of_le_length (by omega), List.drop_append_of_le_length h]
  simp

theorem grown_drew {a b : World} {row : Option Nat} (h : a.grownBy b row) : a.grownBy b.drew row := ⟨h.os, h.tape, h.output, h.size, h.block⟩
theorem grown_drew' {a b : World} {row : Option Nat} (h : a.drew.grownBy b row) : a.grownBy b row := ⟨h.os, h.tape, h.output, h.size, h.block⟩
theorem grown_alloc {a b : World} {row : Option Nat} (h : a.grownBy b row) (o : Obj) : a.grownBy (b.alloc o) row := grown_trans h (World.grownBy_alloc b o row)
theorem grown_setRow {w : World} (g : Nat) (cs : Array Value) : w.grownBy (w.setRow g cs) (some g) :=
  ⟨rfl, rfl, rfl, by simp, fun k _ hk => setRow_other w g k cs (fun e => hk (by rw [e]))⟩
theorem grown_setRow_new {a b : World} {row : Option Nat} (h : a.grownBy b row) (g : Nat) (hg : a.heap.size ≤ g) (cs : Array Value) : a.grownBy (b.setRow g cs) row :=
  ⟨h.os, h.tape, h.output, by simpa using h.size, fun k hk hne => (setRow_other b g k cs (by omega)).trans (h.block k hk hne)⟩
theorem below_of_grown {a b : World} {row : Option Nat} (h : a.grownBy b row) (B : Nat) (hB : B ≤ a.heap.size) (hr : ∀ k, row = some k → B ≤ k) : Below B a b := (Below.refl B a).grown h hB hr

theorem Rw.setRow {κ : IntKind} {t : TypeId} {w : World} {g : Nat} {L : List Int} (h : Rw κ t w g L) (M : List Int) : Rw κ t (w.setRow g (M.map (Value.int κ)).toArray) g M := setRow_heap w g _ _ t _ h
theorem Rw.setRow_other {κ : IntKind} {t : TypeId} {w : World} {g k : Nat} {L : List Int} (h : Rw κ t w g L) (cs : Array Value) (hne : g ≠ k) : Rw κ t (w.setRow k cs) g L := h.of_block (Go.setRow_other w k g cs hne)

theorem srcs {κ : IntKind} {w : World} {ad : Addr} {cs : List Int} (hsrc : ∀ j, j < cs.length → w.cell? (ad.add j) = some (.int κ (cs.getD j 0))) : ∀ j v, (cs.map (Value.int κ))[j]? = some v → w.cell? (ad.add j) = some v := by
  intro j v hv
  have hj : j < cs.length := by
    have := (List.getElem?_eq_some_iff.1 hv).1
    simpa using this
  rw [hsrc j hj]
  simp [hj] at hv
  simp [List.getD, hj, hv]
theorem ones (κ : IntKind) (cs : List Int) : ∀ v ∈ cs.map (Value.int κ), v.oneCell' = true := by
  intro v hv
  obtain ⟨n, _, rfl⟩ := List.mem_map.1 hv
  rfl

theorem ret_bool {a b : Bool} (h : a = b) : Ending.returned (.bool a) = .returned (.bool b) := by rw [h]
theorem ret_int {k : IntKind} {a b : Int} (h : a = b) : Ending.returned (.int k a) = .returned (.int k b) := by rw [h]

/-- The bytes that lie at an address (asked only where there are any). -/
def Src (κ : IntKind) (w : World) (ao : Option Addr) (zs : List Int) : Prop := 0 < zs.length → ∃ b off, ao = some ⟨b, off, none⟩ ∧ ∀ i, i < zs.length → w.cell? ⟨b, off + i, none⟩ = some (.int κ (zs.getD i 0))
/-- A slice that reads as these bytes. -/
def Str (κ : IntKind) (w : World) (v : Value) (xs : List Int) : Prop := ∃ ao cap, v = .slice ao xs.length cap ∧ Src κ w ao xs

theorem Src.below {κ : IntKind} {w w' : World} {ao : Option Addr} {zs : List Int} (h : Src κ w ao zs) (hb : Below w.heap.size w w') : Src κ w' ao zs := by
  intro hp
  obtain ⟨b, off, e, hc⟩ := h hp
  refine ⟨b, off, e, fun i hi => ?_⟩
  have hci := hc i hi
  have hlt := block_lt_of_cell hci
  rw [← hci]
  exact hb.cell hlt
theorem Src.nil (κ : IntKind) (w : World) (ao : Option Addr) : Src κ w ao [] := fun h => absurd h (by simp)
theorem Src.at {κ : IntKind} {w : World} {b off : Nat} {zs : List Int} (h : Src κ w (some ⟨b, off, none⟩) zs) : ∀ i, i < zs.length → w.cell? ⟨b, off + i, none⟩ = some (.int κ (zs.getD i 0)) := by
  intro i hi
  obtain ⟨b', off', e, hc⟩ := h (by omega)
  cases e
  exact hc i hi
theorem Src.mk {κ : IntKind} {w : World} {b off : Nat} {zs : List Int} (h : ∀ i, i < zs.length → w.cell? ⟨b, off + i, none⟩ = some (.int κ (zs.getD i 0))) : Src κ w (some ⟨b, off, none⟩) zs := fun _ => ⟨b, off, rfl, h⟩
theorem Src.take {κ : IntKind} {w : World} {b off : Nat} {zs : List Int} (h : Src κ w (some ⟨b, off, none⟩) zs) (n : Nat) : Src κ w (some ⟨b, off, none⟩) (zs.take n) := by
  refine Src.mk fun i hi => ?_
  have hi2 : i < n ∧ i < zs.length := by simp at hi; omega
  rw [h.at i hi2.2]
  simp [List.getD, hi2.1]
theorem Src.drop {κ : IntKind} {w : World} {b off : Nat} {zs : List Int} (h : Src κ w (some ⟨b, off, none⟩) zs) (n : Nat) : Src κ w (some ⟨b, off + n, none⟩) (zs.drop n) := by
  refine Src.mk fun i hi => ?_
  have hi2 : n + i < zs.length := by simp at hi; omega
  rw [Nat.add_assoc, h.at (n + i) hi2]
  simp [List.getD]

/-- A slice of the call's own, the bytes that it holds, and bytes behind them up to its capacity. -/
def OwnI (κ : IntKind) (ε : TypeId) (w : World) (base : Nat) (v : Value) (xs : List Int) : Prop :=
  (v = .slice none 0 0 ∧ xs = []) ∨ ∃ g cap tl, v = .slice (some ⟨g, 0, none⟩) xs.length cap ∧ base ≤ g ∧ Rw κ ε w g (xs ++ tl) ∧ (xs ++ tl).length = cap ∧ cap ≤ maxLen

theorem OwnI.lt {κ : IntKind} {ε : TypeId} {w : World} {base : Nat} {v : Value} {xs : List Int} (h : OwnI κ ε w base v xs) : ∀ k, v.ownBlock = some k → base ≤ k ∧ k < w.heap.size := by
  intro k hk
  rcases h with ⟨rfl, _⟩ | ⟨g, cap, tl, rfl, hb, hr, _⟩
  · simp [Value.ownBlock] at hk
  · simp [Value.ownBlock] at hk
    subst hk
    exact ⟨hb, hr.lt⟩
theorem OwnI.nil (κ : IntKind) (ε : TypeId) (w : World) (base : Nat) : OwnI κ ε w base (.slice none 0 0) [] := .inl ⟨rfl, rfl⟩
theorem OwnI.kept {κ : IntKind} {ε : TypeId} {w w' : World} {base : Nat} {v : Value} {xs : List Int} {row : Option Nat} (h : OwnI κ ε w base v xs) (hg : w.grownBy w' row) (hne : v.ownBlock = none ∨ v.ownBlock ≠ row) : OwnI κ ε w' base v xs := by
  rcases h with ⟨rfl, h2⟩ | ⟨g, cap, tl, rfl, hb, hr, h3, h4⟩
  · exact .inl ⟨rfl, h2⟩
  · exact .inr ⟨g, cap, tl, rfl, hb, hr.grown hg (by simpa [Value.ownBlock] using hne), h3, h4⟩
theorem OwnI.below {κ : IntKind} {ε : TypeId} {w w' : World} {base : Nat} {v : Value} {xs : List Int} (h : OwnI κ ε w base v xs) (hb : Below w.heap.size w w') : OwnI κ ε w' base v xs :=
  h.kept (grown_of_below (row := none) hb) (by cases hv : v.ownBlock <;> simp)
theorem OwnI.str {κ : IntKind} {ε : TypeId} {w : World} {base : Nat} {v : Value} {xs : List Int} (h : OwnI κ ε w base v xs) : Str κ w v xs := by
  rcases h with ⟨rfl, rfl⟩ | ⟨g, cap, tl, rfl, hb, hr, h3, h4⟩
  · exact ⟨none, 0, rfl, Src.nil _ _ _⟩
  · refine ⟨_, cap, rfl, Src.mk fun i hi => ?_⟩
    rw [Nat.zero_add, hr.cell i (by simp; omega)]
    simp [List.getD, List.getElem?_append_left hi]

theorem zero_cells (κ : IntKind) (n : Nat) : (Builtin.zeroCells #[.int κ 0] n).toList = (List.replicate n (0 : Int)).map (Value.int κ) := by
  apply List.ext_getElem?
  intro i
  by_cases hi : i < n
  · simp [Builtin.zeroCells, hi, Nat.mod_one]
  · simp [Builtin.zeroCells, hi]

theorem arr_rest (κ : IntKind) (xs : List Int) (k : Nat) : ((xs.map (Value.int κ)).toArray ++ Builtin.zeroCells #[.int κ 0] k) = ((xs ++ List.replicate k 0).map (Value.int κ)).toArray := by
  apply Array.ext'
  rw [Array.toList_append, zero_cells]
  simp

theorem run_append_rw {P : Program} {κ : IntKind} {ε : TypeId} (w : World) (base : Nat) (t ty : TypeId) (i : TypeInfo) (ht : P.underlying t = some (.slice ε)) (hi : P.info? ε = some i) (hz : i.zero = some (.int κ 0)) (hsize : i.size = 1) (hby : i.bytes ≤ 8)
    (v : Value) (xs : List Int) (hown : OwnI κ ε w base v xs) (ao : Option Addr) (c : Nat) (news : List Int) (hn : ao = none → c = 0) (hsrc : Src κ w ao news)
    (hb : xs.length + news.length ≤ 17592186044416) (hbase : base ≤ w.heap.size) :
    ∃ v' w', (Builtin.append_ #[t, t] ty #[v, .slice ao news.length c]).run P w = .ok v' w' ∧ OwnI κ ε w' base v' (xs ++ news) ∧ w.grownBy w' v.ownBlock ∧ ∀ b, v'.ownBlock = some b → v.ownBlock = some b ∨ w.heap.size ≤ b := by
  have hsz : (P.info? ε).map (·.size) = some 1 := by rw [hi]; simp [hsize]
  cases ao with
  | none =>
    have hz0 : news.length = 0 := by
      by_cases h0 : 0 < news.length
      · obtain ⟨b, off, e, _⟩ := hsrc h0; cases e
      · omega
    obtain rfl : news = [] := List.eq_nil_of_length_eq_zero hz0
    obtain rfl : c = 0 := hn rfl
    refine ⟨v, w, ?_, by simpa using hown, grown_refl _ _, fun b hb => .inl hb⟩
    rcases hown with ⟨rfl, rfl⟩ | ⟨g, cap, tl, rfl, hbg, hr, h3, h4⟩
    · simp [Builtin.append_, run_underlying ht, sizeOf, typeInfo, hi, Builtin.lenOf, Builtin.firstCells]
    · have : xs.length ≤ cap := by rw [← h3]; simp
      simp [Builtin.append_, run_underlying ht, sizeOf, typeInfo, hi, Builtin.lenOf, Builtin.firstCells, this, storeCells]
  | some ad =>
    have hnews : ∀ j u, (news.map (Value.int κ))[j]? = some u → w.cell? (ad.add j) = some u := srcs (by
      intro j hj
      obtain ⟨b, off, e, hc⟩ := hsrc (by omega)
      cases e
      rw [add_o]
      exact hc j hj)
    rcases hown with ⟨rfl, rfl⟩ | ⟨g, cap, tl, rfl, hbg, hr, h3, h4⟩
    · by_cases hm : news.length = 0
      · obtain rfl : news = [] := List.eq_nil_of_length_eq_zero hm
        refine ⟨.slice none 0 0, w, ?_, OwnI.nil _ _ _ _, grown_refl _ _, fun b hb => by simp [Value.ownBlock] at hb⟩
        simp [Builtin.append_, run_underlying ht, sizeOf, typeInfo, hi, Builtin.lenOf, Builtin.firstCells, loadCells, loadCellsFrom]
      · have hr := run_append_nil (P := P) w t ty ε i (.int κ 0) ht hi hz ad news.length c (news.map (Value.int κ)) (by simp [hsize]) hnews (by omega) (by omega) (Nat.le_trans (bytes_le hby (by simp at hb; omega)) (by decide))
        have hge := grownCap_ge w news.length 0 ε
        refine ⟨_, _, hr, .inr ⟨w.heap.size, grownCap w news.length 0 ε, List.replicate (grownCap w news.length 0 ε - news.length) 0, by simp, hbase, ?_, by simp; omega, grownCap_le_maxLen w news.length 0 ε (by unfold maxLen; simp at hb; omega)⟩, ⟨rfl, rfl, rfl, by simp, fun k hk _ => Below.heap_alloc w.drew _ k hk⟩, fun b hb => .inr (by simp [Value.ownBlock] at hb; omega)⟩
        show (w.drew.alloc _).heap[w.heap.size]? = _
        rw [show w.heap.size = w.drew.heap.size from rfl, heap_alloc_new, show (Value.int κ 0).cells = #[.int κ 0] from rfl, arr_rest]
        rfl
    · by_cases hroom : xs.length + news.length ≤ cap
      · have hfit : xs.length * i.size + (news.map (Value.int κ)).length ≤ ((xs ++ tl).map (Value.int κ)).toArray.size := by simp [hsize]; simp at h3; omega
        have hrun := run_append_room (P := P) w t ty ε i ht hi g xs.length cap _ hr ad news.length c (news.map (Value.int κ)) (by simp [hsize]) hnews (ones _ _) hroom hfit
        refine ⟨_, _, hrun, .inr ⟨g, cap, tl.drop news.length, by simp, hbg, ?_, by simp at h3 ⊢; omega, h4⟩, ⟨rfl, rfl, rfl, by simp, fun k _ hk => setRow_other w g k _ (fun e => hk (by simp [Value.ownBlock, e]))⟩, fun b hb => .inl (by simpa [Value.ownBlock] using hb)⟩
        unfold Rw
        rw [setRow_heap w g _ _ ε _ hr]
        congr 2
        simp [hsize, List.drop_append]
      · have holds : ∀ j u, (xs.map (Value.int κ))[j]? = some u → w.cell? ((⟨g, 0, none⟩ : Addr).add j) = some u := srcs (by
          intro j hj
          rw [add_z, hr.cell j (by simp; omega)]
          simp [List.getD, List.getElem?_append_left hj])
        have hrun := run_append_grow (P := P) w t ty ε i (.int κ 0) ht hi hz ⟨g, 0, none⟩ xs.length cap (xs.map (Value.int κ)) (by simp [hsize]) holds ad news.length c (news.map (Value.int κ)) (by simp [hsize]) hnews (by omega) (by omega) (growslice_fits (by omega) (bytes_le hby (by omega)))
        have hge := grownCap_ge w (xs.length + news.length) cap ε
        refine ⟨_, _, hrun, .inr ⟨w.heap.size, grownCap w (xs.length + news.length) cap ε, List.replicate (grownCap w (xs.length + news.length) cap ε - (xs.length + news.length)) 0, by simp, hbase, ?_, by simp; omega, grownCap_le_maxLen w _ cap ε (by unfold maxLen; omega)⟩, ⟨rfl, rfl, rfl, by simp, fun k hk _ => Below.heap_alloc w.drew _ k hk⟩, fun b hb => .inr (by simp [Value.ownBlock] at hb; omega)⟩
        show (w.drew.alloc _).heap[w.heap.size]? = _
        rw [show w.heap.size = w.drew.heap.size from rfl, heap_alloc_new, show (Value.int κ 0).cells = #[.int κ 0] from rfl, show (List.map (Value.int κ) xs).toArray ++ (List.map (Value.int κ) news).toArray = (List.map (Value.int κ) (xs ++ news)).toArray from by simp, arr_rest]


/-- append onto a row of one's own that is known whole, as one step. -/
theorem wpList_append_i {P : Program} {κ : IntKind} {w : World} {ops : Array Oper} {rest : List Oper} {o : Oper} {a : Act} {Q : Exit → Act → World → Prop} (T ε : TypeId) (bytes : Nat) (hT : P.underlying T = some (.slice ε)) (hinfo : (P.info? ε).map (fun i => (i.zero, i.size, i.bytes)) = some (some (.int κ 0), 1, bytes)) (hb8 : bytes ≤ 8) (hgd : o.guard = none) (s x : Operand)
    (ho : o.op = .call { callee := .builtin .append, args := #[s, x], argTypes := #[T, T] })
    (base : Nat) (v : Value) (xs : List Int) (hs : a.eval s = v) (hown : OwnI κ ε w base v xs)
    (ao : Option Addr) (m c : Nat) (news : List Int) (hx : a.eval x = .slice ao m c) (hl : news.length = m) (hn : ao = none → c = 0) (hsrc : Src κ w ao news)
    (hb : xs.length + news.length ≤ 17592186044416) (hbase : base ≤ w.heap.size)
    (h : ∀ v' w', OwnI κ ε w' base v' (xs ++ news) → w.grownBy w' v.ownBlock → (∀ b, v'.ownBlock = some b → v.ownBlock = some b ∨ w.heap.size ≤ b) → Below base w w' → wpList P ops Q rest (a.put o.dst v') w') : wpList P ops Q (o :: rest) a w := by
  obtain ⟨i0, hi, hz0, hz1, hz2⟩ := info_parts hinfo
  subst hl
  have hlt := hown.lt
  refine wpList_plain hgd fun K hK => ?_
  obtain ⟨v', w', hrun, h1, h2, h3⟩ := run_append_rw (P := P) w base T o.type i0 hT hi hz0 hz1 (by omega) v xs hown ao c news hn hsrc hb hbase
  unfold Oper.wp execOp
  simp only [ho, resolve, invoke, builtin, Sem.run_bind, Sem.run_pure, Result.andThen_ok, List.map_toArray, List.map_cons, List.map_nil, hs, hx, hrun]
  exact hK _ _ (h v' w' h1 h2 h3 (below_of_grown h2 _ hbase fun q hq => (hlt q hq).1))

/-- append as one step of a region that draws its order. -/
theorem step_append_i {P : Program} {κ : IntKind} {ops : Array Oper} {o : Oper} {a : Act} {w : World} {K : Act → World → Prop} {Q : Exit → Act → World → Prop} {E : Prop} (T ε : TypeId) (bytes : Nat) (hT : P.underlying T = some (.slice ε)) (hinfo : (P.info? ε).map (fun i => (i.zero, i.size, i.bytes)) = some (some (.int κ 0), 1, bytes)) (hb8 : bytes ≤ 8) (hgd : o.guard = none) (s x : Operand)
    (ho : o.op = .call { callee := .builtin .append, args := #[s, x], argTypes := #[T, T] })
    (base : Nat) (v : Value) (xs : List Int) (hs : a.eval s = v) (hown : OwnI κ ε w base v xs)
    (ao : Option Addr) (m c : Nat) (news : List Int) (hx : a.eval x = .slice ao m c) (hl : news.length = m) (hn : ao = none → c = 0) (hsrc : Src κ w ao news)
    (hb : xs.length + news.length ≤ 17592186044416) (hbase : base ≤ w.heap.size)
    (h : ∀ v' w', OwnI κ ε w' base v' (xs ++ news) → w.grownBy w' v.ownBlock → (∀ b, v'.ownBlock = some b → v.ownBlock = some b ∨ w.heap.size ≤ b) → K (a.put o.dst v') w') :
    if Region.wanted o (yielded ops a.tmps) = true then Oper.wp P o a w K Q else E := by
  have hw : Region.wanted o (yielded ops a.tmps) = true := by simp [Region.wanted, hgd]
  rw [if_pos hw]
  obtain ⟨i0, hi, hz0, hz1, hz2⟩ := info_parts hinfo
  subst hl
  obtain ⟨v', w', hrun, h1, h2, h3⟩ := run_append_rw (P := P) w base T o.type i0 hT hi hz0 hz1 (by omega) v xs hown ao c news hn hsrc hb hbase
  unfold Oper.wp execOp
  simp only [ho, resolve, invoke, builtin, Sem.run_bind, Sem.run_pure, Result.andThen_ok, List.map_toArray, List.map_cons, List.map_nil, hs, hx, hrun]
  exact h v' w' h1 h2 h3
theorem made_cells (κ : IntKind) (n : Nat) : madeCells #[.int κ 0] n = ((List.replicate n (0 : Int)).map (Value.int κ)).toArray := by
  apply Array.ext'
  apply List.ext_getElem?
  intro i
  by_cases hi : i < n
  · simp [madeCells, hi, Nat.mod_one]
  · simp [madeCells, hi]
theorem wpList_make_rw {P : Program} {κ : IntKind} {w : World} {ops : Array Oper} {rest : List Oper} {o : Oper} {a : Act} {Q : Exit → Act → World → Prop} (T ε : TypeId) (bytes : Nat) (hT : P.underlying T = some (.slice ε)) (hinfo : (P.info? ε).map (fun i => (i.zero, i.size, i.bytes)) = some (some (.int κ 0), 1, bytes)) (hb8 : bytes ≤ 8) (hgd : o.guard = none) (l c : Operand) (ho : o.op = Op.makeSlice T l c)
    (n : Nat) (hl : a.eval l = .int .i64 n) (hc : a.eval c = .int .i64 n) (hn : n ≤ 17592186044416)
    (h : ∀ w', Rw κ ε w' w.heap.size (List.replicate n 0) → Below w.heap.size w w' → wpList P ops Q rest (a.put o.dst (.slice (some ⟨w.heap.size, 0, none⟩) n n)) w') : wpList P ops Q (o :: rest) a w := by
  obtain ⟨i0, hi, hz0, hz1, hz2⟩ := info_parts hinfo
  refine wpList_plain hgd fun K hK => ?_
  have hmul : bytes * n ≤ 140737488355328 := by
    have : bytes * n ≤ 8 * 17592186044416 := Nat.mul_le_mul hb8 hn
    omega
  have hmul2 : (bytes : Int) * (n : Int) ≤ 140737488355328 := by rw [← Int.natCast_mul]; exact Int.ofNat_le.2 hmul
  have hr := run_make (P := P) w T ε i0 (.int κ 0) hT hi hz0 .i64 .i64 n n (by omega) (Int.le_refl _) (by rw [hz2]; omega) (by omega)
  rw [hz1, Int.toNat_natCast, Nat.mul_one, show (Value.int κ 0).cells = #[.int κ 0] from rfl, made_cells] at hr
  unfold Oper.wp
  simp only [execOp, ho, hl, hc, hr, Sem.run_bind, Sem.run_pure, Result.andThen_ok]
  exact hK _ _ (h _ (Rw.new κ ε w _) ((Below.refl _ _).alloc (Nat.le_refl _) _))

theorem row_zs {κ : IntKind} {ε : TypeId} {w : World} {G : Nat} {zs tl : List Int} (h : Rw κ ε w G (zs ++ tl)) : ∀ i, i < zs.length → w.cell? ⟨G, 0 + i, none⟩ = some (.int κ (zs.getD i 0)) := by
  intro i hi
  rw [Nat.zero_add, h.cell i (by simp; omega)]
  simp [List.getD, List.getElem?_append_left hi]
theorem row_src {κ : IntKind} {ε : TypeId} {w : World} {G : Nat} {zs tl : List Int} (h : Rw κ ε w G (zs ++ tl)) : Src κ w (some ⟨G, 0, none⟩) zs := Src.mk (row_zs h)
theorem Rw.src {κ : IntKind} {ε : TypeId} {w : World} {G : Nat} {zs : List Int} (h : Rw κ ε w G zs) : Src κ w (some ⟨G, 0, none⟩) zs := Src.mk h.cells

/-- All that was there is as it was, but for some blocks. -/
structure Kp (F : Nat → Prop) (w w' : World) : Prop where
  os : w'.os = w.os
  tape : w'.tape = w.tape
  output : w'.output = w.output
  size : w.heap.size ≤ w'.heap.size
  block : ∀ k, k < w.heap.size → ¬ F k → w'.heap[k]? = w.heap[k]?
theorem Kp.refl (F : Nat → Prop) (w : World) : Kp F w w := ⟨rfl, rfl, rfl, Nat.le_refl _, fun _ _ _ => rfl⟩
theorem Kp.trans {F G : Nat → Prop} {a b c : World} (h : Kp F a b) (k : Kp G b c) (hg : ∀ i, i < a.heap.size → G i → F i) : Kp F a c :=
  ⟨k.os.trans h.os, k.tape.trans h.tape, k.output.trans h.output, Nat.le_trans h.size k.size, fun i hi hf => (k.block i (Nat.lt_of_lt_of_le hi h.size) (fun x => hf (hg i hi x))).trans (h.block i hi hf)⟩
theorem Kp.mono {F G : Nat → Prop} {a b : World} (h : Kp F a b) (hg : ∀ i, i < a.heap.size → F i → G i) : Kp G a b :=
  ⟨h.os, h.tape, h.output, h.size, fun i hi hf => h.block i hi (fun x => hf (hg i hi x))⟩
theorem Kp.of_grown {F : Nat → Prop} {a b : World} {row : Option Nat} (h : a.grownBy b row) (hg : ∀ i, row = some i → F i) : Kp F a b :=
  ⟨h.os, h.tape, h.output, h.size, fun i hi hf => h.block i hi (fun e => hf (hg i e.symm))⟩
theorem Kp.of_below {F : Nat → Prop} {a b : World} (h : Below a.heap.size a b) : Kp F a b := ⟨h.os, h.tape, h.output, h.size, fun i hi _ => h.block i hi⟩
theorem Kp.below {F : Nat → Prop} {a b : World} {B : Nat} (h : Kp F a b) (hB : B ≤ a.heap.size) (hf : ∀ i, F i → B ≤ i) : Below B a b :=
  ⟨h.os, h.tape, h.output, h.size, fun i hi => h.block i (Nat.lt_of_lt_of_le hi hB) (fun x => absurd (hf i x) (by omega))⟩
theorem Kp.drew {F : Nat → Prop} {a b : World} (h : Kp F a b) : Kp F a b.drew := ⟨h.os, h.tape, h.output, h.size, h.block⟩
theorem Kp.alloc {F : Nat → Prop} {a b : World} (h : Kp F a b) (o : Obj) : Kp F a (b.alloc o) :=
  ⟨h.os, h.tape, h.output, Nat.le_trans h.size (by simp), fun i hi hf => (Below.heap_alloc b o i (Nat.lt_of_lt_of_le hi h.size)).trans (h.block i hi hf)⟩
theorem Rw.kp {κ : IntKind} {t : TypeId} {F : Nat → Prop} {w w' : World} {g : Nat} {L : List Int} (h : Rw κ t w g L) (k : Kp F w w') (hf : ¬ F g) : Rw κ t w' g L := h.of_block (k.block g h.lt hf)
theorem Src.kp {κ : IntKind} {F : Nat → Prop} {w w' : World} {ao : Option Addr} {zs : List Int} (h : Src κ w ao zs) (k : Kp F w w') (hf : ∀ b off, ao = some ⟨b, off, none⟩ → ¬ F b) : Src κ w' ao zs := by
  intro hp
  obtain ⟨b, off, e, hc⟩ := h hp
  refine ⟨b, off, e, fun i hi => ?_⟩
  have hci := hc i hi
  have hlt := block_lt_of_cell hci
  rw [← hci]
  have hb := k.block b hlt (hf b off e)
  unfold World.cell?
  simp only [hb]
theorem OwnI.kp {κ : IntKind} {ε : TypeId} {F : Nat → Prop} {w w' : World} {base : Nat} {v : Value} {xs : List Int} (h : OwnI κ ε w base v xs) (k : Kp F w w') (hf : ∀ b, v.ownBlock = some b → ¬ F b) : OwnI κ ε w' base v xs := by
  rcases h with ⟨rfl, h2⟩ | ⟨g, cap, tl, rfl, hb, hr, h3, h4⟩
  · exact .inl ⟨rfl, h2⟩
  · exact .inr ⟨g, cap, tl, rfl, hb, hr.kp k (hf g (by simp [Value.ownBlock])), h3, h4⟩
theorem OwnI.mono {κ : IntKind} {ε : TypeId} {w : World} {base base' : Nat} {v : Value} {xs : List Int} (h : OwnI κ ε w base v xs) (hb : base' ≤ base) : OwnI κ ε w base' v xs := by
  rcases h with ⟨rfl, h2⟩ | ⟨g, cap, tl, rfl, h1, h2⟩
  · exact .inl ⟨rfl, h2⟩
  · exact .inr ⟨g, cap, tl, rfl, by omega, h2⟩

end Go.Proofs.YteenlifdamhffaaDoor
