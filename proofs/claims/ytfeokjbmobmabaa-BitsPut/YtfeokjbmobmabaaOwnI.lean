/- Rows of bytes of one's own: what a slice of bytes reads as (Src), a row that is known whole (OwnI), append onto it, make, string(b), as steps; blocks that are kept (Kp). -/
import Derived.Test.YtfeokjbmobmabaaRows
import Derived.Test.YtfeokjbmobmabaaLaws
import Derived.Test.YtfeokjbmobmabaaBin
import Derived.Laws.AppendOwnNone
import Derived.Laws.MakeOwn
namespace Go.Proofs.Ytfeokjbmobmabaa
open Go.RowKit

theorem Try.info5 : (Try.prog.info? 5).map (fun i => (i.zero, i.size, i.bytes)) = some (some (.int .u8 0), 1, 1) := by kernel_rfl
theorem info5 : (Try.prog.info? 5).map (·.size) = some 1 := by kernel_rfl
theorem ret_bool {a b : Bool} (h : a = b) : Ending.returned (.bool a) = .returned (.bool b) := by rw [h]
theorem ret_int {k : IntKind} {a b : Int} (h : a = b) : Ending.returned (.int k a) = .returned (.int k b) := by rw [h]

/-- The bytes that lie at an address (asked only where there are any). -/
def Src (w : World) (ao : Option Addr) (zs : List Int) : Prop := 0 < zs.length → ∃ b off, ao = some ⟨b, off, none⟩ ∧ ∀ i, i < zs.length → w.cell? ⟨b, off + i, none⟩ = some (.int .u8 (zs.getD i 0))
/-- A slice that reads as these bytes. -/
def Str (w : World) (v : Value) (xs : List Int) : Prop := ∃ ao cap, v = .slice ao xs.length cap ∧ Src w ao xs

theorem Src.below {w w' : World} {ao : Option Addr} {zs : List Int} (h : Src w ao zs) (hb : Below w.heap.size w w') : Src w' ao zs := by
  intro hp
  obtain ⟨b, off, e, hc⟩ := h hp
  refine ⟨b, off, e, fun i hi => ?_⟩
  have hci := hc i hi
  have hlt := block_lt_of_cell hci
  rw [← hci]
  exact hb.cell hlt
theorem Src.nil (w : World) (ao : Option Addr) : Src w ao [] := fun h => absurd h (by simp)
theorem Src.at {w : World} {b off : Nat} {zs : List Int} (h : Src w (some ⟨b, off, none⟩) zs) : ∀ i, i < zs.length → w.cell? ⟨b, off + i, none⟩ = some (.int .u8 (zs.getD i 0)) := by
  intro i hi
  obtain ⟨b', off', e, hc⟩ := h (by omega)
  cases e
  exact hc i hi
theorem Src.mk {w : World} {b off : Nat} {zs : List Int} (h : ∀ i, i < zs.length → w.cell? ⟨b, off + i, none⟩ = some (.int .u8 (zs.getD i 0))) : Src w (some ⟨b, off, none⟩) zs := fun _ => ⟨b, off, rfl, h⟩
theorem Src.take {w : World} {b off : Nat} {zs : List Int} (h : Src w (some ⟨b, off, none⟩) zs) (n : Nat) : Src w (some ⟨b, off, none⟩) (zs.take n) := by
  refine Src.mk fun i hi => ?_
  have hi2 : i < n ∧ i < zs.length := by simp at hi; omega
  rw [h.at i hi2.2]
  simp [List.getD, hi2.1]
theorem Src.drop {w : World} {b off : Nat} {zs : List Int} (h : Src w (some ⟨b, off, none⟩) zs) (n : Nat) : Src w (some ⟨b, off + n, none⟩) (zs.drop n) := by
  refine Src.mk fun i hi => ?_
  have hi2 : n + i < zs.length := by simp at hi; omega
  rw [Nat.add_assoc, h.at (n + i) hi2]
  simp [List.getD]

/-- A slice of the call's own, the bytes that it holds, and bytes behind them up to its capacity. -/
def OwnI (w : World) (base : Nat) (v : Value) (xs : List Int) : Prop :=
  (v = .slice none 0 0 ∧ xs = []) ∨ ∃ g cap tl, v = .slice (some ⟨g, 0, none⟩) xs.length cap ∧ base ≤ g ∧ Rw 5 w g (xs ++ tl) ∧ (xs ++ tl).length = cap ∧ cap ≤ maxLen

theorem OwnI.lt {w : World} {base : Nat} {v : Value} {xs : List Int} (h : OwnI w base v xs) : ∀ k, v.ownBlock = some k → base ≤ k ∧ k < w.heap.size := by
  intro k hk
  rcases h with ⟨rfl, _⟩ | ⟨g, cap, tl, rfl, hb, hr, _⟩
  · simp [Value.ownBlock] at hk
  · simp [Value.ownBlock] at hk
    subst hk
    exact ⟨hb, hr.lt⟩
theorem OwnI.nil (w : World) (base : Nat) : OwnI w base (.slice none 0 0) [] := .inl ⟨rfl, rfl⟩
theorem OwnI.kept {w w' : World} {base : Nat} {v : Value} {xs : List Int} {row : Option Nat} (h : OwnI w base v xs) (hg : w.grownBy w' row) (hne : v.ownBlock = none ∨ v.ownBlock ≠ row) : OwnI w' base v xs := by
  rcases h with ⟨rfl, h2⟩ | ⟨g, cap, tl, rfl, hb, hr, h3, h4⟩
  · exact .inl ⟨rfl, h2⟩
  · exact .inr ⟨g, cap, tl, rfl, hb, hr.grown hg (by simpa [Value.ownBlock] using hne), h3, h4⟩
theorem OwnI.below {w w' : World} {base : Nat} {v : Value} {xs : List Int} (h : OwnI w base v xs) (hb : Below w.heap.size w w') : OwnI w' base v xs :=
  h.kept (grown_of_below (row := none) hb) (by cases hv : v.ownBlock <;> simp)
theorem OwnI.str {w : World} {base : Nat} {v : Value} {xs : List Int} (h : OwnI w base v xs) : Str w v xs := by
  rcases h with ⟨rfl, rfl⟩ | ⟨g, cap, tl, rfl, hb, hr, h3, h4⟩
  · exact ⟨none, 0, rfl, Src.nil _ _⟩
  · refine ⟨_, cap, rfl, Src.mk fun i hi => ?_⟩
    rw [Nat.zero_add, hr.cell i (by simp; omega)]
    simp [List.getD, List.getElem?_append_left hi]

theorem zero_cells (n : Nat) : (Builtin.zeroCells #[.int .u8 0] n).toList = (List.replicate n (0 : Int)).map (Value.int .u8) := by
  apply List.ext_getElem?
  intro i
  by_cases hi : i < n
  · simp [Builtin.zeroCells, hi, Nat.mod_one]
  · simp [Builtin.zeroCells, hi]

theorem arr_rest (xs : List Int) (k : Nat) : ((xs.map (Value.int .u8)).toArray ++ Builtin.zeroCells #[.int .u8 0] k) = ((xs ++ List.replicate k 0).map (Value.int .u8)).toArray := by
  apply Array.ext'
  rw [Array.toList_append, zero_cells]
  simp

theorem run_append_rw {P : Program} (w : World) (base : Nat) (t ty : TypeId) (i : TypeInfo) (ht : P.underlying t = some (.slice 5)) (hi : P.info? 5 = some i) (hz : i.zero = some (.int .u8 0)) (hsize : i.size = 1) (hby : i.bytes = 1)
    (v : Value) (xs : List Int) (hown : OwnI w base v xs) (ao : Option Addr) (c : Nat) (news : List Int) (hn : ao = none → c = 0) (hsrc : Src w ao news)
    (hb : xs.length + news.length ≤ 140737488355328) (hbase : base ≤ w.heap.size) :
    ∃ v' w', (Builtin.append_ #[t, t] ty #[v, .slice ao news.length c]).run P w = .ok v' w' ∧ OwnI w' base v' (xs ++ news) ∧ w.grownBy w' v.ownBlock ∧ ∀ b, v'.ownBlock = some b → v.ownBlock = some b ∨ w.heap.size ≤ b := by
  have hsz : (P.info? 5).map (·.size) = some 1 := by rw [hi]; simp [hsize]
  cases ao with
  | none =>
    have hz0 : news.length = 0 := by
      by_cases h0 : 0 < news.length
      · obtain ⟨b, off, e, _⟩ := hsrc h0; cases e
      · omega
    obtain rfl : news = [] := List.eq_nil_of_length_eq_zero hz0
    obtain rfl : c = 0 := hn rfl
    refine ⟨v, w, ?_, by simpa using hown, grown_refl _ _, fun b hb => .inl hb⟩
    rcases hown with ⟨rfl, rfl⟩ | ⟨g, cap, tl, rfl, hbg, hr, h3, h4⟩
    · simp [Builtin.append_, run_underlying ht, sizeOf, typeInfo, hi, Builtin.lenOf, Builtin.firstCells]
    · have : xs.length ≤ cap := by rw [← h3]; simp
      simp [Builtin.append_, run_underlying ht, sizeOf, typeInfo, hi, Builtin.lenOf, Builtin.firstCells, this, storeCells]
  | some ad =>
    have hnews : ∀ j u, (news.map (Value.int .u8))[j]? = some u → w.cell? (ad.add j) = some u := srcs (by
      intro j hj
      obtain ⟨b, off, e, hc⟩ := hsrc (by omega)
      cases e
      rw [add_o]
      exact hc j hj)
    rcases hown with ⟨rfl, rfl⟩ | ⟨g, cap, tl, rfl, hbg, hr, h3, h4⟩
    · by_cases hm : news.length = 0
      · obtain rfl : news = [] := List.eq_nil_of_length_eq_zero hm
        refine ⟨.slice none 0 0, w, ?_, OwnI.nil _ _, grown_refl _ _, fun b hb => by simp [Value.ownBlock] at hb⟩
        simp [Builtin.append_, run_underlying ht, sizeOf, typeInfo, hi, Builtin.lenOf, Builtin.firstCells, loadCells, loadCellsFrom]
      · have hr := run_append_nil (P := P) w t ty 5 i (.int .u8 0) ht hi hz ad news.length c (news.map (Value.int .u8)) (by simp [hsize]) hnews (by omega) (by omega) (by rw [hby]; simp at hb; omega)
        have hge := grownCap_ge w news.length 0 5
        refine ⟨_, _, hr, .inr ⟨w.heap.size, grownCap w news.length 0 5, List.replicate (grownCap w news.length 0 5 - news.length) 0, by simp, hbase, ?_, by simp; omega, grownCap_le_maxLen w news.length 0 5 (by unfold maxLen; simp at hb; omega)⟩, ⟨rfl, rfl, rfl, by simp, fun k hk _ => Below.heap_alloc w.drew _ k hk⟩, fun b hb => .inr (by simp [Value.ownBlock] at hb; omega)⟩
        show (w.drew.alloc _).heap[w.heap.size]? = _
        rw [show w.heap.size = w.drew.heap.size from rfl, heap_alloc_new, show (Value.int IntKind.u8 0).cells = #[.int .u8 0] from rfl, arr_rest]
        rfl
    · by_cases hroom : xs.length + news.length ≤ cap
      · have hfit : xs.length * i.size + (news.map (Value.int .u8)).length ≤ ((xs ++ tl).map (Value.int .u8)).toArray.size := by simp [hsize]; simp at h3; omega
        have hrun := run_append_room (P := P) w t ty 5 i ht hi g xs.length cap _ hr ad news.length c (news.map (Value.int .u8)) (by simp [hsize]) hnews (ones _) hroom hfit
        refine ⟨_, _, hrun, .inr ⟨g, cap, tl.drop news.length, by simp, hbg, ?_, by simp at h3 ⊢; omega, h4⟩, ⟨rfl, rfl, rfl, by simp, fun k _ hk => setRow_other w g k _ (fun e => hk (by simp [Value.ownBlock, e]))⟩, fun b hb => .inl (by simpa [Value.ownBlock] using hb)⟩
        unfold Rw
        rw [setRow_heap w g _ _ 5 _ hr]
        congr 2
        simp [hsize, List.drop_append]
      · have holds : ∀ j u, (xs.map (Value.int .u8))[j]? = some u → w.cell? ((⟨g, 0, none⟩ : Addr).add j) = some u := srcs (by
          intro j hj
          rw [add_z, hr.cell j (by simp; omega)]
          simp [List.getD, List.getElem?_append_left hj])
        have hrun := run_append_grow (P := P) w t ty 5 i (.int .u8 0) ht hi hz ⟨g, 0, none⟩ xs.length cap (xs.map (Value.int .u8)) (by simp [hsize]) holds ad news.length c (news.map (Value.int .u8)) (by simp [hsize]) hnews (by omega) (by omega) (growslice_fits (by omega) (by rw [hby]; omega))
        have hge := grownCap_ge w (xs.length + news.length) cap 5
        refine ⟨_, _, hrun, .inr ⟨w.heap.size, grownCap w (xs.length + news.length) cap 5, List.replicate (grownCap w (xs.length + news.length) cap 5 - (xs.length + news.length)) 0, by simp, hbase, ?_, by simp; omega, grownCap_le_maxLen w _ cap 5 (by unfold maxLen; omega)⟩, ⟨rfl, rfl, rfl, by simp, fun k hk _ => Below.heap_alloc w.drew _ k hk⟩, fun b hb => .inr (by simp [Value.ownBlock] at hb; omega)⟩
        show (w.drew.alloc _).heap[w.heap.size]? = _
        rw [show w.heap.size = w.drew.heap.size from rfl, heap_alloc_new, show (Value.int IntKind.u8 0).cells = #[.int .u8 0] from rfl, show (List.map (Value.int IntKind.u8) xs).toArray ++ (List.map (Value.int IntKind.u8) news).toArray = (List.map (Value.int IntKind.u8) (xs ++ news)).toArray from by simp, arr_rest]

/-- append of bytes onto a row of one's own that is known whole, as one step. -/
theorem wpList_append_i {w : World} {ops : Array Oper} {rest : List Oper} {o : Oper} {a : Act} {Q : Exit → Act → World → Prop} (hgd : o.guard = none) (s x : Operand)
    (ho : o.op = .call { callee := .builtin .append, args := #[s, x], argTypes := #[26, 26] })
    (base : Nat) (v : Value) (xs : List Int) (hs : a.eval s = v) (hown : OwnI w base v xs)
    (ao : Option Addr) (m c : Nat) (news : List Int) (hx : a.eval x = .slice ao m c) (hl : news.length = m) (hn : ao = none → c = 0) (hsrc : Src w ao news)
    (hb : xs.length + news.length ≤ 140737488355328) (hbase : base ≤ w.heap.size)
    (h : ∀ v' w', OwnI w' base v' (xs ++ news) → w.grownBy w' v.ownBlock → (∀ b, v'.ownBlock = some b → v.ownBlock = some b ∨ w.heap.size ≤ b) → Below base w w' → wpList Try.prog ops Q rest (a.put o.dst v') w') : wpList Try.prog ops Q (o :: rest) a w := by
  obtain ⟨i0, hi, hz0, hz1, hz2⟩ := info_parts Try.info5
  subst hl
  have hlt := hown.lt
  refine wpList_plain hgd fun K hK => ?_
  obtain ⟨v', w', hrun, h1, h2, h3⟩ := run_append_rw (P := Try.prog) w base 26 o.type i0 Try.underlying26 hi hz0 hz1 hz2 v xs hown ao c news hn hsrc hb hbase
  unfold Oper.wp execOp
  simp only [ho, resolve, invoke, builtin, Sem.run_bind, Sem.run_pure, Result.andThen_ok, List.map_toArray, List.map_cons, List.map_nil, hs, hx, hrun]
  exact hK _ _ (h v' w' h1 h2 h3 (below_of_grown h2 _ hbase fun k hk => (hlt k hk).1))


/-- append as one step of a region that draws its order. -/
theorem step_append_i {ops : Array Oper} {o : Oper} {a : Act} {w : World} {K : Act → World → Prop} {Q : Exit → Act → World → Prop} {E : Prop} (hgd : o.guard = none) (s x : Operand)
    (ho : o.op = .call { callee := .builtin .append, args := #[s, x], argTypes := #[26, 26] })
    (base : Nat) (v : Value) (xs : List Int) (hs : a.eval s = v) (hown : OwnI w base v xs)
    (ao : Option Addr) (m c : Nat) (news : List Int) (hx : a.eval x = .slice ao m c) (hl : news.length = m) (hn : ao = none → c = 0) (hsrc : Src w ao news)
    (hb : xs.length + news.length ≤ 140737488355328) (hbase : base ≤ w.heap.size)
    (h : ∀ v' w', OwnI w' base v' (xs ++ news) → w.grownBy w' v.ownBlock → (∀ b, v'.ownBlock = some b → v.ownBlock = some b ∨ w.heap.size ≤ b) → K (a.put o.dst v') w') :
    if Region.wanted o (yielded ops a.tmps) = true then Oper.wp Try.prog o a w K Q else E := by
  have hw : Region.wanted o (yielded ops a.tmps) = true := by simp [Region.wanted, hgd]
  rw [if_pos hw]
  obtain ⟨i0, hi, hz0, hz1, hz2⟩ := info_parts Try.info5
  subst hl
  obtain ⟨v', w', hrun, h1, h2, h3⟩ := run_append_rw (P := Try.prog) w base 26 o.type i0 Try.underlying26 hi hz0 hz1 hz2 v xs hown ao c news hn hsrc hb hbase
  unfold Oper.wp execOp
  simp only [ho, resolve, invoke, builtin, Sem.run_bind, Sem.run_pure, Result.andThen_ok, List.map_toArray, List.map_cons, List.map_nil, hs, hx, hrun]
  exact h v' w' h1 h2 h3
theorem made_cells (n : Nat) : madeCells #[.int .u8 0] n = ((List.replicate n (0 : Int)).map (Value.int .u8)).toArray := by
  apply Array.ext'
  apply List.ext_getElem?
  intro i
  by_cases hi : i < n
  · simp [madeCells, hi, Nat.mod_one]
  · simp [madeCells, hi]

theorem wpList_make_rw {w : World} {ops : Array Oper} {rest : List Oper} {o : Oper} {a : Act} {Q : Exit → Act → World → Prop} (hgd : o.guard = none) (l c : Operand) (ho : o.op = Op.makeSlice 26 l c)
    (n : Nat) (hl : a.eval l = .int .i64 n) (hc : a.eval c = .int .i64 n) (hn : n ≤ 140737488355328)
    (h : ∀ w', Rw 5 w' w.heap.size (List.replicate n 0) → Below w.heap.size w w' → wpList Try.prog ops Q rest (a.put o.dst (.slice (some ⟨w.heap.size, 0, none⟩) n n)) w') : wpList Try.prog ops Q (o :: rest) a w := by
  obtain ⟨i0, hi, hz0, hz1, hz2⟩ := info_parts Try.info5
  refine wpList_plain hgd fun K hK => ?_
  have hr := run_make (P := Try.prog) w 26 5 i0 (.int .u8 0) Try.underlying26 hi hz0 .i64 .i64 n n (by omega) (Int.le_refl _) (by rw [hz2]; omega) (by omega)
  rw [hz1, Int.toNat_natCast, Nat.mul_one, show (Value.int IntKind.u8 0).cells = #[.int .u8 0] from rfl, made_cells] at hr
  unfold Oper.wp
  simp only [execOp, ho, hl, hc, hr, Sem.run_bind, Sem.run_pure, Result.andThen_ok]
  exact hK _ _ (h _ (Rw.new 5 w _) ((Below.refl _ _).alloc (Nat.le_refl _) _))


theorem cv {w : World} {ao : Option Addr} {len c : Nat} {xs : List Int} (hl : xs.length = len) (h : Src w ao xs) : (convert 26 9 (.slice ao len c)).run Try.prog w = .ok (.string (strOfNums xs)) w := by
  subst hl
  exact run_convert_rw w 26 9 5 Try.underlying26 Try.underlying5 Try.underlying9 ao _ c xs rfl h
theorem row_zs {w : World} {G : Nat} {zs tl : List Int} (h : Rw 5 w G (zs ++ tl)) : ∀ i, i < zs.length → w.cell? ⟨G, 0 + i, none⟩ = some (.int .u8 (zs.getD i 0)) := by
  intro i hi
  rw [Nat.zero_add, h.cell i (by simp; omega)]
  simp [List.getD, List.getElem?_append_left hi]
theorem row_src {w : World} {G : Nat} {zs tl : List Int} (h : Rw 5 w G (zs ++ tl)) : Src w (some ⟨G, 0, none⟩) zs := Src.mk (row_zs h)
theorem Rw.src {w : World} {G : Nat} {zs : List Int} (h : Rw 5 w G zs) : Src w (some ⟨G, 0, none⟩) zs := Src.mk h.cells

/-- All that was there is as it was, but for some blocks. -/
structure Kp (F : Nat → Prop) (w w' : World) : Prop where
  os : w'.os = w.os
  tape : w'.tape = w.tape
  output : w'.output = w.output
  size : w.heap.size ≤ w'.heap.size
  block : ∀ k, k < w.heap.size → ¬ F k → w'.heap[k]? = w.heap[k]?
theorem Kp.refl (F : Nat → Prop) (w : World) : Kp F w w := ⟨rfl, rfl, rfl, Nat.le_refl _, fun _ _ _ => rfl⟩
theorem Kp.trans {F G : Nat → Prop} {a b c : World} (h : Kp F a b) (k : Kp G b c) (hg : ∀ i, i < a.heap.size → G i → F i) : Kp F a c :=
  ⟨k.os.trans h.os, k.tape.trans h.tape, k.output.trans h.output, Nat.le_trans h.size k.size, fun i hi hf => (k.block i (Nat.lt_of_lt_of_le hi h.size) (fun x => hf (hg i hi x))).trans (h.block i hi hf)⟩
theorem Kp.mono {F G : Nat → Prop} {a b : World} (h : Kp F a b) (hg : ∀ i, i < a.heap.size → F i → G i) : Kp G a b :=
  ⟨h.os, h.tape, h.output, h.size, fun i hi hf => h.block i hi (fun x => hf (hg i hi x))⟩
theorem Kp.of_grown {F : Nat → Prop} {a b : World} {row : Option Nat} (h : a.grownBy b row) (hg : ∀ i, row = some i → F i) : Kp F a b :=
  ⟨h.os, h.tape, h.output, h.size, fun i hi hf => h.block i hi (fun e => hf (hg i e.symm))⟩
theorem Kp.of_below {F : Nat → Prop} {a b : World} (h : Below a.heap.size a b) : Kp F a b := ⟨h.os, h.tape, h.output, h.size, fun i hi _ => h.block i hi⟩
theorem Kp.below {F : Nat → Prop} {a b : World} {B : Nat} (h : Kp F a b) (hB : B ≤ a.heap.size) (hf : ∀ i, F i → B ≤ i) : Below B a b :=
  ⟨h.os, h.tape, h.output, h.size, fun i hi => h.block i (Nat.lt_of_lt_of_le hi hB) (fun x => absurd (hf i x) (by omega))⟩
theorem Kp.drew {F : Nat → Prop} {a b : World} (h : Kp F a b) : Kp F a b.drew := ⟨h.os, h.tape, h.output, h.size, h.block⟩
theorem Kp.alloc {F : Nat → Prop} {a b : World} (h : Kp F a b) (o : Obj) : Kp F a (b.alloc o) :=
  ⟨h.os, h.tape, h.output, Nat.le_trans h.size (by simp), fun i hi hf => (Below.heap_alloc b o i (Nat.lt_of_lt_of_le hi h.size)).trans (h.block i hi hf)⟩
theorem Rw.kp {t : TypeId} {F : Nat → Prop} {w w' : World} {g : Nat} {L : List Int} (h : Rw t w g L) (k : Kp F w w') (hf : ¬ F g) : Rw t w' g L := h.of_block (k.block g h.lt hf)
theorem Src.kp {F : Nat → Prop} {w w' : World} {ao : Option Addr} {zs : List Int} (h : Src w ao zs) (k : Kp F w w') (hf : ∀ b off, ao = some ⟨b, off, none⟩ → ¬ F b) : Src w' ao zs := by
  intro hp
  obtain ⟨b, off, e, hc⟩ := h hp
  refine ⟨b, off, e, fun i hi => ?_⟩
  have hci := hc i hi
  have hlt := block_lt_of_cell hci
  rw [← hci]
  have hb := k.block b hlt (hf b off e)
  unfold World.cell?
  simp only [hb]
theorem OwnI.kp {F : Nat → Prop} {w w' : World} {base : Nat} {v : Value} {xs : List Int} (h : OwnI w base v xs) (k : Kp F w w') (hf : ∀ b, v.ownBlock = some b → ¬ F b) : OwnI w' base v xs := by
  rcases h with ⟨rfl, h2⟩ | ⟨g, cap, tl, rfl, hb, hr, h3, h4⟩
  · exact .inl ⟨rfl, h2⟩
  · exact .inr ⟨g, cap, tl, rfl, hb, hr.kp k (hf g (by simp [Value.ownBlock])), h3, h4⟩
theorem OwnI.mono {w : World} {base base' : Nat} {v : Value} {xs : List Int} (h : OwnI w base v xs) (hb : base' ≤ base) : OwnI w base' v xs := by
  rcases h with ⟨rfl, h2⟩ | ⟨g, cap, tl, rfl, h1, h2⟩
  · exact .inl ⟨rfl, h2⟩
  · exact .inr ⟨g, cap, tl, rfl, by omega, h2⟩

end Go.Proofs.Ytfeokjbmobmabaa
