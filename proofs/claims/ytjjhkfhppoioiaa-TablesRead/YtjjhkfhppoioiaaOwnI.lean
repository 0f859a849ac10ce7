/- append onto a row of bytes of one's own that is known whole: also what lies behind the slice's end is bytes. -/
import Derived.Test.YtjjhkfhppoioiaaOwn
import Derived.Test.YtjjhkfhppoioiaaLaws2
namespace Go.Proofs.Ytjjhkfhppoioiaa
open Go.RowKit

/-- A slice of the call's own, the bytes that it holds, and bytes behind them up to its capacity. -/
def OwnI (w : World) (base : Nat) (v : Value) (xs : List Int) : Prop :=
  (v = .slice none 0 0 ∧ xs = []) ∨ ∃ g cap tl, v = .slice (some ⟨g, 0, none⟩) xs.length cap ∧ base ≤ g ∧ Rw 5 w g (xs ++ tl) ∧ (xs ++ tl).length = cap ∧ cap ≤ maxLen

theorem OwnI.lt {w : World} {base : Nat} {v : Value} {xs : List Int} (h : OwnI w base v xs) : ∀ k, v.ownBlock = some k → base ≤ k ∧ k < w.heap.size := by
  intro k hk
  rcases h with ⟨rfl, _⟩ | ⟨g, cap, tl, rfl, hb, hr, _⟩
  · simp [Value.ownBlock] at hk
  · simp [Value.ownBlock] at hk
    subst hk
    exact ⟨hb, hr.lt⟩
theorem OwnI.nil (w : World) (base : Nat) : OwnI w base (.slice none 0 0) [] := .inl ⟨rfl, rfl⟩
theorem OwnI.kept {w w' : World} {base : Nat} {v : Value} {xs : List Int} {row : Option Nat} (h : OwnI w base v xs) (hg : w.grownBy w' row) (hne : v.ownBlock = none ∨ v.ownBlock ≠ row) : OwnI w' base v xs := by
  rcases h with ⟨rfl, h2⟩ | ⟨g, cap, tl, rfl, hb, hr, h3, h4⟩
  · exact .inl ⟨rfl, h2⟩
  · exact .inr ⟨g, cap, tl, rfl, hb, hr.grown hg (by simpa [Value.ownBlock] using hne), h3, h4⟩
theorem OwnI.below {w w' : World} {base : Nat} {v : Value} {xs : List Int} (h : OwnI w base v xs) (hb : Below w.heap.size w w') : OwnI w' base v xs :=
  h.kept (grown_of_below (row := none) hb) (by cases hv : v.ownBlock <;> simp)
theorem OwnI.str {w : World} {base : Nat} {v : Value} {xs : List Int} (h : OwnI w base v xs) : Str w v xs := by
  rcases h with ⟨rfl, rfl⟩ | ⟨g, cap, tl, rfl, hb, hr, h3, h4⟩
  · exact ⟨none, 0, rfl, Src.nil _ _⟩
  · refine ⟨_, cap, rfl, Src.mk fun i hi => ?_⟩
    rw [Nat.zero_add, hr.cell i (by simp; omega)]
    simp [List.getD, List.getElem?_append_left hi]

theorem arr_rest (xs : List Int) (k : Nat) : ((xs.map (Value.int .u8)).toArray ++ Builtin.zeroCells #[.int .u8 0] k) = ((xs ++ List.replicate k 0).map (Value.int .u8)).toArray := by
  apply Array.ext'
  rw [Array.toList_append, zero_cells]
  simp

theorem run_append_rw {P : Program} (w : World) (base : Nat) (t ty : TypeId) (i : TypeInfo) (ht : P.underlying t = some (.slice 5)) (hi : P.info? 5 = some i) (hz : i.zero = some (.int .u8 0)) (hsize : i.size = 1) (hby : i.bytes = 1)
    (v : Value) (xs : List Int) (hown : OwnI w base v xs) (ao : Option Addr) (c : Nat) (news : List Int) (hn : ao = none → c = 0) (hsrc : Src w ao news)
    (hb : xs.length + news.length ≤ 140737488355328) (hbase : base ≤ w.heap.size) :
    ∃ v' w', (Builtin.append_ #[t, t] ty #[v, .slice ao news.length c]).run P w = .ok v' w' ∧ OwnI w' base v' (xs ++ news) ∧ w.grownBy w' v.ownBlock := by
  have hsz : (P.info? 5).map (·.size) = some 1 := by rw [hi]; simp [hsize]
  cases ao with
  | none =>
    have hz0 : news.length = 0 := by
      by_cases h0 : 0 < news.length
      · obtain ⟨b, off, e, _⟩ := hsrc h0; cases e
      · omega
    obtain rfl : news = [] := List.eq_nil_of_length_eq_zero hz0
    obtain rfl : c = 0 := hn rfl
    refine ⟨v, w, ?_, by simpa using hown, grown_refl _ _⟩
    rcases hown with ⟨rfl, rfl⟩ | ⟨g, cap, tl, rfl, hbg, hr, h3, h4⟩
    · simp [Builtin.append_, run_underlying ht, sizeOf, typeInfo, hi, Builtin.lenOf, Builtin.firstCells]
    · have : xs.length ≤ cap := by rw [← h3]; simp
      simp [Builtin.append_, run_underlying ht, sizeOf, typeInfo, hi, Builtin.lenOf, Builtin.firstCells, this, storeCells]
  | some ad =>
    have hnews : ∀ j u, (news.map (Value.int .u8))[j]? = some u → w.cell? (ad.add j) = some u := srcs (by
      intro j hj
      obtain ⟨b, off, e, hc⟩ := hsrc (by omega)
      cases e
      rw [add_o]
      exact hc j hj)
    rcases hown with ⟨rfl, rfl⟩ | ⟨g, cap, tl, rfl, hbg, hr, h3, h4⟩
    · by_cases hm : news.length = 0
      · obtain rfl : news = [] := List.eq_nil_of_length_eq_zero hm
        refine ⟨.slice none 0 0, w, ?_, OwnI.nil _ _, grown_refl _ _⟩
        simp [Builtin.append_, run_underlying ht, sizeOf, typeInfo, hi, Builtin.lenOf, Builtin.firstCells, loadCells, loadCellsFrom]
      · have hr := run_append_nil (P := P) w t ty 5 i (.int .u8 0) ht hi hz ad news.length c (news.map (Value.int .u8)) (by simp [hsize]) hnews (by omega) (by omega) (by rw [hby]; simp at hb; omega)
        have hge := grownCap_ge w news.length 0 5
        refine ⟨_, _, hr, .inr ⟨w.heap.size, grownCap w news.length 0 5, List.replicate (grownCap w news.length 0 5 - news.length) 0, by simp, hbase, ?_, by simp; omega, grownCap_le_maxLen w news.length 0 5 (by unfold maxLen; simp at hb; omega)⟩, ⟨rfl, rfl, rfl, by simp, fun k hk _ => Below.heap_alloc w.drew _ k hk⟩⟩
        show (w.drew.alloc _).heap[w.heap.size]? = _
        rw [show w.heap.size = w.drew.heap.size from rfl, heap_alloc_new, show (Value.int IntKind.u8 0).cells = #[.int .u8 0] from rfl, arr_rest]
        rfl
    · by_cases hroom : xs.length + news.length ≤ cap
      · have hfit : xs.length * i.size + (news.map (Value.int .u8)).length ≤ ((xs ++ tl).map (Value.int .u8)).toArray.size := by simp [hsize]; simp at h3; omega
        have hrun := run_append_room (P := P) w t ty 5 i ht hi g xs.length cap _ hr ad news.length c (news.map (Value.int .u8)) (by simp [hsize]) hnews (ones _) hroom hfit
        refine ⟨_, _, hrun, .inr ⟨g, cap, tl.drop news.length, by simp, hbg, ?_, by simp at h3 ⊢; omega, h4⟩, ⟨rfl, rfl, rfl, by simp, fun k _ hk => setRow_other w g k _ (fun e => hk (by simp [Value.ownBlock, e]))⟩⟩
        unfold Rw
        rw [setRow_heap w g _ _ 5 _ hr]
        congr 2
        simp [hsize, List.drop_append]
      · have holds : ∀ j u, (xs.map (Value.int .u8))[j]? = some u → w.cell? ((⟨g, 0, none⟩ : Addr).add j) = some u := srcs (by
          intro j hj
          rw [add_z, hr.cell j (by simp; omega)]
          simp [List.getD, List.getElem?_append_left hj])
        have hrun := run_append_grow (P := P) w t ty 5 i (.int .u8 0) ht hi hz ⟨g, 0, none⟩ xs.length cap (xs.map (Value.int .u8)) (by simp [hsize]) holds ad news.length c (news.map (Value.int .u8)) (by simp [hsize]) hnews (by omega) (by omega) (growslice_fits (by omega) (by rw [hby]; omega))
        have hge := grownCap_ge w (xs.length + news.length) cap 5
        refine ⟨_, _, hrun, .inr ⟨w.heap.size, grownCap w (xs.length + news.length) cap 5, List.replicate (grownCap w (xs.length + news.length) cap 5 - (xs.length + news.length)) 0, by simp, hbase, ?_, by simp; omega, grownCap_le_maxLen w _ cap 5 (by unfold maxLen; omega)⟩, ⟨rfl, rfl, rfl, by simp, fun k hk _ => Below.heap_alloc w.drew _ k hk⟩⟩
        show (w.drew.alloc _).heap[w.heap.size]? = _
        rw [show w.heap.size = w.drew.heap.size from rfl, heap_alloc_new, show (Value.int IntKind.u8 0).cells = #[.int .u8 0] from rfl, show (List.map (Value.int IntKind.u8) xs).toArray ++ (List.map (Value.int IntKind.u8) news).toArray = (List.map (Value.int IntKind.u8) (xs ++ news)).toArray from by simp, arr_rest]

/-- append of bytes onto a row of one's own that is known whole, as one step. -/
theorem wpList_append_i {w : World} {ops : Array Oper} {rest : List Oper} {o : Oper} {a : Act} {Q : Exit → Act → World → Prop} (hgd : o.guard = none) (s x : Operand)
    (ho : o.op = .call { callee := .builtin .append, args := #[s, x], argTypes := #[26, 26] })
    (base : Nat) (v : Value) (xs : List Int) (hs : a.eval s = v) (hown : OwnI w base v xs)
    (ao : Option Addr) (m c : Nat) (news : List Int) (hx : a.eval x = .slice ao m c) (hl : news.length = m) (hn : ao = none → c = 0) (hsrc : Src w ao news)
    (hb : xs.length + news.length ≤ 140737488355328) (hbase : base ≤ w.heap.size)
    (h : ∀ v' w', OwnI w' base v' (xs ++ news) → w.grownBy w' v.ownBlock → Below base w w' → wpList Try.prog ops Q rest (a.put o.dst v') w') : wpList Try.prog ops Q (o :: rest) a w := by
  obtain ⟨i0, hi, hz0, hz1, hz2⟩ := info_parts Try.info5
  subst hl
  have hlt := hown.lt
  refine wpList_plain hgd fun K hK => ?_
  obtain ⟨v', w', hrun, h1, h2⟩ := run_append_rw (P := Try.prog) w base 26 o.type i0 Try.underlying26 hi hz0 hz1 hz2 v xs hown ao c news hn hsrc hb hbase
  unfold Oper.wp execOp
  simp only [ho, resolve, invoke, builtin, Sem.run_bind, Sem.run_pure, Result.andThen_ok, List.map_toArray, List.map_cons, List.map_nil, hs, hx, hrun]
  exact hK _ _ (h v' w' h1 h2 (below_of_grown h2 _ hbase fun k hk => (hlt k hk).1))

end Go.Proofs.Ytjjhkfhppoioiaa
