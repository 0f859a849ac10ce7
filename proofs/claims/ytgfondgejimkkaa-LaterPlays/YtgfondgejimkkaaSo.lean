/- later: slices.SortFunc of runs by their places. -/
import Derived.Test.YtgfondgejimkkaaNa
import Derived.Shelf.SlSortCmp.WholeK
import Derived.Shelf.SlSortCmp.NoneTotal
import Derived.Shelf.Lay
import Derived.Ground.SlsfProg
namespace Go.Proofs.Ytgfondgejimkkaa
open Go.Shelf Go.RowKit Go.Lib Go.Sort
set_option linter.unusedVariables false
set_option linter.unusedSimpArgs false
shelf_lay_g SlLaysF0.n6 Slsf 6 at Try 58 as Try.sortRn
def cmpi (a b : Int) : Int := if a < b then -1 else if b < a then 1 else 0
set_option maxHeartbeats 2000000 in
theorem isNaN_any (a : Int) (w : World) : Calls Try.prog 70 #[.int .i64 a] w fun e w' => e = .returned (.bool false) ∧ w = w' := by
  go_enter Try.func70, Try.ntmps70
  go_wp2
  go_ret
  exact ⟨by simp, rfl⟩
set_option maxHeartbeats 2000000 in
theorem compare_any (a b : Int) (w : World) : Calls Try.prog 60 #[.int .i64 a, .int .i64 b] w fun e w' => e = .returned (.int .i64 (cmpi a b)) ∧ w = w' := by
  have h1 := isNaN_any a
  have h2 := isNaN_any b
  unfold cmpi
  by_cases ha : a < b
  · rw [if_pos ha]
    go_enter Try.func60, Try.ntmps60
    go_wp2_with fail
    refine (h1 _).mono ?_
    rintro e w1 ⟨rfl, rfl⟩
    go_wp2_with fail
    refine (h2 _).mono ?_
    rintro e w1 ⟨rfl, rfl⟩
    go_wp2_with fail
    go_ret
    exact ⟨rfl, rfl⟩
  · rw [if_neg ha]
    by_cases hb : b < a
    · rw [if_pos hb]
      go_enter Try.func60, Try.ntmps60
      go_wp2_with fail
      refine (h1 _).mono ?_
      rintro e w1 ⟨rfl, rfl⟩
      go_wp2_with fail
      refine (h2 _).mono ?_
      rintro e w1 ⟨rfl, rfl⟩
      go_wp2_with fail
      go_ret
      exact ⟨rfl, rfl⟩
    · rw [if_neg hb]
      go_enter Try.func60, Try.ntmps60
      go_wp2_with fail
      refine (h1 _).mono ?_
      rintro e w1 ⟨rfl, rfl⟩
      go_wp2_with fail
      refine (h2 _).mono ?_
      rintro e w1 ⟨rfl, rfl⟩
      go_wp2_with fail
      go_ret
      exact ⟨rfl, rfl⟩
def encP (x : Int × Int) : List Value := [.int .i64 x.1, .int .i64 x.2]
def pr (x : Rn) : Int × Int := (x.a, x.n)
def rp (x : Int × Int) : Rn := ⟨x.1, x.2⟩
theorem rp_pr (x : Rn) : rp (pr x) = x := rfl
theorem pr_rp (x : Int × Int) : pr (rp x) = x := rfl
set_option maxHeartbeats 2000000 in
theorem closure59 (x y : Int × Int) (W : World) : Calls Try.prog 59 #[.agg #[.int .i64 x.1, .int .i64 x.2], .agg #[.int .i64 y.1, .int .i64 y.2]] W fun e w' => e = .returned (.int .i64 (cmpi x.1 y.1)) ∧ ∃ q os', w' = grow (W.drewN q) os' := by
  have hcon := fun W' => compare_any x.1 y.1 W'
  generalize cmpi x.1 y.1 = r at hcon ⊢
  go_enter Try.func59, Try.ntmps59
  go_wp2_with (go_at_call 60; refine (hcon _).mono ?_; rintro e w' ⟨rfl, rfl⟩)
  go_ret
  exact ⟨rfl, 0, _, by rw [alloc_eq_grow, alloc_eq_grow, grow_grow]; rfl⟩
theorem cmpLays59 (blk off size : Nat) (w : World) : CmpLays Try.prog 59 #[] encP 2 (fun x y => cmpi x.1 y.1) blk off size w :=
  fun _ _ _ _ x y => closure59 x y _
theorem ltP (x y : Int × Int) : ltOf (fun x y : Int × Int => cmpi x.1 y.1) x y = decide (x.1 < y.1) := by
  unfold ltOf cmpi
  by_cases h1 : x.1 < y.1
  · simp [h1]
  · by_cases h2 : y.1 < x.1 <;> simp [h1, h2]
theorem swoP : SWO (ltOf fun x y : Int × Int => cmpi x.1 y.1) where
  irrefl x := by rw [ltP]; simp
  trans x y z h1 h2 := by rw [ltP] at *; simp at *; omega
  ntrans x y z h1 h2 := by rw [ltP] at *; simp at *; omega
theorem flat_flr (l : List Rn) : flatK encP 2 (l.map pr).toArray = (flr l).toArray := by
  apply Array.ext
  · simp [flr_len]
  · intro t h1 h2
    have ht : t < l.length * 2 := by simpa using h1
    have hi : t / 2 < l.length := by omega
    have g := flr_get l (t / 2) (t % 2) hi (Nat.mod_lt _ (by omega))
    rw [show t / 2 * 2 + t % 2 = t by omega] at g
    have hm : t % 2 = 0 ∨ t % 2 = 1 := by omega
    have e1 : (flatK encP 2 (l.map pr).toArray)[t] = (flatK encP 2 (l.map pr).toArray)[t]! := (getElem!_pos _ t h1).symm
    rw [e1, get_flatK _ _ _ _ (by simpa using ht)]
    have e2 : (l.map pr).toArray[t / 2]! = pr (l.getD (t / 2) zRn) := by
      rw [getElem!_pos _ _ (by simpa using hi)]
      simp [List.getD, hi]
    rw [e2]
    have e3 : (flr l).toArray[t] = (flr l)[t]'(by rw [flr_len]; exact ht) := by simp
    rw [e3]
    have h3 : (flr l)[t]? = some ((flr l)[t]'(by rw [flr_len]; exact ht)) := List.getElem?_eq_getElem _
    rw [h3] at g
    rcases hm with e | e
    · rw [e] at g ⊢
      have := Option.some.inj g
      rw [this]
      rfl
    · rw [e] at g ⊢
      have := Option.some.inj g
      rw [this]
      rfl
theorem holds_own {w : World} {base g n cap : Nat} {l : List Rn} (h : w.ownsRow base 38 2 (.slice (some ⟨g, 0, none⟩) n cap) n (flr l)) : HoldsK encP 2 w g 0 (l.map pr).toArray := by
  unfold HoldsK
  rw [flat_flr]
  rcases h.2 with ⟨e0, _⟩ | ⟨g', cap', cur, e0, hb, hg, hn, hm, hs, ht⟩
  · cases e0
  · cases e0
    intro j hj
    have hj2 : j < (flr l).length := by simpa using hj
    refine ⟨?_, frozen_of_row w g _ cur 38 hg⟩
    rw [cell_of_row w g (0 + j) _ 38 _ hg, Nat.zero_add]
    have e1 : (cur.toList.take (n * 2))[j]? = (flr l)[j]? := by rw [ht]
    have hl := h.1
    rw [List.getElem?_take_of_lt (by omega), Array.getElem?_toList] at e1
    rw [e1, List.getElem?_eq_getElem hj2]
    simp [getElem!_pos, hj2]
theorem own_sortW {w : World} {base g n cap q : Nat} {l l' : List Rn} {os : Array Obj} (h : w.ownsRow base 38 2 (.slice (some ⟨g, 0, none⟩) n cap) n (flr l)) (hl : l'.length = l.length) : (sortWorldK encP 2 w g 0 q (l'.map pr).toArray os).ownsRow base 38 2 (.slice (some ⟨g, 0, none⟩) n cap) n (flr l') ∧ Kp (fun k => k = g) w (sortWorldK encP 2 w g 0 q (l'.map pr).toArray os) := by
  have hfl : (flr l').length = (flr l).length := by rw [flr_len, flr_len, hl]
  have hn2 := h.1
  unfold sortWorldK putRowK
  rw [flat_flr]
  rcases h.2 with ⟨e0, _⟩ | ⟨g', cap', cur, e0, hb, hg, hn, hm, hs, ht⟩
  · cases e0
  · cases e0
    have hgl : g < w.heap.size := (Array.getElem?_eq_some_iff.1 hg).1
    refine ⟨⟨by omega, .inr ⟨g, cap, putCells id 0 (flr l').toArray cur, rfl, hb, ?_, hn, hm, by simpa [putCells] using hs, ?_⟩⟩, ⟨rfl, rfl, rfl, ?_, fun k hk hne => ?_⟩⟩
    · show ((w.heap.modify g (onCells (putCells id 0 (flr l').toArray))) ++ os)[g]? = _
      rw [Array.getElem?_append_left (by simpa using hgl), Array.getElem?_modify, if_pos rfl, hg]
      rfl
    · apply List.ext_getElem?
      intro j
      by_cases hj : j < n * 2
      · rw [List.getElem?_take_of_lt hj, Array.getElem?_toList]
        have hjc : j < cur.size := by rw [hs]; have := Nat.mul_le_mul_right 2 hn; omega
        simp only [putCells, Array.getElem?_mapIdx, Array.getElem?_eq_getElem hjc, Option.map_some]
        rw [if_pos (by simp; omega), List.getElem?_eq_getElem (by omega)]
        simp [getElem!_pos, show j < (flr l').length by omega]
      · rw [List.getElem?_eq_none (by simp; omega), List.getElem?_eq_none (by omega)]
    · simp [grow, putRow, mapBlock, Sort.ahead]
    · simp [grow, putRow, mapBlock, Sort.ahead, Array.getElem?_append, hk, Array.getElem_modify, show g ≠ k from fun e => hne e.symm]
theorem sort_any (w : World) (base g n cap : Nat) (l : List Rn) (hl : l.length = n) (h : w.ownsRow base 38 2 (.slice (some ⟨g, 0, none⟩) n cap) n (flr l)) (hn : n < 4611686018427387904) :
    Calls Try.prog 58 #[.slice (some ⟨g, 0, none⟩) n cap, .func (.func 59) #[] #[]] w fun e w' => e = .returned (.tuple #[]) ∧ ∃ l', l'.Perm l ∧ l'.Pairwise (fun x y => x.a ≤ y.a) ∧ w'.ownsRow base 38 2 (.slice (some ⟨g, 0, none⟩) n cap) n (flr l') ∧ Kp (fun k => k = g) w w' := by
  have eg : ∀ args w, (callFunc 59 args).run Try.prog w = .ok (.enter 59 args) w := enters_of Try.func59 (by kernel_rfl) rfl
  have hgl : g < w.heap.size := by
    rcases h.2 with ⟨e0, _⟩ | ⟨g', cap', cur, e0, hb, hg, _⟩
    · cases e0
    · cases e0
      exact (Array.getElem?_eq_some_iff.1 hg).1
  have hsz : (l.map pr).toArray.size = n := by simp [hl]
  have hcon := AnyQ.slices_SortFunc Try.sortRn 2 Try.isAgg38 Try.sizeOf38 encP (fun _ => rfl) (fun x v hv => by simp [encP] at hv; rcases hv with rfl | rfl <;> rfl) (fun x y => cmpi x.1 y.1) swoP 59 #[] g 0 cap (l.map pr).toArray w eg (cmpLays59 g 0 _ w) (holds_own h) hgl (by rw [hsz]; exact hn)
  rw [hsz] at hcon
  change Calls Try.prog 58 _ _ _ at hcon
  refine Calls.mono hcon ?_
  rintro e w' ⟨rfl, d', q, os, hp, hs, rfl⟩
  obtain ⟨p1, _, p3⟩ := hp
  rw [hsz] at p1
  have e1 : d' = ((d'.toList.map rp).map pr).toArray := by
    rw [List.map_map]
    have : (pr ∘ rp) = id := rfl
    rw [this, List.map_id]
  have hperm : (d'.toList.map rp).Perm l := by
    have h1 : (d'.extract 0 n).toList = d'.toList := by rw [show n = d'.size from p1.symm]; simp
    have h2 : ((l.map pr).toArray.extract 0 n).toList = l.map pr := by rw [show n = (l.map pr).toArray.size from hsz.symm]; simp [List.take_of_length_le]
    rw [h1, h2] at p3
    have := p3.map rp
    rw [List.map_map] at this
    have hid : (rp ∘ pr) = id := rfl
    rw [hid, List.map_id] at this
    exact this
  rw [e1]
  obtain ⟨o1, k1⟩ := own_sortW (q := q) (os := os) (l' := d'.toList.map rp) h hperm.length_eq
  refine ⟨rfl, _, hperm, ?_, o1, k1⟩
  refine List.pairwise_iff_getElem.2 fun i j hi hj hij => ?_
  have hi2 : i < d'.size := by simpa using hi
  have hj2 : j < d'.size := by simpa using hj
  have := hs i j (Nat.zero_le _) hij (by omega)
  rw [ltP, getElem!_pos d' j hj2, getElem!_pos d' i hi2] at this
  simp at this
  simpa [rp] using this
end Go.Proofs.Ytgfondgejimkkaa
