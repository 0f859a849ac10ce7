/- Pieces, and the iterator that it hands out. -/
import Derived.Test.YtalicohflfildaaPc
import Derived.Test.YtalicohflfildaaCt
namespace Go.Proofs.Ytalicohflfildaa
open Go.RowKit Go.Shelf
attribute [local go_sem] Oper.semAt_some

/-- What Pieces hands out. -/
structure PiP (w : World) (ps : List (Nat × List Int)) (e : Ending) (w' : World) (v : Value) : Prop where
  e : e = .returned (.func (.func 35) #[] #[.pointer (some ⟨w.heap.size, 0, none⟩)])
  st : St 82 w' w.heap.size #[v]
  row : w'.ownsRow (w.heap.size + 1) 44 2 v ps.length (plc (pln ps))
  kp : Kp (fun _ => False) w w'
set_option maxRecDepth 100000 in
set_option maxHeartbeats 2000000 in
theorem pieces_any (s : ByteArray) (v : Value) (D : Nat → Prop) (a : Fa) (sz : Nat) (L : Nat → Int) (ps : List (Nat × List Int)) (w : World) (hf : Fr D w a sz L ps) (hff : ∀ w1, Kp (fun _ => False) w w1 → Calls Try.prog 32 #[v, .string s] w1 fun e w' => e = .returned (.tuple #[.pointer (some ⟨a.fb, 0, none⟩), .int .i64 0]) ∧ w' = w1) :
    Calls Try.prog 14 #[v, .string s] w fun e w' => ∃ u, PiP w ps e w' u := by
  have HF : Hid (Fr D w a sz L ps) := hf
  have HFF : Hid (∀ w1, Kp (fun _ => False) w w1 → Calls Try.prog 32 #[v, .string s] w1 fun e w' => e = .returned (.tuple #[.pointer (some ⟨a.fb, 0, none⟩), .int .i64 0]) ∧ w' = w1) := hff
  have ST : Hid (St 82 (w.alloc (.cells #[.slice none 0 0] 82)) w.heap.size #[.slice none 0 0]) := St.new 82 w _
  have K0 : Hid (Kp (fun _ => False) w (w.alloc (.cells #[.slice none 0 0] 82))) := (Kp.refl _ _).alloc _
  have Z0 : Hid ((w.alloc (.cells #[.slice none 0 0] 82)).heap.size = w.heap.size + 1) := World.size_alloc _ _
  clear hf hff
  go_enter Try.func14, Try.ntmps14
  go_wp2_with fail
  generalize w.alloc (.cells #[.slice none 0 0] 82) = W0 at ST K0 Z0 ⊢
  go_wp2_with (first | (go_at_call 32; refine (HFF.out W0 K0.out).mono ?_; rintro e w' ⟨rfl, h⟩; replace h := h.symm; subst h))
  refine (places_any D W0 a sz L ps (HF.out.kp K0.out (fun _ _ h => h) (fun _ _ h => h))).mono ?_
  rintro e w2 ⟨u, rfl, hI⟩
  obtain ⟨ua, uc, hu⟩ := ownsRow_shape hI.row
  subst hu
  have hrow := hI.row
  rw [List.take_length, Z0.out] at hrow
  have st2 := ST.out.kp hI.kp (fun h => h)
  have f0 := st2.frozen 0
  have c0 : w2.cell? ⟨w.heap.size, 0, none⟩ = some (.slice none 0 0) := st2.cell 0
  have HX : Hid (PiP w ps (.returned (.func (.func 35) #[] #[.pointer (some ⟨w.heap.size, 0, none⟩)])) (w2.setCell ⟨w.heap.size, 0, none⟩ (.slice ua ps.length uc)) (.slice ua ps.length uc)) := by
    have kk := kp_setCell w2 w.heap.size 0 (.slice ua ps.length uc) (fun i => i = w.heap.size) rfl
    refine ⟨rfl, by have := st2.set 0 (.slice ua ps.length uc); simpa using this, ⟨hrow.1, ?_⟩, ((K0.out.trans hI.kp (fun _ _ h => h)).mono (G := fun i => i = w.heap.size) (fun _ _ h => h.elim)).trans kk (fun _ _ h => h) |>.mono (fun i hi h => by omega)⟩
    rcases hrow.2 with h1 | ⟨gg, cap, cur, h1, h2, h3, h4⟩
    · exact .inl h1
    · exact .inr ⟨gg, cap, cur, h1, h2, (kk.block gg (Array.getElem?_eq_some_iff.1 h3).1 (by omega)).trans h3, h4⟩
  clear hI hrow st2
  go_wp2
  go_ret
  exact ⟨_, HX.out⟩
/-- These blocks are as they were. -/
def KR (O : Nat → Prop) (A B : World) : Prop := ∀ i, O i → B.heap[i]? = A.heap[i]?
abbrev Px (ps : List (Nat × Nat)) := { x : Nat × Nat // x ∈ ps }
def penc {ps : List (Nat × Nat)} (x : Px ps) : Array Value := #[.agg #[.int .i64 (x.1.1 : Int), .int .i64 (x.1.2 : Int)]]
theorem getD_memN (ps : List (Nat × Nat)) (k : Nat) (h : k < ps.length) : ps.getD k (0, 0) ∈ ps := by
  rw [List.getD_eq_getElem?_getD, List.getElem?_eq_getElem h]
  exact List.getElem_mem h
theorem take_getN (ps : List (Nat × Nat)) (k : Nat) (h : k < ps.length) : ps.take (k + 1) = ps.take k ++ [ps.getD k (0, 0)] := by
  rw [List.take_add_one, List.getElem?_eq_getElem h, List.getD_eq_getElem?_getD, List.getElem?_eq_getElem h]
  rfl
theorem plc_cells {w : World} {base n : Nat} {v : Value} {ps : List (Nat × Nat)} (h : w.ownsRow base 44 2 v n (plc ps)) (hn : n = ps.length) (hp : 0 < n) : ∃ g cap, v = .slice (some ⟨g, 0, none⟩) n cap ∧ g < w.heap.size ∧ v.ownBlock = some g ∧ ∀ i, i < ps.length → w.cell? ⟨g, 0 + i * 2, none⟩ = some (.int .i64 ((ps.getD i (0, 0)).1 : Int)) ∧ w.cell? ⟨g, 0 + i * 2 + 1, none⟩ = some (.int .i64 ((ps.getD i (0, 0)).2 : Int)) := by
  rcases h.2 with ⟨_, h1⟩ | ⟨g, cap, cur, rfl, h1, h2, h3, h4, h5, h6⟩
  · omega
  · refine ⟨g, cap, rfl, (Array.getElem?_eq_some_iff.1 h2).1, rfl, fun i hi => ?_⟩
    obtain ⟨e1, e2⟩ := plc_get ps i hi
    rw [← h6, List.getElem?_take, if_pos (by omega)] at e1
    rw [← h6, List.getElem?_take, if_pos (by omega)] at e2
    refine ⟨(cell_of_row w g _ _ 44 _ h2).trans ?_, (cell_of_row w g _ _ 44 _ h2).trans ?_⟩
    · rw [Nat.zero_add]; simpa using e1
    · rw [Nat.zero_add]; simpa using e2
theorem cell_of_block {w w' : World} {b o : Nat} (h : w'.heap[b]? = w.heap[b]?) : w'.cell? ⟨b, o, none⟩ = w.cell? ⟨b, o, none⟩ := by
  unfold World.cell?
  simp only [h]
set_option maxRecDepth 100000 in
set_option maxHeartbeats 2000000 in
theorem pieces_stops (F : Fence) (n : Nat) (h35 : F.fn 35) (hro : F.round = none) (hn : 1 ≤ n) (Bp base : Nat) (ua : Option Addr) (uc : Nat) (ps : List (Nat × Nat)) (hb : ps.length ≤ 1000000000) (w : World) (hc : w.cell? ⟨Bp, 0, none⟩ = some (.slice ua ps.length uc)) (hrow : w.ownsRow base 44 2 (.slice ua ps.length uc) ps.length (plc ps)) :
    SeqStopsK F n Try.prog 35 #[.pointer (some ⟨Bp, 0, none⟩)] (penc (ps := ps)) (KR (fun i => (Value.slice ua ps.length uc).ownBlock = some i)) (fun ys => ys.map (·.1) = ps) (fun pre => pre.map (·.1) <+: ps) ps.length w := by
  intro l J Jx W hW hA hAx hY h0
  have c0 : W.cell? ⟨Bp, 0, none⟩ = some (.slice ua ps.length uc) := (hW.cell (block_lt_of_cell hc)).trans hc
  have HROW : Hid (w.ownsRow base 44 2 (.slice ua ps.length uc) ps.length (plc ps)) := hrow
  clear hrow hc
  refine callsIn_of_wp Try.func35 rfl h35 ?_ hro
  simp only [Try.ntmps35, List.size_toArray, List.length_cons, List.length_nil, Nat.reduceAdd, Nat.reduceSub, Array.replicate_succ, Array.replicate_zero, List.push_toArray, List.append_toArray, List.nil_append, List.cons_append]
  gi_wp2_with fail
  gi_loopw [4, 7] (fun _ i wr => ∃ (k : Nat) (pre : List (Px ps)), i = .int .i64 k ∧ k ≤ ps.length ∧ pre.map (·.1) = ps.take k ∧ J pre wr ∧ KR (fun i => (Value.slice ua ps.length uc).ownBlock = some i) W wr) (fun _ i _ => ps.length - (intOf i).toNat)
  case atStart => exact ⟨0, [], rfl, Nat.zero_le _, by simp, h0, fun _ _ => rfl⟩
  case round =>
    obtain ⟨k, pre, rfl, hk, hpre, hJs, hkr⟩ := hrel
    have HPRE : Hid (pre.map (·.1) = ps.take k) := hpre
    have HKR : Hid (KR (fun i => (Value.slice ua ps.length uc).ownBlock = some i) W wr) := hkr
    clear hpre hkr
    by_cases hlt : k < ps.length
    · obtain ⟨gq, cap, hpe, hgl, hgo, hcs⟩ := plc_cells HROW.out rfl (by omega)
      obtain ⟨rfl, rfl⟩ : ua = some ⟨gq, 0, none⟩ ∧ uc = cap := by
        simp only [Value.slice.injEq] at hpe; exact ⟨hpe.1, hpe.2.2⟩
      obtain ⟨y0, y1⟩ := hcs k hlt
      have hbk : wr.heap[gq]? = w.heap[gq]? := (HKR.out gq hgo).trans (hW.block gq hgl)
      rw [← cell_of_block hbk, Nat.zero_add] at y0 y1
      have hmem := getD_memN ps k hlt
      have HTK : Hid (ps.take (k + 1) = ps.take k ++ [ps.getD k (0, 0)]) := take_getN ps k hlt
      obtain ⟨⟨p, m⟩, hpm⟩ : ∃ t, t = ps.getD k (0, 0) := ⟨_, rfl⟩
      rw [← hpm] at y0 y1 hmem HTK
      dsimp only at y0 y1
      have hlen : pre.length < ps.length := by
        have := congrArg List.length HPRE.out
        rw [List.length_map, List.length_take] at this
        omega
      have hJ1 : J pre (wr.alloc (.cells #[.int .i64 p, .int .i64 m] 44)) := hA pre wr _ none hJs (World.grownBy_alloc wr _ none) (fun r e => by cases e)
      have HNX : Hid ((pre ++ [(⟨(p, m), hmem⟩ : Px ps)]).map (·.1) = ps.take (k + 1)) := by show _ = _; rw [HTK.out, List.map_append, HPRE.out]; rfl
      obtain ⟨fn, tmps, assign, body, hy, hR⟩ := hY pre ⟨(p, m), hmem⟩ _ hJ1 hlen
      unfold penc at hy
      dsimp only at hy
      have q0 : (wr.alloc (.cells #[.int .i64 p, .int .i64 m] 44)).cell? ⟨wr.heap.size, 0, none⟩ = some (.int .i64 p) := (St.new 44 wr #[.int .i64 p, .int .i64 m]).cell 0
      have q1 : (wr.alloc (.cells #[.int .i64 p, .int .i64 m] 44)).cell? ⟨wr.heap.size, 1, none⟩ = some (.int .i64 m) := (St.new 44 wr #[.int .i64 p, .int .i64 m]).cell 1
      have hgw : gq < wr.heap.size := by
        have h1 : w.heap[gq]? = some w.heap[gq] := Array.getElem?_eq_getElem hgl
        rw [← hbk] at h1
        exact (Array.getElem?_eq_some_iff.1 h1).1
      have HK1 : Hid (KR (fun i => (Value.slice (some ⟨gq, 0, none⟩) ps.length uc).ownBlock = some i) W (wr.alloc (.cells #[.int .i64 p, .int .i64 m] 44))) := by
        intro i hi
        have hi2 : gq = i := by simpa [Value.ownBlock] using hi
        subst hi2
        exact (Below.heap_alloc wr _ gq hgw).trans (HKR.out gq hi)
      clear hcs hpe hpm hbk
      gi_wp2_with fail
      refine hR.mono ?_
      rintro ee W3 (⟨rfl, hJ3, hk3⟩ | ⟨rfl, hJx3⟩)
      · have HK3 : Hid (KR (fun i => (Value.slice (some ⟨gq, 0, none⟩) ps.length uc).ownBlock = some i) W W3) := fun i hi => (hk3 i hi).trans (HK1.out i hi)
        clear hk3
        gi_wp2
        go_roundw
        case rel => exact ⟨k + 1, _, by go_num, hlt, HNX.out, hJ3, HK3.out⟩
        case measure => simp [intOf]; omega
      · gi_wp2
        refine bodyPost_ret (results_none rfl _ _ _) rfl ?_
        exact ⟨⟨_, rfl⟩, .inr ⟨_, by rw [HNX.out]; exact List.take_prefix _ _, hJx3⟩⟩
    · have hnl : ¬ (k : Int) < (ps.length : Int) := by omega
      gi_wp2
      go_end0
      exact ⟨⟨_, rfl⟩, .inl ⟨pre, by rw [HPRE.out]; exact List.take_of_length_le (by omega), hJs⟩⟩
end Go.Proofs.Ytalicohflfildaa
