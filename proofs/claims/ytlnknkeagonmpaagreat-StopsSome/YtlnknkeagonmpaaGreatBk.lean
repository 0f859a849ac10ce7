/- slices.Backward over a row that the body writes. -/
import Derived.Test.YtlnknkeagonmpaaGreatLw
import Derived.Test.YtlnknkeagonmpaaGreatCt
namespace Go.Proofs.YtlnknkeagonmpaaGreat
open Go.RowKit Go.Shelf
attribute [local go_sem] Oper.semAt_some

/-- What a round keeps: the box of the slice, and that the row is a row of as many. -/
def KN (Bp G : Nat) (A B : World) : Prop := B.heap[Bp]? = A.heap[Bp]? ∧ ∀ L, Rw .i64 3 A G L → ∃ L' : List Int, L'.length = L.length ∧ Rw .i64 3 B G L'
theorem KN.trans {Bp G : Nat} {A B C : World} (h : KN Bp G A B) (k : KN Bp G B C) : KN Bp G A C :=
  ⟨k.1.trans h.1, fun L hL => by obtain ⟨L', h1, h2⟩ := h.2 L hL; obtain ⟨L'', h3, h4⟩ := k.2 L' h2; exact ⟨L'', h3.trans h1, h4⟩⟩
theorem KN.of_blocks {Bp G : Nat} {A B : World} (h1 : B.heap[Bp]? = A.heap[Bp]?) (h2 : B.heap[G]? = A.heap[G]?) : KN Bp G A B := ⟨h1, fun L hL => ⟨L, rfl, hL.of_block h2⟩⟩
abbrev Bx (P : Nat) := { x : Nat × Int // x.1 < P }
def benc {P : Nat} (x : Bx P) : Array Value := #[.int .i64 (x.1.1 : Int), .int .i64 x.1.2]
set_option maxRecDepth 100000 in
theorem back_any (ao : Option Addr) (n cap : Nat) (w : World) : Calls Tryz.prog 49 #[.slice ao n cap] w fun e w' => e = .returned (.func (.func 76) #[] #[.pointer (some ⟨w.heap.size, 0, none⟩)]) ∧ w' = w.alloc (.cells #[.slice ao n cap] 40) := by
  go_enter Tryz.func49, Tryz.ntmps49
  go_wp2
  go_ret
  exact ⟨rfl, rfl⟩
set_option maxRecDepth 100000 in
set_option maxHeartbeats 2000000 in
theorem back_stops (F : Fence) (n : Nat) (h44 : F.fn 76) (hro : F.round = none) (hn : 1 ≤ n) (Bp G P : Nat) (hP : P ≤ 1000000000) (w : World) (L0 : List Int) (hL0 : L0.length = P) (hc : w.cell? ⟨Bp, 0, none⟩ = some (.slice (some ⟨G, 0, none⟩) P P)) (hrow : Rw .i64 3 w G L0) :
    SeqStopsK F n Tryz.prog 76 #[.pointer (some ⟨Bp, 0, none⟩)] (benc (P := P)) (KN Bp G) (fun ys => ys.map (fun x => x.1.1) = (List.range P).reverse) (fun pre => pre.map (fun x => x.1.1) <+: (List.range P).reverse) P w := by
  intro l J Jx W hW hA hAx hY h0
  have HBL : Hid (Bp < w.heap.size ∧ G < w.heap.size) := ⟨block_lt_of_cell hc, hrow.lt⟩
  have c0 : W.cell? ⟨Bp, 0, none⟩ = some (.slice (some ⟨G, 0, none⟩) P P) := (hW.cell (block_lt_of_cell hc)).trans hc
  have HC0 : Hid (W.cell? ⟨Bp, 0, none⟩ = some (.slice (some ⟨G, 0, none⟩) P P)) := c0
  have HRW : Hid (Rw .i64 3 W G L0) := hrow.of_block (hW.block G hrow.lt)
  clear hrow hc
  refine callsIn_of_wp Tryz.func76 rfl h44 ?_ hro
  simp only [Tryz.ntmps76, List.size_toArray, List.length_cons, List.length_nil, Nat.reduceAdd, Nat.reduceSub, Array.replicate_succ, Array.replicate_zero, List.push_toArray, List.append_toArray, List.nil_append, List.cons_append]
  gi_wp2_with fail
  gi_loopw [3] (fun i wr => ∃ (k : Nat) (pre : List (Bx P)), i = .int .i64 ((P : Int) - 1 - (k : Int)) ∧ k ≤ P ∧ pre.map (fun x => x.1.1) = ((List.range P).reverse).take k ∧ J pre wr ∧ KN Bp G W wr) (fun i _ => (intOf i + 1).toNat)
  case atStart => exact ⟨0, [], by simp, Nat.zero_le _, by simp, h0, KN.of_blocks rfl rfl⟩
  case round =>
    obtain ⟨k, pre, rfl, hk, hpre, hJs, hkn⟩ := hrel
    have HPRE : Hid (pre.map (fun x => x.1.1) = ((List.range P).reverse).take k) := hpre
    have HKN : Hid (KN Bp G W wr) := hkn
    clear hpre hkn
    by_cases hlt : k < P
    · obtain ⟨i, hi⟩ : ∃ i : Nat, i = P - 1 - k := ⟨_, rfl⟩
      have hii : (P : Int) - 1 - (k : Int) = (i : Int) := by omega
      have hip : i < P := by omega
      obtain ⟨L', hl1, hl2⟩ := HKN.out.2 L0 HRW.out
      have y0 := hl2.cell i (by omega)
      have yb : wr.cell? ⟨Bp, 0, none⟩ = some (.slice (some ⟨G, 0, none⟩) P P) := by
        rw [← HC0.out]
        unfold World.cell?
        simp only [HKN.out.1]
      obtain ⟨v, hv⟩ : ∃ v, v = L'.getD i 0 := ⟨_, rfl⟩
      rw [← hv] at y0
      have hlen : pre.length < P := by
        have := congrArg List.length HPRE.out
        rw [List.length_map, List.length_take, List.length_reverse, List.length_range] at this
        omega
      have HNX : Hid ((pre ++ [(⟨(i, v), hip⟩ : Bx P)]).map (fun x => x.1.1) = ((List.range P).reverse).take (k + 1)) := by
        show _ = _
        rw [List.map_append, HPRE.out, List.take_add_one]
        congr 1
        rw [List.getElem?_reverse (by simp; omega)]
        simp
        rw [List.getElem?_range (by omega)]
        simp
        omega
      obtain ⟨fn, tmps, assign, body, hy, hR⟩ := hY pre ⟨(i, v), hip⟩ wr hJs hlen
      unfold benc at hy
      dsimp only at hy
      have HI : Hid (i = P - 1 - k) := hi
      rw [hii]
      clear hv hl1 hl2 hi c0
      gi_wp2_with fail
      refine hR.mono ?_
      rintro ee W3 (⟨rfl, hJ3, hk3⟩ | ⟨rfl, hJx3⟩)
      · have HK3 : Hid (KN Bp G W W3) := HKN.out.trans hk3
        clear hk3
        gi_wp2
        have hi2 := HI.out
        exact ⟨⟨k + 1, _, by congr 1; omega, hlt, HNX.out, hJ3, HK3.out⟩, by simp only [intOf]; omega⟩
      · gi_wp2
        refine bodyPost_ret (results_none rfl _ _ _) rfl ?_
        exact ⟨⟨_, rfl⟩, .inr ⟨_, by rw [HNX.out]; exact List.take_prefix _ _, hJx3⟩⟩
    · have hnl : ¬ (0 : Int) ≤ (P : Int) - 1 - (k : Int) := by omega
      gi_wp2
      go_end0
      exact ⟨⟨_, rfl⟩, .inl ⟨pre, by rw [HPRE.out]; exact List.take_of_length_le (by simp; omega), hJs⟩⟩
end Go.Proofs.YtlnknkeagonmpaaGreat
