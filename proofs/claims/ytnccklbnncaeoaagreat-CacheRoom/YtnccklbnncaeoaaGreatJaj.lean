import Derived.Test.YtnccklbnncaeoaaGreatJai
import Derived.Test.YtnccklbnncaeoaaGreatJag
import Derived.RangeFuncKeeps
/- The iterator over the pages that are kept (slices.Values). -/
namespace Go.Proofs.YtnccklbnncaeoaaGreat
open Go.RowKit Go.Shelf
set_option linter.unusedVariables false
attribute [local go_sem] Oper.semAt_some
/-- These blocks are as they were. -/
def KRb (O : Nat → Prop) (A B : World) : Prop := ∀ i, O i → B.heap[i]? = A.heap[i]?
abbrev Vx (zs : List Int) := { x : Int // x ∈ zs }
def venc {zs : List Int} (x : Vx zs) : Array Value := #[.int .i64 x.1]
theorem getD_memV (zs : List Int) (k : Nat) (h : k < zs.length) : zs.getD k 0 ∈ zs := by
  rw [List.getD_eq_getElem?_getD, List.getElem?_eq_getElem h]
  exact List.getElem_mem h
theorem take_getV (zs : List Int) (k : Nat) (h : k < zs.length) : zs.take (k + 1) = zs.take k ++ [zs.getD k 0] := by
  rw [List.take_add_one, List.getElem?_eq_getElem h, List.getD_eq_getElem?_getD, List.getElem?_eq_getElem h]
  rfl
theorem vrow_cells {w : World} {base n : Nat} {v : Value} {zs : List Int} (h : w.ownsRow base 2 1 v n (zs.map (Value.int .i64))) (hn : n = zs.length) (hp : 0 < n) : ∃ g cap, v = .slice (some ⟨g, 0, none⟩) n cap ∧ g < w.heap.size ∧ v.ownBlock = some g ∧ ∀ i, i < zs.length → w.cell? ⟨g, 0 + i, none⟩ = some (.int .i64 (zs.getD i 0)) := by
  rcases h.2 with ⟨_, h1⟩ | ⟨g, cap, cur, rfl, h1, h2, h3, h4, h5, h6⟩
  · omega
  · refine ⟨g, cap, rfl, (Array.getElem?_eq_some_iff.1 h2).1, rfl, fun i hi => ?_⟩
    have e1 : (zs.map (Value.int .i64))[i]? = some (.int .i64 (zs.getD i 0)) := by
      rw [List.getElem?_map, List.getElem?_eq_getElem hi, List.getD_eq_getElem?_getD, List.getElem?_eq_getElem hi]
      rfl
    rw [← h6, List.getElem?_take, if_pos (by omega)] at e1
    refine (cell_of_row w g _ _ 2 _ h2).trans ?_
    rw [Nat.zero_add]
    simpa using e1
theorem cell_of_blockV {w w' : World} {b o : Nat} (h : w'.heap[b]? = w.heap[b]?) : w'.cell? ⟨b, o, none⟩ = w.cell? ⟨b, o, none⟩ := by
  unfold World.cell?
  simp only [h]
set_option maxRecDepth 100000 in
set_option maxHeartbeats 2000000 in
theorem pvals_stops (F : Fence) (n : Nat) (h131 : F.fn 131) (hro : F.round = none) (hn : 1 ≤ n) (Bp base : Nat) (ua : Option Addr) (uc : Nat) (zs : List Int) (hb : zs.length ≤ 1000000000) (w : World) (hc : w.cell? ⟨Bp, 0, none⟩ = some (.slice ua zs.length uc)) (hrow : w.ownsRow base 2 1 (.slice ua zs.length uc) zs.length (zs.map (Value.int .i64))) :
    SeqStopsK F n Tryz.prog 131 #[.pointer (some ⟨Bp, 0, none⟩)] (venc (zs := zs)) (KRb (fun i => (Value.slice ua zs.length uc).ownBlock = some i)) (fun ys => ys.map (·.1) = zs) (fun pre => pre.map (·.1) <+: zs) zs.length w := by
  intro l J Jx W hW hA hAx hY h0
  have c0 : W.cell? ⟨Bp, 0, none⟩ = some (.slice ua zs.length uc) := (hW.cell (block_lt_of_cell hc)).trans hc
  have HROW : Hid (w.ownsRow base 2 1 (.slice ua zs.length uc) zs.length (zs.map (Value.int .i64))) := hrow
  clear hrow hc
  refine callsIn_of_wp Tryz.func131 rfl h131 ?_ hro
  simp only [Tryz.ntmps131, List.size_toArray, List.length_cons, List.length_nil, Nat.reduceAdd, Nat.reduceSub, Array.replicate_succ, Array.replicate_zero, List.push_toArray, List.append_toArray, List.nil_append, List.cons_append]
  gi_wp2_with fail
  gi_loopw [7] (fun i wr => ∃ (k : Nat) (pre : List (Vx zs)), i = .int .i64 k ∧ k ≤ zs.length ∧ pre.map (·.1) = zs.take k ∧ J pre wr ∧ KRb (fun i => (Value.slice ua zs.length uc).ownBlock = some i) W wr) (fun i _ => zs.length - (intOf i).toNat)
  case atStart => exact ⟨0, [], rfl, Nat.zero_le _, by simp, h0, fun _ _ => rfl⟩
  case round =>
    obtain ⟨k, pre, rfl, hk, hpre, hJs, hkr⟩ := hrel
    have HPRE : Hid (pre.map (·.1) = zs.take k) := hpre
    have HKR : Hid (KRb (fun i => (Value.slice ua zs.length uc).ownBlock = some i) W wr) := hkr
    clear hpre hkr
    by_cases hlt : k < zs.length
    · obtain ⟨gq, cap, hpe, hgl, hgo, hcs⟩ := vrow_cells HROW.out rfl (by omega)
      obtain ⟨rfl, rfl⟩ : ua = some ⟨gq, 0, none⟩ ∧ uc = cap := by
        simp only [Value.slice.injEq] at hpe; exact ⟨hpe.1, hpe.2.2⟩
      have y0 := hcs k hlt
      have hbk : wr.heap[gq]? = w.heap[gq]? := (HKR.out gq hgo).trans (hW.block gq hgl)
      rw [← cell_of_blockV hbk, Nat.zero_add] at y0
      have hmem := getD_memV zs k hlt
      have HTK : Hid (zs.take (k + 1) = zs.take k ++ [zs.getD k 0]) := take_getV zs k hlt
      obtain ⟨p, hpm⟩ : ∃ t, t = zs.getD k 0 := ⟨_, rfl⟩
      rw [← hpm] at y0 hmem HTK
      have hlen : pre.length < zs.length := by
        have := congrArg List.length HPRE.out
        rw [List.length_map, List.length_take] at this
        omega
      have HNX : Hid ((pre ++ [(⟨p, hmem⟩ : Vx zs)]).map (·.1) = zs.take (k + 1)) := by show _ = _; rw [HTK.out, List.map_append, HPRE.out]; rfl
      obtain ⟨fn, tmps, assign, body, hy, hR⟩ := hY pre ⟨p, hmem⟩ _ hJs hlen
      unfold venc at hy
      dsimp only at hy
      clear hcs hpe hpm hbk
      gi_wp2_with fail
      refine hR.mono ?_
      rintro ee W3 (⟨rfl, hJ3, hk3⟩ | ⟨rfl, hJx3⟩)
      · have HK3 : Hid (KRb (fun i => (Value.slice (some ⟨gq, 0, none⟩) zs.length uc).ownBlock = some i) W W3) := fun i hi => (hk3 i hi).trans (HKR.out i hi)
        clear hk3
        gi_wp2
        go_roundw
        case rel => exact ⟨k + 1, _, by go_num, hlt, HNX.out, hJ3, HK3.out⟩
        case measure => simp [intOf]; omega
      · gi_wp2
        refine bodyPost_ret (results_none rfl _ _ _) rfl ?_
        exact ⟨⟨_, rfl⟩, .inr ⟨_, by rw [HNX.out]; exact List.take_prefix _ _, hJx3⟩⟩
    · have hnl : ¬ (k : Int) < (zs.length : Int) := by omega
      have HEND : Hid (pre.map (·.1) = zs) := by show _ = _; rw [HPRE.out]; exact List.take_of_length_le (by omega)
      gi_wp2
      go_end0
      exact ⟨⟨_, rfl⟩, .inl ⟨pre, HEND.out, hJs⟩⟩
end Go.Proofs.YtnccklbnncaeoaaGreat
