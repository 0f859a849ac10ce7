import Derived.Test.YtnccklbnncaeoaaGreatJai
import Derived.RangeFuncNested
import Derived.RangeFuncBound
import Derived.RangeFuncCalls
import Derived.RangeFuncLeaves
import Derived.RangeFuncFrom
import Derived.Shelf.Abstract
import Derived.Shelf.RegionOpen
import Derived.WalkKit
import Derived.OwnWalkIn
import Derived.TacticsInMore
import Derived.LoopNIn
import Derived.LoopIn
/- The iterator over the pieces of bytes. -/
namespace Go.Proofs.YtnccklbnncaeoaaGreat
open Go.RowKit Go.Shelf
attribute [local go_sem] Oper.semAt_some

abbrev Cx (p m : Nat) := { x : Nat × Nat // x ∈ pcs p m }
def cenc {p m : Nat} (x : Cx p m) : Array Value := #[.agg #[.int .i64 (x.1.1 : Int), .int .i64 (x.1.2 : Int)]]
set_option maxRecDepth 100000 in
set_option maxHeartbeats 2000000 in
theorem cuts1_in (F : Fence) (n : Nat) (h63 : F.fn 162) (hro : F.round = none) (hn : 1 ≤ n) (l Bp Bn p m : Nat) (hb : p + m ≤ 1000000000000) (J Jx : List (Cx p m) → World → Prop)
    (hY : ∀ pre x W, J pre W → pre.length < m → YieldAt F (n - 1) Tryz.prog l (cenc x) W fun e W' => (e = .returned (.bool true) ∧ J (pre ++ [x]) W' ∧ True) ∨ (e = .returned (.bool false) ∧ Jx (pre ++ [x]) W'))
    (W : World) (hp : W.cell? ⟨Bp, 0, none⟩ = some (.int .i64 p)) (hm : W.cell? ⟨Bn, 0, none⟩ = some (.int .i64 m)) (h0 : J [] W) :
    CallsIn F n Tryz.prog 162 #[.func (.yield l) #[] #[], .pointer (some ⟨Bp, 0, none⟩), .pointer (some ⟨Bn, 0, none⟩)] W fun e W' => (∃ v, e = .returned v) ∧
      ((∃ ys, ys.map (·.1) = pcs p m ∧ J ys W') ∨ (∃ pre, pre.map (·.1) <+: pcs p m ∧ Jx pre W')) := by
  refine callsIn_of_wp Tryz.func162 rfl h63 ?_ hro
  simp only [Tryz.ntmps162, List.size_toArray, List.length_cons, List.length_nil, Nat.reduceAdd, Nat.reduceSub, Array.replicate_succ, Array.replicate_zero, List.push_toArray, List.append_toArray, List.nil_append, List.cons_append]
  obtain ⟨e, he⟩ : ∃ e, e = p + m := ⟨_, rfl⟩
  have hE : (p : Int) + (m : Int) = (e : Int) := by omega
  have heb : e ≤ 1000000000000 := by omega
  have HE : Hid (e = p + m) := he
  clear he
  gi_wp2
  gi_loopw [5, 6] (fun f _ wr => ∃ (k : Nat) (pre : List (Cx p m)), f = .int .i64 k ∧ p ≤ k ∧ k ≤ e ∧ pcs p m = pre.map (·.1) ++ pcs k (e - k) ∧ J pre wr) (fun f _ _ => e - (intOf f).toNat)
  case atStart => exact ⟨p, [], rfl, Nat.le_refl _, by have := HE.out; omega, by rw [HE.out]; simp, h0⟩
  case round =>
    obtain ⟨k, pre, rfl, hk1, hk2, hpre, hJs⟩ := hrel
    have HPRE : Hid (pcs p m = pre.map (·.1) ++ pcs k (e - k)) := hpre
    clear hpre
    by_cases hlt : k < e
    · obtain ⟨c, hc⟩ : ∃ c, c = cutl k (e - k) := ⟨_, rfl⟩
      have hstep := pcs_step k (e - k) (by omega)
      rw [← hc] at hstep
      have hmem : (k, c) ∈ pcs p m := by rw [HPRE.out, hstep]; simp
      have hc1 : 1 ≤ c := by rw [hc]; exact cutl_pos (by omega)
      have hc2 : c ≤ e - k := by rw [hc]; exact cutl_le _ _
      have hc3 : c = min (512 - k % 512) (e - k) := hc
      have hlen : pre.length < m := by
        have h1 := pcs_len m p
        rw [HPRE.out, hstep] at h1
        simp at h1
        omega
      obtain ⟨t, ht⟩ : ∃ t, t = k + c := ⟨_, rfl⟩
      have hte : t ≤ e := by omega
      have hmin : (if (e : Int) < (k : Int) - (k : Int) % 512 + 512 then (e : Int) else (k : Int) - (k : Int) % 512 + 512) = (t : Int) := by rw [ht]; split <;> omega
      have hsub : (t : Int) - (k : Int) = (c : Int) := by omega
      have HN : Hid (pcs p m = (pre ++ [(⟨(k, c), hmem⟩ : Cx p m)]).map (·.1) ++ pcs t (e - t)) := by
        refine HPRE.out.trans ?_
        rw [hstep, List.map_append, List.append_assoc, ht, show e - k - c = e - (k + c) by omega]
        rfl
      obtain ⟨fn, tmps, assign, body, hy, hR⟩ := hY pre ⟨(k, c), hmem⟩ wr hJs hlen
      unfold cenc at hy
      dsimp only at hy
      have htk : k < t := by omega
      clear hc hc3 hstep ht
      gi_wp2
      refine hR.mono ?_
      rintro ee W3 (⟨rfl, hJ3, _⟩ | ⟨rfl, hJx3⟩)
      · gi_wp2
        go_roundw
        case rel => exact ⟨t, _, rfl, by omega, hte, HN.out, hJ3⟩
        case measure => simp [intOf]; omega
      · gi_wp2
        refine bodyPost_ret (results_none rfl _ _ _) rfl ?_
        exact ⟨⟨_, rfl⟩, .inr ⟨_, ⟨_, HN.out.symm⟩, hJx3⟩⟩
    · obtain rfl : k = e := by omega
      gi_wp2
      go_end0
      exact ⟨⟨_, rfl⟩, .inl ⟨pre, (HPRE.out.trans (by rw [Nat.sub_self, pcs_zero, List.append_nil])).symm, hJs⟩⟩
theorem cuts_stops (F : Fence) (n : Nat) (h63 : F.fn 162) (hro : F.round = none) (hn : 1 ≤ n) (Bp Bn p m : Nat) (hb : p + m ≤ 1000000000000) (w : World) (hp : w.cell? ⟨Bp, 0, none⟩ = some (.int .i64 p)) (hm : w.cell? ⟨Bn, 0, none⟩ = some (.int .i64 m)) :
    SeqStopsK F n Tryz.prog 162 #[.pointer (some ⟨Bp, 0, none⟩), .pointer (some ⟨Bn, 0, none⟩)] (cenc (p := p) (m := m)) (fun _ _ => True) (fun ys => ys.map (·.1) = pcs p m) (fun pre => pre.map (·.1) <+: pcs p m) m w := fun l J Jx W hW _ _ hY h0 =>
  cuts1_in F n h63 hro hn l Bp Bn p m hb J Jx hY W ((hW.cell (block_lt_of_cell hp)).trans hp) ((hW.cell (block_lt_of_cell hm)).trans hm) h0
theorem cuts_in (F : Fence) (n : Nat) (h45 : F.fn 128) (hro : F.round = none) (p m : Int) (w : World) : CallsIn F n Tryz.prog 128 #[.int .i64 p, .int .i64 m] w fun e w' => e = .returned (.func (.func 162) #[] #[.pointer (some ⟨w.heap.size, 0, none⟩), .pointer (some ⟨w.heap.size + 1, 0, none⟩)]) ∧ w' = (w.alloc (.cells #[.int .i64 p] 2)).alloc (.cells #[.int .i64 m] 3) := by
  refine callsIn_of_wp Tryz.func128 rfl h45 ?_ hro
  simp only [Tryz.ntmps128, List.size_toArray, List.length_cons, List.length_nil, Nat.reduceAdd, Nat.reduceSub, Array.replicate_succ, Array.replicate_zero, List.push_toArray, List.append_toArray, List.nil_append, List.cons_append]
  gi_wp2
  go_ret
  exact ⟨rfl, rfl⟩
end Go.Proofs.YtnccklbnncaeoaaGreat
