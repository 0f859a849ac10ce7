/- The iterator over the symbols that have a code: its contract, whatever the loop's body; and the weight, which ranges over it. -/
import Derived.RangeFuncNested
import Derived.RangeFuncBound
import Derived.RangeFuncCalls
import Derived.RangeFuncLeaves
import Derived.RangeFuncFrom
import Derived.Shelf.Abstract
import Derived.Shelf.RegionOpen
import Derived.WalkKit
import Derived.OwnWalkIn
import Derived.TacticsInMore
import Derived.LoopNIn
import Derived.LoopIn
import Derived.Test.YthpocbpleffdpaaWgt
namespace Go.Proofs.Ythpocbpleffdpaa
open Go.RowKit Go.Shelf
attribute [local go_sem] Oper.semAt_some

/-- The symbols below k that have a code, with their lengths. -/
def cds (zs : List Int) : Nat → List (Nat × Int)
  | 0 => []
  | k + 1 => cds zs k ++ (if 0 < zs[k]?.getD 0 then [(k, zs[k]?.getD 0)] else [])
theorem cds_yes {zs : List Int} {k : Nat} (h : 0 < zs[k]?.getD 0) : cds zs (k + 1) = cds zs k ++ [(k, zs[k]?.getD 0)] := by simp [cds, h]
theorem cds_no {zs : List Int} {k : Nat} (h : ¬ 0 < zs[k]?.getD 0) : cds zs (k + 1) = cds zs k := by simp [cds, h]
theorem cds_le (zs : List Int) (k : Nat) : (cds zs k).length ≤ k := by
  induction k with
  | zero => simp [cds]
  | succ k ih =>
    by_cases h : 0 < zs[k]?.getD 0
    · rw [cds_yes h]; simp; exact ih
    · rw [cds_no h]; omega
set_option maxRecDepth 100000 in
set_option maxHeartbeats 2000000 in
theorem coded1_in (F : Fence) (n : Nat) (h70 : F.fn 70) (hro : F.round = none) (hn : 1 ≤ n) (l Bs n₀ b off len cap : Nat) (zs : List Int) (hreach : len ≤ 17592186044416) (hb : b < n₀) (p : Nat × Int → Prop) (hp : ∀ k, k < len → 0 < zs[k]?.getD 0 → p (k, zs[k]?.getD 0)) (J Jx : List { x : Nat × Int // p x } → World → Prop)
    (hY : ∀ pre x W, J pre W → pre.length < len → YieldAt F (n - 1) Try.prog l #[.int .i64 (x.1.1 : Int), .int .i64 x.1.2] W fun e W' =>
      (e = .returned (.bool true) ∧ J (pre ++ [x]) W' ∧ Below n₀ W W') ∨ (e = .returned (.bool false) ∧ Jx (pre ++ [x]) W'))
    (W : World) (hBs : W.cell? ⟨Bs, 0, none⟩ = some (.slice (some ⟨b, off, none⟩) len cap)) (hc : ∀ j, j < len → W.cell? ⟨b, off + j, none⟩ = some (.int .i64 (zs[j]?.getD 0))) (h0 : J [] W) :
    CallsIn F n Try.prog 70 #[.func (.yield l) #[] #[], .pointer (some ⟨Bs, 0, none⟩)] W fun e W' => (∃ v, e = .returned v) ∧
      ((∃ ys, ys.map (·.1) = cds zs len ∧ J ys W') ∨ (∃ pre, (∃ k, k ≤ len ∧ pre.map (·.1) = cds zs k) ∧ Jx pre W')) := by
  refine callsIn_of_wp Try.func70 rfl h70 ?_ hro
  simp only [Try.ntmps70, List.size_toArray, List.length_cons, List.length_nil, Nat.reduceAdd, Nat.reduceSub, Array.replicate_succ, Array.replicate_zero, List.push_toArray, List.append_toArray, List.nil_append, List.cons_append]
  gi_wp2
  gi_loopw [3, 4, 7] (fun _ _ i wr => ∃ (k : Nat) (pre : List { x : Nat × Int // p x }), k ≤ len ∧ i = .int .i64 k ∧ pre.map (·.1) = cds zs k ∧ J pre wr ∧ Below n₀ W wr) (fun _ _ i _ => len - (intOf i).toNat)
  case atStart => exact ⟨0, [], Nat.zero_le _, rfl, rfl, h0, Below.refl _ _⟩
  case round =>
    obtain ⟨k, pre, hk, rfl, hpre, hJs, hnx⟩ := hrel
    have HPRE : Hid (pre.map (·.1) = cds zs k) := hpre
    clear hpre
    by_cases hlt : k < len
    · have hcx' : wr.cell? ⟨b, off + k, none⟩ = some (.int .i64 (zs[k]?.getD 0)) := (hnx.cell (p := ⟨b, off + k, none⟩) hb).trans (hc k hlt)
      have hle : pre.length ≤ k := by have := congrArg List.length HPRE.out; rw [List.length_map] at this; rw [this]; exact cds_le zs k
      by_cases hz : 0 < zs[k]?.getD 0
      · obtain ⟨fn, tmps, assign, body, hy, hR⟩ := hY pre ⟨(k, zs[k]?.getD 0), hp k hlt hz⟩ wr hJs (by omega)
        dsimp only at hy
        have HCY : Hid ((pre ++ [(⟨(k, zs[k]?.getD 0), hp k hlt hz⟩ : { x : Nat × Int // p x })]).map (·.1) = cds zs (k + 1)) := by show _ = _; rw [cds_yes hz, List.map_append, HPRE.out]; rfl
        gi_wp2
        refine hR.mono ?_
        rintro e W3 (⟨rfl, hJ3, hk3⟩ | ⟨rfl, hJx3⟩)
        · gi_wp2
          go_roundw
          case rel => exact ⟨k + 1, _, by omega, by simp, HCY.out, hJ3, hnx.trans hk3⟩
          case measure => simp [intOf]; omega
        · gi_wp2
          refine bodyPost_ret (results_none rfl _ _ _) rfl ?_
          exact ⟨⟨_, rfl⟩, .inr ⟨_, ⟨k + 1, by omega, HCY.out⟩, hJx3⟩⟩
      · gi_wp2
        refine ⟨fun _ h => (by cases h), ?_⟩
        gi_wp2
        go_roundw
        case rel => exact ⟨k + 1, pre, by omega, by simp, by rw [cds_no (by omega)]; exact HPRE.out, hJs, hnx⟩
        case measure => simp [intOf]; omega
    · obtain rfl : k = len := by omega
      gi_wp2
      go_end0
      exact ⟨⟨_, rfl⟩, .inl ⟨_, HPRE.out, hJs⟩⟩
set_option maxRecDepth 100000 in
set_option maxHeartbeats 1000000 in
theorem coded1_nil_in (F : Fence) (n : Nat) (h70 : F.fn 70) (hro : F.round = none) (l Bs : Nat) (ao : Option Addr) (cap : Nat) {α : Type} (J : List α → World → Prop) (W : World) (hBs : W.cell? ⟨Bs, 0, none⟩ = some (.slice ao 0 cap)) (h0 : J [] W) :
    CallsIn F n Try.prog 70 #[.func (.yield l) #[] #[], .pointer (some ⟨Bs, 0, none⟩)] W fun e W' => (∃ v, e = .returned v) ∧ J [] W' := by
  refine callsIn_of_wp Try.func70 rfl h70 ?_ hro
  simp only [Try.ntmps70, List.size_toArray, List.length_cons, List.length_nil, Nat.reduceAdd, Nat.reduceSub, Array.replicate_succ, Array.replicate_zero, List.push_toArray, List.append_toArray, List.nil_append, List.cons_append]
  gi_wp2
  gi_loopw [3, 4, 7] (fun _ _ i wr => i = .int .i64 0 ∧ J [] wr) (fun _ _ _ _ => 0)
  case atStart => exact ⟨rfl, h0⟩
  case round =>
    obtain ⟨rfl, hJs⟩ := hrel
    gi_wp2
    go_end0
    exact ⟨⟨_, rfl⟩, hJs⟩
set_option maxHeartbeats 1000000 in
theorem coded_in (F : Fence) (n : Nat) (h48 : F.fn 48) (hro : F.round = none) (a : Option Addr) (len cap : Nat) (w : World) :
    CallsIn F n Try.prog 48 #[.slice a len cap] w fun e w' => e = .returned (.func (.func 70) #[] #[.pointer (some ⟨w.heap.size, 0, none⟩)]) ∧ w' = w.alloc (.cells #[.slice a len cap] 22) := by
  refine callsIn_of_wp Try.func48 rfl h48 ?_ hro
  simp only [Try.ntmps48, List.size_toArray, List.length_cons, List.length_nil, Nat.reduceAdd, Nat.reduceSub, Array.replicate_succ, Array.replicate_zero, List.push_toArray, List.append_toArray, List.nil_append, List.cons_append]
  gi_wp2
  go_ret
  exact ⟨rfl, rfl⟩
/-- What the iterator tells: all symbols that have a code, rising; or the first of them. -/
theorem coded_stops (F : Fence) (n : Nat) (h70 : F.fn 70) (hro : F.round = none) (hn : 1 ≤ n) (Bs n₀ : Nat) (ao : Option Addr) (cap : Nat) (zs : List Int) (hreach : zs.length ≤ 17592186044416) (w : World) (hBs : Bs < w.heap.size)
    (hc : w.cell? ⟨Bs, 0, none⟩ = some (.slice ao zs.length cap)) (hI : Src .i64 w ao zs) (hlow : 0 < zs.length → ∀ b off, ao = some ⟨b, off, none⟩ → b < n₀) (p : Nat × Int → Prop) (hp : ∀ k, k < zs.length → 0 < zs[k]?.getD 0 → p (k, zs[k]?.getD 0)) :
    SeqStopsK F n Try.prog 70 #[.pointer (some ⟨Bs, 0, none⟩)] (fun x : { x : Nat × Int // p x } => #[Value.int .i64 (x.1.1 : Int), Value.int .i64 x.1.2]) (Below n₀) (fun ys => ys.map (·.1) = cds zs zs.length)
      (fun pre => ∃ k, k ≤ zs.length ∧ pre.map (·.1) = cds zs k) zs.length w := fun l J Jx W hW _ _ hY h0 => by
  have hc' := (hW.cell (p := ⟨Bs, 0, none⟩) hBs).trans hc
  by_cases hz : zs.length = 0
  · rw [hz] at hc' ⊢
    exact (coded1_nil_in F n h70 hro l Bs ao cap J W hc' h0).mono fun e W' ⟨he, hj⟩ => ⟨he, .inl ⟨_, rfl, hj⟩⟩
  · obtain ⟨b, off, rfl, hcs⟩ := hI (by omega)
    have hb := hlow (by omega) b off rfl
    refine coded1_in F n h70 hro hn l Bs n₀ b off zs.length cap zs hreach hb p hp J Jx hY W hc' (fun j hj => ?_) h0
    rw [show zs[j]?.getD 0 = zs.getD j 0 by simp [List.getD]]
    exact (hW.cell (p := ⟨b, off + j, none⟩) (block_lt_of_cell (hcs j hj))).trans (hcs j hj)
end Go.Proofs.Ythpocbpleffdpaa
