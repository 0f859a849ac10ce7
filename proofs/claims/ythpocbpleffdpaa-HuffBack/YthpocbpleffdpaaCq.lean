/- huff: the symbols that have a code, told one by one (the prefix is handed to the body). -/
import Derived.Test.YthpocbpleffdpaaQs
import Derived.Test.YthpocbpleffdpaaIt
import Derived.Test.YthpocbpleffdpaaHi
namespace Go.Proofs.Ythpocbpleffdpaa
open Go.RowKit Go.Shelf
attribute [local go_sem] Oper.semAt_some
set_option linter.unusedVariables false
set_option linter.unusedSimpArgs false
/-- The blocks that it reads. -/
def ROc (bt : Nat) (ao : Option Addr) (zs : List Int) (i : Nat) : Prop := i = bt ∨ (0 < zs.length ∧ ∃ off, ao = some ⟨i, off, none⟩)
def KR (O : Nat → Prop) (A B : World) : Prop := ∀ i, O i → B.heap[i]? = A.heap[i]?
theorem kr_lt {O : Nat → Prop} {A B : World} (h : KR O A B) {i : Nat} (hi : O i) (hl : i < A.heap.size) : i < B.heap.size := by
  have h2 : A.heap[i]? = some A.heap[i] := Array.getElem?_eq_getElem hl
  rw [← h i hi] at h2
  exact (Array.getElem?_eq_some_iff.1 h2).1
theorem kr_cell {A B : World} {g i : Nat} (h : B.heap[g]? = A.heap[g]?) : B.cell? ⟨g, i, none⟩ = A.cell? ⟨g, i, none⟩ := by
  unfold World.cell?
  simp only [h]
theorem cds_pre (zs : List Int) {j k : Nat} (h : j ≤ k) : ∃ r, cds zs k = cds zs j ++ r := by
  induction k with
  | zero => obtain rfl : j = 0 := by omega
            exact ⟨[], by simp⟩
  | succ k ih =>
    by_cases e : j = k + 1
    · subst e; exact ⟨[], by simp⟩
    · obtain ⟨r, hr⟩ := ih (by omega)
      exact ⟨r ++ (if 0 < zs[k]?.getD 0 then [(k, zs[k]?.getD 0)] else []), by rw [cds, hr, List.append_assoc]⟩
set_option maxRecDepth 100000 in
set_option maxHeartbeats 4000000 in
theorem coded_seq (n : Nat) (hn : 1 ≤ n) (bt : Nat) (ao : Option Addr) (c : Nat) (zs : List Int) (w : World) (hl : zs.length ≤ 1000000) (hs : Src .i64 w ao zs) (hlo : 0 < zs.length → ∀ b off, ao = some ⟨b, off, none⟩ → b < w.heap.size) (hbt : bt < w.heap.size) (s1 : w.cell? ⟨bt, 0, none⟩ = some (.slice ao zs.length c)) :
    SeqW Fence.wide n Try.prog 70 #[] #[.pointer (some ⟨bt, 0, none⟩)] (fun x : Nat × Int => #[.int .i64 (x.1 : Int), .int .i64 x.2]) (fun ys Y => ys = cds zs zs.length ∧ KR (ROc bt ao zs) w Y) (fun pre Y => (∃ k, k ≤ zs.length ∧ pre = cds zs k) ∧ KR (ROc bt ao zs) w Y) (fun pre => ∃ k x, k < zs.length ∧ pre = cds zs k ++ [x] ∧ x = (k, zs.getD k 0) ∧ 0 < zs.getD k 0) (ROc bt ao zs) w := by
  intro l J Jx W hW hA hAx hY h0
  have LW : Hid (∀ i, ROc bt ao zs i → i < w.heap.size) := by
    rintro i (rfl | ⟨hp, off, e⟩)
    · exact hbt
    · exact hlo hp i off e
  have LB : Hid (∀ i, ROc bt ao zs i → i < W.heap.size) := fun i hi => Nat.lt_of_lt_of_le (LW.out i hi) hW.size
  have HKW : Hid (∀ Y, KR (ROc bt ao zs) W Y → KR (ROc bt ao zs) w Y) := fun Y h i hi => (h i hi).trans (hW.block i (LW.out i hi))
  have S0 : Hid (Src .i64 W ao zs) := hs.below hW
  have c0 : W.cell? ⟨bt, 0, none⟩ = some (.slice ao zs.length c) := (kr_cell (hW.block bt hbt)).trans s1
  clear hs s1 hW hlo hbt
  obtain ⟨N, hN⟩ : ∃ N, N = zs.length := ⟨_, rfl⟩
  have HY := hid hY
  rw [← hN] at hl HY c0
  have HN := hid hN
  clear hN hY
  refine callsIn_of_wp Try.func70 rfl trivial ?_ rfl
  simp only [Try.ntmps70, List.size_toArray, List.length_cons, List.length_nil, Nat.reduceAdd, Nat.reduceSub, Array.replicate_succ, Array.replicate_zero, List.push_toArray, List.append_toArray, List.nil_append, List.cons_append]
  gi_wp2_with fail
  gi_loopw [7] (fun i wr => ∃ (k : Nat) (O : Nat → Prop), i = .int .i64 k ∧ k ≤ N ∧ Hid (J (cds zs k) O wr) ∧ Hid (∀ i, ROc bt ao zs i → O i) ∧ Hid (KR (ROc bt ao zs) W wr)) (fun i _ => N - (intOf i).toNat)
  case atStart => exact ⟨0, _, rfl, Nat.zero_le _, h0, fun _ h => h, fun _ _ => rfl⟩
  case round =>
    clear c0
    obtain ⟨k, O, rfl, hk, HJ, HOS, HKR⟩ := hrel
    by_cases hlt : k < N
    · have hkl : k < zs.length := by have := HN.out; omega
      obtain ⟨gb, off, e0, hcs⟩ := S0.out (by omega)
      have x0 : wr.cell? ⟨gb, off + k, none⟩ = some (.int .i64 (zs.getD k 0)) := (kr_cell (HKR.out gb (.inr ⟨by omega, off, e0⟩))).trans (hcs k hkl)
      subst e0
      have hge : zs[k]?.getD 0 = zs.getD k 0 := by simp [List.getD]
      by_cases hz : 0 < zs.getD k 0
      · obtain ⟨fn, tmps, assign, body, hy, hR⟩ := HY.out _ O (k, zs.getD k 0) wr HJ.out ⟨k, _, by have := HN.out; omega, rfl, rfl, hz⟩
        dsimp only at hy
        have HCY : Hid (cds zs k ++ [(k, zs.getD k 0)] = cds zs (k + 1)) := by rw [Hid, cds_yes (by rw [hge]; exact hz), hge]
        have HR := hid hR
        clear hR hcs hge
        generalize zs.getD k 0 = z at *
        gi_wp2_with fail
        refine HR.out.mono ?_
        rw [HCY.out]
        rintro ee w3 (⟨rfl, hJ3, hk3⟩ | ⟨rfl, hJx3, hk3⟩)
        · have KR3 : Hid (KR (ROc bt (some ⟨gb, off, none⟩) zs) W w3) := fun i hi => (hk3.block i (kr_lt HKR.out hi (LB.out i hi)) (fun x => x (HOS.out i hi))).trans (HKR.out i hi)
          have HJ3 := hid hJ3
          clear hk3 hJ3
          gi_wp2
          go_roundw
          case rel => exact ⟨k + 1, _, by go_num, hlt, HJ3, HOS, KR3⟩
          case measure => simp [intOf]; omega
        · have KR3 : Hid (KR (ROc bt (some ⟨gb, off, none⟩) zs) W w3) := fun i hi => (hk3.block i (kr_lt HKR.out hi (LB.out i hi)) (fun x => x (HOS.out i hi))).trans (HKR.out i hi)
          have HJx3 := hid hJx3
          clear hk3 hJx3
          gi_wp2
          refine bodyPost_ret (results_none rfl _ _ _) rfl ?_
          exact ⟨⟨_, rfl⟩, .inr ⟨_, _, ⟨⟨k + 1, by have := HN.out; omega, rfl⟩, HKW.out _ KR3.out⟩, HJx3.out⟩⟩
      · have HJ1 : Hid (J (cds zs (k + 1)) O wr) := by rw [Hid, cds_no (by rw [hge]; exact hz)]; exact HJ.out
        clear HJ hcs hge
        generalize zs.getD k 0 = z at *
        gi_wp2_with fail
        refine ⟨fun _ h => (by cases h), ?_⟩
        gi_wp2
        go_roundw
        case rel => exact ⟨k + 1, _, by go_num, hlt, HJ1, HOS, HKR⟩
        case measure => simp [intOf]; omega
    · obtain rfl : k = N := by omega
      gi_wp2_with fail
      go_end0
      exact ⟨⟨_, rfl⟩, .inl ⟨_, _, ⟨rfl, HKW.out _ HKR.out⟩, by rw [← HN.out]; exact HJ.out⟩⟩
end Go.Proofs.Ythpocbpleffdpaa
