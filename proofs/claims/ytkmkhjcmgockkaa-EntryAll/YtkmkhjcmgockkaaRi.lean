/- entry: read, as an iterator. -/
import Derived.Test.YtkmkhjcmgockkaaSq
import Derived.Test.YtkmkhjcmgockkaaEu
import Derived.Test.YtkmkhjcmgockkaaEy
namespace Go.Proofs.Ytkmkhjcmgockkaa
open Go.RowKit Go.Shelf
attribute [local go_sem] Oper.semAt_some
set_option linter.unusedVariables false
/-- How many entries are read: up to the first word that is none. -/
structure RdK (zs : List Int) (b : Int) (K : Nat) : Prop where
  le : K ≤ zs.length / 8
  ok : ∀ k, k < K → GetR zs (k : Int) b (prt (wd zs k)) 0
  stop : K = zs.length / 8 ∨ (K < zs.length / 8 ∧ ∃ X E, GetR zs (K : Int) b X E ∧ E ≠ 0)
abbrev Ex (zs : List Int) (b : Int) := { x : Nat × En // GetR zs (x.1 : Int) b x.2 0 }
def xenc {zs : List Int} {b : Int} (x : Ex zs b) : Array Value := #[.int .i64 (x.1.1 : Int), .agg x.1.2.cs]
/-- The blocks that it reads. -/
def RO (bt bb : Nat) (ao : Option Addr) (zs : List Int) (i : Nat) : Prop := i = bt ∨ i = bb ∨ (0 < zs.length ∧ ∃ off, ao = some ⟨i, off, none⟩)
def KR (O : Nat → Prop) (A B : World) : Prop := ∀ i, O i → B.heap[i]? = A.heap[i]?
theorem src_blk {w w' : World} {ao : Option Addr} {zs : List Int} (h : Src w ao zs) (hk : ∀ i off, 0 < zs.length → ao = some ⟨i, off, none⟩ → w'.heap[i]? = w.heap[i]?) : Src w' ao zs := by
  intro hp
  obtain ⟨g, off, e, hc⟩ := h hp
  refine ⟨g, off, e, fun i hi => ?_⟩
  rw [← hc i hi]
  have hb := hk g off hp e
  unfold World.cell?
  simp only [hb]
theorem map_snoc {zs : List Int} {b : Int} {pre : List (Ex zs b)} {k : Nat} (h : pre.map (·.1.1) = List.range k) (x : Ex zs b) (hx : x.1.1 = k) : (pre ++ [x]).map (·.1.1) = List.range (k + 1) := by
  rw [List.map_append, h, List.range_succ]
  simp [hx]
set_option maxRecDepth 100000 in
set_option maxHeartbeats 4000000 in
theorem read_seq (n : Nat) (hn : 1 ≤ n) (bt bb : Nat) (ao : Option Addr) (cap : Nat) (zs : List Int) (b : Int) (K : Nat) (w : World) (hl : zs.length ≤ 1000000000000) (hbt : Byt zs) (hs : Src w ao zs) (s1 : St 39 w bt #[.slice ao zs.length cap]) (s2 : St 3 w bb #[.int .i64 b]) (hK : RdK zs b K) :
    SeqP Fence.wide n Try.prog 38 #[.pointer (some ⟨bt, 0, none⟩), .pointer (some ⟨bb, 0, none⟩)] (xenc (zs := zs) (b := b)) (fun ys => ys.map (·.1.1) = List.range K) (fun pre => ∃ j, j ≤ K ∧ pre.map (·.1.1) = List.range j) K (RO bt bb ao zs) w := by
  intro l J Jx W hW hA hAx hY h0
  have S0 := hid (hs.below hW)
  have T1 := hid (s1.below hW s1.lt)
  have T2 := hid (s2.below hW s2.lt)
  have LB : Hid (∀ i, RO bt bb ao zs i → i < W.heap.size) := by
    rintro i (rfl | rfl | ⟨hp, off, e⟩)
    · exact Nat.lt_of_lt_of_le s1.lt hW.size
    · exact Nat.lt_of_lt_of_le s2.lt hW.size
    · obtain ⟨g, of2, e2, hc⟩ := S0.out hp
      rw [e] at e2
      cases e2
      exact block_lt_of_cell (hc 0 hp)
  have HL := hid hl
  have HB := hid hbt
  have HK := hid hK
  have HLE := hid hK.le
  clear hs s1 s2 hW hbt hK
  refine callsIn_of_wp Try.func38 rfl trivial ?_ rfl
  simp only [Try.ntmps38, List.size_toArray, List.length_cons, List.length_nil, Nat.reduceAdd, Nat.reduceSub, Array.replicate_succ, Array.replicate_zero, List.push_toArray, List.append_toArray, List.nil_append, List.cons_append]
  gi_wp2_with fail
  gi_loopw [4, 5, 6] (fun i _ _ wr => ∃ (k : Nat) (pre : List (Ex zs b)) (O : Nat → Prop), i = .int .i64 k ∧ k ≤ K ∧ pre.map (·.1.1) = List.range k ∧ J pre O wr ∧ (∀ i, RO bt bb ao zs i → O i) ∧ KR (RO bt bb ao zs) W wr) (fun i _ _ _ => K - (intOf i).toNat)
  case atStart => exact ⟨0, [], _, rfl, Nat.zero_le _, rfl, h0, fun _ h => h, fun _ _ => rfl⟩
  case round =>
    obtain ⟨k, pre, O, rfl, hk, hpre, hJs, hOs, hkr⟩ := hrel
    have hkb : (k : Int) ≤ 1000000000000 := by have h1 := HLE.out; have h2 := HL.out; omega
    have HPRE := hid hpre
    have HOS := hid hOs
    have HKR := hid hkr
    have SR := hid (src_blk S0.out (fun i off hp e => hkr i (Or.inr (Or.inr ⟨hp, off, e⟩))))
    have c1 : wr.cell? ⟨bt, 0, none⟩ = some (.slice ao zs.length cap) := by
      have hb := hkr bt (Or.inl rfl)
      have h := T1.out.cell 0
      unfold World.cell? at h ⊢
      simp only [hb]
      exact h
    have c2 : wr.cell? ⟨bb, 0, none⟩ = some (.int .i64 b) := by
      have hb := hkr bb (Or.inr (Or.inl rfl))
      have h := T2.out.cell 0
      unfold World.cell? at h ⊢
      simp only [hb]
      exact h
    clear hpre hOs hkr
    by_cases hlt : k < K
    · have HY := hid (fun w => has_yes ao zs.length cap k w HL.out (Nat.lt_of_lt_of_le hlt HLE.out))
      have HG := hid (HK.out.ok k hlt)
      have EG := hid (eget_any ao cap zs (k : Int) b wr HL.out HB.out SR.out HG.out)
      gi_wp2_with (first | (refine ⟨trivial, ?_⟩; gi_at_call 27; refine (callsIn_wide.2 (HY.out _)).mono ?_; rintro r w' ⟨rfl, rfl⟩) | (gi_at_call 27; refine (callsIn_wide.2 (HY.out _)).mono ?_; rintro r w' ⟨rfl, rfl⟩))
      refine ⟨trivial, (callsIn_wide.2 EG.out).mono ?_⟩
      rintro r w1 ⟨rfl, k1⟩
      have HN2 := hid (map_snoc HPRE.out (⟨(k, prt (wd zs k)), HG.out⟩ : Ex zs b) rfl)
      have hlen : pre.length < K := by
        have h := congrArg List.length HPRE.out
        rw [List.length_map, List.length_range] at h
        omega
      gi_wp2_with (first | (refine wpListIn_store_en (by rfl) (.tmp 5) (.tmp 17) rfl w1.heap.size rfl (e := zE) (e' := prt (wd zs k)) rfl (Eb.new w1 zE) ?_; intro w2 b2 j2; have k2 : Kp (fun _ => False) w1 w2 := ((Kp.refl (fun _ => False) w1).alloc _).trans j2 (fun i h1 h2 => by omega); have E2 := hid b2; have K2 := hid (k1.trans k2 (fun _ _ x => x)); have J2 := hA pre O wr w2 hJs (K2.out.mono (fun _ _ x => x.elim)); obtain ⟨fn, tmps, assign, body, hy, hR⟩ := hY pre _ ⟨(k, prt (wd zs k)), HG.out⟩ w2 J2 hlen ⟨k + 1, hlt, HN2.out⟩; unfold xenc at hy; dsimp only at hy; have HR := hid hR; clear hR k1 k2 j2 b2) | (refine wpListIn_load_en (by rfl) (.tmp 5) rfl w1.heap.size rfl E2.out ?_))
      refine HR.out.mono ?_
      have KR2 : Hid (KR (RO bt bb ao zs) W w2) := fun i hi => (K2.out.block i (by have h1 := LB.out i hi; have h2 : W.heap[i]? = some W.heap[i] := Array.getElem?_eq_getElem h1; rw [← HKR.out i hi] at h2; exact (Array.getElem?_eq_some_iff.1 h2).1) (fun x => x)).trans (HKR.out i hi)
      have LB2 : Hid (∀ i, RO bt bb ao zs i → i < w2.heap.size) := fun i hi => (by have h1 := LB.out i hi; have h2 : W.heap[i]? = some W.heap[i] := Array.getElem?_eq_getElem h1; rw [← KR2.out i hi] at h2; exact (Array.getElem?_eq_some_iff.1 h2).1)
      rintro ee w3 (⟨rfl, hJ3, hk3⟩ | ⟨rfl, hJx3, hk3⟩)
      · have KR3 : Hid (KR (RO bt bb ao zs) W w3) := fun i hi => (hk3.block i (LB2.out i hi) (fun x => x (Or.inl (HOS.out i hi)))).trans (KR2.out i hi)
        clear hk3
        gi_wp2
        go_roundw
        case rel => exact ⟨k + 1, _, _, by go_num, hlt, HN2.out, hJ3, fun i hi => Or.inl (HOS.out i hi), KR3.out⟩
        case measure => simp [intOf]; omega
      · gi_wp2
        refine bodyPost_ret (results_none rfl _ _ _) rfl ?_
        exact ⟨⟨_, rfl⟩, .inr ⟨_, _, ⟨k + 1, hlt, HN2.out⟩, hJx3⟩⟩
    · obtain rfl : k = K := by omega
      rcases HK.out.stop with hq | ⟨hq, X, E, hg, hE⟩
      · have HY := hid (fun w => has_no ao zs.length cap (k : Int) w HL.out (fun h => by have := h.2; omega))
        clear hq hlt
        gi_wp2_with (refine ⟨trivial, ?_⟩; gi_at_call 27; refine (callsIn_wide.2 (HY.out _)).mono ?_; rintro r w' ⟨rfl, rfl⟩)
        go_end0
        exact ⟨⟨_, rfl⟩, .inl ⟨pre, O, HPRE.out, hJs⟩⟩
      · have HY := hid (fun w => has_yes ao zs.length cap k w HL.out hq)
        have hE2 : E = 2 ∨ E = 4 ∨ E = 190 := by
          rcases hg with ⟨_, _, h⟩ | ⟨_, _, _, h⟩ | ⟨_, _, _, _, h⟩ | ⟨_, _, _, _, h⟩
          · exact Or.inl h
          · exact Or.inr (Or.inl h)
          · exact Or.inr (Or.inr h)
          · exact absurd h hE
        have EG := hid (eget_any ao cap zs (k : Int) b wr HL.out HB.out SR.out hg)
        clear hg hE
        rcases hE2 with rfl | rfl | rfl
        all_goals
          gi_wp2_with (refine ⟨trivial, ?_⟩; gi_at_call 27; refine (callsIn_wide.2 (HY.out _)).mono ?_; rintro r w' ⟨rfl, rfl⟩)
          refine ⟨trivial, (callsIn_wide.2 EG.out).mono ?_⟩
          rintro r w1 ⟨rfl, k1⟩
          gi_wp2_with (refine wpListIn_store_en (by rfl) (.tmp 5) (.tmp 17) rfl w1.heap.size rfl (e := zE) (e' := X) rfl (Eb.new w1 zE) ?_; intro w2 b2 j2; have k2 : Kp (fun _ => False) w1 w2 := ((Kp.refl (fun _ => False) w1).alloc _).trans j2 (fun i h1 h2 => by omega); have K2 := hid (k1.trans k2 (fun _ _ x => x)))
          refine ⟨fun _ h => (by cases h), ?_⟩
          gi_wp2_with fail
          refine bodyPost_ret (results_none rfl _ _ _) rfl ?_
          exact ⟨⟨_, rfl⟩, .inl ⟨pre, _, HPRE.out, hA pre O wr w2 hJs (K2.out.mono (fun _ _ x => x.elim))⟩⟩
end Go.Proofs.Ytkmkhjcmgockkaa
