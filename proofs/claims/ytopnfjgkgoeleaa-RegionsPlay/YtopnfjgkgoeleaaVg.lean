/- regions: Gaps of a list, as an iterator. -/
import Derived.Test.YtopnfjgkgoeleaaVs
namespace Go.Proofs.Ytopnfjgkgoeleaa
open Go.RowKit Go.Shelf
attribute [local go_sem] Oper.semAt_some
set_option linter.unusedVariables false
set_option linter.unusedSimpArgs false
def genc (g : Int × Int) : Array Value := #[.int .i64 g.1, .int .i64 g.2]
def ROg (bt bu : Nat) (ao : Option Addr) (L : List Rn) (i : Nat) : Prop := i = bt ∨ i = bu ∨ (0 < L.length ∧ ∃ off, ao = some ⟨i, off, none⟩)
def gpl (u p : Int) : List (Int × Int) := if p < u then [(p, u - p)] else []
theorem gps_nil (u p : Int) : gps u p [] = gpl u p := rfl
theorem gps_brk {u p : Int} {x : Rn} {r : List Rn} (h : u ≤ x.a) : gps u p (x :: r) = gpl u p := by simp only [gps]; rw [if_pos h]; rfl
theorem gps_tell {u p : Int} {x : Rn} {r : List Rn} (h : ¬ u ≤ x.a) (h2 : p < x.a) : gps u p (x :: r) = (p, x.a - p) :: gps u x.e r := by simp only [gps]; rw [if_neg h, if_pos h2]
theorem gps_skip {u p : Int} {x : Rn} {r : List Rn} (h : ¬ u ≤ x.a) (h2 : ¬ p < x.a) : gps u p (x :: r) = gps u x.e r := by simp only [gps]; rw [if_neg h, if_neg h2]
set_option maxRecDepth 100000 in
set_option maxHeartbeats 4000000 in
theorem gap_seq (n : Nat) (hn : 1 ≤ n) (bt bu : Nat) (ao : Option Addr) (c : Nat) (L : List Rn) (u : Int) (w : World) (hu : -9223372036854775808 ≤ u ∧ u ≤ 72057594037927936) (hl : L.length ≤ 65536) (hlc : L.length ≤ c) (hL : Srt L) (hs : Srcr w ao L) (s1 : St 73 w bt #[.slice ao L.length c]) (s2 : St 2 w bu #[.int .i64 u]) :
    SeqP Fence.wide n Try.prog 62 #[] #[.pointer (some ⟨bt, 0, none⟩), .pointer (some ⟨bu, 0, none⟩)] genc (fun ys => ys = gps u 0 L) (fun pre => ∃ rest, pre ++ rest = gps u 0 L) (gps u 0 L).length (ROg bt bu ao L) w := by
  intro l J Jx W hW hA hAx hY h0
  have S0 := hid (hs.below hW)
  have T1 := hid (s1.below hW s1.lt)
  have T2 := hid (s2.below hW s2.lt)
  have HL := hid hL
  have LB : Hid (∀ i, ROg bt bu ao L i → i < W.heap.size) := by
    rintro i (rfl | rfl | ⟨hp, off, e⟩)
    · exact Nat.lt_of_lt_of_le s1.lt hW.size
    · exact Nat.lt_of_lt_of_le s2.lt hW.size
    · obtain ⟨g, of2, e2, hb, _⟩ := S0.out hp
      rw [e] at e2
      cases e2
      exact hb
  clear hs s1 s2 hW hL
  obtain ⟨N, hN⟩ : ∃ N, N = L.length := ⟨_, rfl⟩
  have c0 : W.cell? ⟨bt, 0, none⟩ = some (.slice ao N c) := by rw [hN]; exact T1.out.cell 0
  have HY := hid hY
  rw [← hN] at hl hlc
  have HN := hid hN
  obtain ⟨GS, hGS⟩ : ∃ GS, GS = gps u 0 L := ⟨_, rfl⟩
  rw [← hGS] at HY
  have HGS := hid hGS
  clear hN hY hGS hAx
  have HYE : Hid (∀ (pre : List (Int × Int)) (g : Int × Int) (rest : List (Int × Int)) (O : Nat → Prop) (X : World), J pre O X → GS = pre ++ g :: rest → YieldAt Fence.wide (n - 1) Try.prog l #[.int .i64 g.1, .int .i64 g.2] X fun e W' => (e = .returned (.bool true) ∧ J (pre ++ [g]) O W' ∧ Kp (fun i => ¬ O i) X W') ∨ (e = .returned (.bool false) ∧ Jx (pre ++ [g]) O W' ∧ Kp (fun i => ¬ O i) X W')) := fun pre g rest O X hJ he => HY.out pre O g X hJ (by rw [he]; simp) ⟨rest, by rw [he]; simp⟩
  refine callsIn_of_wp Try.func62 rfl trivial ?_ rfl
  simp only [Try.ntmps62, List.size_toArray, List.length_cons, List.length_nil, Nat.reduceAdd, Nat.reduceSub, Array.replicate_succ, Array.replicate_zero, List.push_toArray, List.append_toArray, List.nil_append, List.cons_append]
  gi_wp2_with fail
  gi_loopw [4, 9] (fun a i wr => ∃ (k : Nat) (p : Int) (pre : List (Int × Int)) (O : Nat → Prop), i = .int .i64 k ∧ a = .int .i64 p ∧ k ≤ N ∧ (0 ≤ p ∧ p ≤ 72057594037927936) ∧ Hid (GS = pre ++ gps u p (L.drop k)) ∧ Hid (J pre O wr) ∧ Hid (∀ i, ROg bt bu ao L i → O i) ∧ Hid (KR (ROg bt bu ao L) W wr)) (fun _ i _ => N - (intOf i).toNat)
  case atStart => exact ⟨0, 0, [], _, rfl, rfl, Nat.zero_le _, by omega, by rw [List.drop_zero]; exact HGS, h0, fun _ h => h, fun _ _ => rfl⟩
  case round =>
    clear c0
    obtain ⟨k, p, pre, O, rfl, rfl, hk, hp, HG, HJ, HOS, HKR⟩ := hrel
    have cu : wr.cell? ⟨bu, 0, none⟩ = some (.int .i64 u) := by
      have hb := HKR.out bu (Or.inr (Or.inl rfl))
      have h := T2.out.cell 0
      unfold World.cell? at h ⊢
      simp only [hb]
      exact h
    by_cases hlt : k < N
    · have hkl : k < L.length := by have := HN.out; omega
      have HMY := HL.out.may hkl
      have HDR : Hid (L.drop k = L.getD k zRn :: L.drop (k + 1)) := by
        show _ = _
        rw [List.drop_eq_getElem_cons hkl, ← gd hkl]
      rw [HDR.out] at HG
      obtain ⟨gb, off, rfl, hgb, x0, x1, x2⟩ := (srcr_blk S0.out (fun i off hp e => HKR.out i (Or.inr (Or.inr ⟨hp, off, e⟩)))).at (i := k) hkl
      clear HDR
      generalize L.getD k zRn = x at *
      have HEN : Hid (∀ W, Calls Try.prog 42 #[.agg x.cs] W fun e w' => e = .returned (.int .i64 x.e) ∧ Below W.heap.size W w') := fun W => end_any x W HMY
      unfold Mayr at HMY
      obtain ⟨hm1, hm2, hm3, hm4, hm5⟩ := HMY
      have hee : 0 ≤ x.e ∧ x.e ≤ 72057594037927936 := by unfold Rn.e; omega
      have HBU : Hid (bu < wr.heap.size) := kr_lt HKR.out (Or.inr (Or.inl rfl)) (LB.out bu (Or.inr (Or.inl rfl)))
      by_cases hux : u ≤ x.a
      · rw [gps_brk hux] at HG
        unfold gpl at HG
        by_cases hpu : p < u
        · rw [if_pos hpu] at HG
          have hw1 : IntKind.i64.wrap (u - p) = u - p := by rw [IntKind.wrap_i64]; omega
          gi_wp2_with (first | (refine wpListIn_store_r (by rfl) (.tmp 6) (.tmp 12) rfl wr.heap.size rfl (e := zRn) (e' := x) rfl (Rn.B.new wr zRn) ?_; intro w2 b2 j2; have k2 : Kp (fun _ => False) wr w2 := ((Kp.refl (fun _ => False) wr).alloc _).trans j2 (fun i h1 h2 => by omega); have E2 := hid b2; have K2 := hid k2; have J2 := hid (hA _ O wr w2 HJ.out (k2.mono (fun _ _ x => x.elim))); have cu2 : w2.cell? ⟨bu, 0, none⟩ = some (.int .i64 u) := (by have hb := k2.block bu HBU.out (fun x => x); unfold World.cell? at cu ⊢; simp only [hb]; exact cu); have y1 : w2.cell? ⟨wr.heap.size, 1, none⟩ = some (.int .i64 x.a) := b2.cell 1; clear k2 j2 b2 x0 x1 x2 cu; obtain ⟨fn, tmps, assign, body, hy, hR⟩ := HYE.out pre (p, u - p) [] _ _ J2.out HG.out; dsimp only at hy; have HR := hid hR; clear hR))
          refine HR.out.mono ?_
          rintro ee w3 (⟨rfl, hJ3, hk3⟩ | ⟨rfl, hJx3, hk3⟩)
          · gi_wp2
            go_end0
            exact ⟨⟨_, rfl⟩, .inl ⟨_, _, by rw [← HGS.out, HG.out], hJ3⟩⟩
          · gi_wp2
            go_end0
            exact ⟨⟨_, rfl⟩, .inr ⟨_, _, ⟨[], by rw [← HGS.out, HG.out]; simp⟩, hJx3⟩⟩
        · rw [if_neg hpu, List.append_nil] at HG
          gi_wp2_with (first | (refine wpListIn_store_r (by rfl) (.tmp 6) (.tmp 12) rfl wr.heap.size rfl (e := zRn) (e' := x) rfl (Rn.B.new wr zRn) ?_; intro w2 b2 j2; have k2 : Kp (fun _ => False) wr w2 := ((Kp.refl (fun _ => False) wr).alloc _).trans j2 (fun i h1 h2 => by omega); have E2 := hid b2; have K2 := hid k2; have J2 := hid (hA _ O wr w2 HJ.out (k2.mono (fun _ _ x => x.elim))); have cu2 : w2.cell? ⟨bu, 0, none⟩ = some (.int .i64 u) := (by have hb := k2.block bu HBU.out (fun x => x); unfold World.cell? at cu ⊢; simp only [hb]; exact cu); have y1 : w2.cell? ⟨wr.heap.size, 1, none⟩ = some (.int .i64 x.a) := b2.cell 1; clear k2 j2 b2 x0 x1 x2 cu))
          go_end0
          exact ⟨⟨_, rfl⟩, .inl ⟨_, by rw [← HGS.out, HG.out]; exact J2.out⟩⟩
      · have HKR2 : Hid (∀ w2, Kp (fun _ => False) wr w2 → KR (ROg bt bu (some ⟨gb, off, none⟩) L) W w2) := fun w2 K2 i hi => (K2.block i (kr_lt HKR.out hi (LB.out i hi)) (fun x => x)).trans (HKR.out i hi)
        by_cases hpx : p < x.a
        · rw [gps_tell hux hpx] at HG
          have hw1 : IntKind.i64.wrap (x.a - p) = x.a - p := by rw [IntKind.wrap_i64]; omega
          gi_wp2_with (first | (refine wpListIn_store_r (by rfl) (.tmp 6) (.tmp 12) rfl wr.heap.size rfl (e := zRn) (e' := x) rfl (Rn.B.new wr zRn) ?_; intro w2 b2 j2; have k2 : Kp (fun _ => False) wr w2 := ((Kp.refl (fun _ => False) wr).alloc _).trans j2 (fun i h1 h2 => by omega); have E2 := hid b2; have K2 := hid k2; have J2 := hid (hA _ O wr w2 HJ.out (k2.mono (fun _ _ x => x.elim))); have cu2 : w2.cell? ⟨bu, 0, none⟩ = some (.int .i64 u) := (by have hb := k2.block bu HBU.out (fun x => x); unfold World.cell? at cu ⊢; simp only [hb]; exact cu); have y1 : w2.cell? ⟨wr.heap.size, 1, none⟩ = some (.int .i64 x.a) := b2.cell 1; clear k2 j2 b2 x0 x1 x2 cu; obtain ⟨fn, tmps, assign, body, hy, hR⟩ := HYE.out pre (p, x.a - p) (gps u x.e (L.drop (k + 1))) _ _ J2.out HG.out; dsimp only at hy; have HR := hid hR; clear hR))
          have KR2 := hid (HKR2.out w2 K2.out)
          refine HR.out.mono ?_
          rintro ee w3 (⟨rfl, hJ3, hk3⟩ | ⟨rfl, hJx3, hk3⟩)
          · have KR3 : Hid (KR (ROg bt bu (some ⟨gb, off, none⟩) L) W w3) := fun i hi => (hk3.block i (kr_lt KR2.out hi (LB.out i hi)) (fun x => x (Or.inl (HOS.out i hi)))).trans (KR2.out i hi)
            have E3 := hid (E2.out.kp hk3 (fun h => h (Or.inr ⟨Nat.le_refl _, E2.out.lt⟩)))
            have HJ3 := hid hJ3
            clear hk3 hJ3
            gi_wp2_with (first | (refine wpListIn_load_r (by rfl) (.tmp 6) rfl wr.heap.size rfl E3.out ?_) | (refine ⟨trivial, ?_⟩; gi_at_call 42; refine (callsIn_wide.2 (HEN.out _)).mono ?_; rintro e w5 ⟨rfl, b5⟩; have B5 := hid b5; clear b5) | (gi_at_call 42; refine (callsIn_wide.2 (HEN.out _)).mono ?_; rintro e w5 ⟨rfl, b5⟩; have B5 := hid b5; clear b5))
            have J5 := hid (hA _ _ _ _ HJ3.out (Kp.of_below B5.out))
            have KR5 : Hid (KR (ROg bt bu (some ⟨gb, off, none⟩) L) W w5) := fun i hi => (B5.out.block i (kr_lt KR3.out hi (LB.out i hi))).trans (KR3.out i hi)
            go_roundw
            case rel => exact ⟨k + 1, x.e, pre ++ [(p, x.a - p)], _, by go_num, rfl, hlt, hee, (by show _ = _; rw [HG.out]; simp), J5, fun i hi => Or.inl (Or.inl (HOS.out i hi)), KR5⟩
            case measure => simp [intOf]; omega
          · gi_wp2
            refine bodyPost_ret (results_none rfl _ _ _) rfl ?_
            exact ⟨⟨_, rfl⟩, .inr ⟨_, _, ⟨gps u x.e (L.drop (k + 1)), by rw [← HGS.out, HG.out]; simp⟩, hJx3⟩⟩
        · rw [gps_skip hux hpx] at HG
          gi_wp2_with (first | (refine wpListIn_store_r (by rfl) (.tmp 6) (.tmp 12) rfl wr.heap.size rfl (e := zRn) (e' := x) rfl (Rn.B.new wr zRn) ?_; intro w2 b2 j2; have k2 : Kp (fun _ => False) wr w2 := ((Kp.refl (fun _ => False) wr).alloc _).trans j2 (fun i h1 h2 => by omega); have E2 := hid b2; have K2 := hid k2; have J2 := hid (hA _ O wr w2 HJ.out (k2.mono (fun _ _ x => x.elim))); have cu2 : w2.cell? ⟨bu, 0, none⟩ = some (.int .i64 u) := (by have hb := k2.block bu HBU.out (fun x => x); unfold World.cell? at cu ⊢; simp only [hb]; exact cu); have y1 : w2.cell? ⟨wr.heap.size, 1, none⟩ = some (.int .i64 x.a) := b2.cell 1; clear k2 j2 b2 x0 x1 x2 cu))
          rename_i hk _ _ _ _
          refine ⟨fun f hf => (by cases hf), hk _ _ ?_⟩
          clear hk
          gi_wp2_with (first | (refine wpListIn_load_r (by rfl) (.tmp 6) rfl wr.heap.size rfl E2.out ?_) | (refine ⟨trivial, ?_⟩; gi_at_call 42; refine (callsIn_wide.2 (HEN.out _)).mono ?_; rintro e w5 ⟨rfl, b5⟩; have B5 := hid b5; clear b5) | (gi_at_call 42; refine (callsIn_wide.2 (HEN.out _)).mono ?_; rintro e w5 ⟨rfl, b5⟩; have B5 := hid b5; clear b5))
          have KR2 := hid (HKR2.out w2 K2.out)
          have J5 := hid (hA _ _ _ _ J2.out (Kp.of_below B5.out))
          have KR5 : Hid (KR (ROg bt bu (some ⟨gb, off, none⟩) L) W w5) := fun i hi => (B5.out.block i (kr_lt KR2.out hi (LB.out i hi))).trans (KR2.out i hi)
          go_roundw
          case rel => exact ⟨k + 1, x.e, pre, _, by go_num, rfl, hlt, hee, HG, J5, fun i hi => Or.inl (Or.inl (HOS.out i hi)), KR5⟩
          case measure => simp [intOf]; omega
    · obtain rfl : k = N := by omega
      have HT : Hid (L.drop k = []) := List.drop_eq_nil_of_le (by have := HN.out; omega)
      rw [HT.out, gps_nil] at HG
      unfold gpl at HG
      by_cases hpu : p < u
      · rw [if_pos hpu] at HG
        obtain ⟨fn, tmps, assign, body, hy, hR⟩ := HYE.out pre (p, u - p) [] O wr HJ.out HG.out
        dsimp only at hy
        have HR := hid hR
        clear hR
        have hw1 : IntKind.i64.wrap (u - p) = u - p := by rw [IntKind.wrap_i64]; omega
        gi_wp2_with fail
        refine HR.out.mono ?_
        rintro ee w3 (⟨rfl, hJ3, hk3⟩ | ⟨rfl, hJx3, hk3⟩)
        · gi_wp2
          go_end0
          exact ⟨⟨_, rfl⟩, .inl ⟨_, _, by rw [← HGS.out, HG.out], hJ3⟩⟩
        · gi_wp2
          go_end0
          exact ⟨⟨_, rfl⟩, .inr ⟨_, _, ⟨[], by rw [← HGS.out, HG.out]; simp⟩, hJx3⟩⟩
      · rw [if_neg hpu, List.append_nil] at HG
        gi_wp2_with fail
        go_end0
        exact ⟨⟨_, rfl⟩, .inl ⟨O, by rw [← HGS.out, HG.out]; exact HJ.out⟩⟩
end Go.Proofs.Ytopnfjgkgoeleaa
