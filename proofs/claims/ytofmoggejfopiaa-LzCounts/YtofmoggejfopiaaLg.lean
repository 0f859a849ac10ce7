/- Contract of places.longer: the longest match of more than k bytes. -/
import Derived.Test.YtofmoggejfopiaaNx
import Derived.Test.YtofmoggejfopiaaEq
import Derived.WalkMore
import Derived.BigQuiet
import Derived.Deep.QuietTactic
namespace Go.Proofs.Ytofmoggejfopiaa
open Go.RowKit

/-- A match as a token. -/
def tkv (t : Nat × Nat) : Value := .agg #[.int .u8 0, .int .i64 (t.1 : Int), .int .i64 (t.2 : Int)]
/-- What the search goes over from round to round. -/
structure LS (zs : List Int) (L : Nat → Nat) (w wr : World) (bs bv : Value) (p k n d f s r : Nat) : Prop where
  tr : St 89 wr (w.heap.size + 2) (trc bs bv p f s r)
  box : St 71 wr w.heap.size #[bs, bv]
  res : St 25 wr (w.heap.size + 1) #[.int .u8 0, .int .i64 0, .int .i64 0]
  bel : Below w.heap.size w wr
  srch : Srch (bf zs) (mst zs.length p) p k n d r
  trl : Tr (bf zs) p L n f s r
  hr : r ≤ min p 32768
theorem lngk_short {zs : List Int} {p k : Nat} (hk : 2 ≤ k) (h : mst zs.length p ≤ k) : lngk (bf zs) zs.length p k = (0, 0) :=
  lngk_of hk (.inl ⟨rfl, rfl, fun _ _ _ hc => absurd hc (by omega)⟩)
theorem LkV.lt {w : World} {N : Nat} {bv : Value} {L : Nat → Nat} (h : LkV w N bv L) (hN : 3 ≤ N) {B : Nat} (hB : bv.ownBlock = some B) : B < w.heap.size := by
  rcases h with ⟨rfl, _⟩ | ⟨b, c, rfl, h2⟩
  · simp [Value.ownBlock] at hB
  · simp [Value.ownBlock] at hB
    subst hB
    exact block_lt_of_cell (h2 0 (by omega)).1
theorem three (w : World) (a b c : Array Value) (ta tb tc : TypeId) : St ta (((w.alloc (.cells a ta)).alloc (.cells b tb)).alloc (.cells c tc)) w.heap.size a ∧ St tb (((w.alloc (.cells a ta)).alloc (.cells b tb)).alloc (.cells c tc)) (w.heap.size + 1) b ∧ St tc (((w.alloc (.cells a ta)).alloc (.cells b tb)).alloc (.cells c tc)) (w.heap.size + 2) c ∧ Below w.heap.size w (((w.alloc (.cells a ta)).alloc (.cells b tb)).alloc (.cells c tc)) := by
  have h1 := St.new ta w a
  have h2 := St.new tb (w.alloc (.cells a ta)) b
  have h3 := St.new tc ((w.alloc (.cells a ta)).alloc (.cells b tb)) c
  have k2 : Below (w.heap.size + 1) (w.alloc (.cells a ta)) ((w.alloc (.cells a ta)).alloc (.cells b tb)) := (Below.refl _ _).alloc (by simp) _
  have k3 : Below (w.heap.size + 2) ((w.alloc (.cells a ta)).alloc (.cells b tb)) (((w.alloc (.cells a ta)).alloc (.cells b tb)).alloc (.cells c tc)) := (Below.refl _ _).alloc (by simp) _
  rw [World.size_alloc] at h2
  rw [World.size_alloc, World.size_alloc] at h3
  exact ⟨(h1.below k2 (by omega)).below k3 (by omega), h2.below k3 (by omega), h3, (((Below.refl _ w).alloc (Nat.le_refl _) _).alloc (by simp) _).alloc (by simp; omega) _⟩
theorem LS.start {zs : List Int} {L : Nat → Nat} {w : World} {bs bv : Value} {p k : Nat} (hk : 2 ≤ k) (hm : k < mst zs.length p) :
    LS zs L w (((w.alloc (.cells #[bs, bv] 71)).alloc (.cells #[.int .u8 0, .int .i64 0, .int .i64 0] 25)).alloc (.cells #[bs, bv, .int .i64 (p : Int), .int .i64 0, .int .i64 0, .int .i64 0] 89)) bs bv p k k 0 0 0 0 := by
  obtain ⟨h1, h2, h3, h4⟩ := three w #[bs, bv] #[.int .u8 0, .int .i64 0, .int .i64 0] #[bs, bv, .int .i64 (p : Int), .int .i64 0, .int .i64 0, .int .i64 0] 71 25 89
  exact ⟨h3, h1, h2, h4, Srch.start _ _ _ _ hm, Tr.start _ _ _ _ hk, by omega⟩
/-- All that lies besides the search's own numbers goes on. -/
theorem LS.on {zs : List Int} {L : Nat → Nat} {w wr w1 : World} {bs bv : Value} {p k n d f s r n' d' f' s' r' : Nat} (h : LS zs L w wr bs bv p k n d f s r) (hk : Kp (fun i => i = w.heap.size + 2) wr w1) (ht : St 89 w1 (w.heap.size + 2) (trc bs bv p f' s' r'))
    (h1 : Srch (bf zs) (mst zs.length p) p k n' d' r') (h2 : Tr (bf zs) p L n' f' s' r') (h3 : r' ≤ min p 32768) : LS zs L w w1 bs bv p k n' d' f' s' r' :=
  ⟨ht, h.box.kp hk (by omega), h.res.kp hk (by omega), h.bel.trans (hk.below h.bel.size (fun i e => by omega)), h1, h2, h3⟩
set_option maxRecDepth 100000 in
set_option maxHeartbeats 4000000 in
theorem longer_any (zs : List Int) (L : Nat → Nat) (ao : Option Addr) (cap p k : Nat) (bo : Option Addr) (bl bc : Nat) (w : World) (hB : Byt zs) (hN : zs.length ≤ 2000000) (hc : zs.length ≤ cap) (hc2 : cap ≤ maxLen) (hS : Src .u8 w ao zs) (hL : Lk (bf zs) zs.length L) (hv : LkV w zs.length (.slice bo bl bc) L) (hp : p ≤ zs.length) (hk : 2 ≤ k) (hk2 : k ≤ 258) :
    Calls Try.prog 34 #[.agg #[.slice ao zs.length cap, .slice bo bl bc], .int .i64 (p : Int), .int .i64 (k : Int)] w fun e w' => e = .returned (tkv (lngk (bf zs) zs.length p k)) ∧ Below w.heap.size w w' := by
  unfold maxLen at hc2
  obtain ⟨m, hm⟩ : ∃ x, x = mst zs.length p := ⟨_, rfl⟩
  have hm' := hm
  unfold mst at hm'
  obtain ⟨N, hNe⟩ : ∃ x, x = zs.length := ⟨_, rfl⟩
  have HNE : Hid (N = zs.length) := hNe
  rw [← hNe] at hN hc hp hm' ⊢
  obtain ⟨y, hy⟩ : ∃ x, x = N - p := ⟨_, rfl⟩
  have a1 : IntKind.i64.wrap ((N : Int) - (p : Int)) = (y : Int) := by rw [IntKind.wrap_i64]; omega
  by_cases hkm : m ≤ k
  · have hres := lngk_short (zs := zs) (p := p) hk (by omega)
    rw [← HNE.out] at hres
    rw [hres]
    clear hres hNe hm
    by_cases hy2 : y ≤ 258
    · obtain rfl : m = y := by omega
      clear hm' hy
      go_enter Try.func34, Try.ntmps34
      go_wp2
      go_step3
      go_wp2
      rw [Exit.noGoto_ret]
      exact bodyPost_ret (v := tkv (0, 0)) (by simp [results, Try.results34, go_sem, tkv]) rfl ⟨rfl, ((Below.refl _ _).alloc (Nat.le_refl _) _).alloc (by simp) _⟩
    · obtain rfl : m = 258 := by omega
      clear hm' hy
      go_enter Try.func34, Try.ntmps34
      go_wp2
      go_step3
      go_wp2
      rw [Exit.noGoto_ret]
      exact bodyPost_ret (v := tkv (0, 0)) (by simp [results, Try.results34, go_sem, tkv]) rfl ⟨rfl, ((Below.refl _ _).alloc (Nat.le_refl _) _).alloc (by simp) _⟩
  · obtain ⟨gb, off, rfl, hcs⟩ := hS (by omega)
    have HS : Hid (Src .u8 w (some ⟨gb, off, none⟩) zs) := hS
    have hgb : gb < w.heap.size := block_lt_of_cell (hcs 0 (by omega))
    obtain ⟨pm, hpm⟩ : ∃ x, x = p + m := ⟨_, rfl⟩
    have a2 : IntKind.i64.wrap ((p : Int) + (m : Int)) = (pm : Int) := by rw [IntKind.wrap_i64]; omega
    have hm3 : k < m := by omega
    have hpc : p < cap := by omega
    have hpmc : pm ≤ cap := by omega
    have hppm : p ≤ pm := by omega
    have hpmN : pm ≤ N := by omega
    have hpm2 : pm - p = m := by omega
    have hm258 : m ≤ 258 := by omega
    have HM : Hid (m = mst zs.length p) := hm
    have HPM : Hid (pm = p + m) := hpm
    have HV : Hid (LkV w zs.length (.slice bo bl bc) L) := hv
    have HL : Hid (Lk (bf zs) zs.length L) := hL
    have HB : Hid (Byt zs) := hB
    clear hcs hS hv hL hB hm hpm hNe
    have a2' : m = 258 → IntKind.i64.wrap ((p : Int) + 258) = (pm : Int) := fun e => by rw [e] at a2; exact a2
    have e258 : 258 < y → (258 : Int) = (m : Int) := fun h => by omega
    have hym : y ≤ 258 → (y : Int) = (m : Int) := fun h => by omega
    have hmge : 258 < y → m = 258 := fun h => by omega
    clear hm' hy
    go_enter Try.func34, Try.ntmps34
    go_wp2
    go_step3
    rcases Nat.lt_or_ge 258 y with hy2 | hy2
    rotate_left 1
    have a3 : IntKind.i64.wrap ((p : Int) + (y : Int)) = (pm : Int) := by rw [hym hy2]; exact a2
    have hmy : k < y := by have := hym hy2; omega
    have hd1 : decide (y ≤ k) = false := by simp; omega
    have E : Hid ((y : Int) = (m : Int)) := hym hy2
    clear hmge hym e258 a2'
    go_wp2
    rw [E.out]
    clear E hd1 hmy hy2
    go_step3
    go_wp2
    rotate_left 1
    have a3 := a2' (hmge (by omega))
    have hd1 : decide ((258 : Int) ≤ (k : Int)) = false := by have := hmge (by omega); simp; omega
    have E : Hid ((258 : Int) = (m : Int)) := e258 (by omega)
    clear hmge hym e258 a2'
    go_wp2
    rw [E.out]
    clear E hd1 hy2
    go_step3
    go_wp2
    all_goals
      clear a3
      have hLS : LS zs L w (((w.alloc (.cells #[.slice (some ⟨gb, off, none⟩) N cap, .slice bo bl bc] 71)).alloc (.cells #[.int .u8 0, .int .i64 0, .int .i64 0] 25)).alloc (.cells #[.slice (some ⟨gb, off, none⟩) N cap, .slice bo bl bc, .int .i64 (p : Int), .int .i64 0, .int .i64 0, .int .i64 0] 89)) (.slice (some ⟨gb, off, none⟩) N cap) (.slice bo bl bc) p k k 0 0 0 0 := LS.start hk (by rw [← HM.out]; exact hm3)
      go_loopw [9, 10, 12] (fun u9 u10 _ wr => ∃ n d f s r : Nat, u9 = .int .i64 (n : Int) ∧ u10 = .int .i64 (d : Int) ∧ LS zs L w wr (.slice (some ⟨gb, off, none⟩) N cap) (.slice bo bl bc) p k n d f s r) (fun _ _ _ wr => 40000 - cellNat wr ⟨w.heap.size + 2, 5, none⟩)
      case atStart => exact ⟨k, 0, 0, 0, 0, rfl, rfl, hLS⟩
      case round =>
        clear hLS
        obtain ⟨n, d, f, s, r, rfl, rfl, hls⟩ := hrel
        have HLS : Hid (LS zs L w wr (.slice (some ⟨gb, off, none⟩) N cap) (.slice bo bl bc) p k n d f s r) := hls
        have HMS : Hid (cellNat wr ⟨w.heap.size + 2, 5, none⟩ = r) := cellNat_of (hls.tr.cell 5)
        have hnm : n < m := by have := hls.srch.2.1; rw [← HM.out] at this; exact this
        have hkn : k ≤ n := hls.srch.1
        have hrp := hls.hr
        have hN3 : p + n + 1 ≤ zs.length := by have := HM.out; have := HPM.out; have := HNE.out; omega
        clear hls
        go_wp2_with fail
        refine (next_any (bf zs) L (w.heap.size + 2) p n f s r zs.length N cap (some ⟨gb, off, none⟩) (.slice bo bl bc) wr (by have := HNE.out; omega) HL.out (HV.out.below HLS.out.bel) (fun B hB => by have := HV.out.lt (by omega) hB; omega) HLS.out.tr HLS.out.trl (by omega) hN3).mono ?_
        rintro e w1 ⟨f', s', r', hst, hk1, (⟨rfl, h1, h2, h3, h4⟩ | ⟨rfl, hno⟩)⟩
        · have b0 : w1.cell? ⟨w.heap.size, 0, none⟩ = some (.slice (some ⟨gb, off, none⟩) N cap) := (HLS.out.box.kp hk1 (by omega)).cell 0
          have t5 : w1.cell? ⟨w.heap.size + 2, 5, none⟩ = some (.int .i64 (r' : Int)) := hst.cell 5
          obtain ⟨u, hu⟩ : ∃ x, x = p - r' := ⟨_, rfl⟩
          obtain ⟨um, hum⟩ : ∃ x, x = u + m := ⟨_, rfl⟩
          obtain ⟨n1, hn1⟩ : ∃ x, x = n + 1 := ⟨_, rfl⟩
          have e1 : IntKind.i64.wrap ((p : Int) - (r' : Int)) = (u : Int) := by rw [IntKind.wrap_i64]; omega
          have e2 : IntKind.i64.wrap ((u : Int) + (m : Int)) = (um : Int) := by rw [IntKind.wrap_i64]; omega
          have e3 : IntKind.i64.wrap ((n : Int) + 1) = (n1 : Int) := by rw [IntKind.wrap_i64]; omega
          have g1 : u < cap := by omega
          have g2 : um ≤ cap := by omega
          have g3 : u ≤ um := by omega
          have g4 : um - u = m := by omega
          have g5 : n1 ≤ m := by omega
          have g6 : n1 ≤ cap - u := by omega
          have g7 : n1 ≤ cap - p := by omega
          have HU : Hid (u = p - r' ∧ um = u + m ∧ n1 = n + 1) := ⟨hu, hum, hn1⟩
          have hb1 : Below w.heap.size w w1 := HLS.out.bel.trans (hk1.below HLS.out.bel.size (fun i e => by omega))
          have HS1 : Hid (Src .u8 w1 (some ⟨gb, off, none⟩) zs) := HS.out.below hb1
          have HST := hst
          have HST : Hid (St 89 w1 (w.heap.size + 2) (trc (.slice (some ⟨gb, off, none⟩) N cap) (.slice bo bl bc) p f' s' r')) := hst
          have HK1 : Hid (Kp (fun i => i = w.heap.size + 2) wr w1) := hk1
          have H3 : Hid (Sk (bf zs) p n r r' ∧ Tr (bf zs) p L n f' s' r') := ⟨h3, h4⟩
          clear hu hum hn1 hb1 hst hk1 h3 h4
          by_cases hM : Mt (bf zs) p r' n1
          · have hdec : decide ((zs.drop u).take n1 = (zs.drop p).take n1) = true := by rw [decide_eq_true_eq, part_mt HU.out.1 (by omega) (by have := HU.out.2.2; omega)]; exact hM
            have HE : Hid (∀ q, Calls Try.prog 49 #[.slice (some ⟨gb, off + u, none⟩) n1 (cap - u), .slice (some ⟨gb, off + p, none⟩) n1 (cap - p)] (w1.drewN q) fun e w' => e = .returned (.bool true) ∧ w' = w1.drewN q) := by
              intro q
              have := equal_any (some ⟨gb, off + u, none⟩) (some ⟨gb, off + p, none⟩) n1 n1 (cap - u) (cap - p) ((zs.drop u).take n1) ((zs.drop p).take n1) (w1.drewN q) (HS1.out.part u n1) (HS1.out.part p n1) ((HB.out.drop _).take _) ((HB.out.drop _).take _) (part_len (by have := HU.out; omega)) (part_len (by have := HU.out; omega))
              rw [hdec] at this
              exact this
            have HMT : Hid (Mt (bf zs) p r' n1) := hM
            clear hM hdec
            go_wp2_with fail
            go_quiet (first | (go_at_call 49; refine Calls.quiet_of_same (HE.out _)))
            go_wp2_with fail
            have K2 : Kp (fun _ => False) w1 (w1.drewN nq) := drewN_kp _ _ _
            generalize w1.drewN nq = w2 at K2 ⊢
            go_loopw [9] (fun u9 wr2 => ∃ n' : Nat, u9 = .int .i64 (n' : Int) ∧ n ≤ n' ∧ n' < m ∧ Mt (bf zs) p r' n' ∧ Kp (fun _ => False) w1 wr2) (fun u9 _ => m - (intOf u9).toNat)
            case atStart => exact ⟨n, rfl, Nat.le_refl _, hnm, HMT.out.mono (by have := HU.out; omega), K2⟩
            case round =>
              clear K2 b0 t5 HE e1 e2 e3 g1 g2 g3 g4 g5 g6 g7
              obtain ⟨n', rfl, q1, q2, q3, k3⟩ := hrel
              have hsr := HS1.out.kp k3 (fun _ _ _ x => x)
              have x1 := hsr.at (u + n') (by have := HU.out; have := HPM.out; have := HNE.out; omega)
              have x2 := hsr.at (p + n') (by have := HPM.out; have := HNE.out; omega)
              rw [← Nat.add_assoc] at x1 x2
              obtain ⟨X, hX⟩ : ∃ X, X = zs.getD (u + n') 0 := ⟨_, rfl⟩
              obtain ⟨Y, hY⟩ : ∃ Y, Y = zs.getD (p + n') 0 := ⟨_, rfl⟩
              rw [← hX] at x1
              rw [← hY] at x2
              have HXY : Hid (X = bf zs (p + n' - r') ∧ Y = bf zs (p + n')) := ⟨by rw [hX, HU.out.1, show p - r' + n' = p + n' - r' by omega]; rfl, hY⟩
              have HQ3 : Hid (Mt (bf zs) p r' n') := q3
              have HK3 : Hid (Kp (fun _ => False) w1 wr) := k3
              have a5 : IntKind.i64.wrap ((n' : Int) + 1) = (n' : Int) + 1 := by rw [IntKind.wrap_i64]; omega
              clear hX hY q3 k3 hsr
              by_cases hXY : X = Y
              · have HM1 : Hid (Mt (bf zs) p r' (n' + 1)) := HQ3.out.succ (by rw [← HXY.out.1, ← HXY.out.2, hXY])
                clear HXY
                subst hXY
                by_cases hm2 : n' + 1 = m
                · have hm4 : ((n' : Int) + 1 == (m : Int)) = true := beq_iff_eq.2 (by omega)
                  have hd1 : ((r' : Int) == 0) = false := beq_eq_false_iff_ne.2 (by omega)
                  have hres : St 25 wr (w.heap.size + 1) #[.int .u8 0, .int .i64 0, .int .i64 0] := (HLS.out.res.kp HK1.out (by omega)).kp HK3.out (fun x => x)
                  have r0 : wr.cell? ⟨w.heap.size + 1, 0, none⟩ = some (.int .u8 0) := hres.cell 0
                  have r1 : wr.cell? ⟨w.heap.size + 1, 1, none⟩ = some (.int .i64 0) := hres.cell 1
                  have r2 : wr.cell? ⟨w.heap.size + 1, 2, none⟩ = some (.int .i64 0) := hres.cell 2
                  have f0 := hres.frozen 0
                  have f1 := hres.frozen 1
                  have f2 := hres.frozen 2
                  have HLK : Hid (lngk (bf zs) N p k = (n' + 1, r')) := by
                    show _ = _
                    rw [HNE.out]
                    have := (HLS.out.srch.found H3.out.1 h1 h2 (by omega) HM1.out).2 (by rw [hm2]; exact HM.out)
                    rw [← HM.out, ← hm2] at this
                    refine lngk_of hk ?_
                    rw [← HM.out, ← hm2]
                    exact this
                  have HB1 : Hid (Below w.heap.size w wr) := (HLS.out.bel.trans (HK1.out.below HLS.out.bel.size (fun i e => by omega))).trans (HK3.out.below (Nat.le_trans HLS.out.bel.size HK1.out.size) (fun i e => e.elim))
                  clear hres hm2
                  go_wp2_with fail
                  go_quiet (fail)
                  go_wp2
                  rw [Exit.noGoto_ret]
                  exact bodyPost_ret (v := tkv (n' + 1, r')) (by simp [results, Try.results34, go_sem, tkv, r0, r1, r2]) rfl ⟨by rw [HLK.out], (((HB1.out.trans ((drewN_kp (fun _ => False) _ _).below HB1.out.size (fun i e => e.elim))).setCell (p := ⟨w.heap.size + 1, 0, none⟩) (by simp) _).setCell (p := ⟨w.heap.size + 1, 1, none⟩) (by simp) _).setCell (p := ⟨w.heap.size + 1, 2, none⟩) (by simp) _⟩
                · have hm4 : ((n' : Int) + 1 == (m : Int)) = false := beq_eq_false_iff_ne.2 (by omega)
                  go_wp2_with fail
                  go_quiet (fail)
                  go_wp2
                  exact ⟨⟨n' + 1, by simp, by omega, by omega, HM1.out, HK3.out.trans (drewN_kp (fun _ => False) _ _) (fun _ _ x => x)⟩, by simp [intOf]; omega⟩
              · have hXY2 : (X == Y) = false := beq_eq_false_iff_ne.2 hXY
                go_wp2_with fail
                go_quiet (fail)
                go_wp2
                have hn'' : n < n' := by
                  rcases Nat.lt_or_ge n n' with h | h
                  · exact h
                  · obtain rfl : n = n' := by omega
                    have := HMT.out
                    rw [HU.out.2.2] at this
                    exact absurd this.last (by rw [← HXY.out.1, ← HXY.out.2]; exact hXY)
                have hst2 : St 89 (wr.drewN nq) (w.heap.size + 2) (trc (.slice (some ⟨gb, off, none⟩) N cap) (.slice bo bl bc) p f' s' r') := (HST.out.kp HK3.out (fun x => x)).kp (drewN_kp (fun _ => False) _ _) (fun x => x)
                refine ⟨⟨n', r', f', s', r', rfl, rfl, HLS.out.on ((HK1.out.trans HK3.out (fun _ _ x => x.elim)).trans (drewN_kp (fun _ => False) _ _) (fun _ _ x => x.elim)) hst2 ((HLS.out.srch.found H3.out.1 h1 h2 hn'' HQ3.out).1 (by rw [← HM.out]; exact q2) (by rw [← HXY.out.1, ← HXY.out.2]; exact hXY)) (H3.out.2.grow (by omega)) h2⟩, ?_⟩
                rw [HMS.out, cellNat_of (hst2.cell 5)]
                omega
          · have hdec : decide ((zs.drop u).take n1 = (zs.drop p).take n1) = false := by rw [decide_eq_false_iff_not, part_mt HU.out.1 (by omega) (by have := HU.out.2.2; omega)]; exact hM
            have HE : Hid (∀ q, Calls Try.prog 49 #[.slice (some ⟨gb, off + u, none⟩) n1 (cap - u), .slice (some ⟨gb, off + p, none⟩) n1 (cap - p)] (w1.drewN q) fun e w' => e = .returned (.bool false) ∧ w' = w1.drewN q) := by
              intro q
              have := equal_any (some ⟨gb, off + u, none⟩) (some ⟨gb, off + p, none⟩) n1 n1 (cap - u) (cap - p) ((zs.drop u).take n1) ((zs.drop p).take n1) (w1.drewN q) (HS1.out.part u n1) (HS1.out.part p n1) ((HB.out.drop _).take _) ((HB.out.drop _).take _) (part_len (by have := HU.out; omega)) (part_len (by have := HU.out; omega))
              rw [hdec] at this
              exact this
            have HMT : Hid (¬ Mt (bf zs) p r' n1) := hM
            clear hM hdec
            go_wp2_with fail
            go_quiet (first | (go_at_call 49; refine Calls.quiet_of_same (HE.out _)))
            go_wp2_with fail
            have hst2 : St 89 (w1.drewN nq) (w.heap.size + 2) (trc (.slice (some ⟨gb, off, none⟩) N cap) (.slice bo bl bc) p f' s' r') := HST.out.kp (drewN_kp (fun _ => False) _ _) (fun x => x)
            refine ⟨⟨n, d, f', s', r', rfl, rfl, HLS.out.on (HK1.out.trans (drewN_kp (fun _ => False) _ _) (fun _ _ x => x.elim)) hst2 (HLS.out.srch.skip H3.out.1 h1 h2 (by rw [← HU.out.2.2]; exact HMT.out)) H3.out.2 h2⟩, ?_⟩
            rw [HMS.out, cellNat_of (hst2.cell 5)]
            omega
        · have hfin := HLS.out.srch.fin hno
          have hlk := lngk_of hk hfin
          have hres : St 25 w1 (w.heap.size + 1) #[.int .u8 0, .int .i64 0, .int .i64 0] := HLS.out.res.kp hk1 (by omega)
          have hb1 : Below w.heap.size w w1 := HLS.out.bel.trans (hk1.below HLS.out.bel.size (fun i e => by omega))
          have r0 : w1.cell? ⟨w.heap.size + 1, 0, none⟩ = some (.int .u8 0) := hres.cell 0
          have r1 : w1.cell? ⟨w.heap.size + 1, 1, none⟩ = some (.int .i64 0) := hres.cell 1
          have r2 : w1.cell? ⟨w.heap.size + 1, 2, none⟩ = some (.int .i64 0) := hres.cell 2
          have f0 := hres.frozen 0
          have f1 := hres.frozen 1
          have f2 := hres.frozen 2
          have HLK : Hid (lngk (bf zs) N p k = (if d = 0 then 0 else n, d)) := by show _ = _; rw [HNE.out]; exact hlk
          have HB1 : Hid (Below w.heap.size w w1) := hb1
          clear hlk hfin hno hst hk1 hres hb1
          by_cases hd : d = 0
          · subst hd
            go_wp2
            rw [Exit.noGoto_ret]
            exact bodyPost_ret (v := tkv (0, 0)) (by simp [results, Try.results34, go_sem, tkv, r0, r1, r2]) rfl ⟨by rw [HLK.out]; rfl, ((HB1.out.setCell (p := ⟨w.heap.size + 1, 0, none⟩) (by simp) _).setCell (p := ⟨w.heap.size + 1, 1, none⟩) (by simp) _).setCell (p := ⟨w.heap.size + 1, 2, none⟩) (by simp) _⟩
          · have hd1 : ((d : Int) == 0) = false := beq_eq_false_iff_ne.2 (by omega)
            go_wp2
            rw [Exit.noGoto_ret]
            exact bodyPost_ret (v := tkv (n, d)) (by simp [results, Try.results34, go_sem, tkv, r0, r1, r2]) rfl ⟨by rw [HLK.out, if_neg hd], ((HB1.out.setCell (p := ⟨w.heap.size + 1, 0, none⟩) (by simp) _).setCell (p := ⟨w.heap.size + 1, 1, none⟩) (by simp) _).setCell (p := ⟨w.heap.size + 1, 2, none⟩) (by simp) _⟩
end Go.Proofs.Ytofmoggejfopiaa
