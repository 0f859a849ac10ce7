/- The reference's Expand. -/
import Derived.Test.YtofmoggejfopiaaXp
namespace Go.Proofs.Ytofmoggejfopiaa
open Go.RowKit
set_option maxRecDepth 100000 in
set_option maxHeartbeats 2000000 in
theorem rexpand_ok (ts : List Tok) (ao : Option Addr) (N cap : Nat) (most : Int) (w : World) (hNe : N = ts.length) (hN : N ≤ 1048576) (hm : 0 ≤ most) (hm2 : most ≤ 9223372036854775807) (hS : TSrc w ao ts) (hok : okK ts N) :
    Calls Try.prog 22 #[.int .i64 most, .slice ao N cap] w fun e w' => ∃ v, e = .returned (.tuple #[v, .int .i64 (xpR most ts).2.1, .int .i64 (xpR most ts).2.2]) ∧ OwnI .u8 5 w' w.heap.size v (xpR most ts).1 ∧ Below w.heap.size w w' := by
  have HNE : Hid (N = ts.length) := hNe
  have HS : Hid (TSrc w ao ts) := hS
  have HOK : Hid (okK ts N) := hok
  clear hS hok hNe
  go_enter Try.func22, Try.ntmps22
  go_wp2_with fail
  go_loopw [7, 8, 9, 10] (fun u7 u8 _ _ wr => ∃ (k : Nat) (b : List Int), k ≤ N ∧ u8 = .int .i64 (k : Int) ∧ stp most ts k = .ok b ∧ OwnI .u8 5 wr w.heap.size u7 b ∧ Below w.heap.size w wr) (fun _ u8 _ _ _ => N - (intOf u8).toNat)
  case atStart => exact ⟨0, [], Nat.zero_le _, rfl, rfl, OwnI.nil _ _ _ _, Below.refl _ _⟩
  case round =>
    obtain ⟨k, b, hk, rfl, hs, ho, hb⟩ := hrel
    have HSP : Hid (stp most ts k = .ok b) := hs
    have HO : Hid (OwnI .u8 5 wr w.heap.size u7 b) := ho
    have HBL : Hid (Below w.heap.size w wr) := hb
    clear hs ho hb
    by_cases hlt : k < N
    · obtain ⟨gb, off, hao, hcs⟩ := (HS.out.below HBL.out) (by have := HNE.out; omega)
      subst hao
      obtain ⟨x0, x1, x2⟩ := hcs k (by have := HNE.out; omega)
      obtain ⟨⟨y, l, d⟩, ht⟩ : ∃ t, t = ts.getD k zt := ⟨_, rfl⟩
      rw [← ht] at x0 x1 x2
      dsimp only at x0 x1 x2
      have HT : Hid (ts.getD k zt = (y, l, d)) := ht.symm
      have hkt := HOK.out k hlt
      rw [HT.out] at hkt
      have hbl := stp_len HSP.out (fun j hj => HOK.out j (by omega))
      have hbl2 : b.length ≤ 300000000 := by omega
      have hsl : ∃ ab cb, u7 = .slice ab b.length cb := by
        rcases HO.out with ⟨rfl, rfl⟩ | ⟨g, cap, tl, rfl, _⟩
        · exact ⟨none, 0, rfl⟩
        · exact ⟨_, _, rfl⟩
      obtain ⟨ab, cb, hu7⟩ := hsl
      subst hu7
      clear hcs ht hbl
      by_cases hfar : (b.length : Int) < d
      · have HE : Hid (stp most ts N = .error (k, 140)) := stp_err (k := k + 1) (by unfold stp; rw [HSP.out, HT.out]; dsimp only; rw [if_pos hfar]) (by omega)
        go_wp2
        go_ret3
        have hx : xpR most ts = ([], (k : Int), 140) := by unfold xpR; rw [← HNE.out, HE.out]
        rw [hx]
        exact ⟨.slice none 0 0, rfl, OwnI.nil _ _ _ _, HBL.out.alloc HBL.out.size _⟩
      · have hfar2 : d ≤ (b.length : Int) := by omega
        have hkt2 : (l = 0 ∧ d = 0) ∨ (y = 0 ∧ (3 ≤ l ∧ l ≤ 258) ∧ (1 ≤ d ∧ d ≤ 32768)) := by simpa [okT] using hkt
        have e1 : IntKind.i64.wrap (most - (b.length : Int)) = most - (b.length : Int) := by rw [IntKind.wrap_i64]; omega
        clear hkt
        by_cases hlg : most - (b.length : Int) < max 1 l
        · have HE : Hid (stp most ts N = .error (k, 141)) := stp_err (k := k + 1) (by unfold stp; rw [HSP.out, HT.out]; dsimp only; rw [if_neg (by omega), if_pos (by omega)]) (by omega)
          rcases hkt2 with ⟨hl, hd⟩ | ⟨hy, hll, hdd⟩
          · subst hl hd
            have hlg1 : most - (b.length : Int) < 1 := by omega
            clear hlg
            go_wp2
            go_ret3
            have hx : xpR most ts = ([], (k : Int), 141) := by unfold xpR; rw [← HNE.out, HE.out]
            rw [hx]
            exact ⟨.slice none 0 0, rfl, OwnI.nil _ _ _ _, HBL.out.alloc HBL.out.size _⟩
          · have hlg1 : most - (b.length : Int) < l := by omega
            have hl1 : 1 < l := by omega
            clear hlg
            go_wp2
            go_ret3
            have hx : xpR most ts = ([], (k : Int), 141) := by unfold xpR; rw [← HNE.out, HE.out]
            rw [hx]
            exact ⟨.slice none 0 0, rfl, OwnI.nil _ _ _ _, HBL.out.alloc HBL.out.size _⟩
        · have HSN : Hid (stp most ts (k + 1) = .ok (tell b (y, l, d))) := by show _ = _; unfold stp; rw [HSP.out, HT.out]; dsimp only; rw [if_neg (by omega), if_neg (by omega)]
          rcases hkt2 with ⟨hl, hd⟩ | ⟨hy, hll, hdd⟩
          · subst hl hd
            have hlg1 : 1 ≤ most - (b.length : Int) := by omega
            clear hlg
            go_wp2_with (first | (at_builtin; refine wpList_append_i (κ := .u8) 22 5 1 Try.underlying22 Try.info5 (by decide) rfl (.tmp 39) (.tmp 42) rfl w.heap.size (.slice ab b.length cb) b rfl (HO.out.kp (((Kp.refl (fun _ => False) wr).alloc (.cells #[.int .u8 y, .int .i64 0, .int .i64 0] 25)).alloc (.cells #[.int .u8 y] 5)) (fun _ _ x => x)) (some ⟨wr.heap.size + 1, 0, none⟩) 1 1 [y] rfl rfl (fun e => by cases e) (by have := one_src (wr.alloc (.cells #[.int .u8 y, .int .i64 0, .int .i64 0] 25)) y; rw [World.size_alloc] at this; exact this) (by simp; omega) (by have := HBL.out.size; simp; omega) ?_; intro v' w1 h1 h2 h3 h4))
            have k2 : Kp (fun i => (Value.slice ab b.length cb).ownBlock = some i) wr w1 := (((Kp.refl _ wr).alloc _).alloc _).trans (Kp.of_grown h2 (F := fun i => (Value.slice ab b.length cb).ownBlock = some i) (fun i e => e)) (fun _ _ e => e)
            have hB3 : Below w.heap.size w w1 := HBL.out.trans (k2.below HBL.out.size (fun i e => (HO.out.lt i e).1))
            have hx1 : w1.cell? ⟨wr.heap.size, 1, none⟩ = some (.int .i64 0) := ((St.new 25 wr #[.int .u8 y, .int .i64 0, .int .i64 0]).kp (F := fun i => (Value.slice ab b.length cb).ownBlock = some i) (((Kp.refl _ _).alloc _).trans (Kp.of_grown h2 (F := fun i => (Value.slice ab b.length cb).ownBlock = some i) (fun i e => e)) (fun _ _ e => e)) (fun e => by have := (HO.out.lt _ e).2; omega)).cell 1
            have H1 : Hid (OwnI .u8 5 w1 w.heap.size v' (b ++ [y])) := h1
            have HB3 : Hid (Below w.heap.size w w1) := hB3
            clear h1 h2 h3 h4 k2 hB3
            go_loopw [7, 10] (fun u0 u15 wq => u0 = v' ∧ u15 = .int .i64 0 ∧ wq = w1) (fun _ _ _ => 0)
            case atStart => exact ⟨rfl, rfl, rfl⟩
            case round =>
              obtain ⟨rfl, rfl, rfl⟩ := hrel
              go_wp2
              exact ⟨⟨k + 1, _, hlt, by simp, HSN.out, H1.out, HB3.out⟩, by simp [intOf]; omega⟩
          · subst hy
            obtain ⟨ln, rfl⟩ := Int.eq_ofNat_of_zero_le (show 0 ≤ l by omega)
            obtain ⟨dn, rfl⟩ := Int.eq_ofNat_of_zero_le (show 0 ≤ d by omega)
            have hl1 : (1 : Int) < (ln : Int) := by omega
            have hl2 : ¬ (ln : Int) = 0 := by omega
            have hl3 : ((ln : Int) == 0) = false := beq_eq_false_iff_ne.2 (by omega)
            have hlg1 : (ln : Int) ≤ most - (b.length : Int) := by omega
            obtain ⟨wo, hwo⟩ : ∃ x, x = wr := ⟨_, rfl⟩
            subst hwo
            have HST : Hid (St 25 (wo.alloc (.cells #[.int .u8 0, .int .i64 (ln : Int), .int .i64 (dn : Int)] 25)) wo.heap.size #[.int .u8 0, .int .i64 (ln : Int), .int .i64 (dn : Int)]) := St.new 25 wo _
            have HO2 : Hid (OwnI .u8 5 (wo.alloc (.cells #[.int .u8 0, .int .i64 (ln : Int), .int .i64 (dn : Int)] 25)) w.heap.size (.slice ab b.length cb) b) := HO.out.kp ((Kp.refl (fun _ => False) wo).alloc _) (fun _ _ x => x)
            have HB2 : Hid (Below w.heap.size w (wo.alloc (.cells #[.int .u8 0, .int .i64 (ln : Int), .int .i64 (dn : Int)] 25))) := HBL.out.alloc HBL.out.size _
            have HTL : Hid (tell b (0, (ln : Int), (dn : Int)) = rep b dn ln) := by
              show _ = _
              unfold tell
              rw [if_neg (by simp only; omega)]
              simp
            have HLT : Hid (∀ i, (Value.slice ab b.length cb).ownBlock = some i → w.heap.size ≤ i ∧ i < wo.heap.size) := HO.out.lt
            have hdl : dn ≤ b.length := by omega
            have hd1 : 1 ≤ dn := by omega
            have hln : ln ≤ 258 := by omega
            clear hlg hll hdd hfar hfar2 HO
            go_wp2_with fail
            generalize wo.alloc (.cells #[.int .u8 0, .int .i64 (ln : Int), .int .i64 (dn : Int)] 25) = W1 at HO2 HST HB2 ⊢
            generalize decide (b.length < dn) = q1
            generalize decide (most - (b.length : Int) < (ln : Int)) = q2
            go_loopw [7, 10] (fun u7 u10 wr => ∃ j : Nat, j ≤ ln ∧ u10 = .int .i64 (j : Int) ∧ OwnI .u8 5 wr w.heap.size u7 (rep b dn j) ∧ St 25 wr wo.heap.size #[.int .u8 0, .int .i64 (ln : Int), .int .i64 (dn : Int)] ∧ Below w.heap.size w wr ∧ ∀ i, u7.ownBlock = some i → i ≠ wo.heap.size) (fun _ u10 _ => ln - (intOf u10).toNat)
            case atStart => exact ⟨0, Nat.zero_le _, rfl, HO2.out, HST.out, HB2.out, fun i e => by have := (HLT.out i e).2; omega⟩
            case round =>
              clear HO2 HST HB2
              obtain ⟨j, hj, rfl, ho, hst, hbq, hbl⟩ := hrel
              have HO : Hid (OwnI .u8 5 wr w.heap.size u7 (rep b dn j)) := ho
              have HST : Hid (St 25 wr wo.heap.size #[.int .u8 0, .int .i64 (ln : Int), .int .i64 (dn : Int)]) := hst
              have HBQ : Hid (Below w.heap.size w wr) := hbq
              have HNB : Hid (∀ i, u7.ownBlock = some i → i ≠ wo.heap.size) := hbl
              have y2 : wr.cell? ⟨wo.heap.size, 2, none⟩ = some (.int .i64 (dn : Int)) := hst.cell 2
              have y1 : wr.cell? ⟨wo.heap.size, 1, none⟩ = some (.int .i64 (ln : Int)) := hst.cell 1
              clear ho hst hbq hbl
              by_cases hjl : j < ln
              · have hlen := rep_len b dn j
                obtain ⟨n, hn⟩ : ∃ n, n = b.length + j := ⟨_, rfl⟩
                obtain ⟨q, hq⟩ : ∃ q, q = n - dn := ⟨_, rfl⟩
                obtain ⟨g, cp, hu, hcp, hcell⟩ := rep_read HO.out (n := q) (by rw [hlen]; omega)
                subst hu
                obtain ⟨z, hz⟩ : ∃ z, z = (rep b dn j).getD q 0 := ⟨_, rfl⟩
                rw [← hz] at hcell
                have HZ : Hid (rep b dn (j + 1) = rep b dn j ++ [z]) := by show _ = _; rw [hz, hq, hn, ← hlen]; rfl
                have e2 : IntKind.i64.wrap ((n : Int) - (dn : Int)) = (q : Int) := by rw [IntKind.wrap_i64]; omega
                have hqn : q < n := by omega
                have hnb : n ≤ 20000000000 := by omega
                rw [hlen, ← hn]
                have HLEN : Hid ((rep b dn j).length = n) := by rw [hn]; exact hlen
                rw [hlen, ← hn] at HO HNB
                clear hlen hz hcp hq hn
                go_wp2_with (first | (at_builtin; refine wpList_append_i (κ := .u8) 22 5 1 Try.underlying22 Try.info5 (by decide) rfl (.tmp 50) (.tmp 59) rfl w.heap.size (.slice (some ⟨g, 0, none⟩) n cp) (rep b dn j) rfl (HO.out.kp ((Kp.refl (fun _ => False) wr).alloc (.cells #[.int .u8 z] 5)) (fun _ _ x => x)) (some ⟨wr.heap.size, 0, none⟩) 1 1 [z] rfl rfl (fun e => by cases e) (one_src wr z) (by rw [HLEN.out]; simp; omega) (by have := HBQ.out.size; simp; omega) ?_; intro v' w1 h1 h2 h3 h4))
                have k2 : Kp (fun i => i = g) wr w1 := ((Kp.refl _ wr).alloc _).trans (Kp.of_grown h2 (F := fun i => i = g) (fun i e => by simp [Value.ownBlock] at e; exact e.symm)) (fun _ _ e => e)
                have hg := HNB.out g (by simp [Value.ownBlock])
                have hgl := (HO.out.lt g (by simp [Value.ownBlock])).1
                rw [← HZ.out] at h1
                exact ⟨⟨j + 1, hjl, by simp, h1, HST.out.kp k2 hg.symm, HBQ.out.trans (k2.below HBQ.out.size (fun i e => by subst e; exact hgl)), fun i e => (h3 i e).elim (fun h => HNB.out i h) (fun h => by have := HST.out.lt; simp at h; omega)⟩, by simp [intOf]; omega⟩
              · obtain rfl : j = ln := by omega
                go_wp2
                exact ⟨⟨k + 1, _, hlt, by simp, HSN.out, by rw [HTL.out]; exact HO.out, HBQ.out⟩, by simp [intOf]; omega⟩
    · obtain rfl : k = N := by omega
      go_wp2
      go_ret3
      have hx : xpR most ts = (b, (ts.length : Int), 0) := by unfold xpR; rw [← HNE.out, HSP.out]
      rw [hx]
      exact ⟨u7, by rw [← HNE.out]; rfl, HO.out, HBL.out⟩
end Go.Proofs.Ytofmoggejfopiaa
