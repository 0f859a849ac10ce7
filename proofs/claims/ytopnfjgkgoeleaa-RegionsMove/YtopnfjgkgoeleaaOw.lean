/- regions: RegionsOrder: the walk. -/
import Derived.Test.YtopnfjgkgoeleaaOb
namespace Go.Proofs.Ytopnfjgkgoeleaa
open Go.RowKit
set_option linter.unusedVariables false
set_option linter.unusedSimpArgs false
set_option maxRecDepth 100000 in
set_option maxHeartbeats 4000000 in
theorem order_long (bo : Option Addr) (n cb : Nat) (w : World) (hn : n ≤ 9223372036854775807) (h : 60 < n) : Calls Try.prog 5 #[.slice bo n cb] w fun e w' => e = .returned (.bool true) ∧ Below w.heap.size w w' := by
  go_enter Try.func5, Try.ntmps5
  go_wp2_with (first | (go_at_call 8; refine (works_any _).mono ?_; rintro e w1 ⟨rfl, b1⟩))
  go_ret
  exact ⟨rfl, b1⟩
theorem drop_apt {S Lo : List Rn} {j : Nat} (hj : j < S.length) (hp : S.Pairwise Apt) (pm : Lo.Perm (S.drop (j + 1))) : ∀ y ∈ Lo, Apt (S.getD j zRn) y := by
  intro y hy
  have hy2 := pm.mem_iff.1 hy
  have hpd : (S.drop j).Pairwise Apt := hp.sublist (List.drop_sublist _ _)
  rw [List.drop_eq_getElem_cons hj, ← gd hj] at hpd
  exact (List.pairwise_cons.1 hpd).1 y hy2
theorem drop_cons {S : List Rn} {j : Nat} (hj : j < S.length) : S.drop j = S.getD j zRn :: S.drop (j + 1) := by rw [List.drop_eq_getElem_cons hj, ← gd hj]
set_option maxRecDepth 100000 in
set_option maxHeartbeats 8000000 in
theorem order_walk (l : List Rn) (bo : Option Addr) (n cb : Nat) (w : World) (hn : n = l.length) (hc : n ≤ cb) (hn2 : n ≤ 60) (hi6 : ∀ x ∈ l, x.i6) (hS : Srcr w bo l) : Calls Try.prog 5 #[.slice bo n cb] w fun e w' => e = .returned (.bool true) ∧ Below w.heap.size w w' := by
  have HLA := hid (laid_any l bo n cb w hn hc hn2 hi6 hS)
  clear hn hi6 hS
  go_enter Try.func5, Try.ntmps5
  generalize hC4 : Code.region 4 _ _ = C4
  go_wp2_with (first | (go_at_call 26; refine HLA.out.mono ?_; rintro e W1 ⟨B, v, ao, c, L, S, rfl, HI, hsl⟩))
  have HB1 : Hid (Below w.heap.size w W1) := HI.bl
  have HRG := hid HI.rg
  have HPM := hid HI.pm
  have HSL : Hid (L.length ≤ 60) := by show _ ≤ _; rw [HI.pm.length_eq]; omega
  obtain ⟨vo, vc, rfl, hvs, hvl, hvm, hvn⟩ := HI.own.src
  have HVS := hid hvs
  clear HI hvs
  obtain ⟨s, hs⟩ : ∃ s, s = S.length := ⟨_, rfl⟩
  rw [← hs] at hvl hsl ⊢
  have HS := hid hs
  clear hs
  have hvm2 : vc ≤ 9223372036854775807 := by unfold maxLen at hvm; omega
  clear hvm
  subst hC4
  obtain ⟨C, hC⟩ : ∃ C, C = W1.heap.size := ⟨_, rfl⟩
  have HNEW := hid (ObI.new W1)
  rw [← hC] at HNEW
  have HCW : Hid (C ≤ W1.heap.size) := Nat.le_of_eq hC
  have HC := hid hC
  clear hC
  have HSA := hid (apt_perm HRG.out.srt HPM.out)
  have HSM := hid (may_perm HRG.out.srt HPM.out)
  have HVC : Hid (∀ W, Below C W1 W → Srcr W vo S) := fun W hW => HVS.out.below (by rw [← HC.out]; exact hW)
  have HFIN : Hid (∀ W, Below C W1 W → Below w.heap.size w W) := fun W hW => HB1.out.trans (hW.mono (by rw [HC.out]; exact HB1.out.size))
  go_wp2_with (first | (go_at_call 9; refine HNEW.out.mono ?_; rintro e w2 ⟨rfl, h2⟩; have H2 := hid h2; clear h2))
  go_loopw [6] (fun i wr => ∃ (k : Nat) (ao' : Option Addr) (c' : Nat) (Lo : List Rn), k ≤ s ∧ i = .int .i64 ((k : Int) - 1) ∧ Hid (ObI C W1 C ao' c' Lo wr) ∧ Hid (Lo.Perm (S.drop k))) (fun i _ => (intOf i + 1).toNat)
  case atStart => exact ⟨s, none, 0, [], Nat.le_refl _, by go_num, H2, by rw [HS.out, List.drop_length]; exact List.Perm.refl _⟩
  case round =>
    clear H2 HNEW HLA
    obtain ⟨k, ao', c', Lo, hk, rfl, HO, HPL⟩ := hrel
    cases k with
    | zero =>
      rw [List.drop_zero] at HPL
      have HLL : Hid (Lo = L) := srt_perm HO.out.rg.srt HRG.out.srt (HPL.out.trans HPM.out.symm)
      rw [HLL.out] at HO HPL
      clear HLL
      obtain ⟨D, hD⟩ : ∃ D, D = wr.heap.size := ⟨_, rfl⟩
      have HNP := hid (ObI.new wr)
      rw [← hD] at HNP
      have HDW : Hid (D ≤ wr.heap.size) := Nat.le_of_eq hD
      have HD := hid hD
      clear hD
      have HPA := hid (put_all HRG.out.srt HPM.out (by have := HSL.out; omega))
      have HPP : Hid (∀ W, ObI D wr D none 0 [] W → Calls Try.prog 21 #[.pointer (some ⟨D, 0, none⟩), .slice vo s vc] W fun e w' => e = .returned (.tuple #[.int .i64 (s : Int), .int .i64 0]) ∧ ∃ a2 c2, ObI D wr D a2 c2 L w') := fun W hW => by
        have hbW : Below C W1 W := HO.out.bl.trans (hW.bl.mono (by rw [HD.out]; have := HO.out.bl.size; have := HC.out; omega))
        refine (put_any W D none vo 0 s vc [] S hW.rg HS.out hvl (by omega) (fun x hx => (HSM.out x hx).i6) (HVC.out W hbW) (fun b off _ hr => absurd hr.1 (by simp))).mono fun e w' ⟨h1, h2⟩ => ?_
        obtain ⟨e1, e2, e3⟩ := HPA.out
        rw [e1, e2, ← HS.out] at h1
        rw [e3] at h2
        exact ⟨h1, hW.put HDW.out h2⟩
      have HRW : Hid (∀ W, Below C W1 W → Rg W B ao c L) := fun W hW => HRG.out.below (by rw [← HC.out]; exact hW)
      have HWD : Hid (∀ W, Below D wr W → Below C W1 W) := fun W hW => HO.out.bl.trans (hW.mono (by rw [HD.out]; have := HO.out.bl.size; have := HC.out; omega))
      have HOD : Hid (∀ W, Below D wr W → ObI C W1 C ao' c' L W) := fun W hW => HO.out.below HCW.out (by rw [← HD.out]; exact hW)
      go_wp2_with (first | (go_at_call 9; refine HNP.out.mono ?_; rintro e w3 ⟨rfl, h3⟩; have H3 := hid h3; clear h3 HNP) | (go_at_call 21; refine (HPP.out w3 H3.out).mono ?_; rintro e w4 ⟨rfl, a2, c2, h4⟩; have H4 := hid h4; clear h4) | (go_at_call 11; refine (same_call w4 B C ao ao' c c' L L true (HRW.out _ (HWD.out _ H4.out.bl)) (HOD.out _ H4.out.bl).rg (Or.inl ⟨rfl, rfl⟩)).mono ?_; rintro e w5 ⟨rfl, b5⟩; have H5 := hid (H4.out.below HDW.out b5); clear b5 HPP H4) | (go_at_call 11; refine (same_call w5 B D ao a2 c c2 L L true (HRW.out _ (HWD.out _ H5.out.bl)) H5.out.rg (Or.inl ⟨rfl, rfl⟩)).mono ?_; rintro e w6 ⟨rfl, b6⟩; have H6 := hid (HOD.out _ (H5.out.below HDW.out b6).bl); clear b6) | (go_at_call 22; refine (num_any _ _).mono ?_; rintro e w9 ⟨rfl, rfl⟩))
      clear HRW HWD HOD HDW HD HPA HRG H3 H5 HO
      go_loopw [12] (fun i wq => ∃ (k : Nat) (ao' : Option Addr) (c' : Nat) (Lo : List Rn), k ≤ s ∧ i = .int .i64 (k : Int) ∧ Hid (ObI C W1 C ao' c' Lo wq) ∧ Hid (Lo.Perm (S.drop k))) (fun i _ => s - (intOf i).toNat)
      case atStart => exact ⟨0, ao', c', L, Nat.zero_le _, rfl, H6, by rw [List.drop_zero]; exact HPL⟩
      case round =>
        clear H6 HPL
        obtain ⟨k, a7, c7, Lo, hk, rfl, HO, HPL⟩ := hrel
        by_cases hlt : k < s
        · have hjs : k < S.length := by have := HS.out; omega
          obtain ⟨gb, off, rfl, hgb, x0, x1, x2⟩ := (HVC.out _ HO.out.bl).at (i := k) hjs
          have HXC : Hid (∀ W, Below C W1 W → W.cell? ⟨gb, off + k * 3, none⟩ = some (.int .i64 (S.getD k zRn).k) ∧ W.cell? ⟨gb, off + k * 3 + 1, none⟩ = some (.int .i64 (S.getD k zRn).a) ∧ W.cell? ⟨gb, off + k * 3 + 2, none⟩ = some (.int .i64 (S.getD k zRn).n)) := fun W hW => by
            obtain ⟨g2, o2, e2, _, y⟩ := (HVC.out W hW).at (i := k) hjs
            cases e2
            exact y
          rw [drop_cons hjs] at HPL
          have HXM : Hid (S.getD k zRn ∈ Lo) := HPL.out.mem_iff.2 (by simp)
          have HX6 := hid (HSM.out _ (gd_mem hjs))
          have HAP : Hid (∀ y ∈ S.drop (k + 1), Apt (S.getD k zRn) y) := drop_apt hjs HSA.out (List.Perm.refl _)
          generalize S.getD k zRn = x at *
          have HTK := hid (HO.out.take HCW.out HXM.out)
          have HTK2 : Hid (∀ Ln, Lo.Perm (x :: Ln) → Ln.Perm (S.drop (k + 1))) := fun Ln h => List.Perm.cons_inv (h.symm.trans HPL.out)
          go_wp2_with (first | (go_at_call 27; refine HTK.out.mono ?_; rintro e w8 ⟨rfl, a8, c8, L8, h8, p8⟩; have H8 := hid h8; have P8 := hid (HTK2.out L8 p8); clear h8 p8 HTK x0 x1 x2) | (refine wpList_store_r rfl _ _ rfl _ rfl (e' := x) rfl (Rn.B.new w8 zRn) ?_; intro w10 s10 k10; have b10 : Below w8.heap.size w8 w10 := ((Below.refl _ w8).alloc (Nat.le_refl _) _).trans (k10.below (by rw [World.size_alloc]; omega) (fun i e => by omega)); have H10 := hid (H8.out.below HCW.out b10); obtain ⟨t, ht⟩ : ∃ t, t = w8.heap.size := ⟨_, rfl⟩; rw [← ht] at s10 ⊢; have HT := hid ht; clear ht k10 b10 H8; obtain ⟨z0, z1, z2⟩ := HXC.out w10 H10.out.bl; have y0 : w10.cell? ⟨t, 0, none⟩ = some (.int .i64 x.k) := s10.cell 0; have y1 : w10.cell? ⟨t, 1, none⟩ = some (.int .i64 x.a) := s10.cell 1; have y2 : w10.cell? ⟨t, 2, none⟩ = some (.int .i64 x.n) := s10.cell 2))
          have cc : (fun U : World => U.cell? ⟨t, 0, none⟩ = some (.int .i64 x.k) ∧ U.cell? ⟨t, 1, none⟩ = some (.int .i64 x.a) ∧ U.cell? ⟨t, 2, none⟩ = some (.int .i64 x.n) ∧ U.cell? ⟨gb, off + k * 3, none⟩ = some (.int .i64 x.k) ∧ U.cell? ⟨gb, off + k * 3 + 1, none⟩ = some (.int .i64 x.a) ∧ U.cell? ⟨gb, off + k * 3 + 2, none⟩ = some (.int .i64 x.n)) w10.drew := ⟨y0, y1, y2, z0, z1, z2⟩
          go_region_held3 (fun U : World => U.cell? ⟨t, 0, none⟩ = some (.int .i64 x.k) ∧ U.cell? ⟨t, 1, none⟩ = some (.int .i64 x.a) ∧ U.cell? ⟨t, 2, none⟩ = some (.int .i64 x.n) ∧ U.cell? ⟨gb, off + k * 3, none⟩ = some (.int .i64 x.k) ∧ U.cell? ⟨gb, off + k * 3 + 1, none⟩ = some (.int .i64 x.a) ∧ U.cell? ⟨gb, off + k * 3 + 2, none⟩ = some (.int .i64 x.n)) (exact cc) (first | (go_at_call 22; refine (num_any _ _).mono ?_; rintro e w9 ⟨rfl, rfl⟩))
          have HD10 := hid (H10.out.below HCW.out (W' := w10.drew) ⟨rfl, rfl, rfl, Nat.le_refl _, fun _ _ => rfl⟩)
          have HON : Hid (ovr L8 x.a 1 mz = none) := of_none HX6.out (fun y hy => HAP.out y (P8.out.mem_iff.1 hy))
          have HOF : Hid (Calls Try.prog 24 #[.pointer (some ⟨C, 0, none⟩), .int .i64 x.a] w10.drew fun e w' => e = .returned (.tuple #[.agg zRn.cs, .bool false]) ∧ Below w10.drew.heap.size w10.drew w') := (of_any w10.drew C a8 c8 L8 x.a HD10.out.rg (by have := HX6.out; unfold Mayr at this; unfold I6; omega)).mono fun e w' ⟨h1, h2⟩ => ⟨by rw [h1, HON.out]; rfl, h2⟩
          obtain ⟨z0, z1, z2⟩ := HXC.out w10.drew HD10.out.bl
          clear y0 y1 y2 H10 s10 cc
          generalize w10.drew = w11 at *
          go_wp2_with (first | (go_at_call 24; refine HOF.out.mono ?_; rintro e w12 ⟨rfl, b12⟩; have H12 := hid (HD10.out.below HCW.out b12); clear b12 z0 z1 z2) | (refine wpList_store_r rfl _ _ rfl _ rfl (e' := zRn) rfl (Rn.B.new w12 zRn) ?_; intro w13 s13 k13; have b13 : Below w12.heap.size w12 w13 := ((Below.refl _ w12).alloc (Nat.le_refl _) _).trans (k13.below (by rw [World.size_alloc]; omega) (fun i e => by omega)); have H13 := hid (H12.out.below HCW.out b13); clear b13 k13 s13))
          go_roundw
          case rel => exact ⟨k + 1, a8, c8, L8, by omega, by go_num, H13, P8⟩
          case measure => simp [intOf]; omega
        · obtain rfl : k = s := by omega
          have HNIL : Hid (Lo = []) := by
            have := HPL.out
            rw [List.drop_eq_nil_of_le (by have := HS.out; omega)] at this
            exact List.Perm.eq_nil this
          rw [HNIL.out] at HO
          have HN2 := hid (ObI.new wr)
          go_wp2_with (first | (go_at_call 9; refine HN2.out.mono ?_; rintro e w3 ⟨rfl, h3⟩; have H3 := hid h3; clear h3 HN2) | (go_at_call 11; refine (same_call w3 C wr.heap.size a7 none c7 0 [] [] true (HO.out.below HCW.out H3.out.bl).rg H3.out.rg (Or.inl ⟨rfl, rfl⟩)).mono ?_; rintro e w5 ⟨rfl, b5⟩; have H5 := hid ((HO.out.below HCW.out H3.out.bl).below HCW.out b5); clear b5) | (go_at_call 13; refine (end_call w5 C a7 c7 [] H5.out.rg).mono ?_; rw [endL_nil]; rintro e w6 ⟨rfl, b6⟩; have H6 := hid (H5.out.below HCW.out b6); clear b6) | (go_at_call 8; refine (works_any _).mono ?_; rintro e w8 ⟨rfl, b8⟩; have H8 := hid (H6.out.below HCW.out b8); clear b8))
          go_ret
          exact ⟨rfl, HFIN.out _ H8.out.bl⟩
    | succ j =>
      have hkk : ((j + 1 : Nat) : Int) - 1 = (j : Int) := by omega
      rw [hkk]
      have hjs : j < S.length := by have := HS.out; omega
      obtain ⟨gb, off, rfl, hgb, x0, x1, x2⟩ := (HVC.out _ HO.out.bl).at (i := j) hjs
      have HLE : Hid (Lo.length ≤ 60) := by show _ ≤ _; rw [HPL.out.length_eq]; simp; have := HS.out; omega
      have HOK : Hid (okp Lo (S.getD j zRn) = true) := okp_apt HO.out.rg.srt (HSM.out _ (gd_mem hjs)) (by have := HLE.out; omega) (drop_apt hjs HSA.out HPL.out)
      have HNX : Hid ((ins Lo (S.getD j zRn)).Perm (S.drop j)) := by
        rw [drop_cons hjs]
        exact (ins_perm _ _).trans (HPL.out.cons _)
      generalize S.getD j zRn = x at *
      have HPU := hid (HO.out.put1 HCW.out HOK.out)
      clear hkk
      go_wp2_with (first | (go_at_call 21; refine HPU.out.mono ?_; rintro e w3 ⟨rfl, ao3, c3, h3⟩; have H3 := hid h3; clear h3) | (go_at_call 22; refine (num_any _ _).mono ?_; rintro e w9 ⟨rfl, rfl⟩))
      go_roundw
      case rel => exact ⟨j, ao3, c3, _, by omega, by go_num, H3, HNX⟩
      case measure => (simp [intOf] <;> try omega)
end Go.Proofs.Ytopnfjgkgoeleaa
namespace Go.Proofs.Ytopnfjgkgoeleaa
open Go.RowKit
theorem order_any (l : List Rn) (bo : Option Addr) (n cb : Nat) (w : World) (hn : n = l.length) (hc : n ≤ cb) (hm : cb ≤ maxLen) (hi6 : ∀ x ∈ l, x.i6) (hS : Srcr w bo l) : Calls Try.prog 5 #[.slice bo n cb] w fun e w' => e = .returned (.bool true) ∧ Below w.heap.size w w' := by
  unfold maxLen at hm
  by_cases h : n ≤ 60
  · exact order_walk l bo n cb w hn hc h hi6 hS
  · exact order_long bo n cb w (by omega) (by omega)
end Go.Proofs.Ytopnfjgkgoeleaa
