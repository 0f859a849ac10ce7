/- Counts, of tokens that may be. -/
import Derived.Test.YtofmoggejfopiaaCnb
namespace Go.Proofs.Ytofmoggejfopiaa
open Go.RowKit
set_option maxRecDepth 100000 in
set_option maxHeartbeats 8000000 in
theorem counts_ok (ts : List Tok) (ao : Option Addr) (N cap : Nat) (w : World) (hNe : N = ts.length) (hN : N ≤ 300) (hS : TSrc w ao ts) (hr : refN ts = 0) (hok : okK ts N) (hY : ∀ k, k < N → 0 ≤ (ts.getD k zt).1 ∧ (ts.getD k zt).1 ≤ 255) :
    Calls Try.prog 31 #[.slice ao N cap] w fun e w' => e = .returned (.tuple #[.agg (cu (cst ts N).1), .agg (cu (cst ts N).2), .int .i64 0]) ∧ Below w.heap.size w w' := by
  have z60 := zero60
  have z61 := zero61
  have hb0 : Below w.heap.size w ((w.alloc (.cells (cu zs60) 60)).alloc (.cells (cu zs61) 61)) := ((Below.refl _ w).alloc (Nat.le_refl _) _).alloc (by simp) _
  have R2 : Hid (Rw .u32 60 ((w.alloc (.cells (cu zs60) 60)).alloc (.cells (cu zs61) 61)) w.heap.size zs60) := (Rw.newc 60 w zs60).alloc _
  have R3 : Hid (Rw .u32 61 ((w.alloc (.cells (cu zs60) 60)).alloc (.cells (cu zs61) 61)) (w.heap.size + 1) zs61) := by
    have := Rw.newc 61 (w.alloc (.cells (cu zs60) 60)) zs61
    rw [World.size_alloc] at this
    exact this
  have HB0 : Hid (Below w.heap.size w ((w.alloc (.cells (cu zs60) 60)).alloc (.cells (cu zs61) 61))) := hb0
  have HNE : Hid (N = ts.length) := hNe
  have HS : Hid (TSrc w ao ts) := hS
  have HOK : Hid (okK ts N) := hok
  have HY : Hid (∀ k, k < N → 0 ≤ (ts.getD k zt).1 ∧ (ts.getD k zt).1 ≤ 255) := hY
  clear hNe hS hb0 hok hY
  go_enter Try.func31, Try.ntmps31
  go_wp2_with fail
  refine (refused_any ts ao N cap _ HNE.out (by omega) (HS.out.below HB0.out)).mono ?_
  rintro e w1 ⟨rfl, b1⟩
  rw [hr]
  have B1 : Hid (Below w.heap.size w w1) := HB0.out.trans (b1.mono HB0.out.size)
  have Q2 : Hid (Rw .u32 60 w1 w.heap.size zs60) := R2.out.below b1 R2.out.lt
  have Q3 : Hid (Rw .u32 61 w1 (w.heap.size + 1) zs61) := R3.out.below b1 R3.out.lt
  clear R2 R3 b1 HB0 z60 z61 hr
  go_wp2_with fail
  refine (lspans_any w1).mono ?_
  rintro e w2 ⟨rfl, b2⟩
  have B2 : Hid (Below w.heap.size w w2) := B1.out.trans (b2.mono B1.out.size)
  have P2 : Hid (Rw .u32 60 w2 w.heap.size zs60) := Q2.out.below b2 Q2.out.lt
  have P3 : Hid (Rw .u32 61 w2 (w.heap.size + 1) zs61) := Q3.out.below b2 Q3.out.lt
  clear b2 Q2 Q3 B1
  go_wp2_with fail
  refine (dspans_any w2).mono ?_
  rintro e w3 ⟨rfl, b3⟩
  have B3 : Hid (Below w.heap.size w w3) := B2.out.trans (b3.mono B2.out.size)
  have S2 : Hid (Rw .u32 60 w3 w.heap.size zs60) := P2.out.below b3 P2.out.lt
  have S3 : Hid (Rw .u32 61 w3 (w.heap.size + 1) zs61) := P3.out.below b3 P3.out.lt
  clear b3 P2 P3 B2
  go_wp2_with (first | (refine wpList_store_mid rfl 81 (.tmp 6) (.tmp 17) rfl w3.heap.size 0 (LSP.map (Value.int .i64)).toArray rfl rfl (by rw [LSP_size]; exact World.there_alloc (there_new _ _ _ _ (by simp)) _) (by rw [LSP_size]; exact info81) (ints_one _) ?_; generalize hY6 : World.setCells _ _ _ _ = Y; have RG6 : Hid (Y.rangeAt w3.heap.size 0 (LSP.map (Value.int .i64))) := (by rw [← hY6]; exact World.rangeAt_setCells_same _ _ 0 _ (by have h := LSP_size; simp only [List.size_toArray] at h; rw [h]; exact World.there_alloc (there_new _ _ _ _ (by simp)) _)); have TH7 : Hid (Y.there (w3.heap.size + 1) 0 60) := (by rw [← hY6, ← World.size_alloc w3]; exact World.there_setCells (there_new _ _ _ _ (by simp)) _ _ _); have BY : Hid (Below w3.heap.size w3 Y) := (by rw [← hY6]; exact (((Below.refl w3.heap.size w3).alloc (Nat.le_refl _) _).alloc (by simp) _).trans ((kp_setCells w3.heap.size _ 0 _).below (by simp; omega) (fun i e => by omega))); clear hY6) | (refine wpList_store_mid rfl 85 (.tmp 7) (.tmp 18) rfl (w3.heap.size + 1) 0 ((dM 30).map (Value.int .i64)).toArray rfl rfl (by rw [dM_size]; exact TH7.out) (by rw [dM_size]; exact info85) (ints_one _) ?_; generalize hZ7 : World.setCells _ _ _ _ = Z; have RG7 : Hid (Z.rangeAt (w3.heap.size + 1) 0 ((dM 30).map (Value.int .i64))) := (by rw [← hZ7]; exact World.rangeAt_setCells_same _ _ 0 _ (by have h := dM_size; simp only [List.size_toArray] at h; rw [h]; exact TH7.out)); have RG6' : Hid (Z.rangeAt w3.heap.size 0 (LSP.map (Value.int .i64))) := (by rw [← hZ7]; exact World.rangeAt_setCells_apart RG6.out _ _ _ (.inl (by omega))); have BZ : Hid (Below w3.heap.size w3 Z) := (by rw [← hZ7]; exact BY.out.trans ((kp_setCells (w3.heap.size + 1) _ 0 _).below BY.out.size (fun i e => by omega))); have U2 : Hid (Rw .u32 60 Z w.heap.size zs60) := S2.out.below BZ.out S2.out.lt; have U3 : Hid (Rw .u32 61 Z (w.heap.size + 1) zs61) := S3.out.below BZ.out S3.out.lt; have c256 : Z.cell? ⟨w.heap.size, 256, none⟩ = some (.int .u32 0) := U2.out.cell 256 (by simp [zs60]); have v256 := U2.out.frozen 256; clear hZ7))
  refine at_worldp (R := fun X => CC w X ts 0 w3.heap.size (w3.heap.size + 1)) ?_ ?_
  · have hlt := S3.out.lt
    have kk := kp_setCell Z w.heap.size 256 (.int .u32 1) (fun i => i = w.heap.size) rfl
    have hbz : Below w.heap.size w Z := B3.out.trans (BZ.out.mono B3.out.size)
    exact ⟨U2.out.set 256 1, U3.out.kp_other (by omega), rangeAt_kp RG6'.out kk (by omega), rangeAt_kp RG7.out kk (by omega), by omega, by omega, hbz.trans (kk.below hbz.size (fun i e => by omega))⟩
  intro X hcc
  have HCC : Hid (CC w X ts 0 w3.heap.size (w3.heap.size + 1)) := hcc
  clear hcc c256 v256 RG6 RG6' RG7 TH7 BY BZ U2 U3 S2 S3 B3
  generalize w3.heap.size + 1 = g7 at HCC ⊢
  generalize w3.heap.size = g6 at HCC ⊢
  go_loopw [9, 22] (fun _ u22 wr => ∃ k : Nat, k ≤ N ∧ u22 = .int .i64 (k : Int) ∧ CC w wr ts k g6 g7) (fun _ u22 _ => N - (intOf u22).toNat)
  case atStart => exact ⟨0, Nat.zero_le _, rfl, HCC.out⟩
  case round =>
    clear HCC
    obtain ⟨k, hk, rfl, hcc⟩ := hrel
    have HCC : Hid (CC w wr ts k g6 g7) := hcc
    have hln := cst_len ts k
    by_cases hlt : k < N
    · obtain ⟨gb, off, hao, hcs⟩ := (HS.out.below hcc.bel) (by have := HNE.out; omega)
      subst hao
      obtain ⟨x0, x1, x2⟩ := hcs k (by have := HNE.out; omega)
      obtain ⟨⟨y, l, d⟩, ht⟩ : ∃ t, t = ts.getD k zt := ⟨_, rfl⟩
      rw [← ht] at x0 x1 x2
      dsimp only at x0 x1 x2
      have HT : Hid (ts.getD k zt = (y, l, d)) := ht.symm
      have hkt := HOK.out k hlt
      rw [HT.out] at hkt
      have hyy := HY.out k hlt
      rw [HT.out] at hyy
      dsimp only at hyy
      have hkt2 : (l = 0 ∧ d = 0) ∨ (y = 0 ∧ (3 ≤ l ∧ l ≤ 258) ∧ (1 ≤ d ∧ d ≤ 32768)) := by simpa [okT] using hkt
      have hc1 : CC w (wr.alloc (.cells #[.int .u8 y, .int .i64 l, .int .i64 d] 25)) ts k g6 g7 := hcc.kp ((Kp.refl _ _).alloc _)
      clear hcs ht hkt
      rcases hkt2 with ⟨rfl, rfl⟩ | ⟨rfl, hl, hd⟩
      · obtain ⟨yn, rfl⟩ := Int.eq_ofNat_of_zero_le hyy.1
        obtain ⟨v, hv⟩ : ∃ v, v = (cst ts k).1.getD yn 0 := ⟨_, rfl⟩
        have c0 : (wr.alloc (.cells #[.int .u8 (yn : Int), .int .i64 0, .int .i64 0] 25)).cell? ⟨w.heap.size, yn, none⟩ = some (.int .u32 v) := by rw [hv]; exact hc1.a2.cell yn (by omega)
        have v0 := hc1.a2.frozen yn
        have hyn : yn < 286 := by omega
        have HV : Hid (v = (cst ts k).1.getD yn 0) := hv
        have HC1 : Hid (CC w (wr.alloc (.cells #[.int .u8 (yn : Int), .int .i64 0, .int .i64 0] 25)) ts k g6 g7) := hc1
        clear hcc hc1 hln hv
        go_wp2
        refine ⟨⟨k + 1, hlt, by simp, ?_⟩, by simp [intOf]; omega⟩
        have := HC1.out.set2 yn (by rw [HT.out]) (by rw [HT.out]; rfl)
        rw [← HV.out] at this
        exact this
      · have hl0 : (l == 0) = false := beq_eq_false_iff_ne.2 (by omega)
        have hl0' : ¬ l = 0 := by omega
        obtain ⟨i, hi⟩ := ch_ex2 lfs l (by rw [lfs_0]; omega) 28
        obtain ⟨j, hj⟩ := ch_ex2 dfs d (by rw [dfs_0]; omega) 29
        have hi29 := hi.1
        have hj30 := hj.1
        have HI : Hid (Ch lfs 29 l i) := hi
        have HJ : Hid (Ch dfs 30 d j) := hj
        have HIJ : Hid (ixL l = i ∧ ixD d = j) := ⟨ixL_eq hi, ixD_eq hj⟩
        obtain ⟨v, hv⟩ : ∃ v, v = (cst ts k).1.getD (257 + i) 0 := ⟨_, rfl⟩
        obtain ⟨u, hu⟩ : ∃ u, u = (cst ts k).2.getD j 0 := ⟨_, rfl⟩
        obtain ⟨q, hq⟩ : ∃ q, q = 257 + i := ⟨_, rfl⟩
        have HV : Hid (v = (cst ts k).1.getD (257 + i) 0 ∧ u = (cst ts k).2.getD j 0 ∧ q = 257 + i) := ⟨hv, hu, hq⟩
        have HC1 : Hid (CC w (wr.alloc (.cells #[.int .u8 0, .int .i64 l, .int .i64 d] 25)) ts k g6 g7) := hc1
        have T1 : Hid (St 25 (wr.alloc (.cells #[.int .u8 0, .int .i64 l, .int .i64 d] 25)) wr.heap.size #[.int .u8 0, .int .i64 l, .int .i64 d]) := St.new 25 wr _
        have hw0 : w.heap.size + 1 < wr.heap.size := by have := hcc.a3.lt; omega
        have hln1 := hln.1
        have hln2 := hln.2
        clear hcc hc1 hln hi hj
        go_wp2_with fail
        generalize wr.alloc (.cells #[.int .u8 0, .int .i64 l, .int .i64 d] 25) = W1 at HC1 T1 ⊢
        generalize wr.heap.size = gt at T1 hw0 ⊢
        have c0 : W1.cell? ⟨w.heap.size, q, none⟩ = some (.int .u32 v) := by rw [hv, hq]; exact HC1.out.a2.cell (257 + i) (by omega)
        have v0 := HC1.out.a2.frozen q
        have k1 : W1.cell? ⟨gt, 1, none⟩ = some (.int .i64 l) := T1.out.cell 1
        have hq2 : q < 286 := by omega
        have hqi : 257 + (i : Int) = (q : Int) := by omega
        have hqw : IntKind.i64.wrap (q : Int) = (q : Int) := wrap_nat _ (by omega)
        clear hv hu hq
        have hq3 : (q : Int) < 286 := by omega
        have d0 : W1.drew.cell? ⟨w.heap.size, q, none⟩ = some (.int .u32 v) := c0
        have dv0 : W1.drew.frozen? ⟨w.heap.size, q, none⟩ = false := v0
        have hgw : gt ≠ w.heap.size := by omega
        refine wp_region_held_drew (S := fun w' => w'.cell? ⟨gt, 1, none⟩ = some (.int .i64 l)) (by kernel_rfl) k1 (fun h0 => ?_)
        refine wpAnyH_take (i := 0) (v := .slice (some ⟨g6, 0, none⟩) 29 29) rfl (by kernel_rfl) (by kernel_rfl) (by kernel_rfl) (fun _ _ _ h => h) (Or.inl ⟨by rfl, fun w hSw => by (try dsimp only at hSw); go_simp⟩) h0 ?_
        refine wpAnyH_take (i := 1) (v := .pointer (some ⟨gt, 1, none⟩)) rfl (by kernel_rfl) (by kernel_rfl) (by kernel_rfl) (fun _ _ _ h => h) (Or.inl ⟨by rfl, fun w hSw => by (try dsimp only at hSw); go_simp⟩) h0 ?_
        refine wpAnyH_take (i := 2) (v := .int .i64 l) rfl (by kernel_rfl) (by kernel_rfl) (by kernel_rfl) (fun _ _ _ h => h) (Or.inl ⟨by rfl, fun w hSw => by (try dsimp only at hSw); go_simp⟩) h0 ?_
        refine wpAnyH_ready (rs := [3]) (by kernel_rfl) (by simp) ?_
        refine AllReadyH.cons rfl (fun K hK => ?_) AllReadyH.nil
        go_simp
        refine (holds_i g6 29 lfs l i W1.drew (by omega) (by omega) HC1.out.sp6 (by rw [lfs_0]; omega) HI.out).mono ?_
        rintro e w' ⟨rfl, h⟩
        replace h := h.symm
        subst h
        go_wp2_with fail
        refine hK.out _ _ h0 (fun h1 => ?_)
        clear hK K
        refine wpAnyH_take (i := 4) (v := .int .i64 (q : Int)) rfl (by kernel_rfl) (by kernel_rfl) (by kernel_rfl) (fun _ _ _ h => h) (Or.inl ⟨by rfl, fun w hSw => by (try dsimp only at hSw); go_simp⟩) h1 ?_
        refine wpAnyH_take (i := 5) (v := .pointer (some ⟨w.heap.size, q, none⟩)) rfl (by kernel_rfl) (by kernel_rfl) (by kernel_rfl) (fun _ _ _ h => h) (Or.inl ⟨by rfl, fun w hSw => by (try dsimp only at hSw); go_simp⟩) h1 ?_
        refine wpAnyH_ready (rs := [6]) (by kernel_rfl) (by simp) ?_
        refine AllReadyH.cons rfl (fun K hK => ?_) AllReadyH.nil
        go_simp
        refine hK.out _ _ h1 (fun h2 => ?_)
        clear hK K
        refine wpAnyH_take (i := 7) (v := .int .u32 (IntKind.u32.wrap (v + 1))) rfl (by kernel_rfl) (by kernel_rfl) (by kernel_rfl) (fun _ _ _ h => h) (Or.inl ⟨by rfl, fun w hSw => by (try dsimp only at hSw); go_simp⟩) h2 ?_
        refine wpAnyH_take (i := 8) (v := .pointer (some ⟨w.heap.size, q, none⟩)) rfl (by kernel_rfl) (by kernel_rfl) (by kernel_rfl) (fun _ _ _ h => h) (Or.inl ⟨by rfl, fun w hSw => by (try dsimp only at hSw); go_simp⟩) h2 ?_
        refine wpAnyH_ready (rs := [9]) (by kernel_rfl) (by simp) ?_
        refine AllReadyH.cons rfl (fun K hK => ?_) AllReadyH.nil
        go_simp
        refine hK.out _ _ ((World.cell?_setCell_other _ _ _ _ (by simp; try omega)).trans h2) (fun h3 => ?_)
        clear hK K
        refine wpAnyH_done (by kernel_rfl) ?_ _
        have kq : Kp (fun i => i = w.heap.size) W1 (W1.setCell ⟨w.heap.size, q, none⟩ (.int .u32 (IntKind.u32.wrap (v + 1)))).drew := (kp_setCell W1 w.heap.size q _ (fun i => i = w.heap.size) rfl).drew
        have k2 : (W1.setCell ⟨w.heap.size, q, none⟩ (.int .u32 (IntKind.u32.wrap (v + 1)))).drew.cell? ⟨gt, 2, none⟩ = some (.int .i64 d) := (T1.out.kp kq (by omega)).cell 2
        have r3 : Rw .u32 61 (W1.setCell ⟨w.heap.size, q, none⟩ (.int .u32 (IntKind.u32.wrap (v + 1)))).drew (w.heap.size + 1) (cst ts k).2 := HC1.out.a3.kp kq (by omega)
        have c1 : (W1.setCell ⟨w.heap.size, q, none⟩ (.int .u32 (IntKind.u32.wrap (v + 1)))).drew.cell? ⟨w.heap.size + 1, j, none⟩ = some (.int .u32 u) := by rw [HV.out.2.1]; exact r3.cell j (by omega)
        have v1 := r3.frozen j
        have HSP7 : Hid (∀ i, i < 30 → (W1.setCell ⟨w.heap.size, q, none⟩ (.int .u32 (IntKind.u32.wrap (v + 1)))).drew.cell? ⟨g7, i * 2, none⟩ = some (.int .i64 (dfs i))) := fun i hi => by
          have h1 := HC1.out.sp7 i hi
          have hb := kq.block g7 (block_lt_of_cell h1) (by have := HC1.out.n7; omega)
          unfold World.cell? at h1 ⊢
          simp only [hb]
          exact h1
        have HFIN : Hid (CC w ((W1.setCell ⟨w.heap.size, q, none⟩ (.int .u32 (IntKind.u32.wrap (v + 1)))).drew.setCell ⟨w.heap.size + 1, j, none⟩ (.int .u32 (IntKind.u32.wrap (u + 1)))).drew ts (k + 1) g6 g7) := by
          have := HC1.out.set23 i j (by rw [HT.out]; exact hl0') (by rw [HT.out]; exact HIJ.out.1) (by rw [HT.out]; exact HIJ.out.2)
          rw [← HV.out.1, ← HV.out.2.1, ← HV.out.2.2] at this
          exact this.kp ((Kp.refl _ _).drew)
        clear kq r3 c0 v0 k1 d0 dv0 HC1 T1
        go_wp2_with fail
        generalize (W1.setCell ⟨w.heap.size, q, none⟩ (.int .u32 (IntKind.u32.wrap (v + 1)))).drew = X2 at k2 c1 v1 HSP7 HFIN ⊢
        have hj3 : (j : Int) < 30 := by omega
        have d1 : X2.drew.cell? ⟨w.heap.size + 1, j, none⟩ = some (.int .u32 u) := c1
        have dv1 : X2.drew.frozen? ⟨w.heap.size + 1, j, none⟩ = false := v1
        refine wp_region_held_drew (S := fun w' => w'.cell? ⟨gt, 2, none⟩ = some (.int .i64 d)) (by kernel_rfl) k2 (fun h0 => ?_)
        refine wpAnyH_take (i := 0) (v := .slice (some ⟨g7, 0, none⟩) 30 30) rfl (by kernel_rfl) (by kernel_rfl) (by kernel_rfl) (fun _ _ _ h => h) (Or.inl ⟨by rfl, fun w hSw => by (try dsimp only at hSw); go_simp⟩) h0 ?_
        refine wpAnyH_take (i := 1) (v := .pointer (some ⟨gt, 2, none⟩)) rfl (by kernel_rfl) (by kernel_rfl) (by kernel_rfl) (fun _ _ _ h => h) (Or.inl ⟨by rfl, fun w hSw => by (try dsimp only at hSw); go_simp⟩) h0 ?_
        refine wpAnyH_take (i := 2) (v := .int .i64 d) rfl (by kernel_rfl) (by kernel_rfl) (by kernel_rfl) (fun _ _ _ h => h) (Or.inl ⟨by rfl, fun w hSw => by (try dsimp only at hSw); go_simp⟩) h0 ?_
        refine wpAnyH_ready (rs := [3]) (by kernel_rfl) (by simp) ?_
        refine AllReadyH.cons rfl (fun K hK => ?_) AllReadyH.nil
        go_simp
        refine (holds_i g7 30 dfs d j X2.drew (by omega) (by omega) HSP7.out (by rw [dfs_0]; omega) HJ.out).mono ?_
        rintro e w' ⟨rfl, h⟩
        replace h := h.symm
        subst h
        go_wp2_with fail
        refine hK.out _ _ h0 (fun h1 => ?_)
        clear hK K
        refine wpAnyH_take (i := 4) (v := .pointer (some ⟨w.heap.size + 1, j, none⟩)) rfl (by kernel_rfl) (by kernel_rfl) (by kernel_rfl) (fun _ _ _ h => h) (Or.inl ⟨by rfl, fun w hSw => by (try dsimp only at hSw); go_simp⟩) h1 ?_
        refine wpAnyH_ready (rs := [5]) (by kernel_rfl) (by simp) ?_
        refine AllReadyH.cons rfl (fun K hK => ?_) AllReadyH.nil
        go_simp
        refine hK.out _ _ h1 (fun h2 => ?_)
        clear hK K
        refine wpAnyH_take (i := 6) (v := .int .u32 (IntKind.u32.wrap (u + 1))) rfl (by kernel_rfl) (by kernel_rfl) (by kernel_rfl) (fun _ _ _ h => h) (Or.inl ⟨by rfl, fun w hSw => by (try dsimp only at hSw); go_simp⟩) h2 ?_
        refine wpAnyH_take (i := 7) (v := .pointer (some ⟨w.heap.size + 1, j, none⟩)) rfl (by kernel_rfl) (by kernel_rfl) (by kernel_rfl) (fun _ _ _ h => h) (Or.inl ⟨by rfl, fun w hSw => by (try dsimp only at hSw); go_simp⟩) h2 ?_
        refine wpAnyH_ready (rs := [8]) (by kernel_rfl) (by simp) ?_
        refine AllReadyH.cons rfl (fun K hK => ?_) AllReadyH.nil
        go_simp
        refine hK.out _ _ ((World.cell?_setCell_other _ _ _ _ (by simp; try omega)).trans h2) (fun h3 => ?_)
        clear hK K
        refine wpAnyH_done (by kernel_rfl) ?_ _
        clear k2 c1 v1 HSP7
        go_wp2
        exact ⟨⟨k + 1, hlt, by simp, HFIN.out⟩, by simp [intOf]; omega⟩
    · obtain rfl : k = N := by omega
      have LA : (cst ts k).1.length = 286 := hln.1
      have LB : (cst ts k).2.length = 30 := hln.2
      have HBL : Hid (Below w.heap.size w wr) := hcc.bel
      obtain ⟨A, hA⟩ : ∃ A, A = (cst ts k).1.map (Value.int .u32) := ⟨_, rfl⟩
      obtain ⟨B, hB⟩ : ∃ B, B = (cst ts k).2.map (Value.int .u32) := ⟨_, rfl⟩
      have ra : wr.rangeAt w.heap.size 0 A := by rw [hA]; exact hcc.a2.range
      have rb : wr.rangeAt (w.heap.size + 1) 0 B := by rw [hB]; exact hcc.a3.range
      have ta : wr.there w.heap.size 0 286 := hcc.a2.there 286 (Nat.le_of_eq LA.symm)
      have tb : wr.there (w.heap.size + 1) 0 30 := hcc.a3.there 30 (Nat.le_of_eq LB.symm)
      have la : A.length = 286 := by rw [hA, List.length_map]; exact LA
      have lb : B.length = 30 := by rw [hB, List.length_map]; exact LB
      have oa : ∀ v ∈ A, v.oneCell' = true := by rw [hA]; exact cu_one _
      have ob : ∀ v ∈ B, v.oneCell' = true := by rw [hB]; exact cu_one _
      have ia : (Try.prog.info? 60).map (·.size) = some A.length := by rw [la]; exact info60
      have ib : (Try.prog.info? 61).map (·.size) = some B.length := by rw [lb]; exact info61
      have ua : Try.prog.underlying 60 = some (.array 286 59) := Try.underlying60
      have ub : Try.prog.underlying 61 = some (.array 30 59) := Try.underlying61
      have HAB : Hid (A = (cst ts k).1.map (Value.int .u32) ∧ B = (cst ts k).2.map (Value.int .u32)) := ⟨hA, hB⟩
      clear hA hB
      clear hcc hln HCC
      go_wp2_with fail
      have sa : A.toArray.size = 286 := by simp [la]
      have sb : B.toArray.size = 30 := by simp [lb]
      have Oa : A.toArray.all (·.oneCell') = true := all_oneCell_toArray oa
      have Ob : B.toArray.all (·.oneCell') = true := all_oneCell_toArray ob
      have n5 : w.heap.size + 1 ≠ w.heap.size := by omega
      refine wp_region_held_drew (S := fun w' => w'.rangeAt w.heap.size 0 A ∧ w'.rangeAt (w.heap.size + 1) 0 B ∧ w'.there w.heap.size 0 286 ∧ w'.there (w.heap.size + 1) 0 30) (by kernel_rfl) ⟨ra, rb, ta, tb⟩ (fun h0 => ?_)
      refine wpAnyH_take (i := 0) (v := .agg A.toArray) rfl (by kernel_rfl) (by kernel_rfl) (by kernel_rfl) (fun _ _ _ h => h) (yieldsIf_load_mid rfl 60 (.tmp 2) rfl w.heap.size 0 rfl A _ (fun w h => h.1) ua rfl ia) h0 ?_
      refine wpAnyH_take (i := 1) (v := .agg B.toArray) rfl (by kernel_rfl) (by kernel_rfl) (by kernel_rfl) (fun _ _ _ h => h) (yieldsIf_load_mid rfl 61 (.tmp 3) rfl (w.heap.size + 1) 0 rfl B _ (fun w h => h.2.1) ub rfl ib) h0 ?_
      refine wpAnyH_ready (rs := [2]) (by kernel_rfl) (by simp) ?_
      refine AllReadyH.cons rfl (fun K hK => ?_) AllReadyH.nil
      rw [if_pos (by rfl)]
      refine wp_store_mid 60 (.tmp 2) (.tmp 53) rfl w.heap.size 0 A.toArray rfl rfl (by rw [sa]; exact h0.2.2.1) (by rw [sa]; exact info60) Oa ?_
      refine hK.out _ _ ⟨World.rangeAt_setCells_same _ _ _ _ (by rw [la]; exact h0.2.2.1), World.rangeAt_setCells_apart h0.2.1 _ _ _ (.inl n5), World.there_setCells h0.2.2.1 _ _ _, World.there_setCells h0.2.2.2 _ _ _⟩ (fun h1 => ?_)
      clear hK K
      refine wpAnyH_ready (rs := [3]) (by kernel_rfl) (by simp) ?_
      refine AllReadyH.cons rfl (fun K hK => ?_) AllReadyH.nil
      rw [if_pos (by rfl)]
      refine wp_store_mid 61 (.tmp 3) (.tmp 54) rfl (w.heap.size + 1) 0 B.toArray rfl rfl (by rw [sb]; exact h1.2.2.2) (by rw [sb]; exact info61) Ob ?_
      refine hK.out _ _ ⟨World.rangeAt_setCells_apart h1.1 _ _ _ (.inl (Ne.symm n5)), World.rangeAt_setCells_same _ _ _ _ (by rw [lb]; exact h1.2.2.2), World.there_setCells h1.2.2.1 _ _ _, World.there_setCells h1.2.2.2 _ _ _⟩ (fun h2 => ?_)
      clear hK K
      refine wpAnyH_take (i := 4) (v := .int .i64 0) rfl (by kernel_rfl) (by kernel_rfl) (by kernel_rfl) (fun _ _ _ h => h) (Or.inl ⟨by rfl, fun w _ => by rfl⟩) h2 ?_
      refine wpAnyH_done (by kernel_rfl) ?_ _
      have la2 := run_loadVar_mid (P := Try.prog) ((wr.drew.setCells w.heap.size 0 A).setCells (w.heap.size + 1) 0 B) w.heap.size 0 60 A _ h2.1 ua rfl ia
      have lb2 := run_loadVar_mid (P := Try.prog) ((wr.drew.setCells w.heap.size 0 A).setCells (w.heap.size + 1) 0 B) (w.heap.size + 1) 0 61 B _ h2.2.1 ub rfl ib
      have HLA : Hid ((loadVar 60 ⟨w.heap.size, 0, none⟩).run Try.prog ((wr.drew.setCells w.heap.size 0 A).setCells (w.heap.size + 1) 0 B) = .ok (.agg A.toArray) ((wr.drew.setCells w.heap.size 0 A).setCells (w.heap.size + 1) 0 B)) := la2
      have HLB : Hid ((loadVar 61 ⟨w.heap.size + 1, 0, none⟩).run Try.prog ((wr.drew.setCells w.heap.size 0 A).setCells (w.heap.size + 1) 0 B) = .ok (.agg B.toArray) ((wr.drew.setCells w.heap.size 0 A).setCells (w.heap.size + 1) 0 B)) := lb2
      have HBF : Hid (Below w.heap.size w ((wr.drew.setCells w.heap.size 0 A).setCells (w.heap.size + 1) 0 B)) := HBL.out.drew.trans (((kp_setCells w.heap.size A 0 wr.drew).mono (G := fun i => i = w.heap.size ∨ i = w.heap.size + 1) (fun _ _ e => .inl e)).trans (kp_setCells (w.heap.size + 1) B 0 _) (fun _ _ e => .inr e) |>.below HBL.out.drew.size (fun i e => by rcases e with e | e <;> omega))
      clear la2 lb2 h0 h1 h2 ra rb ta tb
      go_wp2_with fail
      refine bodyPost_ret (v := .tuple #[.agg A.toArray, .agg B.toArray, .int .i64 0]) ?_ rfl ⟨by rw [HAB.out.1, HAB.out.2]; rfl, HBF.out⟩
      exact results_cell2t Try.results31 _ _ _ _ rfl rfl rfl HLA.out HLB.out
end Go.Proofs.Ytofmoggejfopiaa
