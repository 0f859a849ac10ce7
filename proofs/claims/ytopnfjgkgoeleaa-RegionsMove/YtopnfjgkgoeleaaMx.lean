/- regions: RegionsMove: the walk. -/
import Derived.Test.YtopnfjgkgoeleaaMw
import Derived.Test.YtopnfjgkgoeleaaOw
namespace Go.Proofs.Ytopnfjgkgoeleaa
open Go.RowKit
set_option linter.unusedVariables false
set_option linter.unusedSimpArgs false
set_option maxRecDepth 100000 in
set_option maxHeartbeats 4000000 in
theorem move_long (bo : Option Addr) (n cb : Nat) (k t : Int) (w : World) (hn : n ≤ 9223372036854775807) (h : 60 < n) : Calls Try.prog 7 #[.slice bo n cb, .int .i64 k, .int .i64 t] w fun e w' => e = .returned (.bool true) ∧ Below w.heap.size w w' := by
  go_enter Try.func7, Try.ntmps7
  go_wp2_with (first | (go_at_call 8; refine (works_any _).mono ?_; rintro e w1 ⟨rfl, b1⟩))
  go_ret
  exact ⟨rfl, b1⟩
theorem idx_mod (k : Int) (s : Nat) (hs : 0 < s) : ∃ j : Nat, j < s ∧ Int.tmod (Int.tmod k s + s) s = (j : Int) ∧ -(s : Int) < Int.tmod k s ∧ Int.tmod k s < s := by
  have h1 : -(s : Int) < Int.tmod k s := by
    have := Int.lt_tmod_of_pos k (show (0 : Int) < s by omega)
    omega
  have h2 : Int.tmod k s < s := Int.tmod_lt_of_pos k (by omega)
  refine ⟨(Int.tmod (Int.tmod k s + s) s).toNat, ?_, ?_, h1, h2⟩
  · have h3 := Int.tmod_lt_of_pos (Int.tmod k s + s) (show (0 : Int) < s by omega)
    have h4 := Int.tmod_nonneg (s : Int) (show 0 ≤ Int.tmod k s + s by omega)
    omega
  · have h4 := Int.tmod_nonneg (s : Int) (show 0 ≤ Int.tmod k s + s by omega)
    omega
set_option maxRecDepth 100000 in
set_option maxHeartbeats 8000000 in
theorem move_walk (l : List Rn) (bo : Option Addr) (n cb : Nat) (kx t : Int) (w : World) (hn : n = l.length) (hc : n ≤ cb) (hn2 : n ≤ 60) (hi6 : ∀ x ∈ l, x.i6) (hS : Srcr w bo l) (ht6 : I6 t) : Calls Try.prog 7 #[.slice bo n cb, .int .i64 kx, .int .i64 t] w fun e w' => e = .returned (.bool true) ∧ Below w.heap.size w w' := by
  have HLA := hid (laid_any l bo n cb w hn hc hn2 hi6 hS)
  clear hn hi6 hS
  go_enter Try.func7, Try.ntmps7
  generalize hC4 : Code.region 4 _ _ = C4
  go_wp2_with (first | (go_at_call 26; refine HLA.out.mono ?_; rintro e W1 ⟨B, v, ao, c, L, S, rfl, HI, hsl⟩))
  have HB1 : Hid (Below w.heap.size w W1) := HI.bl
  have HRG := hid HI.rg
  have HPM := hid HI.pm
  have HBB : Hid (w.heap.size ≤ B) := HI.hB
  have HSL : Hid (L.length ≤ 60) := by show _ ≤ _; rw [HI.pm.length_eq]; omega
  obtain ⟨vo, vc, rfl, hvs, hvl, hvm, hvn⟩ := HI.own.src
  have HVS := hid hvs
  clear HI hvs HLA
  obtain ⟨s, hs⟩ : ∃ s, s = S.length := ⟨_, rfl⟩
  rw [← hs] at hvl hsl ⊢
  have HS := hid hs
  clear hs
  have hvm2 : vc ≤ 9223372036854775807 := by unfold maxLen at hvm; omega
  clear hvm
  subst hC4
  by_cases hs0 : s = 0
  · subst hs0
    go_wp2_with (first | (go_at_call 8; refine (works_any _).mono ?_; rintro e w1 ⟨rfl, b1⟩))
    go_ret
    exact ⟨rfl, HB1.out.trans (b1.mono HB1.out.size)⟩
  · obtain ⟨j, hj, hjm, hj1, hj2⟩ := idx_mod kx s (by omega)
    obtain ⟨gb, off, rfl, hgb, x0, x1, x2⟩ := HVS.out.at (i := j) (by have := HS.out; omega)
    have HXL : Hid (S.getD j zRn ∈ L) := HPM.out.mem_iff.2 (gd_mem (by have := HS.out; omega))
    generalize S.getD j zRn = x at *
    have HXM := hid (HRG.out.srt.1 x HXL.out)
    have HAO : Hid (∀ b off, ao = some ⟨b, off, none⟩ → b < W1.heap.size) := fun b off e => by
      obtain ⟨b', off', e', hb', _⟩ := HRG.out.lst.1 (List.length_pos_of_mem HXL.out)
      rw [e] at e'
      cases e'
      exact hb'
    have HBW : Hid (B < W1.heap.size) := St.lt HRG.out.rb
    obtain ⟨ln, hln⟩ : ∃ ln, ln = L.length := ⟨_, rfl⟩
    have HLN := hid hln
    clear hln
    obtain ⟨d, hd⟩ : ∃ d, d = Int.tmod kx s := ⟨_, rfl⟩
    rw [← hd] at hjm hj1 hj2
    have HD := hid hd
    have hs1 : ¬ (s : Int) = 0 := by omega
    have hd' : Int.tmod kx s = d := hd.symm
    clear hd
    have hw1 : IntKind.i64.wrap (d + (s : Int)) = d + (s : Int) := by rw [IntKind.wrap_i64]; omega
    have HCP : Hid (∀ W, Below W1.heap.size W1 W → Calls Try.prog 10 #[.pointer (some ⟨B, 0, none⟩)] W fun e W' => ∃ C, e = .returned (.pointer (some ⟨C, 0, none⟩)) ∧ W.heap.size ≤ C ∧ C < W'.heap.size ∧ Rg W' C ao ln L ∧ Below W.heap.size W W') := fun W hW => (copy_any W B ao c L (HRG.out.below hW)).mono fun e W' ⟨C, h1, h2, h3, h4⟩ => ⟨C, h1, h2, St.lt h3.rb, by rw [HLN.out]; exact h3, h4⟩
    obtain ⟨q, hq⟩ : ∃ q, q = W1.heap.size := ⟨_, rfl⟩
    obtain ⟨e1, e2, e3, e4⟩ := mv_e HRG.out.srt HXL.out t
    have HY6 : Hid ((⟨x.k, t, x.n⟩ : Rn).i6) := ⟨HXM.out.i6.1, ht6, HXM.out.i6.2.2⟩
    have hBW := HBW.out
    have hcz1 : (Rn.cs ⟨x.k, t, x.n⟩).size = 3 := rfl
    have hcz2 : x.cs.size = 3 := rfl
    have HPU9 : Hid (∀ {W : World} {C1 C2 S0 S1 : Nat} {a2 : Option Addr} {c2 : Nat} {M : List Rn}, Rg W B ao c L → Rg W C1 ao ln L → Rg W C2 a2 c2 M → (∀ k, Rmb a2 M.length c2 k → S0 ≤ k ∧ k < S1) → C1 ≠ C2 → B ≠ C2 → C1 < S0 → B < S0 → (∀ b off, ao = some ⟨b, off, none⟩ → b < S0) → ∀ vbn, vbn = W.heap.size → Calls Try.prog 21 #[.pointer (some ⟨C2, 0, none⟩), .slice (some ⟨vbn, 0, none⟩) 1 1] (W.alloc (.cells (Rn.cs ⟨x.k, t, x.n⟩) 46)) fun e W' => e = .returned (.tuple #[.int .i64 ((puN M [⟨x.k, t, x.n⟩] : Nat) : Int), .int .i64 (puE M [⟨x.k, t, x.n⟩])]) ∧ (∃ a5 c5, Rg W' C2 a5 c5 (puL M [⟨x.k, t, x.n⟩])) ∧ Rg W' C1 ao ln L ∧ Rg W' B ao c L ∧ Kp (fun k => k = C2 ∨ (S0 ≤ k ∧ k < S1)) W W') := fun g1 g2 g3 g4 g5 g6 g7 g8 g9 vbn hvb => by subst hvb; exact pu_frame g1 g2 g3 g4 g5 g6 g7 g8 g9 g9 HY6.out
    by_cases h0 : mvE L x.a t = 0
    · obtain ⟨e5, e6⟩ := e3 h0
      obtain ⟨f1, f2, f3, _⟩ := mv_back HRG.out.srt (by have := HSL.out; omega) HXL.out h0
      obtain ⟨LL, hLL⟩ : ∃ LL, LL = ins (wo L (bey L x.a)) ⟨x.k, t, x.n⟩ := ⟨_, rfl⟩
      have HPE : Hid (puE (wo L (bey L x.a)) [⟨x.k, t, x.n⟩] = 0) := by rw [← e2]; exact h0
      have HPL : Hid (puL (wo L (bey L x.a)) [⟨x.k, t, x.n⟩] = LL) := by rw [hLL]; exact e5
      have HME := hid h0
      have HML : Hid (mvL L x.a t = LL) := by rw [hLL]; exact e6
      rw [HML.out] at f1 f2 f3
      have HOV := hid f1
      have HMB : Hid (mvE LL t x.a = 0 ∧ mvL LL t x.a = L) := ⟨f2, f3⟩
      have HXA : Hid (I6 x.a) := HXM.out.i6.2.1
      clear e1 e2 e3 e4 e5 e6 f1 f2 f3 h0 hLL
      have hmm : (x.k == x.k) = true := by simp
      go_wp2_with (first | (refine wpList_store_r rfl _ _ rfl _ rfl (e' := x) rfl (Rn.B.new W1 zRn) ?_; intro w2 s2 k2; have b2 : Below W1.heap.size W1 w2 := ((Below.refl _ W1).alloc (Nat.le_refl _) _).trans (k2.below (by rw [World.size_alloc]; omega) (fun i e => by omega)); have B2 := hid b2; have hqq := s2.lt; have hz2 := b2.size; rw [← hq] at s2 hqq hz2 hBW ⊢; have HQ := hid hq; clear hq k2 b2 x0 x1 x2) | (go_at_call 10; refine (HCP.out w2 B2.out).mono ?_; rintro e w3 ⟨C1, rfl, hc1, hc1', r3, b3⟩; have R3 := hid r3; have B3 := hid (B2.out.trans (b3.mono B2.out.size)); have s3 := s2.below b3 s2.lt; have hz3 := b3.size; clear b3 r3 s2 B2) | (go_at_call 10; refine (HCP.out w3 B3.out).mono ?_; rintro e w4 ⟨C2, rfl, hc2, hc2', r4, b4⟩; have R4 := hid r4; have R4' := hid (R3.out.below b4); have B4 := hid (B3.out.trans (b4.mono B3.out.size)); have s4 := s3.below b4 s3.lt; have hz4 := b4.size; clear b4 r4 s3 B3 R3; have y4 : w4.cell? ⟨q, 1, none⟩ = some (.int .i64 x.a) := s4.cell 1) | (go_at_call 27; refine (tk_frame (HRG.out.below B4.out) R4'.out HLN.out R4.out (by omega) (by omega) HXL.out).mono ?_; rintro e w5 ⟨rfl, ⟨a5, c5, r5, p5⟩, r5', g5, k5⟩; have P5 := hid p5; have R5 := hid r5; have R5' := hid r5'; have G5 := hid g5; have hz5 := k5.size; have B5 : Hid (Below W1.heap.size W1 w5) := bel_kp B4.out k5 B4.out.size (fun i e => by have := HQ.out; omega); have s5 := s4.kp k5 (by omega); clear k5 g5 r5' r5 p5 s4 y4 R4 R4') | (refine wpList_store_r rfl _ _ rfl _ rfl (e' := x) rfl (Rn.B.new w5 zRn) ?_; intro w6 s6 k6; have b6 : Below w5.heap.size w5 w6 := ((Below.refl _ w5).alloc (Nat.le_refl _) _).trans (k6.below (by rw [World.size_alloc]; omega) (fun i e => by omega)); have D6 := hid b6; have sx6 := s5.below b6 s5.lt; have hz6 := b6.size; clear b6 k6 s6 s5) | (go_at_call 22; refine (num_any _ _).mono ?_; rintro e wn ⟨rfl, rfl⟩) | (refine wpList_load_r rfl _ rfl _ rfl sx6 ?_) | (refine wpList_store_r rfl _ _ rfl _ rfl (e' := x) rfl (Rn.B.new w6 zRn) ?_; intro w7 s7 k7; have b7 : Below w6.heap.size w6 w7 := ((Below.refl _ w6).alloc (Nat.le_refl _) _).trans (k7.below (by rw [World.size_alloc]; omega) (fun i e => by omega)); have sx7 := sx6.below b7 sx6.lt; have hz7 := b7.size; have D7 := hid (D6.out.trans (b7.mono D6.out.size)); obtain ⟨u, hu⟩ : ∃ u, u = w6.heap.size := ⟨_, rfl⟩; rw [← hu] at s7 hz6 ⊢; have y7 : w7.cell? ⟨u, 1, none⟩ = some (.int .i64 x.a) := s7.cell 1; have f7 := St.frozen s7 1; have hul := s7.lt; have s8 : Rn.B (w7.setCell ⟨u, 1, none⟩ (.int .i64 t)) u ⟨x.k, t, x.n⟩ := St.set s7 1 (.int .i64 t); have kk8 := kp_setCell w7 u 1 (.int .i64 t) (fun k => k = u) rfl; have D8 : Hid (Below w5.heap.size w5 (w7.setCell ⟨u, 1, none⟩ (.int .i64 t))) := bel_kp D7.out kk8 D7.out.size (fun i e => by omega); have sx8 := sx7.kp kk8 (by have := sx6.lt; omega); have HU := hid hu; clear hu k7 b7 kk8 D6 D7 sx6 sx7 s7) | (refine wpList_load_r rfl _ rfl _ rfl s8 ?_) | (go_at_call 21; refine (HPU9.out (S0 := w4.heap.size) (S1 := w5.heap.size) (G5.out.below D8.out) (R5'.out.below D8.out) (R5.out.below D8.out) P5.out (by omega) (by omega) (by omega) (by omega) (fun b o e => by have := HAO.out b o e; have := HQ.out; omega) _ (by simp)).mono ?_; rw [HPE.out, HPL.out]; rintro e w9 ⟨rfl, ⟨a9, c9, r9⟩, r9', g9, k9⟩; have R9 := hid r9; have R9' := hid r9'; have G9 := hid g9; have B9 : Hid (Below W1.heap.size W1 w9) := bel_kp (B5.out.trans (D8.out.mono B5.out.size)) k9 (Nat.le_trans B5.out.size D8.out.size) (fun i e => by have := HQ.out; omega); have sx9 := sx8.kp k9 (by omega); have s9 := s8.kp k9 (by omega); clear k9 r9 r9' g9 sx8 s8 R5 R5' G5 D8 y7 f7; have y9 : w9.cell? ⟨q, 1, none⟩ = some (.int .i64 x.a) := sx9.cell 1) | (go_at_call 29; refine (mv_frame x.a t G9.out R9'.out R9.out (by omega) (by omega) ht6).mono ?_; rw [HME.out, HML.out]; rintro e w10 ⟨rfl, ⟨a10, c10, r10⟩, r10', l10, k10⟩; have R10 := hid r10; have R10' := hid r10'; have L10 := hid l10; have B10 : Hid (Below w.heap.size w w10) := bel_kp (HB1.out.trans (B9.out.mono HB1.out.size)) k10 (Nat.le_trans HB1.out.size B9.out.size) (fun i e => by have := HBB.out; omega); have sx10 := sx9.kp k10 (by omega); have s10 := s9.kp k10 (by omega); clear k10 r10 r10' l10 sx9 s9 y9 G9 R9 R9' B9) | (go_at_call 24; refine (of_any w10 B a10 c10 LL t R10.out ht6).mono ?_; unfold OfR; rw [HOV.out]; rintro e w11 ⟨rfl, b11⟩; have R11 := hid (R10.out.below b11); have R11' := hid (R10'.out.below b11); have L11 := hid (L10.out.below b11); have B11 := hid (B10.out.trans (b11.mono B10.out.size)); have sx11 := sx10.below b11 sx10.lt; have s11 := s10.below b11 s10.lt; clear b11 sx10 s10 R10 R10' L10) | (refine wpList_store_r rfl _ _ rfl _ rfl (e' := ⟨x.k, t, x.n⟩) rfl (Rn.B.new w11 zRn) ?_; intro w12 s12 k12; have b12 : Below w11.heap.size w11 w12 := ((Below.refl _ w11).alloc (Nat.le_refl _) _).trans (k12.below (by rw [World.size_alloc]; omega) (fun i e => by omega)); have R12 := hid (R11.out.below b12); have R12' := hid (R11'.out.below b12); have L12 := hid (L11.out.below b12); have B12 := hid (B11.out.trans (b12.mono B11.out.size)); have sx12 := sx11.below b12 sx11.lt; have sy12 := s11.below b12 s11.lt; obtain ⟨u2, hu2⟩ : ∃ u, u = w11.heap.size := ⟨_, rfl⟩; rw [← hu2] at s12 ⊢; have HU2 := hid hu2; clear hu2 k12 b12 R11 R11' L11 sx11 s11) | (go_at_call 11; refine (same_call w12 B C2 a10 a9 c10 c9 LL LL true R12.out L12.out (Or.inl ⟨rfl, rfl⟩)).mono ?_; rintro e w13 ⟨rfl, b13⟩; have R13 := hid (R12.out.below b13); have R13' := hid (R12'.out.below b13); have L13 := hid (L12.out.below b13); have B13 := hid (B12.out.trans (b13.mono B12.out.size)); have sx13 := sx12.below b13 sx12.lt; have sy13 := sy12.below b13 sy12.lt; have s13 := s12.below b13 s12.lt; clear b13 R12 R12' L12 sx12 sy12 s12; have y0 : w13.cell? ⟨u, 0, none⟩ = some (.int .i64 x.k) := sy13.cell 0; have y1 : w13.cell? ⟨u, 1, none⟩ = some (.int .i64 t) := sy13.cell 1; have y2 : w13.cell? ⟨u, 2, none⟩ = some (.int .i64 x.n) := sy13.cell 2; have z0 : w13.cell? ⟨u2, 0, none⟩ = some (.int .i64 x.k) := s13.cell 0; have z1 : w13.cell? ⟨u2, 1, none⟩ = some (.int .i64 t) := s13.cell 1; have z2 : w13.cell? ⟨u2, 2, none⟩ = some (.int .i64 x.n) := s13.cell 2; have yx : w13.cell? ⟨q, 1, none⟩ = some (.int .i64 x.a) := sx13.cell 1) | (go_at_call 29; refine (mv_frame t x.a R13.out R13'.out L13.out (by omega) (by omega) HXA.out).mono ?_; rw [HMB.out.1, HMB.out.2]; rintro e w14 ⟨rfl, ⟨a14, c14, r14⟩, r14', _, k14⟩; have R14 := hid r14; have R14' := hid r14'; have B14 : Hid (Below w.heap.size w w14) := bel_kp B13.out k14 B13.out.size (fun i e => by have := HBB.out; omega); clear r14 r14' k14 R13 R13' L13 y0 y1 y2 z0 z1 z2 yx) | (go_at_call 11; refine (same_call w14 B C1 a14 ao c14 ln L L true R14.out R14'.out (Or.inl ⟨rfl, rfl⟩)).mono ?_; rintro e w15 ⟨rfl, b15⟩; have B15 := hid (B14.out.trans (b15.mono B14.out.size)); clear b15) | (go_at_call 8; refine (works_any _).mono ?_; rintro e w16 ⟨rfl, b16⟩; have B16 := hid (B15.out.trans (b16.mono B15.out.size)); clear b16))
      go_ret
      exact ⟨rfl, B16.out⟩
    · have HML := hid (e4 h0)
      obtain ⟨fe, hfe⟩ : ∃ fe, mvE L x.a t = fe := ⟨_, rfl⟩
      obtain ⟨LP, hLP⟩ : ∃ LP, puL (wo L (bey L x.a)) [⟨x.k, t, x.n⟩] = LP := ⟨_, rfl⟩
      have HPE : Hid (puE (wo L (bey L x.a)) [⟨x.k, t, x.n⟩] = fe) := e2.symm.trans hfe
      have HPL := hid hLP
      have HME := hid hfe
      rw [hfe] at h0
      clear e1 e2 e3 e4 hfe hLP
      go_wp2_with (first | (refine wpList_store_r rfl _ _ rfl _ rfl (e' := x) rfl (Rn.B.new W1 zRn) ?_; intro w2 s2 k2; have b2 : Below W1.heap.size W1 w2 := ((Below.refl _ W1).alloc (Nat.le_refl _) _).trans (k2.below (by rw [World.size_alloc]; omega) (fun i e => by omega)); have B2 := hid b2; have hqq := s2.lt; have hz2 := b2.size; rw [← hq] at s2 hqq hz2 hBW ⊢; have HQ := hid hq; clear hq k2 b2 x0 x1 x2) | (go_at_call 10; refine (HCP.out w2 B2.out).mono ?_; rintro e w3 ⟨C1, rfl, hc1, hc1', r3, b3⟩; have R3 := hid r3; have B3 := hid (B2.out.trans (b3.mono B2.out.size)); have s3 := s2.below b3 s2.lt; have hz3 := b3.size; clear b3 r3 s2 B2) | (go_at_call 10; refine (HCP.out w3 B3.out).mono ?_; rintro e w4 ⟨C2, rfl, hc2, hc2', r4, b4⟩; have R4 := hid r4; have R4' := hid (R3.out.below b4); have B4 := hid (B3.out.trans (b4.mono B3.out.size)); have s4 := s3.below b4 s3.lt; have hz4 := b4.size; clear b4 r4 s3 B3 R3; have y4 : w4.cell? ⟨q, 1, none⟩ = some (.int .i64 x.a) := s4.cell 1) | (go_at_call 27; refine (tk_frame (HRG.out.below B4.out) R4'.out HLN.out R4.out (by omega) (by omega) HXL.out).mono ?_; rintro e w5 ⟨rfl, ⟨a5, c5, r5, p5⟩, r5', g5, k5⟩; have P5 := hid p5; have R5 := hid r5; have R5' := hid r5'; have G5 := hid g5; have hz5 := k5.size; have B5 : Hid (Below W1.heap.size W1 w5) := bel_kp B4.out k5 B4.out.size (fun i e => by have := HQ.out; omega); have s5 := s4.kp k5 (by omega); clear k5 g5 r5' r5 p5 s4 y4 R4 R4') | (refine wpList_store_r rfl _ _ rfl _ rfl (e' := x) rfl (Rn.B.new w5 zRn) ?_; intro w6 s6 k6; have b6 : Below w5.heap.size w5 w6 := ((Below.refl _ w5).alloc (Nat.le_refl _) _).trans (k6.below (by rw [World.size_alloc]; omega) (fun i e => by omega)); have D6 := hid b6; have sx6 := s5.below b6 s5.lt; have hz6 := b6.size; clear b6 k6 s6 s5) | (go_at_call 22; refine (num_any _ _).mono ?_; rintro e wn ⟨rfl, rfl⟩) | (refine wpList_load_r rfl _ rfl _ rfl sx6 ?_) | (refine wpList_store_r rfl _ _ rfl _ rfl (e' := x) rfl (Rn.B.new w6 zRn) ?_; intro w7 s7 k7; have b7 : Below w6.heap.size w6 w7 := ((Below.refl _ w6).alloc (Nat.le_refl _) _).trans (k7.below (by rw [World.size_alloc]; omega) (fun i e => by omega)); have sx7 := sx6.below b7 sx6.lt; have hz7 := b7.size; have D7 := hid (D6.out.trans (b7.mono D6.out.size)); obtain ⟨u, hu⟩ : ∃ u, u = w6.heap.size := ⟨_, rfl⟩; rw [← hu] at s7 hz6 ⊢; have y7 : w7.cell? ⟨u, 1, none⟩ = some (.int .i64 x.a) := s7.cell 1; have f7 := St.frozen s7 1; have hul := s7.lt; have s8 : Rn.B (w7.setCell ⟨u, 1, none⟩ (.int .i64 t)) u ⟨x.k, t, x.n⟩ := St.set s7 1 (.int .i64 t); have kk8 := kp_setCell w7 u 1 (.int .i64 t) (fun k => k = u) rfl; have D8 : Hid (Below w5.heap.size w5 (w7.setCell ⟨u, 1, none⟩ (.int .i64 t))) := bel_kp D7.out kk8 D7.out.size (fun i e => by omega); have sx8 := sx7.kp kk8 (by have := sx6.lt; omega); have HU := hid hu; clear hu k7 b7 kk8 D6 D7 sx6 sx7 s7) | (refine wpList_load_r rfl _ rfl _ rfl s8 ?_) | (go_at_call 21; refine (HPU9.out (S0 := w4.heap.size) (S1 := w5.heap.size) (G5.out.below D8.out) (R5'.out.below D8.out) (R5.out.below D8.out) P5.out (by omega) (by omega) (by omega) (by omega) (fun b o e => by have := HAO.out b o e; have := HQ.out; omega) _ (by simp)).mono ?_; rw [HPE.out, HPL.out]; rintro e w9 ⟨rfl, ⟨a9, c9, r9⟩, r9', g9, k9⟩; have R9 := hid r9; have R9' := hid r9'; have G9 := hid g9; have B9 : Hid (Below W1.heap.size W1 w9) := bel_kp (B5.out.trans (D8.out.mono B5.out.size)) k9 (Nat.le_trans B5.out.size D8.out.size) (fun i e => by have := HQ.out; omega); have sx9 := sx8.kp k9 (by omega); have s9 := s8.kp k9 (by omega); clear k9 r9 r9' g9 sx8 s8 R5 R5' G5 D8 y7 f7; have y9 : w9.cell? ⟨q, 1, none⟩ = some (.int .i64 x.a) := sx9.cell 1) | (go_at_call 29; refine (mv_frame x.a t G9.out R9'.out R9.out (by omega) (by omega) ht6).mono ?_; rw [HME.out, HML.out]; rintro e w10 ⟨rfl, ⟨a10, c10, r10⟩, r10', l10, k10⟩; have R10 := hid r10; have R10' := hid r10'; have L10 := hid l10; have B10 : Hid (Below w.heap.size w w10) := bel_kp (HB1.out.trans (B9.out.mono HB1.out.size)) k10 (Nat.le_trans HB1.out.size B9.out.size) (fun i e => by have := HBB.out; omega); have sx10 := sx9.kp k10 (by omega); have s10 := s9.kp k10 (by omega); clear k10 r10 r10' l10 sx9 s9 y9 G9 R9 R9' B9) | (go_at_call 11; refine (same_call w10 B C1 a10 ao c10 ln L L true R10.out R10'.out (Or.inl ⟨rfl, rfl⟩)).mono ?_; rintro e w11 ⟨rfl, b11⟩; have B11 := hid (B10.out.trans (b11.mono B10.out.size)); clear b11) | (go_at_call 8; refine (works_any _).mono ?_; rintro e w12 ⟨rfl, b12⟩; have B12 := hid (B11.out.trans (b12.mono B11.out.size)); clear b12))
      go_ret
      exact ⟨rfl, B12.out⟩
end Go.Proofs.Ytopnfjgkgoeleaa
namespace Go.Proofs.Ytopnfjgkgoeleaa
open Go.RowKit
theorem moved_any (l : List Rn) (bo : Option Addr) (n cb : Nat) (k t : Int) (w : World) (hn : n = l.length) (hc : n ≤ cb) (hm : cb ≤ maxLen) (hi6 : ∀ x ∈ l, x.i6) (hS : Srcr w bo l) (ht : I6 t) : Calls Try.prog 7 #[.slice bo n cb, .int .i64 k, .int .i64 t] w fun e w' => e = .returned (.bool true) ∧ Below w.heap.size w w' := by
  unfold maxLen at hm
  by_cases h : n ≤ 60
  · exact move_walk l bo n cb k t w hn hc h hi6 hS ht
  · exact move_long bo n cb k t w (by omega) (by omega)
end Go.Proofs.Ytopnfjgkgoeleaa
