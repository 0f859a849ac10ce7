/- regions: with, its walk. -/
import Derived.Test.YtopnfjgkgoeleaaWi
namespace Go.Proofs.Ytopnfjgkgoeleaa
open Go.RowKit
set_option linter.unusedVariables false
set_option linter.unusedSimpArgs false
theorem plI_ok {L : List Rn} {x : Rn} (h : plE L x = 0) : plI L x = ((bey L x.a : Nat) : Int) := by unfold plI; rw [if_pos h]
set_option maxRecDepth 100000 in
set_option maxHeartbeats 4000000 in
theorem with_any (L M : List Rn) (ao bo : Option Addr) (n c m cb : Nat) (w : World) (hn : n = L.length) (hm : m = M.length) (hL : Lst w ao c L) (hs : Srt L) (hl : L.length ≤ 65536) (hM : Srcr w bo M) (hmc : m ≤ cb) (hcb : m ≤ 1000000) (hmay : ∀ x ∈ M, Mayr x) (hap : ∀ b off, bo = some ⟨b, off, none⟩ → ¬ Rmb ao n c b) :
    Calls Try.prog 48 #[.slice ao n c, .slice bo m cb] w (WthR L M ao c w) := by
  have HI : Hid (WiI L M ao c w 0 L ao c w) := ⟨Nat.zero_le _, hL, hs, hl, by rw [sh_zero]; rfl, Kp.refl _ _, Fro.refl _ _ _ _⟩
  have HMS : Hid (∀ W, Kp (Rmb ao L.length c) w W → Srcr W bo M) := fun W hk => hM.kp hk (fun b off e _ => by have := hap b off e; rw [hn] at this; exact this)
  have HN := hid hn
  have HM := hid hm
  have HMY := hid hmay
  clear hL hs hl hM hmay hap hn hm
  go_enter Try.func48, Try.ntmps48
  go_wp2_with fail
  go_loopw [0, 7, 14] (fun s al i wr => ∃ (k : Nat) (Lk : List Rn) (aok : Option Addr) (nk ck : Nat) (b : Bool), s = .slice aok nk ck ∧ al = .bool b ∧ i = .int .i64 (k : Int) ∧ Hid (nk = Lk.length) ∧ Hid (WiI L M ao c w k Lk aok ck wr)) (fun _ _ i _ => m - (intOf i).toNat)
  case atStart => exact ⟨0, L, ao, n, c, false, rfl, rfl, rfl, HN, HI⟩
  case round =>
    clear HI
    obtain ⟨k, Lk, aok, nk, ck, al, rfl, rfl, rfl, HNK, HI⟩ := hrel
    have hkm : k ≤ m := by have := HI.out.le; have := HM.out; omega
    by_cases hlt : k < m
    · obtain ⟨gb, off, rfl, hgb, x0, x1, x2⟩ := (HMS.out _ HI.out.kp).at (i := k) (by have := HM.out; omega)
      obtain ⟨x, hx⟩ : ∃ x, x = M.getD k zRn := ⟨_, rfl⟩
      rw [← hx] at x0 x1 x2
      have HMX : Hid (Mayr x) := by rw [hx]; exact HMY.out _ (gd_mem (by have := HM.out; omega))
      have HX := hid hx
      clear hx
      obtain ⟨q, hq⟩ : ∃ q, q = wr.heap.size := ⟨_, rfl⟩
      have HP : Hid (∀ W, WiI L M ao c w k Lk aok ck W → Calls Try.prog 60 #[.slice aok nk ck, .agg x.cs] W fun e w' => e = .returned (.tuple #[.int .i64 (plI Lk x), .int .i64 (plE Lk x)]) ∧ Below W.heap.size W w') := fun W h => place_any Lk aok nk ck x W HNK.out (by have := h.lst.2.1; have := HNK.out; omega) (by have := h.len; have := HNK.out; omega) h.lst.1 h.srt HMX.out
      have h65 : nk ≤ 65536 := by have := HI.out.len; have := HNK.out; omega
      have hnc : nk ≤ ck := by have := HI.out.lst.2.1; have := HNK.out; omega
      have hcm : ck ≤ 9223372036854775807 := by have := HI.out.lst.2.2.1; unfold maxLen at this; omega
      have hno : aok = none → ck = 0 := HI.out.lst.2.2.2.1
      have hbz : ∀ w2, Kp (fun i => i = wr.heap.size) (wr.alloc (.cells zRn.cs 46)) w2 → Below wr.heap.size wr w2 := fun w2 k2 => (((Below.refl _ wr).alloc (Nat.le_refl _) _)).trans (k2.below (by rw [World.size_alloc]; omega) (fun i e => by omega))
      have HBZ := hid hbz
      clear hbz
      have hcsz : x.cs.size = 3 := rfl
      by_cases h0 : plE Lk x = 0
      · rw [h0, plI_ok h0] at HP
        have HH0 := hid h0
        clear h0
        obtain ⟨b, hb⟩ : ∃ b, b = bey Lk x.a := ⟨_, rfl⟩
        rw [← hb] at HP
        have hbn : b ≤ nk := by rw [hb]; have := bey_le Lk x.a; have := HNK.out; omega
        have HB := hid hb
        clear hb
        have HIN : Hid (∀ (cc vb : Nat) (W : World), WiI L M ao c w k Lk aok cc W → St 46 W vb x.cs → (0 < nk → ∀ off, aok ≠ some ⟨vb, off, none⟩) → Calls Try.prog 61 #[.slice aok nk cc, .int .i64 (b : Int), .slice (some ⟨vb, 0, none⟩) 1 1] W fun e w' => ∃ g c', e = .returned (.slice (some ⟨g, 0, none⟩) (nk + 1) c') ∧ WiI L M ao c w (k + 1) (ins Lk x) (some ⟨g, 0, none⟩) c' w') := fun cc vb W h hv hvb => (insert_any Lk x aok nk cc b vb W HNK.out h.lst h.len hv hbn hvb).mono (fun e w' ⟨g, c', h1, h2, h3, h4⟩ => ⟨g, c', by rw [h1, HNK.out], h.next (by have := HM.out; omega) HX.out HMX.out HH0.out (by rw [← HB.out]; exact h2) h3 h4⟩)
        have HAP : Hid (∀ W, WiI L M ao c w k Lk aok ck W → 0 < nk → ∀ off, aok ≠ some ⟨W.heap.size, off, none⟩) := fun W h h0 off e => by
          obtain ⟨b', off', e', hb', _⟩ := h.lst.1 (by have := HNK.out; omega)
          rw [e] at e'
          cases e'
          omega
        by_cases hlt2 : b < nk
        · cases al with
          | false =>
            go_wp2_with (first | (refine wpList_store_r rfl _ _ rfl _ rfl (e' := x) rfl (Rn.B.new wr zRn) ?_; intro w2 s2 k2; have I2 : Hid (WiI L M ao c w k Lk aok ck w2) := HI.out.below (HBZ.out w2 k2); rw [← hq] at s2 ⊢; have HQ := hid hq; clear hq k2) | (refine wpList_load_r rfl _ rfl _ rfl s3 ?_) | (refine wpList_load_r rfl _ rfl _ rfl s2 ?_) | (go_at_call 60; refine (HP.out w2 I2.out).mono ?_; rintro e w3 ⟨rfl, b3⟩; have I3 := hid (I2.out.below b3); have s3 := s2.below b3 s2.lt; clear I2 b3) | (go_at_call 31; refine (cut_any aok nk ck nk _ (Nat.le_refl _) hnc hcm hno).mono ?_; rintro e w4 ⟨rfl, rfl⟩) | (go_at_call 61; refine (HIN.out nk w3.heap.size (w3.alloc (.cells x.cs 46)) ((I3.out.cut1 HNK.out).below ((Below.refl _ _).alloc (Nat.le_refl _) _)) (St.new 46 w3 _) (fun h0 off e => HAP.out w3 I3.out h0 off e)).mono ?_; rintro e w5 ⟨g, c', rfl, I5⟩; have HI5 := hid I5; clear I5))
            go_roundw
            case rel => exact ⟨k + 1, ins Lk x, some ⟨g, 0, none⟩, nk + 1, c', _, rfl, rfl, by go_num, by rw [ins_len]; show _ = _; rw [HNK.out], HI5⟩
            case measure => simp [intOf]; omega
          | true =>
            go_wp2_with (first | (refine wpList_store_r rfl _ _ rfl _ rfl (e' := x) rfl (Rn.B.new wr zRn) ?_; intro w2 s2 k2; have I2 : Hid (WiI L M ao c w k Lk aok ck w2) := HI.out.below (HBZ.out w2 k2); rw [← hq] at s2 ⊢; have HQ := hid hq; clear hq k2) | (refine wpList_load_r rfl _ rfl _ rfl s3 ?_) | (refine wpList_load_r rfl _ rfl _ rfl s2 ?_) | (go_at_call 60; refine (HP.out w2 I2.out).mono ?_; rintro e w3 ⟨rfl, b3⟩; have I3 := hid (I2.out.below b3); have s3 := s2.below b3 s2.lt; clear I2 b3) | (go_at_call 61; refine (HIN.out ck w3.heap.size (w3.alloc (.cells x.cs 46)) (I3.out.below ((Below.refl _ _).alloc (Nat.le_refl _) _)) (St.new 46 w3 _) (fun h0 off e => HAP.out w3 I3.out h0 off e)).mono ?_; rintro e w5 ⟨g, c', rfl, I5⟩; have HI5 := hid I5; clear I5))
            go_roundw
            case rel => exact ⟨k + 1, ins Lk x, some ⟨g, 0, none⟩, nk + 1, c', _, rfl, rfl, by go_num, by rw [ins_len]; show _ = _; rw [HNK.out], HI5⟩
            case measure => simp [intOf]; omega
        · go_wp2_with (first | (refine wpList_store_r rfl _ _ rfl _ rfl (e' := x) rfl (Rn.B.new wr zRn) ?_; intro w2 s2 k2; have I2 : Hid (WiI L M ao c w k Lk aok ck w2) := HI.out.below (HBZ.out w2 k2); rw [← hq] at s2 ⊢; have HQ := hid hq; clear hq k2) | (refine wpList_load_r rfl _ rfl _ rfl s3 ?_) | (refine wpList_load_r rfl _ rfl _ rfl s2 ?_) | (go_at_call 60; refine (HP.out w2 I2.out).mono ?_; rintro e w3 ⟨rfl, b3⟩; have I3 := hid (I2.out.below b3); have s3 := s2.below b3 s2.lt; clear I2 b3) | (go_at_call 61; refine (HIN.out ck w3.heap.size (w3.alloc (.cells x.cs 46)) (I3.out.below ((Below.refl _ _).alloc (Nat.le_refl _) _)) (St.new 46 w3 _) (fun h0 off e => HAP.out w3 I3.out h0 off e)).mono ?_; rintro e w5 ⟨g, c', rfl, I5⟩; have HI5 := hid I5; clear I5))
          go_roundw
          case rel => exact ⟨k + 1, ins Lk x, some ⟨g, 0, none⟩, nk + 1, c', _, rfl, rfl, by go_num, by rw [ins_len]; show _ = _; rw [HNK.out], HI5⟩
          case measure => simp [intOf]; omega
      · have HE : Hid (wth L M = (Lk, k, plE Lk x)) := HI.out.wth.trans (sh_err (by have := HM.out; omega) HX.out h0)
        have hpc := plE_cases Lk x
        generalize plE Lk x = er at *
        generalize plI Lk x = pi at *
        go_wp2_with (first | (refine wpList_store_r rfl _ _ rfl _ rfl (e' := x) rfl (Rn.B.new wr zRn) ?_; intro w2 s2 k2; have I2 : Hid (WiI L M ao c w k Lk aok ck w2) := HI.out.below (HBZ.out w2 k2); rw [← hq] at s2 ⊢; have HQ := hid hq; clear hq k2) | (refine wpList_load_r rfl _ rfl _ rfl s3 ?_) | (refine wpList_load_r rfl _ rfl _ rfl s2 ?_) | (go_at_call 60; refine (HP.out w2 I2.out).mono ?_; rintro e w3 ⟨rfl, b3⟩; have I3 := hid (I2.out.below b3); have s3 := s2.below b3 s2.lt; clear I2 b3))
        go_ret3
        refine ⟨aok, ck, ?_, ?_, I3.out.kp, ?_⟩
        · rw [HE.out]; dsimp only; rw [← HNK.out]; rfl
        · rw [HE.out]; exact I3.out.lst
        · rw [HE.out]; exact I3.out.fro
    · have HE : Hid (wth L M = (Lk, k, 0)) := HI.out.wth.trans (sh_end (by have := HM.out; omega))
      obtain rfl : k = m := by omega
      go_wp2_with fail
      go_ret3
      refine ⟨aok, ck, ?_, ?_, HI.out.kp, ?_⟩
      · rw [HE.out]; dsimp only; rw [← HNK.out]; rfl
      · rw [HE.out]; exact HI.out.lst
      · rw [HE.out]; exact HI.out.fro
end Go.Proofs.Ytopnfjgkgoeleaa
