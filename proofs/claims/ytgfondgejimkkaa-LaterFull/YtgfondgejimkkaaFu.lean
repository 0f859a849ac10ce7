/- LaterFull: as many runs as may be, and one more. -/
import Derived.Test.YtgfondgejimkkaaWk
import Derived.Test.YtgfondgejimkkaaFm
import Derived.OwnWalk
namespace Go.Proofs.Ytgfondgejimkkaa
open Go.RowKit
set_option linter.unusedVariables false
set_option linter.unusedSimpArgs false
theorem fl_step (k : Nat) (hk : k < 4096) : (fl k ++ List.replicate (4096 - k) zRn).set k ⟨4 * (k : Int), 3⟩ = fl (k + 1) ++ List.replicate (4096 - (k + 1)) zRn := by
  have := set_drop_rep (fl k) (4096 - (k + 1)) ⟨4 * (k : Int), 3⟩
  rw [fl_len] at this
  rw [show 4096 - k = (4096 - (k + 1)) + 1 by omega, this, fl_succ]
/-- New and Put, where there are too many, and where there are not. -/
theorem new_full (U : World) (ao : Option Addr) (cap : Nat) (hz : ao ≠ none) (hs : Srcr U ao (fl 4096)) : Calls Try.prog 10 #[.slice ao 4096 cap] U fun e w' => ∃ Q F, e = .returned (.tuple #[.pointer (some ⟨Q, 0, none⟩), .int .i64 0]) ∧ Lw Q (fl 4096) F w' ∧ (∀ k, F k → U.heap.size ≤ k) ∧ Kp (fun _ => False) U w' := by
  have hc := fl_can (n := 4096) (by omega)
  refine (new_w U ao 4096 cap (fl 4096) (fl_len _) (by omega) (fun x hx => (hc.1 x hx).i6) (fun e => absurd e hz) hs).mono ?_
  rintro e w' ⟨k, h⟩
  rw [tog_id hc] at h
  rcases h with ⟨⟨x, hx, h1⟩, _⟩ | ⟨_, h2, _⟩ | ⟨_, _, Q, F, h3, h4, h5⟩
  · exact absurd (hc.1 x hx) h1
  · rw [fl_len] at h2; omega
  · exact ⟨Q, F, h3, h4, h5, k⟩
theorem new_more (U : World) (ao : Option Addr) (cap : Nat) (hz : ao ≠ none) (hs : Srcr U ao (fl 4096 ++ [⟨100000, 1⟩])) : Calls Try.prog 10 #[.slice ao 4097 cap] U fun e w' => e = .returned (.tuple #[.pointer none, .int .i64 6]) ∧ Kp (fun _ => False) U w' := by
  have hc := fl_more
  refine (new_w U ao 4097 cap _ (by rw [List.length_append, fl_len]; rfl) (by omega) (fun x hx => (hc.1 x hx).i6) (fun e => absurd e hz) hs).mono ?_
  rintro e w' ⟨k, h⟩
  rw [tog_id hc, List.length_append, fl_len] at h
  rcases h with ⟨⟨x, hx, h1⟩, _⟩ | ⟨_, h2, h3⟩ | ⟨_, h2, _⟩
  · exact absurd (hc.1 x hx) h1
  · exact ⟨h3, k⟩
  · simp at h2
theorem put_more {U : World} {Q : Nat} {F : Nat → Prop} (h : Lw Q (fl 4096) F U) (ao : Option Addr) (cap : Nat) (hz : ao ≠ none) (hs : Srcr U ao [⟨100000, 1⟩]) : Calls Try.prog 22 #[.pointer (some ⟨Q, 0, none⟩), .slice ao 1 cap] U fun e w' => e = .returned (.tuple #[.int .i64 0, .int .i64 6]) ∧ Kp (fun _ => False) U w' := by
  refine (put_w h ao 1 cap _ rfl (by omega) (by simp [Rn.i6]) (fun e => absurd e hz) hs).mono ?_
  rintro e w' h
  unfold PtW at h
  rw [tog_id fl_more, List.length_append, fl_len] at h
  rcases h with ⟨⟨x, hx, h1⟩, _⟩ | ⟨_, h2, h3, h4⟩ | ⟨_, h2, _⟩
  · simp at hx
    subst hx
    exact absurd h1 (by simp [Mayr, Rn.e])
  · exact ⟨h3, h4⟩
  · simp at h2
theorem cut_more {U : World} {Q : Nat} {F : Nat → Prop} (h : Lw Q (fl 4096) F U) : Calls Try.prog 24 #[.pointer (some ⟨Q, 0, none⟩), .agg #[.int .i64 1, .int .i64 1]] U fun e w' => e = .returned (.tuple #[.int .i64 0, .int .i64 6]) ∧ Kp (fun _ => False) U w' := by
  refine (cut_w h ⟨1, 1⟩ (by simp [Rn.i6])).mono ?_
  rintro e w' h
  unfold CtW at h
  rw [fl_lss1] at h
  rcases h with ⟨h1, _⟩ | ⟨_, h2, h3, h4⟩ | ⟨_, h2, _⟩
  · exact absurd h1 (by simp [Mayr, Rn.e])
  · exact ⟨h3, h4⟩
  · omega
theorem cut_one {U : World} {Q : Nat} {F : Nat → Prop} (h : Lw Q (fl 4096) F U) : Calls Try.prog 24 #[.pointer (some ⟨Q, 0, none⟩), .agg #[.int .i64 0, .int .i64 1]] U fun e w' => e = .returned (.tuple #[.int .i64 1, .int .i64 0]) ∧ Kp F U w' := by
  refine (cut_w h ⟨0, 1⟩ (by simp [Rn.i6])).mono ?_
  rintro e w' h
  unfold CtW at h
  rw [fl_lss0, fl_ovl] at h
  rcases h with ⟨h1, _⟩ | ⟨_, h2, h3, h4⟩ | ⟨_, h2, h3, h4⟩
  · exact absurd h1 (by simp [Mayr, Rn.e])
  · omega
  · exact ⟨h3, h4.1⟩
theorem size_full {U : World} {Q : Nat} {F : Nat → Prop} (h : Lw Q (fl 4096) F U) : Calls Try.prog 16 #[.pointer (some ⟨Q, 0, none⟩)] U fun e w' => e = .returned (.tuple #[.int .i64 4096, .int .i64 12288]) ∧ Kp (fun _ => False) U w' := by
  refine (size_w h).mono ?_
  rw [fl_len, fl_sz]
  exact fun e w' h => h
set_option maxRecDepth 100000 in
set_option maxHeartbeats 16000000 in
theorem full_walk (w : World) : Calls Try.prog 5 #[] w fun e w' => e = .returned (.bool true) ∧ Below w.heap.size w w' := by
  have HNU := hid num_any
  have HWO := hid works_any
  obtain ⟨i0, hi, hz0, hz1, hz2⟩ := info_parts Try.inf38
  go_enter Try.func5, Try.ntmps5
  go_wp2_with (first | (at_make; refine wpList_make_full w rfl _ _ 22 rfl w.heap.size 38 i0 _ 2 Try.underlying22 hi hz0 hz1 .i64 .i64 4096 4096 4096 rfl rfl rfl rfl (by rw [hz2]; omega) (by unfold maxLen; omega) (Nat.le_refl _) ?_; intro w1 o1 g1; have O1 := hid o1; have K1 : Hid (Kp (fun _ => False) w w1) := Kp.of_grown g1 (fun i e => by cases e); clear o1 g1))
  have R1 : Hid (Rwr w1 w.heap.size (List.replicate 4096 zRn)) := by
    have := own_full O1.out
    rw [rep_flr] at this
    exact this
  obtain ⟨G, hG⟩ : ∃ G, G = w.heap.size := ⟨_, rfl⟩
  rw [← hG] at R1 ⊢
  have HG := hid hG
  clear O1 hG hi hz0 hz1 hz2
  go_loopw [2] (fun i wr => ∃ k : Nat, i = .int .i64 (k : Int) ∧ k ≤ 4096 ∧ Hid (Rwr wr G (fl k ++ List.replicate (4096 - k) zRn)) ∧ Hid (Kp (fun _ => False) w wr)) (fun i _ => 4096 - (intOf i).toNat)
  case atStart => exact ⟨0, rfl, Nat.zero_le _, by simpa [fl] using R1, K1⟩
  case round =>
    clear R1 K1
    obtain ⟨k, rfl, hk, HR, HK⟩ := hrel
    by_cases hlt : k < 4096
    · have hl2 : (fl k ++ List.replicate (4096 - k) zRn).length = 4096 := by rw [List.length_append, fl_len, List.length_replicate]; omega
      obtain ⟨z0, z1, zf⟩ := HR.out.cells (k := k) (by omega)
      have zf0 := zf (k * 2)
      have zf1 := zf (k * 2 + 1)
      have hgl := St.lt HR.out
      have HNX : Hid (Rwr ((wr.setCell ⟨G, k * 2, none⟩ (.int .i64 (4 * (k : Int)))).setCell ⟨G, k * 2 + 1, none⟩ (.int .i64 3)) G (fl (k + 1) ++ List.replicate (4096 - (k + 1)) zRn)) := by
        have h1 := HR.out.set (k := k) ⟨4 * (k : Int), 3⟩ (by omega)
        rw [fl_step k hlt] at h1
        exact h1
      have w0 : (wr.setCell ⟨G, k * 2, none⟩ (.int .i64 (4 * (k : Int)))).cell? ⟨G, k * 2 + 1, none⟩ = some (.int .i64 ((fl k ++ List.replicate (4096 - k) zRn).getD k zRn).n) := by
        rw [World.cell?_setCell_other _ _ _ _ (by simp)]; exact z1
      have hw : IntKind.i64.wrap (4 * (k : Int)) = 4 * (k : Int) := by rw [IntKind.wrap_i64]; omega
      generalize ((fl k ++ List.replicate (4096 - k) zRn).getD k zRn) = zz at *
      clear hl2 zf
      go_wp2_with fail
      go_roundw
      case rel => exact ⟨k + 1, by go_num, hlt, HNX, HK.out.trans ((kp_setCell _ G _ _ (fun i => i = G) rfl).trans (kp_setCell _ G _ _ (fun i => i = G) rfl) (fun _ _ h => h)) (fun i hi e => by have := HG.out; omega)⟩
      case measure => simp [intOf]; omega
    · obtain rfl : k = 4096 := by omega
      have HR2 : Hid (Rwr wr G (fl 4096)) := by
        have := HR.out
        rw [Nat.sub_self, List.replicate_zero, List.append_nil] at this
        exact this
      clear HR hlt hk
      have HO := hid (HR2.out.own (base := G) (Nat.le_refl _) (by rw [fl_len]; unfold maxLen; omega))
      rw [fl_len] at HO
      go_wp2_with fail
      obtain ⟨ao, cap, hv, hs, _⟩ := HO.out.src
      rw [fl_len] at hv
      cases hv
      refine (new_full wr _ 4096 (by simp) hs).mono ?_
      rintro e w2 ⟨Q, F, rfl, l2, f2, k2⟩
      have L2 := hid l2
      have HO2 := hid (HO.out.kp k2 (fun _ _ h => h))
      have HK2 : Hid (Kp (fun _ => False) w w2) := HK.out.trans k2 (fun _ _ h => h)
      have F2 : Hid (∀ k, F k → G < k) := fun k hk => by have := f2 k hk; have := St.lt HR2.out; omega
      clear l2 f2 k2 hs HO HK HR2
      have HG2 : Hid (G < w2.heap.size) := (HO2.out.blk (g := G) rfl).2.1
      have hfl : (fl 4096).length + 1 ≤ 1000000 := by rw [fl_len]; omega
      go_wp2_with (at_builtin; refine wpList_append_rr rfl _ _ rfl G (.slice (some ⟨G, 0, none⟩) 4096 4096) (fl 4096) rfl (HO2.out.kp ((Kp.refl (fun _ => False) w2).alloc _) (fun _ _ h => h)) (some ⟨w2.heap.size, 0, none⟩) 1 1 [⟨100000, 1⟩] rfl rfl (fun e => by cases e) (srcr_new1 w2 ⟨100000, 1⟩) hfl (by have := HG2.out; simp; omega) ?_; intro v3 w3 o3 k3 _; have O3 := hid o3; have K3 : Hid (Kp (fun i => i = G) w2 w3) := (((Kp.refl (fun i => i = G) w2).alloc _).trans k3 (fun i hi e => by simp [Value.ownBlock] at e; exact e.symm)); clear o3 k3; obtain ⟨ao3, cap3, hv3, s3, _, _, hn3⟩ := O3.out.src; rw [List.length_append, fl_len] at hv3; change v3 = .slice ao3 4097 cap3 at hv3; subst hv3)
      have hn0 : ao3 ≠ none := by
        obtain ⟨b, off, e, _⟩ := s3 (by simp)
        rw [e]
        simp
      have L3 := hid (L2.out.kp K3.out (fun i hi e => by have := F2.out i hi; omega))
      refine (new_more w3 ao3 cap3 hn0 s3).mono ?_
      rintro e w4 ⟨rfl, k4⟩
      have L4 := hid (L3.out.kp0 k4)
      have HK4 : Hid (Kp (fun _ => False) w w4) := (HK2.out.trans K3.out (fun i hi e => by have := HG.out; omega)).trans k4 (fun _ _ h => h)
      clear k4 L2 L3 s3 hn3 hn0 O3 K3 HO2 HK2 HG2 hfl
      go_wp2_with (first | (go_at_call 11; refine (HNU.out _ _).mono ?_; rintro e1 w9 ⟨rfl, rfl⟩))
      refine (put_more (L4.out.kp0 ((Kp.refl (fun _ => False) w4).alloc _)) _ _ (by simp) (srcr_new1 w4 ⟨100000, 1⟩)).mono ?_
      rintro e w5 ⟨rfl, k5⟩
      have L5 := hid ((L4.out.kp0 ((Kp.refl (fun _ => False) w4).alloc _)).kp0 k5)
      have HK5 : Hid (Kp (fun _ => False) w w5) := (HK4.out.alloc _).trans k5 (fun _ _ h => h)
      clear k5 L4
      go_wp2_with fail
      refine (cut_more L5.out).mono ?_
      rintro e w6 ⟨rfl, k6⟩
      have L6 := hid (L5.out.kp0 k6)
      have HK6 : Hid (Kp (fun _ => False) w w6) := HK5.out.trans k6 (fun _ _ h => h)
      clear k6 L5
      go_wp2_with fail
      refine (size_full L6.out).mono ?_
      rintro e w7 ⟨rfl, k7⟩
      have L7 := hid (L6.out.kp0 k7)
      have HK7 : Hid (Kp (fun _ => False) w w7) := HK6.out.trans k7 (fun _ _ h => h)
      clear k7 L6
      go_wp2_with fail
      refine (cut_one L7.out).mono ?_
      rintro e w8 ⟨rfl, k8⟩
      have HK8 : Hid (Kp (fun _ => False) w w8) := HK7.out.trans k8 (fun i hi e => by have := HG.out; have := F2.out i e; omega)
      clear k8 L7
      go_wp2_with (first | (go_at_call 11; refine (HNU.out _ _).mono ?_; rintro e1 w9 ⟨rfl, rfl⟩) | (go_at_call 8; refine (HWO.out _).mono ?_; rintro e1 w10 ⟨rfl, k10⟩; have K10 := hid k10; clear k10))
      go_ret
      exact ⟨rfl, (HK8.out.trans K10.out (fun _ _ h => h)).below (Nat.le_refl _) (fun _ h => h.elim)⟩
end Go.Proofs.Ytgfondgejimkkaa
