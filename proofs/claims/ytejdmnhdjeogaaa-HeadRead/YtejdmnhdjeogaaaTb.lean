/- head: a head is taken off bytes. -/
import Derived.Test.YtejdmnhdjeogaaaTa
namespace Go.Proofs.Ytejdmnhdjeogaaa
open Go.RowKit
set_option linter.unusedVariables false
set_option maxRecDepth 100000 in
set_option maxHeartbeats 8000000 in
theorem taken_any (g off n cap : Nat) (zs : List Int) (w : World) (hz : Bz w g off n cap zs) (h5 : 512 ≤ n) : Calls Try.prog 30 #[.slice (some ⟨g, off, none⟩) n cap] w fun e w' => TkP zs e ∧ Kp (fun _ => False) w w' := by
  have hc4 : (4 : Int) ≤ (cap : Int) := by have := hz.cap; omega
  have S0 : Hid (St 26 ((w.alloc (.cells #[.slice (some ⟨g, off, none⟩) n cap] 26)).alloc (.cells zH.cs 24)) w.heap.size #[.slice (some ⟨g, off, none⟩) n cap]) := (St.new 26 w _).kp ((Kp.refl (fun _ => False) _).alloc _) (fun x => x)
  have S1 : Hid (Hb ((w.alloc (.cells #[.slice (some ⟨g, off, none⟩) n cap] 26)).alloc (.cells zH.cs 24)) (w.heap.size + 1) zH) := hid (by have e := Hb.new (w.alloc (.cells #[.slice (some ⟨g, off, none⟩) n cap] 26)) zH; simpa using e)
  have K1 : Hid (Kp (fun _ => False) w ((w.alloc (.cells #[.slice (some ⟨g, off, none⟩) n cap] 26)).alloc (.cells zH.cs 24))) := ((Kp.refl _ _).alloc _).alloc _
  have HZ1 := hid (hz.kp K1.out)
  have HZ := hid hz
  have hcv : ∀ c, (convert 26 9 (.slice (some ⟨g, off, none⟩) 4 c)).run Try.prog ((w.alloc (.cells #[.slice (some ⟨g, off, none⟩) n cap] 26)).alloc (.cells zH.cs 24)) = .ok (.string (strOfNums (zs.take 4))) ((w.alloc (.cells #[.slice (some ⟨g, off, none⟩) n cap] 26)).alloc (.cells zH.cs 24)) := fun c =>
    run_convert_rw _ 26 9 5 Try.underlying26 Try.underlying5 Try.underlying9 _ 4 c (zs.take 4) (by have := hz.len; simp; omega) (fun _ => ⟨g, off, rfl, fun i hi => by
      have hl := hz.len
      rw [HZ1.out.src i (by omega)]
      simp [List.getD, hi]⟩)
  have HM := hid (mark_iff hz.byt)
  have HC : Hid (Cnd zs → nouB (seg zs 152 360) = true ∧ zs.take 4 = mk ∧ txtC zs 84 64 = 0 ∧ May (rdH zs)) := fun c => ⟨c.nou, c.mark, c.text, c.may⟩
  have HC2 : Hid (nouB (seg zs 152 360) = true → zs.take 4 = mk → txtC zs 84 64 = 0 → May (rdH zs) → Cnd zs) := fun a b c d => ⟨by have := hz.len; omega, a, b, c, d⟩
  have HWF := hid (rdH_wf zs hz.byt (by have := hz.len; omega))
  obtain ⟨sv, hsv⟩ : ∃ sv, sv = strOfNums (zs.take 4) := ⟨_, rfl⟩
  rw [← hsv] at hcv HM
  clear hz hsv
  go_enter Try.func30, Try.ntmps30
  cases hn : nouB (seg zs 152 360) with
  | false =>
    go_wp2_with (first | (go_at_call 40; refine (nou_call HZ1.out h5 S0.out).mono ?_; rintro e w' ⟨rfl, ew⟩; rw [hn]) | (refine wpList_store_hd rfl (.tmp 2) (.tmp 21) rfl (w.heap.size + 1) rfl (h := zH) (h' := zH) rfl S1.out ?_; intro w2 b2 k2))
    refine bodyPost_ret (results_cell1 Try.results30 _ _ _ rfl b2.load) rfl ⟨Or.inr ⟨fun c => (by have := (HC.out c).1; rw [hn] at this; cases this), rfl⟩, K1.out.trans k2 (fun i h1 h2 => by omega)⟩
  | true =>
    by_cases hm : sv = ⟨#[80, 65, 76, 49]⟩
    · have hmk := HM.out.1 hm
      have HMK := hid hmk
      clear hmk
      subst hm
      go_wp2_with (first | (go_at_call 40; refine (nou_call HZ1.out h5 S0.out).mono ?_; rintro e w' ⟨rfl, ew⟩; rw [hn]) | (go_at_call 36; refine (fields_any (w.heap.size + 1 + 1) _).mono ?_; rintro e w3 ⟨G, rfl, hG, s3, k3⟩))
      have W2s : Hid (Hb (((w.alloc (.cells #[.slice (some ⟨g, off, none⟩) n cap] 26)).alloc (.cells zH.cs 24)).alloc (.cells zH.cs 24)) (w.heap.size + 1 + 1) zH) := hid (by have e := Hb.new ((w.alloc (.cells #[.slice (some ⟨g, off, none⟩) n cap] 26)).alloc (.cells zH.cs 24)) zH; simpa using e)
      have kA : Kp (fun _ => False) ((w.alloc (.cells #[.slice (some ⟨g, off, none⟩) n cap] 26)).alloc (.cells zH.cs 24)) (((w.alloc (.cells #[.slice (some ⟨g, off, none⟩) n cap] 26)).alloc (.cells zH.cs 24)).alloc (.cells zH.cs 24)) := (Kp.refl _ _).alloc _
      have kB : Kp (fun _ => False) (((w.alloc (.cells #[.slice (some ⟨g, off, none⟩) n cap] 26)).alloc (.cells zH.cs 24)).alloc (.cells zH.cs 24)) w3 := k3
      have hGl : w.heap.size + 1 + 1 < G := by have h1 := W2s.out.lt; have h2 : (((w.alloc (.cells #[.slice (some ⟨g, off, none⟩) n cap] 26)).alloc (.cells zH.cs 24)).alloc (.cells zH.cs 24)).heap.size ≤ G := hG; omega
      have A0 : Hid (St 24 w3 (w.heap.size + 1 + 1) (hcs zs 0)) := hid (by rw [hcs_zero]; exact W2s.out.kp kB (fun x => x))
      have A1 := hid (S1.out.kp (kA.trans kB (fun _ _ x => x)) (fun x => x))
      have A2 := hid (S0.out.kp (kA.trans kB (fun _ _ x => x)) (fun x => x))
      have A3 := hid s3
      have A4 := hid (K1.out.trans (kA.trans kB (fun _ _ x => x)) (fun _ _ x => x))
      clear S0 S1 K1 HZ1 hcv W2s kA kB s3 k3 hG
      generalize hB : w.heap.size = B at *
      go_loopw [25] (fun iv wr => ∃ k : Nat, k ≤ 14 ∧ iv = .int .i64 k ∧ St 24 wr (B + 1 + 1) (hcs zs k) ∧ Hb wr (B + 1) zH ∧ St 26 wr B #[.slice (some ⟨g, off, none⟩) n cap] ∧ St 60 wr G (fcs (B + 1 + 1)).toArray ∧ Kp (fun _ => False) w wr) (fun iv _ => 14 - (intOf iv).toNat)
      case atStart => exact ⟨0, Nat.zero_le _, rfl, A0.out, A1.out, A2.out, A3.out, A4.out⟩
      case round =>
        obtain ⟨k, hk14, rfl, a0, a1, a2, a3, a4⟩ := hrel
        clear A0 A1 A2 A3 A4
        have A0 := hid a0; have A1 := hid a1; have A2 := hid a2; have A3 := hid a3; have A4 := hid a4
        have b0 : wr.cell? ⟨B, 0, none⟩ = some (.slice (some ⟨g, off, none⟩) n cap) := a2.cell 0
        have bl := a2.lt
        clear a0 a1 a2 a3 a4
        by_cases hk : k < 14
        · have gg := fcs_get (B + 1 + 1) hk
          have y0 := A3.out.cell (k * 4); have y1 := A3.out.cell (k * 4 + 1); have y2 := A3.out.cell (k * 4 + 2); have y3 := A3.out.cell (k * 4 + 3)
          rw [List.getElem?_toArray, gg.1] at y0; rw [List.getElem?_toArray, gg.2.1] at y1; rw [List.getElem?_toArray, gg.2.2.1] at y2; rw [List.getElem?_toArray, gg.2.2.2] at y3
          unfold mv at y2 y3
          clear gg
          have TF : Hid (∀ w, St 24 w (B + 1 + 1) (hcs zs k) → Calls Try.prog (tfn k + 1) #[.agg #[.pointer (some ⟨B + 1 + 1, k, none⟩)], .int .u64 (sgv zs k)] w fun e w' => (∃ v, e = .returned v) ∧ St 24 w' (B + 1 + 1) (hcs zs (k + 1)) ∧ Kp (fun j => j = B + 1 + 1) w w') := fun w hb => keep_fld zs hk (B + 1 + 1) w hb
          have ht := tfn_cases hk
          generalize tfn k = f at *
          rcases ht with rfl | rfl | rfl
          · go_wp2_with (first | (go_at_call 42; refine (get_fld ((HZ.out.kp A4.out).kp ((Kp.refl (fun _ => False) _).alloc _)) h5 hk).mono ?_; rintro e w' ⟨rfl, ew⟩) | (go_at_call 56; refine (TF.out _ (A0.out.kp ((Kp.refl (fun _ => False) _).alloc _) (fun x => x))).mono ?_; rintro e w5 ⟨⟨v, rfl⟩, s5, k5⟩))
            have KA : Kp (fun i => i = B + 1 + 1) wr w5 := ((Kp.refl (fun i => i = B + 1 + 1) wr).alloc _).trans k5 (fun _ _ h => h)
            refine ⟨⟨k + 1, by omega, by simp, s5, A1.out.kp KA (by omega), A2.out.kp KA (by omega), A3.out.kp KA (by omega), A4.out.trans KA (fun i h1 h2 => by omega)⟩, by simp only [intOf]; omega⟩
          · go_wp2_with (first | (go_at_call 42; refine (get_fld ((HZ.out.kp A4.out).kp ((Kp.refl (fun _ => False) _).alloc _)) h5 hk).mono ?_; rintro e w' ⟨rfl, ew⟩) | (go_at_call 58; refine (TF.out _ (A0.out.kp ((Kp.refl (fun _ => False) _).alloc _) (fun x => x))).mono ?_; rintro e w5 ⟨⟨v, rfl⟩, s5, k5⟩))
            have KA : Kp (fun i => i = B + 1 + 1) wr w5 := ((Kp.refl (fun i => i = B + 1 + 1) wr).alloc _).trans k5 (fun _ _ h => h)
            refine ⟨⟨k + 1, by omega, by simp, s5, A1.out.kp KA (by omega), A2.out.kp KA (by omega), A3.out.kp KA (by omega), A4.out.trans KA (fun i h1 h2 => by omega)⟩, by simp only [intOf]; omega⟩
          · go_wp2_with (first | (go_at_call 42; refine (get_fld ((HZ.out.kp A4.out).kp ((Kp.refl (fun _ => False) _).alloc _)) h5 hk).mono ?_; rintro e w' ⟨rfl, ew⟩) | (go_at_call 60; refine (TF.out _ (A0.out.kp ((Kp.refl (fun _ => False) _).alloc _) (fun x => x))).mono ?_; rintro e w5 ⟨⟨v, rfl⟩, s5, k5⟩))
            have KA : Kp (fun i => i = B + 1 + 1) wr w5 := ((Kp.refl (fun i => i = B + 1 + 1) wr).alloc _).trans k5 (fun _ _ h => h)
            refine ⟨⟨k + 1, by omega, by simp, s5, A1.out.kp KA (by omega), A2.out.kp KA (by omega), A3.out.kp KA (by omega), A4.out.trans KA (fun i h1 h2 => by omega)⟩, by simp only [intOf]; omega⟩
        · obtain rfl : k = 14 := by omega
          have f14 := A0.out.frozen 14
          have l14 := A0.out.lt
          have y14 : wr.cell? ⟨B + 1 + 1, 14, none⟩ = some (.string ⟨#[]⟩) := A0.out.cell 14
          have st : Hid (∀ v, St 24 (wr.setCell ⟨B + 1 + 1, 14, none⟩ v) (B + 1 + 1) ((hcs zs 14).set! 14 v)) := fun v => A0.out.set 14 v
          have kp : Hid (∀ v, Kp (fun i => i = B + 1 + 1) wr (wr.setCell ⟨B + 1 + 1, 14, none⟩ v)) := fun v => kp_setCell _ _ _ _ _ rfl
          have HX : Hid (Hb (wr.setCell ⟨B + 1 + 1, 14, none⟩ (.string (strOfNums (txtS zs 84 64)))) (B + 1 + 1) (rdH zs)) := hid (by have e := st.out (.string (strOfNums (txtS zs 84 64))); rw [hcs_end] at e; exact e)
          have HY : Hid (∀ v, Hb (wr.setCell ⟨B + 1 + 1, 14, none⟩ v) (B + 1) zH) := fun v => A1.out.kp (kp.out v) (by omega)
          have HK : Hid (∀ v, Kp (fun _ => False) w (wr.setCell ⟨B + 1 + 1, 14, none⟩ v)) := fun v => A4.out.trans (kp.out v) (fun i h1 h2 => by omega)
          have hnl : (rdH zs).name.size ≤ 9223372036854775807 := by
            have e : (rdH zs).name = strOfNums (txtS zs 84 64) := rfl
            rw [e, str_size]
            have hb := HZ.out.big
            have hl := HZ.out.len
            unfold txtS
            split
            · have : ((zs.drop ((84 : Int).toNat + 4)).take (txtN zs (84 : Int).toNat).toNat).length ≤ zs.length := by simp; omega
              omega
            · simp
          have HNL := hid hnl
          clear hnl st kp
          by_cases ht : txtC zs 84 64 = 0
          · by_cases hmay : May (rdH zs)
            · have HMA := hid hmay
              clear hmay
              go_wp2_with (first | (go_at_call 43; refine (txt_fld (HZ.out.kp A4.out)).mono ?_; rintro e w' ⟨rfl, ew⟩; rw [ht]) | (refine wpList_load_hd_g (by rfl) (.tmp 4) rfl (B + 1 + 1) rfl HX.out ?_) | (go_at_call 21; refine (may_true HWF.out HMA.out).mono ?_; rintro e w7 ⟨rfl, k7⟩) | (refine wpList_load_hd rfl (.tmp 4) rfl (B + 1 + 1) rfl (HX.out.kp k7 (fun x => x)) ?_) | (refine wpList_store_hd rfl (.tmp 2) (.tmp 58) rfl (B + 1) rfl (h := zH) (h' := rdH zs) rfl ((HY.out _).kp k7 (fun x => x)) ?_; intro w8 b8 k8))
              refine bodyPost_ret (results_cell1 Try.results30 _ _ _ rfl b8.load) rfl ⟨Or.inl ⟨HC2.out hn HMK.out ht HMA.out, rfl⟩, ((HK.out _).trans k7 (fun _ _ x => x)).trans k8 (fun i h1 h2 => by omega)⟩
            · have HMA := hid hmay
              clear hmay
              go_wp2_with (first | (go_at_call 43; refine (txt_fld (HZ.out.kp A4.out)).mono ?_; rintro e w' ⟨rfl, ew⟩; rw [ht]) | (refine wpList_load_hd_g (by rfl) (.tmp 4) rfl (B + 1 + 1) rfl HX.out ?_) | (go_at_call 21; refine (may_false HWF.out HNL.out HMA.out).mono ?_; rintro e w7 ⟨rfl, k7⟩) | (refine wpList_store_hd rfl (.tmp 2) (.tmp 57) rfl (B + 1) rfl (h := zH) (h' := zH) rfl ((HY.out _).kp k7 (fun x => x)) ?_; intro w8 b8 k8))
              refine bodyPost_ret (results_cell1 Try.results30 _ _ _ rfl b8.load) rfl ⟨Or.inr ⟨fun c => HMA.out (HC.out c).2.2.2, rfl⟩, ((HK.out _).trans k7 (fun _ _ x => x)).trans k8 (fun i h1 h2 => by omega)⟩
          · have HNT : Hid (¬ Cnd zs) := fun c => ht (HC.out c).2.2.1
            have ht2 : (txtC zs 84 64 != 0) = true := by simpa using ht
            have HTT : Hid (∀ w, Bz w g off n cap zs → Calls Try.prog 43 #[.slice (some ⟨g, off, none⟩) n cap, .int .i64 84, .int .i64 64] w fun e w' => e = .returned (.tuple #[.string (strOfNums (txtS zs 84 64)), .int .i64 (txtC zs 84 64)]) ∧ w' = w) := fun w hz => txt_fld hz
            clear HC HC2 HX
            generalize txtC zs 84 64 = tc at *
            go_wp2_with (first | (go_at_call 43; refine (HTT.out _ (HZ.out.kp A4.out)).mono ?_; rintro e w' ⟨rfl, ew⟩) | (refine wpList_store_hd rfl (.tmp 2) (.tmp 57) rfl (B + 1) rfl (h := zH) (h' := zH) rfl (HY.out _) ?_; intro w8 b8 k8))
            refine bodyPost_ret (results_cell1 Try.results30 _ _ _ rfl b8.load) rfl ⟨Or.inr ⟨HNT.out, rfl⟩, (HK.out _).trans k8 (fun i h1 h2 => by omega)⟩
    · have hm2 : (sv.toList == [80, 65, 76, 49]) = false := by
        cases hq : (sv.toList == [80, 65, 76, 49]) with
        | false => rfl
        | true => exact absurd (str_eq (b := ⟨#[80, 65, 76, 49]⟩) (by rw [show (⟨#[80, 65, 76, 49]⟩ : ByteArray).toList = [80, 65, 76, 49] by rw [ByteArray.toList_eq]]; exact hq)) hm
      go_wp2_with (first | (go_at_call 40; refine (nou_call HZ1.out h5 S0.out).mono ?_; rintro e w' ⟨rfl, ew⟩; rw [hn]) | (refine wpList_store_hd rfl (.tmp 2) (.tmp 21) rfl (w.heap.size + 1) rfl (h := zH) (h' := zH) rfl S1.out ?_; intro w2 b2 k2))
      refine bodyPost_ret (results_cell1 Try.results30 _ _ _ rfl b2.load) rfl ⟨Or.inr ⟨fun c => hm (HM.out.2 (HC.out c).2.1), rfl⟩, K1.out.trans k2 (fun i h1 h2 => by omega)⟩
end Go.Proofs.Ytejdmnhdjeogaaa
