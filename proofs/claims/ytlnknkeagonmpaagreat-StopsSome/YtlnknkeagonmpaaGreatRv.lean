/- The document's store: Flush. -/
import Derived.Test.YtlnknkeagonmpaaGreatRu
namespace Go.Proofs.YtlnknkeagonmpaaGreat
open Go.RowKit

/-- Pieces put over bytes. -/
def fov (ps : List (Nat × ByteArray)) (b : ByteArray) : ByteArray := ps.foldl (fun b p => ovb b p.1 p.2) b
theorem fov_size (ps : List (Nat × ByteArray)) (b : ByteArray) (h : ∀ q ∈ ps, q.1 + q.2.size ≤ b.size) : (fov ps b).size = b.size := by
  induction ps generalizing b with
  | nil => rfl
  | cons x ps ih =>
    have h1 := ovb_size b x.1 x.2 (h x (by simp))
    show (fov ps (ovb b x.1 x.2)).size = _
    rw [ih _ (fun q hq => by rw [h1]; exact h q (by simp [hq])), h1]
theorem fov_next (ps : List (Nat × ByteArray)) (b : ByteArray) (k : Nat) (hk : k < ps.length) : fov (ps.take (k + 1)) b = ovb (fov (ps.take k) b) (ps.getD k (0, ⟨#[]⟩)).1 (ps.getD k (0, ⟨#[]⟩)).2 := by
  rw [List.take_add_one, List.getElem?_eq_getElem hk, List.getD_eq_getElem?_getD, List.getElem?_eq_getElem hk]
  unfold fov
  rw [List.foldl_append]
  rfl
/-- A file that was flushed. -/
def rff (f : Rf) : Rf := ⟨f.name, fov f.ps f.last, []⟩
theorem psrc_nil {D : Nat → Prop} {w : World} {base : Nat} {v : Value} (h : w.ownsRow base 101 2 v 0 []) : PSrc D w v [] := by
  rcases h.2 with ⟨rfl, h1⟩ | ⟨g, cap, cur, rfl, h1, h2, h3, h4, h5, h6⟩
  · exact ⟨none, 0, rfl, Nat.le_refl _, fun _ => rfl, fun hp => absurd hp (by simp)⟩
  · exact ⟨_, cap, rfl, h3, fun e => by (cases e), fun hp => absurd hp (by simp)⟩
set_option maxRecDepth 100000 in
set_option maxHeartbeats 1000000 in
theorem rflush_err (s : ByteArray) (v : Value) (w : World) (e0 i0 : Int) (hf : Calls Tryz.prog 51 #[v, .string s] w fun e w' => e = .returned (.tuple #[.int .i64 i0, .int .i64 e0]) ∧ w' = w) (he : e0 = 2 ∨ e0 = 7) :
    Calls Tryz.prog 27 #[v, .string s] w fun e w' => e = .returned (.int .i64 e0) ∧ w' = w := by
  have HF := hid hf
  clear hf
  rcases he with rfl | rfl
  · go_enter Tryz.func27, Tryz.ntmps27
    go_wp2_with (first | (go_at_call 51; refine HF.out.mono ?_; rintro _ _ ⟨rfl, rfl⟩))
    go_ret
    exact ⟨rfl, rfl⟩
  · go_enter Tryz.func27, Tryz.ntmps27
    go_wp2_with (first | (go_at_call 51; refine HF.out.mono ?_; rintro _ _ ⟨rfl, rfl⟩))
    go_ret
    exact ⟨rfl, rfl⟩
set_option maxRecDepth 100000 in
set_option maxHeartbeats 4000000 in
theorem rflush_good (D : Nat → Prop) (w : World) (g : Nat) (fv : Value) (steps : Nat) (fs : List (Rf × Value)) (h : Rs D w g fv steps fs) (s : ByteArray) (hn : nmd s = true) (i : Nat) (hi : i < fs.length) (he : rnm fs i = s) (hb : ∀ j, j < i → rnm fs j ≠ s) (hsb : steps < 1000000000) :
    Calls Tryz.prog 27 #[.pointer (some ⟨g, 0, none⟩), .string s] w fun e w' => e = .returned (.int .i64 0) ∧ ∃ pv', Rs D w' g fv (steps + 1) (fs.set i (rff (fs.getD i zrf).1, pv')) ∧ Kp (fun j => j = g ∨ fv.ownBlock = some j) w w' := by
  have HF := hid (rfind_at D w g fv steps fs h s hn i hi he hb)
  obtain ⟨b, fc, hfv, _⟩ := h.cells (by omega)
  have HR := hid h
  have hnf := h.nf
  clear h hn hb he
  go_enter Tryz.func27, Tryz.ntmps27
  go_wp2_with (first | (go_at_call 51; refine HF.out.mono ?_; rintro _ _ ⟨rfl, hw⟩; replace hw := hw.symm; subst hw))
  refine (rstep_any fv g steps w HR.out.st (by omega)).mono ?_
  rintro _ _ ⟨rfl, rfl⟩
  have hr1 := HR.out.step hsb
  have k1 : Kp (fun i => i = g) w (w.setCell ⟨g, 2, none⟩ (.int .i64 ((steps + 1 : Nat) : Int))) := kp_setCell w g 2 _ (fun i => i = g) rfl
  generalize w.setCell ⟨g, 2, none⟩ (.int .i64 ((steps + 1 : Nat) : Int)) = W1 at hr1 k1 ⊢
  have HR1 := hid hr1
  have HK1 := hid k1
  have c1 : W1.cell? ⟨g, 0, none⟩ = some (.slice (some ⟨b, 0, none⟩) fs.length fc) := by rw [← hfv]; exact hr1.st.cell 0
  obtain ⟨_, _, e1, hcs⟩ := hr1.cells (by omega)
  rw [hfv] at e1
  simp only [Value.slice.injEq, Option.some.injEq, Addr.mk.injEq] at e1
  obtain ⟨⟨rfl, -⟩, -, rfl⟩ := e1
  obtain ⟨y0, y1, y2⟩ := hcs i hi
  obtain ⟨pao, pcap, hpv, _⟩ := hr1.pc _ (getD_memR fs i hi)
  rw [hpv] at y2
  rw [Nat.zero_add] at y0 y1 y2
  have hlb := hr1.lb _ (getD_memR fs i hi)
  obtain ⟨cur, hcur⟩ : ∃ cur, St 75 W1 b cur := by
    rcases hr1.row.2 with ⟨e2, _⟩ | ⟨g', cap', cur, e, h1, h2, h3⟩
    · rw [hfv] at e2; simp at e2
    · rw [hfv] at e
      simp only [Value.slice.injEq, Option.some.injEq, Addr.mk.injEq] at e
      exact ⟨cur, e.1.1 ▸ h2⟩
  have HSB := hid hcur
  clear hcur
  obtain ⟨ff, hff⟩ : ∃ f, f = (fs.getD i zrf).1 := ⟨_, rfl⟩
  have HFE := hid hff
  have HPS : Hid (PSrc D W1 (.slice pao ff.ps.length pcap) ff.ps) := by
    have := hr1.pc _ (getD_memR fs i hi)
    rw [hpv, ← hff] at this
    exact this
  have HPW : Hid (∀ q ∈ ff.ps, q.1 + q.2.size ≤ ff.last.size) := by
    have := hr1.pw _ (getD_memR fs i hi)
    rw [← hff] at this
    exact this
  rw [← hff] at y0 y1 y2 hlb
  clear hr1 k1 HF hcs hff hpv
  have HCE : ∀ W, Hid (Kp (fun _ => False) W1 W) → ∀ pb off, pao = some ⟨pb, off, none⟩ → ∀ j u, (rps ff.ps)[j]? = some u → W.cell? ⟨pb, off + j, none⟩ = some u := fun W hW pb off e j u hu => by
    have := (psrc_news (HPS.out.kp hW.out (fun _ _ h => h))).2.2.2 _ e j u hu
    rwa [add_o] at this
  have HNO := hid (psrc_news HPS.out).2.2.1
  have hpcp := (psrc_news HPS.out).2.1
  have hnp : ff.ps.length ≤ 1000000000 := by
    have := HR1.out.np _ (getD_memR fs i hi)
    rw [← HFE.out] at this
    exact this
  go_wp2_with fail
  have X3 := St.new 75 W1 #[.string ff.name, .string ff.last, .slice pao ff.ps.length pcap]
  have K3 : Kp (fun _ => False) W1 (W1.alloc (.cells #[.string ff.name, .string ff.last, .slice pao ff.ps.length pcap] 75)) := (Kp.refl _ _).alloc _
  generalize W1.alloc (.cells #[.string ff.name, .string ff.last, .slice pao ff.ps.length pcap] 75) = W2 at X3 K3 ⊢
  have HX3 := hid X3
  have HK3 := hid K3
  clear X3 K3 y0 y1 y2 c1
  go_loopw [11] (fun iv wr => ∃ k : Nat, k ≤ ff.ps.length ∧ iv = .int .i64 k ∧ St 75 wr W1.heap.size #[.string ff.name, .string (fov (ff.ps.take k) ff.last), .slice pao ff.ps.length pcap] ∧ Kp (fun _ => False) W1 wr) (fun iv _ => ff.ps.length - (intOf iv).toNat)
  case atStart => exact ⟨0, Nat.zero_le _, rfl, HX3.out, HK3.out⟩
  case round =>
    clear HX3 HK3
    obtain ⟨k, hk, rfl, hst, hkp⟩ := hrel
    have HST := hid hst
    have HKP := hid hkp
    clear hst hkp
    by_cases hlt : k < ff.ps.length
    · have hli : (k : Int) < (ff.ps.length : Int) := by omega
      obtain ⟨pb, poff, rfl⟩ : ∃ pb poff, pao = some ⟨pb, poff, none⟩ := by
        obtain ⟨ao', cap', e, _, _, h3⟩ := HPS.out
        simp only [Value.slice.injEq] at e
        obtain ⟨b', o', e2, _⟩ := h3 (by omega)
        exact ⟨b', o', e.1.trans e2⟩
      obtain ⟨e1, e2⟩ := rps_get ff.ps k hlt
      have q0 := HCE wr HKP pb poff rfl _ _ e1
      have q1 := HCE wr HKP pb poff rfl _ _ e2
      have x1 : wr.cell? ⟨W1.heap.size, 1, none⟩ = some (.string (fov (ff.ps.take k) ff.last)) := HST.out.cell 1
      have x2 : wr.cell? ⟨W1.heap.size, 2, none⟩ = some (.slice (some ⟨pb, poff, none⟩) ff.ps.length pcap) := HST.out.cell 2
      have hwi : (ff.ps.getD k (0, ⟨#[]⟩)).1 + (ff.ps.getD k (0, ⟨#[]⟩)).2.size ≤ ff.last.size := HPW.out _ (by rw [List.getD_eq_getElem?_getD, List.getElem?_eq_getElem hlt]; exact List.getElem_mem hlt)
      have hsz := fov_size (ff.ps.take k) ff.last (fun q hq => HPW.out q (List.mem_of_mem_take hq))
      have HNX := hid (fov_next ff.ps ff.last k hlt)
      rw [← Nat.add_assoc] at q1
      clear e1 e2 HCE HNO
      generalize hL : fov (ff.ps.take k) ff.last = Lk at *
      generalize (ff.ps.getD k (0, ⟨#[]⟩)).1 = pa at *
      generalize (ff.ps.getD k (0, ⟨#[]⟩)).2 = px at *
      go_wp2_with fail
      refine wp_region_G (fun w' => w'.cell? ⟨W1.heap.size, 1, none⟩ = some (.string Lk) ∧ w'.cell? ⟨W1.heap.size, 2, none⟩ = some (.slice (some ⟨pb, poff, none⟩) ff.ps.length pcap) ∧ w'.cell? ⟨pb, poff + k * 2, none⟩ = some (.int .i64 (pa : Int)) ∧ w'.cell? ⟨pb, poff + k * 2 + 1, none⟩ = some (.string px)) [16] hmix ⟨x1, x2, q0, q1⟩ (fun h0 => ?_)
      refine wpAnyG_takeW (i := 0) (v := .pointer (some ⟨W1.heap.size, 1, none⟩)) rfl (by kernel_rfl) (fun _ _ _ h => h) (Or.inl ⟨by rfl, fun w _ => by (go_simp)⟩) ?_
      refine wpAnyG_take (i := 1) (v := .string Lk) rfl (by kernel_rfl) (fun _ _ _ h => h) (Or.inl ⟨by rfl, fun w hSw => by (obtain ⟨s1, s2, s3, s4⟩ := hSw; go_simp)⟩) h0 ?_
      refine wpAnyG_takeW (i := 2) (v := .pointer (some ⟨W1.heap.size, 2, none⟩)) rfl (by kernel_rfl) (fun _ _ _ h => h) (Or.inl ⟨by rfl, fun w _ => by (go_simp)⟩) ?_
      refine wpAnyG_take (i := 3) (v := .slice (some ⟨pb, poff, none⟩) ff.ps.length pcap) rfl (by kernel_rfl) (fun _ _ _ h => h) (Or.inl ⟨by rfl, fun w hSw => by (obtain ⟨s1, s2, s3, s4⟩ := hSw; go_simp)⟩) h0 ?_
      refine wpAnyG_takeW (i := 4) (v := .int .i64 k) rfl (by kernel_rfl) (fun _ _ _ h => h) (Or.inl ⟨by rfl, fun w _ => by (go_simp)⟩) ?_
      refine wpAnyG_takeW (i := 5) (v := .pointer (some ⟨pb, poff + k * 2, none⟩)) rfl (by kernel_rfl) (fun _ _ _ h => h) (Or.inl ⟨by rfl, fun w _ => by (go_simp)⟩) ?_
      refine wpAnyG_takeW (i := 6) (v := .pointer (some ⟨pb, poff + k * 2, none⟩)) rfl (by kernel_rfl) (fun _ _ _ h => h) (Or.inl ⟨by rfl, fun w _ => by (go_simp)⟩) ?_
      refine wpAnyG_take (i := 7) (v := .int .i64 (pa : Int)) rfl (by kernel_rfl) (fun _ _ _ h => h) (Or.inl ⟨by rfl, fun w hSw => by (obtain ⟨s1, s2, s3, s4⟩ := hSw; go_simp)⟩) h0 ?_
      refine wpAnyG_takeW (i := 8) (v := .pointer (some ⟨W1.heap.size, 2, none⟩)) rfl (by kernel_rfl) (fun _ _ _ h => h) (Or.inl ⟨by rfl, fun w _ => by (go_simp)⟩) ?_
      refine wpAnyG_take (i := 9) (v := .slice (some ⟨pb, poff, none⟩) ff.ps.length pcap) rfl (by kernel_rfl) (fun _ _ _ h => h) (Or.inl ⟨by rfl, fun w hSw => by (obtain ⟨s1, s2, s3, s4⟩ := hSw; go_simp)⟩) h0 ?_
      refine wpAnyG_takeW (i := 10) (v := .int .i64 k) rfl (by kernel_rfl) (fun _ _ _ h => h) (Or.inl ⟨by rfl, fun w _ => by (go_simp)⟩) ?_
      refine wpAnyG_takeW (i := 11) (v := .pointer (some ⟨pb, poff + k * 2, none⟩)) rfl (by kernel_rfl) (fun _ _ _ h => h) (Or.inl ⟨by rfl, fun w _ => by (go_simp)⟩) ?_
      refine wpAnyG_takeW (i := 12) (v := .pointer (some ⟨pb, poff + k * 2 + 1, none⟩)) rfl (by kernel_rfl) (fun _ _ _ h => h) (Or.inl ⟨by rfl, fun w _ => by (go_simp)⟩) ?_
      refine wpAnyG_take (i := 13) (v := .string px) rfl (by kernel_rfl) (fun _ _ _ h => h) (Or.inl ⟨by rfl, fun w hSw => by (obtain ⟨s1, s2, s3, s4⟩ := hSw; go_simp)⟩) h0 ?_
      refine wpAnyG_one (i := 14) (by kernel_rfl) rfl (fun K hK => ?_)
      go_simp
      refine (rover_any Lk px pa _ (by omega) (by omega)).mono ?_
      rintro _ w6 ⟨rfl, k6⟩
      have k7 : Kp (fun _ => False) wr w6 := (Kp.refl _ _).drew.trans k6 (fun _ _ h => h)
      have X6 := HST.out.kp k7 (fun h => h)
      have K6 := HKP.out.trans k7 (fun _ _ h => h.elim)
      go_wp2_with fail
      refine hK.out _ _ (fun _ _ => ⟨X6.cell 1, X6.cell 2, kp_cell k7 q0 (fun h => h), kp_cell k7 q1 (fun h => h)⟩) ?_
      clear hK K h0
      refine wpAnyG_takeW (i := 15) (v := .pointer (some ⟨W1.heap.size, 1, none⟩)) rfl (by kernel_rfl) (fun _ _ _ h => h) (Or.inl ⟨by rfl, fun w _ => by (go_simp)⟩) ?_
      refine wpAnyG_one (i := 16) (by kernel_rfl) rfl (fun K hK => ?_)
      have y1 : w6.cell? ⟨W1.heap.size, 1, none⟩ = some (.string Lk) := X6.cell 1
      have yf := X6.frozen 1
      have yl := X6.lt
      go_simp
      refine hK.out _ _ (fun h => absurd h (by decide)) ?_
      clear hK K
      refine wpAnyG_done (by kernel_rfl) ?_ _
      have X7 := hid (X6.set 1 (.string (ovb Lk pa px)))
      have K7 := hid (K6.trans (kp_setCell w6 W1.heap.size 1 (.string (ovb Lk pa px)) (fun i => W1.heap.size ≤ i) (Nat.le_refl _)) (fun i h1 h2 => by omega))
      clear X6 K6 y1 yf yl
      go_wp2_with fail
      refine ⟨⟨k + 1, by omega, by simp, ?_, K7.out⟩, by simp only [intOf]; omega⟩
      rw [HNX.out]
      exact X7.out
    · obtain rfl : k = ff.ps.length := by omega
      have hli : ¬ (ff.ps.length : Int) < (ff.ps.length : Int) := by omega
      rw [List.take_length] at HST
      have x2 : wr.cell? ⟨W1.heap.size, 2, none⟩ = some (.slice pao ff.ps.length pcap) := HST.out.cell 2
      have yf := HST.out.frozen 2
      have hsl := HST.out.lt
      have HX := hid (HST.out.set 2 (.slice none 0 0))
      have HKX := hid (HKP.out.trans (kp_setCell wr W1.heap.size 2 (.slice none 0 0) (fun i => W1.heap.size ≤ i) (Nat.le_refl _)) (fun i h1 h2 => by omega))
      clear hlt HCE
      cases pao with
      | none =>
        obtain ⟨hl0, hp0⟩ := HNO.out rfl
        rw [hl0, hp0] at x2
        rw [hl0]
        go_wp2_with fail
        have X6 := HX.out
        have K6 := HKX.out
        generalize wr.setCell ⟨W1.heap.size, 2, none⟩ (Value.slice none 0 0) = W6 at X6 K6 ⊢
        have X7 := hid X6
        have K7 := hid K6
        have x0 : W6.cell? ⟨W1.heap.size, 0, none⟩ = some (.string ff.name) := X6.cell 0
        have x1 : W6.cell? ⟨W1.heap.size, 1, none⟩ = some (.string (fov ff.ps ff.last)) := X6.cell 1
        have x2 : W6.cell? ⟨W1.heap.size, 2, none⟩ = some (.slice none 0 0) := X6.cell 2
        have hr6 := HR1.out.kp K6 (fun h => h) (fun _ _ h => h) (fun _ _ h => h)
        have c6 : W6.cell? ⟨g, 0, none⟩ = some (.slice (some ⟨b, 0, none⟩) fs.length fc) := by rw [← hfv]; exact hr6.st.cell 0
        have hii : (i : Int) < (fs.length : Int) := by omega
        clear X6 K6 hr6
        refine wp_region_tail hmix (by kernel_rfl) ?_
        dsimp only [List.dropLast, List.getLast]
        repeat (gi_big_quiet_step (fail))
        refine wpQuietIn_nil ?_
        intro _ hw'
        obtain ⟨nq, hw2⟩ := hw'
        subst hw2
        have kq := drewN_kp (fun _ => False) W6 nq
        generalize W6.drewN nq = X9 at kq ⊢
        have K9 := hid (K7.out.trans kq (fun _ _ h => h))
        have sb := HSB.out.kp K9.out (fun h => h)
        obtain ⟨_, _, e9, hcs9⟩ := (HR1.out.kp K9.out (fun h => h) (fun _ _ h => h) (fun _ _ h => h)).cells (by omega)
        rw [hfv] at e9
        simp only [Value.slice.injEq, Option.some.injEq, Addr.mk.injEq] at e9
        obtain ⟨⟨e91, -⟩, -, -⟩ := e9
        subst e91
        obtain ⟨z0, z1, z2⟩ := hcs9 i hi
        rw [Nat.zero_add] at z0 z1 z2
        have f0 := sb.frozen (i * 3)
        have f1 := sb.frozen (i * 3 + 1)
        have f2 := sb.frozen (i * 3 + 2)
        have hbl9 := sb.lt
        clear hcs9 sb kq
        gi_wp2_with fail
        go_wp2_with fail
        go_ret
        have hps9 : PSrc D X9 (.slice none 0 0) (rff ff).ps := psrc_nil (base := 0) (World.ownsRow_nil _ _ _ _)
        have hfz := fov_size ff.ps ff.last HPW.out
        have hput := HR1.out.put3 (nf := rff ff) hfv hi K9.out hps9 (fun j h => h) (fun j h => .inl h) (fun j h => Nat.lt_of_lt_of_le (HR1.out.db j h) K9.out.size) (by simp [rff]) (fun q hq => by simp [rff] at hq) (by show (fov ff.ps ff.last).size ≤ _; omega)
        exact ⟨rfl, _, by rw [← HFE.out]; exact hput.1, (HK1.out.mono (G := fun j => j = g ∨ fv.ownBlock = some j) (fun _ _ h => .inl h)).trans hput.2 (fun _ _ h => .inr h)⟩
      | some ad =>
        go_wp2_with fail
        all_goals
         (have X6 := HX.out
          have K6 := HKX.out
          generalize wr.setCell ⟨W1.heap.size, 2, none⟩ (Value.slice none 0 0) = W6 at X6 K6 ⊢
          have X7 := hid X6
          have K7 := hid K6
          have x0 : W6.cell? ⟨W1.heap.size, 0, none⟩ = some (.string ff.name) := X6.cell 0
          have x1 : W6.cell? ⟨W1.heap.size, 1, none⟩ = some (.string (fov ff.ps ff.last)) := X6.cell 1
          have x2 : W6.cell? ⟨W1.heap.size, 2, none⟩ = some (.slice none 0 0) := X6.cell 2
          have hr6 := HR1.out.kp K6 (fun h => h) (fun _ _ h => h) (fun _ _ h => h)
          have c6 : W6.cell? ⟨g, 0, none⟩ = some (.slice (some ⟨b, 0, none⟩) fs.length fc) := by rw [← hfv]; exact hr6.st.cell 0
          have hii : (i : Int) < (fs.length : Int) := by omega
          clear X6 K6 hr6
          refine wp_region_tail hmix (by kernel_rfl) ?_
          dsimp only [List.dropLast, List.getLast]
          repeat (gi_big_quiet_step (fail))
          refine wpQuietIn_nil ?_
          intro _ hw'
          obtain ⟨nq, hw2⟩ := hw'
          subst hw2
          have kq := drewN_kp (fun _ => False) W6 nq
          generalize W6.drewN nq = X9 at kq ⊢
          have K9 := hid (K7.out.trans kq (fun _ _ h => h))
          have sb := HSB.out.kp K9.out (fun h => h)
          obtain ⟨_, _, e9, hcs9⟩ := (HR1.out.kp K9.out (fun h => h) (fun _ _ h => h) (fun _ _ h => h)).cells (by omega)
          rw [hfv] at e9
          simp only [Value.slice.injEq, Option.some.injEq, Addr.mk.injEq] at e9
          obtain ⟨⟨e91, -⟩, -, -⟩ := e9
          subst e91
          obtain ⟨z0, z1, z2⟩ := hcs9 i hi
          rw [Nat.zero_add] at z0 z1 z2
          have f0 := sb.frozen (i * 3)
          have f1 := sb.frozen (i * 3 + 1)
          have f2 := sb.frozen (i * 3 + 2)
          have hbl9 := sb.lt
          clear hcs9 sb kq
          gi_wp2_with fail
          go_wp2_with fail
          go_ret
          have hps9 : PSrc D X9 (.slice none 0 0) (rff ff).ps := psrc_nil (base := 0) (World.ownsRow_nil _ _ _ _)
          have hfz := fov_size ff.ps ff.last HPW.out
          have hput := HR1.out.put3 (nf := rff ff) hfv hi K9.out hps9 (fun j h => h) (fun j h => .inl h) (fun j h => Nat.lt_of_lt_of_le (HR1.out.db j h) K9.out.size) (by simp [rff]) (fun q hq => by simp [rff] at hq) (by show (fov ff.ps ff.last).size ≤ _; omega)
          exact ⟨rfl, _, by rw [← HFE.out]; exact hput.1, (HK1.out.mono (G := fun j => j = g ∨ fv.ownBlock = some j) (fun _ _ h => .inl h)).trans hput.2 (fun _ _ h => .inr h)⟩)
end Go.Proofs.YtlnknkeagonmpaaGreat
