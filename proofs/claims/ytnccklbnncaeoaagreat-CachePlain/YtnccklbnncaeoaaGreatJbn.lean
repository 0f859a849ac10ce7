import Derived.Test.YtnccklbnncaeoaaGreatJaz
import Derived.Test.YtnccklbnncaeoaaGreatJap
/- resize: a file's size. -/
namespace Go.Proofs.YtnccklbnncaeoaaGreat
open Go.RowKit

theorem cutf_ov (n : Nat) (f : Nat → Int) (p : Nat × List Int) : cutf n (ov f p) = if n ≤ p.1 then cutf n f else ov (cutf n f) (p.1, p.2.take (n - p.1)) := by
  by_cases h : n ≤ p.1
  · rw [if_pos h]
    funext i
    unfold cutf ov
    by_cases hi : i < n
    · rw [if_pos hi, if_pos hi, if_neg (by omega)]
    · rw [if_neg hi, if_neg hi]
  · rw [if_neg h]
    funext i
    unfold cutf ov
    dsimp only
    rw [List.length_take]
    by_cases hi : i < n
    · rw [if_pos hi]
      by_cases hp : p.1 ≤ i ∧ i < p.1 + p.2.length
      · rw [if_pos hp, if_pos ⟨hp.1, by omega⟩]
        simp only [List.getD_eq_getElem?_getD]
        rw [List.getElem?_take, if_pos (by omega)]
      · rw [if_neg hp, if_neg (by omega), if_pos hi]
    · rw [if_neg hi, if_neg (by omega), if_neg hi]
theorem cutf_ovs (n : Nat) (ps : List (Nat × List Int)) (f : Nat → Int) : cutf n (ovs f ps) = ovs (cutf n f) (ctp n ps) := by
  induction ps generalizing f with
  | nil => rfl
  | cons p ps ih =>
    show cutf n (ovs (ov f p) ps) = _
    rw [ih, cutf_ov, show ctp n (p :: ps) = if n ≤ p.1 then ctp n ps else (p.1, p.2.take (n - p.1)) :: ctp n ps from rfl]
    by_cases h : n ≤ p.1
    · rw [if_pos h, if_pos h]
    · rw [if_neg h, if_neg h]; rfl
theorem ctp_mem {n : Nat} {ps : List (Nat × List Int)} {q : Nat × List Int} (h : q ∈ ctp n ps) : ∃ p ∈ ps, p.1 < n ∧ q = (p.1, p.2.take (n - p.1)) := by
  induction ps with
  | nil => simp [ctp] at h
  | cons p ps ih =>
    unfold ctp at h
    by_cases hn : n ≤ p.1
    · rw [if_pos hn] at h
      obtain ⟨p', h1, h2⟩ := ih h
      exact ⟨p', List.mem_cons_of_mem _ h1, h2⟩
    · rw [if_neg hn] at h
      rcases List.mem_cons.1 h with h | h
      · exact ⟨p, by simp, by omega, h⟩
      · obtain ⟨p', h1, h2⟩ := ih h
        exact ⟨p', List.mem_cons_of_mem _ h1, h2⟩
/-- A file behind a resize. -/
def grz (q : Gf) (n : Nat) : Gf := if n < q.sz then ⟨n, cutf n q.L, ctp n q.ps⟩ else ⟨n, q.L, q.ps⟩
set_option maxRecDepth 100000 in
set_option maxHeartbeats 4000000 in
theorem resize_any (D : Nat → Prop) (w : World) (a : Fa) (q : Gf) (hf : Fr D w a q.sz q.L q.ps) (n : Nat) (hn : n ≤ 268435456) :
    Calls Tryz.prog 91 #[.pointer (some ⟨a.fb, 0, none⟩), .int .i64 n] w fun e w' => e = .returned (.tuple #[]) ∧ ∃ D' a', a'.fb = a.fb ∧ Fr D' w' a' (grz q n).sz (grz q n).L (grz q n).ps ∧ Wk D w a.own w' D' a'.own := by
  obtain ⟨sz, L, ps⟩ := q
  obtain ⟨fb, lm, om, pv⟩ := a
  dsimp only at hf ⊢
  have HF : Hid (Fr D w ⟨fb, lm, om, pv⟩ sz L ps) := hf
  have c0 : w.cell? ⟨fb, 0, none⟩ = some (.int .i64 sz) := hf.st.cell 0
  have f0 := hf.st.frozen 0
  by_cases hlt : n < sz
  · have hlti : (n : Int) < (sz : Int) := by omega
    obtain ⟨el, cl, hla⟩ := hf.la
    obtain ⟨eo, co, hov, hcv⟩ := hf.ov
    obtain ⟨vs0, hpr⟩ := hf.pc
    dsimp only at hla hov hpr
    have hlo := hf.lt
    have hfl : fb < w.heap.size := hlo fb ((Fa.mem _ _).2 (.inl rfl))
    have hll : lm < w.heap.size := hlo lm ((Fa.mem _ _).2 (.inr (.inl rfl)))
    have hol : om < w.heap.size := hlo om ((Fa.mem _ _).2 (.inr (.inr (.inl rfl))))
    have hlm := hf.lm_ne
    have hne := hf.ne
    dsimp only at hlm hne
    have hnd : ∀ i, D i → i ≠ fb ∧ i ≠ lm ∧ i ≠ om ∧ i < w.heap.size := fun i hi => by
      have h1 := hf.nd i hi
      rw [Fa.mem] at h1
      exact ⟨fun e => h1 (.inl e), fun e => h1 (.inr (.inl e)), fun e => h1 (.inr (.inr (.inl e))), hf.db i hi⟩
    have c1 : w.cell? ⟨fb, 1, none⟩ = some (.map (some lm)) := hf.st.cell 1
    have HLA : Hid (Sm D w lm L zero el cl) := hla
    have HOV : Hid (Sm D w om (ovs L ps) L eo co) := hov
    have HCV : Hid (Cov eo ps) := hcv
    have HPR : Hid (Pr D w pv ps vs0) := hpr
    clear hf hla hov hcv hpr hlo
    go_enter Tryz.func91, Tryz.ntmps91
    go_wp2_with fail
    refine (cut_any D w lm cl n L zero el HLA.out hn (fun h => (hnd _ h).2.1 rfl)).mono ?_
    rintro e w1 ⟨rfl, el1, cl1, sl1, k1, -⟩
    rw [cutf_zero] at sl1
    obtain ⟨D1, hD1⟩ : ∃ D1 : Nat → Prop, D1 = fun i => D i ∨ (w.heap.size ≤ i ∧ i < w1.heap.size) := ⟨_, rfl⟩
    rw [← hD1] at sl1
    have hd1 : ∀ i, D1 i → i ≠ fb ∧ i ≠ lm ∧ i ≠ om ∧ i < w1.heap.size ∧ (D i ∨ w.heap.size ≤ i) := fun i hi => by
      rw [hD1] at hi
      have hz := k1.size
      rcases hi with h1 | h1
      · have := hnd i h1; exact ⟨this.1, this.2.1, this.2.2.1, by omega, .inl h1⟩
      · exact ⟨by omega, by omega, by omega, h1.2, .inr h1.1⟩
    have hdd : ∀ i, D i → D1 i := fun i hi => by rw [hD1]; exact .inl hi
    have so1 : Sm D1 w1 om (ovs L ps) L eo co := (HOV.out.kp k1 (fun e => hne e.symm) (fun i hi => (hnd i hi).2.1)).mono (fun i _ hi => hdd i hi)
    have pr1 : Pr D1 w1 pv ps vs0 := (HPR.out.kp k1 (fun b hb e => (HF.out.fb_ne hb).2.1 e) (fun i hi => (hnd i hi).2.1)).mono (fun i _ hi => hdd i hi)
    have st1 : St 164 w1 fb #[.int .i64 sz, .map (some lm), .map (some om), pv] := HF.out.st.kp k1 (fun e => hlm.1 e.symm)
    have c2 : w1.cell? ⟨fb, 2, none⟩ = some (.map (some om)) := st1.cell 2
    go_wp2_with fail
    refine (cut_any D1 w1 om co n (ovs L ps) L eo so1 hn (fun h => (hd1 _ h).2.2.1 rfl)).mono ?_
    rintro e w2 ⟨rfl, eo2, co2, so2, k2, hc2⟩
    rw [cutf_ovs] at so2
    obtain ⟨D2, hD2⟩ : ∃ D2 : Nat → Prop, D2 = fun i => D1 i ∨ (w1.heap.size ≤ i ∧ i < w2.heap.size) := ⟨_, rfl⟩
    rw [← hD2] at so2
    have hz1 := k1.size
    have hz2 := k2.size
    have hd2 : ∀ i, D2 i → i ≠ fb ∧ i ≠ lm ∧ i ≠ om ∧ i < w2.heap.size ∧ (D i ∨ w.heap.size ≤ i) := fun i hi => by
      rw [hD2] at hi
      rcases hi with h1 | h1
      · have := hd1 i h1; exact ⟨this.1, this.2.1, this.2.2.1, by omega, this.2.2.2.2⟩
      · exact ⟨by omega, by omega, by omega, h1.2, .inr (by omega)⟩
    have hdd2 : ∀ i, D1 i → D2 i := fun i hi => by rw [hD2]; exact .inl hi
    have sl2 : Sm D2 w2 lm (cutf n L) zero el1 cl1 := (sl1.kp k2 hne (fun i hi => (hd1 i hi).2.2.1)).mono (fun i _ hi => hdd2 i hi)
    have pr2 : Pr D2 w2 pv ps vs0 := (pr1.kp k2 (fun b hb e => (HF.out.fb_ne hb).2.2 e) (fun i hi => (hd1 i hi).2.2.1)).mono (fun i _ hi => hdd2 i hi)
    have st2 : St 164 w2 fb #[.int .i64 sz, .map (some lm), .map (some om), pv] := st1.kp k2 (fun e => hlm.2 e.symm)
    have c3 : w2.cell? ⟨fb, 3, none⟩ = some pv := st2.cell 3
    go_wp2_with fail
    refine (cutp_any D2 w2 pv ps vs0 pr2 n hn (fun p hp => ⟨(HF.out.pb p hp).1, by have := (HF.out.pb p hp).2.2; have := HF.out.sb; omega⟩) HF.out.nb (fun i hi => (hd2 i hi).2.2.2.1)).mono ?_
    rintro e w3 ⟨v3, vs3, rfl, hcp⟩
    have hrow := hcp.row
    have hpr3 := hcp.pr
    have k3 := hcp.kp
    rw [List.take_length] at hrow hpr3
    obtain ⟨ao3, c3', hv3⟩ := ownsRow_shape hrow
    subst hv3
    obtain ⟨cn, hcn⟩ : ∃ x, x = (ctp n ps).length := ⟨_, rfl⟩
    rw [← hcn] at hrow hpr3 ⊢
    have hvo : ∀ b, (Value.slice ao3 cn c3').ownBlock = some b → w2.heap.size ≤ b := by
      intro b hb
      rcases hrow.2 with ⟨h4, _⟩ | ⟨gg, cap, cur, h4, h5, _⟩
      · rw [h4] at hb; cases hb
      · rw [h4] at hb
        have : gg = b := by simpa [Value.ownBlock] using hb
        omega
    have st3 := st2.kp k3 (fun h => h)
    have f3 := st3.frozen 3
    have g3 : w3.cell? ⟨fb, 3, none⟩ = some pv := st3.cell 3
    have g30 : w3.cell? ⟨fb, 0, none⟩ = some (.int .i64 sz) := st3.cell 0
    have f30 := st3.frozen 0
    have st4 := st3.set 3 (.slice ao3 cn c3')
    have f40 := st4.frozen 0
    have g40 : (w3.setCell ⟨fb, 3, none⟩ (.slice ao3 cn c3')).cell? ⟨fb, 0, none⟩ = some (.int .i64 sz) := st4.cell 0
    have st5 := st4.set 0 (.int .i64 n)
    have kC : Kp (fun i => i = fb) w3 ((w3.setCell ⟨fb, 3, none⟩ (.slice ao3 cn c3')).setCell ⟨fb, 0, none⟩ (.int .i64 n)) := (kp_setCell w3 fb 3 (.slice ao3 cn c3') (fun i => i = fb) rfl).trans (kp_setCell _ fb 0 (.int .i64 n) (fun i => i = fb) rfl) (fun _ _ h => h)
    have hz3 := k3.size
    have fin : Fr D2 ((w3.setCell ⟨fb, 3, none⟩ (.slice ao3 cn c3')).setCell ⟨fb, 0, none⟩ (.int .i64 n)) ⟨fb, lm, om, .slice ao3 cn c3'⟩ n (cutf n L) (ctp n ps) := by
      refine ⟨st5, ⟨el1, cl1, (sl2.kp k3 (fun h => h) (fun _ _ h => h)).kp kC hlm.1 (fun i hi => (hd2 i hi).1)⟩, ⟨eo2, co2, (so2.kp k3 (fun h => h) (fun _ _ h => h)).kp kC hlm.2 (fun i hi => (hd2 i hi).1), fun q hq => ?_⟩, ⟨vs3, hpr3.kp kC (fun b hb e => by have := hvo b hb; omega) (fun i hi => (hd2 i hi).1)⟩, hne, fun i hi hm => ?_, fun i hi => ?_, fun i hi => ?_, fun q hq => ?_, hn, ?_⟩
      · obtain ⟨p, hp, hpn, rfl⟩ := ctp_mem hq
        exact hc2 (p.1 / 512) (by omega) (HCV.out p hp)
      · have hd := hd2 i hi
        rcases (Fa.mem _ i).1 hm with e | e | e | e
        · exact hd.1 e
        · exact hd.2.1 e
        · exact hd.2.2.1 e
        · have := hvo i e; omega
      · have := (hd2 i hi).2.2.2.1
        have := kC.size
        omega
      · unfold cutf; rw [if_neg (by omega)]
      · obtain ⟨p, hp, hpn, rfl⟩ := ctp_mem hq
        have h1 := HF.out.pb p hp
        dsimp only
        rw [List.length_take]
        exact ⟨by omega, by omega, by omega⟩
      · have := ctp_len n ps; have := HF.out.nb; omega
    have wk : Wk D w (Fa.mk fb lm om pv).own ((w3.setCell ⟨fb, 3, none⟩ (.slice ao3 cn c3')).setCell ⟨fb, 0, none⟩ (.int .i64 n)) D2 (Fa.mk fb lm om (.slice ao3 cn c3')).own := by
      refine ⟨(((k1.mono (fun i _ e => by rw [e]; exact (Fa.mem _ _).2 (.inr (.inl rfl)))).trans k2 (fun i _ e => by rw [e]; exact (Fa.mem _ _).2 (.inr (.inr (.inl rfl))))).trans k3 (fun _ _ h => h.elim)).trans kC (fun i _ e => by rw [e]; exact (Fa.mem _ _).2 (.inl rfl)), fun i hi => ?_, fun i hi => hdd2 i (hdd i hi), fun i hi => (hd2 i hi).2.2.2.2⟩
      rcases (Fa.mem _ i).1 hi with e | e | e | e
      · exact .inl ((Fa.mem _ _).2 (.inl e))
      · exact .inl ((Fa.mem _ _).2 (.inr (.inl e)))
      · exact .inl ((Fa.mem _ _).2 (.inr (.inr (.inl e))))
      · right; have := hvo i e; omega
    have FIN : Hid (Fr D2 ((w3.setCell ⟨fb, 3, none⟩ (.slice ao3 cn c3')).setCell ⟨fb, 0, none⟩ (.int .i64 n)) ⟨fb, lm, om, .slice ao3 cn c3'⟩ n (cutf n L) (ctp n ps)) := fin
    have WK : Hid (Wk D w (Fa.mk fb lm om pv).own ((w3.setCell ⟨fb, 3, none⟩ (.slice ao3 cn c3')).setCell ⟨fb, 0, none⟩ (.int .i64 n)) D2 (Fa.mk fb lm om (.slice ao3 cn c3')).own) := wk
    clear fin wk hrow hpr3 hcp
    go_wp2
    go_end0
    subst hcn
    refine ⟨rfl, D2, ⟨fb, lm, om, .slice ao3 _ c3'⟩, rfl, ?_, WK.out⟩
    unfold grz
    rw [if_pos hlt]
    exact FIN.out
  · have hge : ¬ (n : Int) < (sz : Int) := by omega
    clear hf
    go_enter Tryz.func91, Tryz.ntmps91
    go_wp2
    go_end0
    have kB := kp_setCell w fb 0 (.int .i64 n) (fun i => i = fb) rfl
    have st := HF.out.st.set 0 (.int .i64 n)
    have hne := HF.out.lm_ne
    dsimp only at hne
    have hD : ∀ i, D i → ¬ i = fb := fun i hi e => HF.out.nd i hi ((Fa.mem _ _).2 (.inl e))
    obtain ⟨e1, c1, h1⟩ := HF.out.la
    obtain ⟨e2, c2, h2, g2⟩ := HF.out.ov
    obtain ⟨vs, h3⟩ := HF.out.pc
    refine ⟨rfl, D, ⟨fb, lm, om, pv⟩, rfl, ?_, ⟨kB.mono (fun i _ e => by rw [e]; exact (Fa.mem _ _).2 (.inl rfl)), fun i hi => .inl hi, fun _ h => h, fun _ h => .inl h⟩⟩
    unfold grz
    rw [if_neg hlt]
    exact ⟨st, ⟨e1, c1, h1.kp kB hne.1 hD⟩, ⟨e2, c2, h2.kp kB hne.2 hD, g2⟩, ⟨vs, h3.kp kB (fun b hb e => (HF.out.fb_ne hb).1 e) hD⟩, HF.out.ne, HF.out.nd, fun i hi => Nat.lt_of_lt_of_le (HF.out.db i hi) kB.size, fun i hi => HF.out.lz i (by dsimp only at hi; omega), fun p hp => ⟨(HF.out.pb p hp).1, (HF.out.pb p hp).2.1, by have := (HF.out.pb p hp).2.2; dsimp only; omega⟩, hn, HF.out.nb⟩
end Go.Proofs.YtnccklbnncaeoaaGreat
/- Resize, of a file that is there. -/
namespace Go.Proofs.YtnccklbnncaeoaaGreat
open Go.RowKit

def grs (k0 : Int) (q : Gf) (n : Nat) : Gf := if k0 = 0 then grz q n else q
set_option maxRecDepth 100000 in
set_option maxHeartbeats 1000000 in
theorem resize_rng (s : ByteArray) (v : Value) (fb : Nat) (n e0 : Int) (w : World) (hf : Calls Tryz.prog 79 #[v, .string s] w fun e w' => e = .returned (.tuple #[.pointer (some ⟨fb, 0, none⟩), .int .i64 0]) ∧ w' = w) (h0 : (n < 0 ∧ e0 = 4) ∨ (268435456 < n ∧ e0 = 6)) :
    Calls Tryz.prog 41 #[v, .string s, .int .i64 n] w fun e w' => e = .returned (.int .i64 e0) ∧ w' = w := by
  have HF : Hid (Calls Tryz.prog 79 #[v, .string s] w fun e w' => e = .returned (.tuple #[.pointer (some ⟨fb, 0, none⟩), .int .i64 0]) ∧ w' = w) := hf
  clear hf
  rcases h0 with ⟨h0, rfl⟩ | ⟨h0, rfl⟩
  · go_enter Tryz.func41, Tryz.ntmps41
    go_wp2_with (first | (go_at_call 79; refine HF.out.mono ?_; rintro e w' ⟨rfl, h⟩; replace h := h.symm; subst h))
    go_ret
    exact ⟨rfl, rfl⟩
  · have h1 : ¬ n < 0 := by omega
    go_enter Tryz.func41, Tryz.ntmps41
    go_wp2_with (first | (go_at_call 79; refine HF.out.mono ?_; rintro e w' ⟨rfl, h⟩; replace h := h.symm; subst h))
    go_ret
    exact ⟨rfl, rfl⟩
set_option maxRecDepth 100000 in
set_option maxHeartbeats 2000000 in
theorem resize_go (D : Nat → Prop) (w : World) (g fm : Nat) (fv : Value) (steps : Nat) (l r : List Fe) (ft : List (Int × Int)) (es : List (ByteArray × Value × Nat)) (c : Nat) (s : ByteArray) (a : Fa) (q : Gf) (h : Sr D w g fm fv steps (l ++ (s, a, q) :: r) ft es c) (hq : fget (l ++ (s, a, q) :: r) s = some (s, a, q)) (hsb : steps < 1000000000) (k0 n0 : Int) (hk : ft.headD (0, 0) = (k0, n0)) (n : Nat) (hn : n ≤ 268435456) :
    Calls Tryz.prog 41 #[.pointer (some ⟨g, 0, none⟩), .string s, .int .i64 n] w fun e w' => e = .returned (.int .i64 (ferr k0)) ∧ ∃ D' fv' a', Sr D' w' g fm fv' (steps + 1) (l ++ (s, a', grs k0 q n) :: r) ft.tail es c ∧ fv'.ownBlock = fv.ownBlock ∧ Wk D w (g :: a.own) w' D' (g :: a'.own) := by
  have hnm : nmd s = true := h.nm (s, a, q) (by simp)
  have HFI : Hid (Calls Tryz.prog 79 #[.pointer (some ⟨g, 0, none⟩), .string s] w fun e w' => e = .returned (.tuple #[.pointer (some ⟨a.fb, 0, none⟩), .int .i64 0]) ∧ w' = w) := h.file_some s hnm (s, a, q) hq
  have HS : Hid (Sr D w g fm fv steps (l ++ (s, a, q) :: r) ft es c) := h
  have HK : Hid (ft.headD (0, 0) = (k0, n0)) := hk
  clear h hq hk hnm
  have h1 : ¬ (n : Int) < 0 := by omega
  have h2 : ¬ (268435456 : Int) < (n : Int) := by omega
  go_enter Tryz.func41, Tryz.ntmps41
  go_wp2_with fail
  refine HFI.out.mono ?_
  rintro e w1 ⟨rfl, hw1⟩
  replace hw1 := hw1.symm
  subst hw1
  go_wp2_with fail
  refine (step_any g _ fv steps ft _ HS.out.st (by have := HS.out.sb; omega) HS.out.fa HS.out.fvg).mono ?_
  rintro e w2 ⟨rfl, fv1, s2, f2, o2, k2⟩
  rw [HK.out]
  have S2 := HS.out.stepped s2 f2 o2 k2 hsb
  have HO2 : Hid (fv1.ownBlock = fv.ownBlock) := o2
  have tf := St.new 137 w2 #[.int .i64 k0, .int .i64 n0]
  have k3 : Kp (fun _ => False) w2 (w2.alloc (.cells #[.int .i64 k0, .int .i64 n0] 137)) := (Kp.refl _ _).alloc _
  have c0 : (w2.alloc (.cells #[.int .i64 k0, .int .i64 n0] 137)).cell? ⟨w2.heap.size, 0, none⟩ = some (.int .i64 k0) := tf.cell 0
  have c1 : (w2.alloc (.cells #[.int .i64 k0, .int .i64 n0] 137)).cell? ⟨w2.heap.size, 1, none⟩ = some (.int .i64 n0) := tf.cell 1
  have S3 := S2.kp k3 (fun _ _ h => h) (fun _ _ h => h)
  have HS3 : Hid (Sr D (w2.alloc (.cells #[.int .i64 k0, .int .i64 n0] 137)) g fm fv1 (steps + 1) (l ++ (s, a, q) :: r) ft.tail es c) := S3
  have HTF : Hid (St 137 (w2.alloc (.cells #[.int .i64 k0, .int .i64 n0] 137)) w2.heap.size #[.int .i64 k0, .int .i64 n0]) := tf
  have HTN : Hid (∀ i, i ∈ ownS g fm fv1 (l ++ (s, a, q) :: r) → i < w2.heap.size) := S2.lt
  have K3 : Hid (Kp (fun i => i = g) w (w2.alloc (.cells #[.int .i64 k0, .int .i64 n0] 137))) := k2.trans k3 (fun _ _ h => h.elim)
  clear s2 f2 o2 k2 S2 S3 tf k3
  by_cases hz : k0 = 0
  · subst hz
    go_wp2_with fail
    have f3 : Fr D (w2.alloc (.cells #[.int .i64 0, .int .i64 n0] 137)) a q.sz q.L q.ps := HS3.out.fr (s, a, q) (by simp)
    refine (resize_any D _ a q f3 n hn).mono ?_
    rintro e w5 ⟨rfl, D5, a5, hb5, fr5, wk5⟩
    have hnt : w2.heap.size ∉ a.own := fun hm => by
      have := HTN.out _ (mem_ownS.2 (.inr (.inr (.inr ⟨(s, a, q), by simp, hm⟩))))
      omega
    have tf5 := HTF.out.kp wk5.k hnt
    have S5 : Sr D5 w5 g fm fv1 (steps + 1) (l ++ (s, a5, grz q n) :: r) ft.tail es c := HS3.out.upd (q' := grz q n) wk5 hb5 fr5
    have wk : Wk D w (g :: a.own) w5 D5 (g :: a5.own) := by
      have hz := K3.out.size
      refine ⟨(K3.out.mono (fun i _ e => by rw [e]; exact List.mem_cons_self)).trans wk5.k (fun i _ h => List.mem_cons_of_mem _ h), fun i hi => ?_, wk5.d, fun i hi => (wk5.e i hi).elim .inl (fun x => .inr (by omega))⟩
      rcases List.mem_cons.1 hi with e | e
      · exact .inl (by rw [e]; exact List.mem_cons_self)
      · exact (wk5.o i e).elim (fun x => .inl (List.mem_cons_of_mem _ x)) (fun x => .inr (by omega))
    have d0 : w5.cell? ⟨w2.heap.size, 0, none⟩ = some (.int .i64 0) := tf5.cell 0
    have d1 : w5.cell? ⟨w2.heap.size, 1, none⟩ = some (.int .i64 n0) := tf5.cell 1
    have HS5 : Hid (Sr D5 w5 g fm fv1 (steps + 1) (l ++ (s, a5, grz q n) :: r) ft.tail es c) := S5
    have HWK : Hid (Wk D w (g :: a.own) w5 D5 (g :: a5.own)) := wk
    clear S5 wk tf5 f3 fr5 wk5 c0 c1
    go_wp2_with (first | (go_at_call 90; refine (came_f 0 n0 _).mono ?_; rintro e w6 ⟨rfl, b6⟩))
    have k6 : Kp (fun _ => False) w5 w6 := Kp.of_below b6
    go_ret
    exact ⟨rfl, D5, fv1, a5, HS5.out.kp k6 (fun _ _ h => h) (fun _ _ h => h), HO2.out, HWK.out.kp k6⟩
  · have hzb : (k0 == 0) = false := by simpa using hz
    go_wp2_with (first | (go_at_call 90; refine (came_f k0 n0 _).mono ?_; rintro e w5 ⟨rfl, b5⟩))
    have k5 : Kp (fun _ => False) (w2.alloc (.cells #[.int .i64 k0, .int .i64 n0] 137)) w5 := Kp.of_below b5
    go_ret
    rw [show grs k0 q n = q from if_neg hz]
    exact ⟨rfl, D, fv1, a, HS3.out.kp k5 (fun _ _ h => h) (fun _ _ h => h), HO2.out, (K3.out.mono (fun i _ e => by rw [e]; exact List.mem_cons_self)).trans k5 (fun _ _ h => h.elim), fun i hi => .inl hi, fun _ h => h, fun _ h => .inl h⟩
end Go.Proofs.YtnccklbnncaeoaaGreat
