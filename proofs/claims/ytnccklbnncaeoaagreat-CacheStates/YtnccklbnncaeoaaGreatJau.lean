import Derived.Test.YtnccklbnncaeoaaGreatJat
import Derived.Test.YtnccklbnncaeoaaGreatJak
import Derived.Test.YtnccklbnncaeoaaGreatJaq
import Derived.Test.YtnccklbnncaeoaaGreatJas
/- resize: a file's size. -/
namespace Go.Proofs.YtnccklbnncaeoaaGreat
open Go.RowKit

theorem cutf_ov (n : Nat) (f : Nat → Int) (p : Nat × List Int) : cutf n (ov f p) = if n ≤ p.1 then cutf n f else ov (cutf n f) (p.1, p.2.take (n - p.1)) := by
  by_cases h : n ≤ p.1
  · rw [if_pos h]
    funext i
    unfold cutf ov
    by_cases hi : i < n
    · rw [if_pos hi, if_pos hi, if_neg (by omega)]
    · rw [if_neg hi, if_neg hi]
  · rw [if_neg h]
    funext i
    unfold cutf ov
    dsimp only
    rw [List.length_take]
    by_cases hi : i < n
    · rw [if_pos hi]
      by_cases hp : p.1 ≤ i ∧ i < p.1 + p.2.length
      · rw [if_pos hp, if_pos ⟨hp.1, by omega⟩]
        simp only [List.getD_eq_getElem?_getD]
        rw [List.getElem?_take, if_pos (by omega)]
      · rw [if_neg hp, if_neg (by omega), if_pos hi]
    · rw [if_neg hi, if_neg (by omega), if_neg hi]
theorem cutf_ovs (n : Nat) (ps : List (Nat × List Int)) (f : Nat → Int) : cutf n (ovs f ps) = ovs (cutf n f) (ctp n ps) := by
  induction ps generalizing f with
  | nil => rfl
  | cons p ps ih =>
    show cutf n (ovs (ov f p) ps) = _
    rw [ih, cutf_ov, show ctp n (p :: ps) = if n ≤ p.1 then ctp n ps else (p.1, p.2.take (n - p.1)) :: ctp n ps from rfl]
    by_cases h : n ≤ p.1
    · rw [if_pos h, if_pos h]
    · rw [if_neg h, if_neg h]; rfl
theorem ctp_mem {n : Nat} {ps : List (Nat × List Int)} {q : Nat × List Int} (h : q ∈ ctp n ps) : ∃ p ∈ ps, p.1 < n ∧ q = (p.1, p.2.take (n - p.1)) := by
  induction ps with
  | nil => simp [ctp] at h
  | cons p ps ih =>
    unfold ctp at h
    by_cases hn : n ≤ p.1
    · rw [if_pos hn] at h
      obtain ⟨p', h1, h2⟩ := ih h
      exact ⟨p', List.mem_cons_of_mem _ h1, h2⟩
    · rw [if_neg hn] at h
      rcases List.mem_cons.1 h with h | h
      · exact ⟨p, by simp, by omega, h⟩
      · obtain ⟨p', h1, h2⟩ := ih h
        exact ⟨p', List.mem_cons_of_mem _ h1, h2⟩
/-- A file behind a resize. -/
def grz (q : Gf) (n : Nat) : Gf := if n < q.sz then ⟨n, cutf n q.L, ctp n q.ps⟩ else ⟨n, q.L, q.ps⟩
set_option maxRecDepth 100000 in
set_option maxHeartbeats 4000000 in
theorem resize_any (D : Nat → Prop) (w : World) (a : Fa) (q : Gf) (hf : Fr D w a q.sz q.L q.ps) (n : Nat) (hn : n ≤ 268435456) :
    Calls Tryz.prog 91 #[.pointer (some ⟨a.fb, 0, none⟩), .int .i64 n] w fun e w' => e = .returned (.tuple #[]) ∧ ∃ D' a', a'.fb = a.fb ∧ Fr D' w' a' (grz q n).sz (grz q n).L (grz q n).ps ∧ Wk D w a.own w' D' a'.own := by
  obtain ⟨sz, L, ps⟩ := q
  obtain ⟨fb, lm, om, pv⟩ := a
  dsimp only at hf ⊢
  have HF : Hid (Fr D w ⟨fb, lm, om, pv⟩ sz L ps) := hf
  have c0 : w.cell? ⟨fb, 0, none⟩ = some (.int .i64 sz) := hf.st.cell 0
  have f0 := hf.st.frozen 0
  by_cases hlt : n < sz
  · have hlti : (n : Int) < (sz : Int) := by omega
    obtain ⟨el, cl, hla⟩ := hf.la
    obtain ⟨eo, co, hov, hcv⟩ := hf.ov
    obtain ⟨vs0, hpr⟩ := hf.pc
    dsimp only at hla hov hpr
    have hlo := hf.lt
    have hfl : fb < w.heap.size := hlo fb ((Fa.mem _ _).2 (.inl rfl))
    have hll : lm < w.heap.size := hlo lm ((Fa.mem _ _).2 (.inr (.inl rfl)))
    have hol : om < w.heap.size := hlo om ((Fa.mem _ _).2 (.inr (.inr (.inl rfl))))
    have hlm := hf.lm_ne
    have hne := hf.ne
    dsimp only at hlm hne
    have hnd : ∀ i, D i → i ≠ fb ∧ i ≠ lm ∧ i ≠ om ∧ i < w.heap.size := fun i hi => by
      have h1 := hf.nd i hi
      rw [Fa.mem] at h1
      exact ⟨fun e => h1 (.inl e), fun e => h1 (.inr (.inl e)), fun e => h1 (.inr (.inr (.inl e))), hf.db i hi⟩
    have c1 : w.cell? ⟨fb, 1, none⟩ = some (.map (some lm)) := hf.st.cell 1
    have HLA : Hid (Sm D w lm L zero el cl) := hla
    have HOV : Hid (Sm D w om (ovs L ps) L eo co) := hov
    have HCV : Hid (Cov eo ps) := hcv
    have HPR : Hid (Pr D w pv ps vs0) := hpr
    clear hf hla hov hcv hpr hlo
    go_enter Tryz.func91, Tryz.ntmps91
    go_wp2_with fail
    refine (cut_any D w lm cl n L zero el HLA.out hn (fun h => (hnd _ h).2.1 rfl)).mono ?_
    rintro e w1 ⟨rfl, el1, cl1, sl1, k1, -⟩
    rw [cutf_zero] at sl1
    obtain ⟨D1, hD1⟩ : ∃ D1 : Nat → Prop, D1 = fun i => D i ∨ (w.heap.size ≤ i ∧ i < w1.heap.size) := ⟨_, rfl⟩
    rw [← hD1] at sl1
    have hd1 : ∀ i, D1 i → i ≠ fb ∧ i ≠ lm ∧ i ≠ om ∧ i < w1.heap.size ∧ (D i ∨ w.heap.size ≤ i) := fun i hi => by
      rw [hD1] at hi
      have hz := k1.size
      rcases hi with h1 | h1
      · have := hnd i h1; exact ⟨this.1, this.2.1, this.2.2.1, by omega, .inl h1⟩
      · exact ⟨by omega, by omega, by omega, h1.2, .inr h1.1⟩
    have hdd : ∀ i, D i → D1 i := fun i hi => by rw [hD1]; exact .inl hi
    have so1 : Sm D1 w1 om (ovs L ps) L eo co := (HOV.out.kp k1 (fun e => hne e.symm) (fun i hi => (hnd i hi).2.1)).mono (fun i _ hi => hdd i hi)
    have pr1 : Pr D1 w1 pv ps vs0 := (HPR.out.kp k1 (fun b hb e => (HF.out.fb_ne hb).2.1 e) (fun i hi => (hnd i hi).2.1)).mono (fun i _ hi => hdd i hi)
    have st1 : St 164 w1 fb #[.int .i64 sz, .map (some lm), .map (some om), pv] := HF.out.st.kp k1 (fun e => hlm.1 e.symm)
    have c2 : w1.cell? ⟨fb, 2, none⟩ = some (.map (some om)) := st1.cell 2
    go_wp2_with fail
    refine (cut_any D1 w1 om co n (ovs L ps) L eo so1 hn (fun h => (hd1 _ h).2.2.1 rfl)).mono ?_
    rintro e w2 ⟨rfl, eo2, co2, so2, k2, hc2⟩
    rw [cutf_ovs] at so2
    obtain ⟨D2, hD2⟩ : ∃ D2 : Nat → Prop, D2 = fun i => D1 i ∨ (w1.heap.size ≤ i ∧ i < w2.heap.size) := ⟨_, rfl⟩
    rw [← hD2] at so2
    have hz1 := k1.size
    have hz2 := k2.size
    have hd2 : ∀ i, D2 i → i ≠ fb ∧ i ≠ lm ∧ i ≠ om ∧ i < w2.heap.size ∧ (D i ∨ w.heap.size ≤ i) := fun i hi => by
      rw [hD2] at hi
      rcases hi with h1 | h1
      · have := hd1 i h1; exact ⟨this.1, this.2.1, this.2.2.1, by omega, this.2.2.2.2⟩
      · exact ⟨by omega, by omega, by omega, h1.2, .inr (by omega)⟩
    have hdd2 : ∀ i, D1 i → D2 i := fun i hi => by rw [hD2]; exact .inl hi
    have sl2 : Sm D2 w2 lm (cutf n L) zero el1 cl1 := (sl1.kp k2 hne (fun i hi => (hd1 i hi).2.2.1)).mono (fun i _ hi => hdd2 i hi)
    have pr2 : Pr D2 w2 pv ps vs0 := (pr1.kp k2 (fun b hb e => (HF.out.fb_ne hb).2.2 e) (fun i hi => (hd1 i hi).2.2.1)).mono (fun i _ hi => hdd2 i hi)
    have st2 : St 164 w2 fb #[.int .i64 sz, .map (some lm), .map (some om), pv] := st1.kp k2 (fun e => hlm.2 e.symm)
    have c3 : w2.cell? ⟨fb, 3, none⟩ = some pv := st2.cell 3
    go_wp2_with fail
    refine (cutp_any D2 w2 pv ps vs0 pr2 n hn (fun p hp => ⟨(HF.out.pb p hp).1, by have := (HF.out.pb p hp).2.2; have := HF.out.sb; omega⟩) HF.out.nb (fun i hi => (hd2 i hi).2.2.2.1)).mono ?_
    rintro e w3 ⟨v3, vs3, rfl, hcp⟩
    have hrow := hcp.row
    have hpr3 := hcp.pr
    have k3 := hcp.kp
    rw [List.take_length] at hrow hpr3
    obtain ⟨ao3, c3', hv3⟩ := ownsRow_shape hrow
    subst hv3
    obtain ⟨cn, hcn⟩ : ∃ x, x = (ctp n ps).length := ⟨_, rfl⟩
    rw [← hcn] at hrow hpr3 ⊢
    have hvo : ∀ b, (Value.slice ao3 cn c3').ownBlock = some b → w2.heap.size ≤ b := by
      intro b hb
      rcases hrow.2 with ⟨h4, _⟩ | ⟨gg, cap, cur, h4, h5, _⟩
      · rw [h4] at hb; cases hb
      · rw [h4] at hb
        have : gg = b := by simpa [Value.ownBlock] using hb
        omega
    have st3 := st2.kp k3 (fun h => h)
    have f3 := st3.frozen 3
    have g3 : w3.cell? ⟨fb, 3, none⟩ = some pv := st3.cell 3
    have g30 : w3.cell? ⟨fb, 0, none⟩ = some (.int .i64 sz) := st3.cell 0
    have f30 := st3.frozen 0
    have st4 := st3.set 3 (.slice ao3 cn c3')
    have f40 := st4.frozen 0
    have g40 : (w3.setCell ⟨fb, 3, none⟩ (.slice ao3 cn c3')).cell? ⟨fb, 0, none⟩ = some (.int .i64 sz) := st4.cell 0
    have st5 := st4.set 0 (.int .i64 n)
    have kC : Kp (fun i => i = fb) w3 ((w3.setCell ⟨fb, 3, none⟩ (.slice ao3 cn c3')).setCell ⟨fb, 0, none⟩ (.int .i64 n)) := (kp_setCell w3 fb 3 (.slice ao3 cn c3') (fun i => i = fb) rfl).trans (kp_setCell _ fb 0 (.int .i64 n) (fun i => i = fb) rfl) (fun _ _ h => h)
    have hz3 := k3.size
    have fin : Fr D2 ((w3.setCell ⟨fb, 3, none⟩ (.slice ao3 cn c3')).setCell ⟨fb, 0, none⟩ (.int .i64 n)) ⟨fb, lm, om, .slice ao3 cn c3'⟩ n (cutf n L) (ctp n ps) := by
      refine ⟨st5, ⟨el1, cl1, (sl2.kp k3 (fun h => h) (fun _ _ h => h)).kp kC hlm.1 (fun i hi => (hd2 i hi).1)⟩, ⟨eo2, co2, (so2.kp k3 (fun h => h) (fun _ _ h => h)).kp kC hlm.2 (fun i hi => (hd2 i hi).1), fun q hq => ?_⟩, ⟨vs3, hpr3.kp kC (fun b hb e => by have := hvo b hb; omega) (fun i hi => (hd2 i hi).1)⟩, hne, fun i hi hm => ?_, fun i hi => ?_, fun i hi => ?_, fun q hq => ?_, hn, ?_⟩
      · obtain ⟨p, hp, hpn, rfl⟩ := ctp_mem hq
        exact hc2 (p.1 / 512) (by omega) (HCV.out p hp)
      · have hd := hd2 i hi
        rcases (Fa.mem _ i).1 hm with e | e | e | e
        · exact hd.1 e
        · exact hd.2.1 e
        · exact hd.2.2.1 e
        · have := hvo i e; omega
      · have := (hd2 i hi).2.2.2.1
        have := kC.size
        omega
      · unfold cutf; rw [if_neg (by omega)]
      · obtain ⟨p, hp, hpn, rfl⟩ := ctp_mem hq
        have h1 := HF.out.pb p hp
        dsimp only
        rw [List.length_take]
        exact ⟨by omega, by omega, by omega⟩
      · have := ctp_len n ps; have := HF.out.nb; omega
    have wk : Wk D w (Fa.mk fb lm om pv).own ((w3.setCell ⟨fb, 3, none⟩ (.slice ao3 cn c3')).setCell ⟨fb, 0, none⟩ (.int .i64 n)) D2 (Fa.mk fb lm om (.slice ao3 cn c3')).own := by
      refine ⟨(((k1.mono (fun i _ e => by rw [e]; exact (Fa.mem _ _).2 (.inr (.inl rfl)))).trans k2 (fun i _ e => by rw [e]; exact (Fa.mem _ _).2 (.inr (.inr (.inl rfl))))).trans k3 (fun _ _ h => h.elim)).trans kC (fun i _ e => by rw [e]; exact (Fa.mem _ _).2 (.inl rfl)), fun i hi => ?_, fun i hi => hdd2 i (hdd i hi), fun i hi => (hd2 i hi).2.2.2.2⟩
      rcases (Fa.mem _ i).1 hi with e | e | e | e
      · exact .inl ((Fa.mem _ _).2 (.inl e))
      · exact .inl ((Fa.mem _ _).2 (.inr (.inl e)))
      · exact .inl ((Fa.mem _ _).2 (.inr (.inr (.inl e))))
      · right; have := hvo i e; omega
    have FIN : Hid (Fr D2 ((w3.setCell ⟨fb, 3, none⟩ (.slice ao3 cn c3')).setCell ⟨fb, 0, none⟩ (.int .i64 n)) ⟨fb, lm, om, .slice ao3 cn c3'⟩ n (cutf n L) (ctp n ps)) := fin
    have WK : Hid (Wk D w (Fa.mk fb lm om pv).own ((w3.setCell ⟨fb, 3, none⟩ (.slice ao3 cn c3')).setCell ⟨fb, 0, none⟩ (.int .i64 n)) D2 (Fa.mk fb lm om (.slice ao3 cn c3')).own) := wk
    clear fin wk hrow hpr3 hcp
    go_wp2
    go_end0
    subst hcn
    refine ⟨rfl, D2, ⟨fb, lm, om, .slice ao3 _ c3'⟩, rfl, ?_, WK.out⟩
    unfold grz
    rw [if_pos hlt]
    exact FIN.out
  · have hge : ¬ (n : Int) < (sz : Int) := by omega
    clear hf
    go_enter Tryz.func91, Tryz.ntmps91
    go_wp2
    go_end0
    have kB := kp_setCell w fb 0 (.int .i64 n) (fun i => i = fb) rfl
    have st := HF.out.st.set 0 (.int .i64 n)
    have hne := HF.out.lm_ne
    dsimp only at hne
    have hD : ∀ i, D i → ¬ i = fb := fun i hi e => HF.out.nd i hi ((Fa.mem _ _).2 (.inl e))
    obtain ⟨e1, c1, h1⟩ := HF.out.la
    obtain ⟨e2, c2, h2, g2⟩ := HF.out.ov
    obtain ⟨vs, h3⟩ := HF.out.pc
    refine ⟨rfl, D, ⟨fb, lm, om, pv⟩, rfl, ?_, ⟨kB.mono (fun i _ e => by rw [e]; exact (Fa.mem _ _).2 (.inl rfl)), fun i hi => .inl hi, fun _ h => h, fun _ h => .inl h⟩⟩
    unfold grz
    rw [if_neg hlt]
    exact ⟨st, ⟨e1, c1, h1.kp kB hne.1 hD⟩, ⟨e2, c2, h2.kp kB hne.2 hD, g2⟩, ⟨vs, h3.kp kB (fun b hb e => (HF.out.fb_ne hb).1 e) hD⟩, HF.out.ne, HF.out.nd, fun i hi => Nat.lt_of_lt_of_le (HF.out.db i hi) kB.size, fun i hi => HF.out.lz i (by dsimp only at hi; omega), fun p hp => ⟨(HF.out.pb p hp).1, (HF.out.pb p hp).2.1, by have := (HF.out.pb p hp).2.2; dsimp only; omega⟩, hn, HF.out.nb⟩
end Go.Proofs.YtnccklbnncaeoaaGreat
/- Resize, of a file that is there. -/
namespace Go.Proofs.YtnccklbnncaeoaaGreat
open Go.RowKit

def grs (k0 : Int) (q : Gf) (n : Nat) : Gf := if k0 = 0 then grz q n else q
set_option maxRecDepth 100000 in
set_option maxHeartbeats 1000000 in
theorem resize_rng (s : ByteArray) (v : Value) (fb : Nat) (n e0 : Int) (w : World) (hf : Calls Tryz.prog 79 #[v, .string s] w fun e w' => e = .returned (.tuple #[.pointer (some ⟨fb, 0, none⟩), .int .i64 0]) ∧ w' = w) (h0 : (n < 0 ∧ e0 = 4) ∨ (268435456 < n ∧ e0 = 6)) :
    Calls Tryz.prog 41 #[v, .string s, .int .i64 n] w fun e w' => e = .returned (.int .i64 e0) ∧ w' = w := by
  have HF : Hid (Calls Tryz.prog 79 #[v, .string s] w fun e w' => e = .returned (.tuple #[.pointer (some ⟨fb, 0, none⟩), .int .i64 0]) ∧ w' = w) := hf
  clear hf
  rcases h0 with ⟨h0, rfl⟩ | ⟨h0, rfl⟩
  · go_enter Tryz.func41, Tryz.ntmps41
    go_wp2_with (first | (go_at_call 79; refine HF.out.mono ?_; rintro e w' ⟨rfl, h⟩; replace h := h.symm; subst h))
    go_ret
    exact ⟨rfl, rfl⟩
  · have h1 : ¬ n < 0 := by omega
    go_enter Tryz.func41, Tryz.ntmps41
    go_wp2_with (first | (go_at_call 79; refine HF.out.mono ?_; rintro e w' ⟨rfl, h⟩; replace h := h.symm; subst h))
    go_ret
    exact ⟨rfl, rfl⟩
set_option maxRecDepth 100000 in
set_option maxHeartbeats 2000000 in
theorem resize_go (D : Nat → Prop) (w : World) (g fm : Nat) (fv : Value) (steps : Nat) (l r : List Fe) (ft : List (Int × Int)) (es : List (ByteArray × Value × Nat)) (c : Nat) (s : ByteArray) (a : Fa) (q : Gf) (h : Sr D w g fm fv steps (l ++ (s, a, q) :: r) ft es c) (hq : fget (l ++ (s, a, q) :: r) s = some (s, a, q)) (hsb : steps < 1000000000) (k0 n0 : Int) (hk : ft.headD (0, 0) = (k0, n0)) (n : Nat) (hn : n ≤ 268435456) :
    Calls Tryz.prog 41 #[.pointer (some ⟨g, 0, none⟩), .string s, .int .i64 n] w fun e w' => e = .returned (.int .i64 (ferr k0)) ∧ ∃ D' fv' a', Sr D' w' g fm fv' (steps + 1) (l ++ (s, a', grs k0 q n) :: r) ft.tail es c ∧ fv'.ownBlock = fv.ownBlock ∧ Wk D w (g :: a.own) w' D' (g :: a'.own) := by
  have hnm : nmd s = true := h.nm (s, a, q) (by simp)
  have HFI : Hid (Calls Tryz.prog 79 #[.pointer (some ⟨g, 0, none⟩), .string s] w fun e w' => e = .returned (.tuple #[.pointer (some ⟨a.fb, 0, none⟩), .int .i64 0]) ∧ w' = w) := h.file_some s hnm (s, a, q) hq
  have HS : Hid (Sr D w g fm fv steps (l ++ (s, a, q) :: r) ft es c) := h
  have HK : Hid (ft.headD (0, 0) = (k0, n0)) := hk
  clear h hq hk hnm
  have h1 : ¬ (n : Int) < 0 := by omega
  have h2 : ¬ (268435456 : Int) < (n : Int) := by omega
  go_enter Tryz.func41, Tryz.ntmps41
  go_wp2_with fail
  refine HFI.out.mono ?_
  rintro e w1 ⟨rfl, hw1⟩
  replace hw1 := hw1.symm
  subst hw1
  go_wp2_with fail
  refine (step_any g _ fv steps ft _ HS.out.st (by have := HS.out.sb; omega) HS.out.fa HS.out.fvg).mono ?_
  rintro e w2 ⟨rfl, fv1, s2, f2, o2, k2⟩
  rw [HK.out]
  have S2 := HS.out.stepped s2 f2 o2 k2 hsb
  have HO2 : Hid (fv1.ownBlock = fv.ownBlock) := o2
  have tf := St.new 137 w2 #[.int .i64 k0, .int .i64 n0]
  have k3 : Kp (fun _ => False) w2 (w2.alloc (.cells #[.int .i64 k0, .int .i64 n0] 137)) := (Kp.refl _ _).alloc _
  have c0 : (w2.alloc (.cells #[.int .i64 k0, .int .i64 n0] 137)).cell? ⟨w2.heap.size, 0, none⟩ = some (.int .i64 k0) := tf.cell 0
  have c1 : (w2.alloc (.cells #[.int .i64 k0, .int .i64 n0] 137)).cell? ⟨w2.heap.size, 1, none⟩ = some (.int .i64 n0) := tf.cell 1
  have S3 := S2.kp k3 (fun _ _ h => h) (fun _ _ h => h)
  have HS3 : Hid (Sr D (w2.alloc (.cells #[.int .i64 k0, .int .i64 n0] 137)) g fm fv1 (steps + 1) (l ++ (s, a, q) :: r) ft.tail es c) := S3
  have HTF : Hid (St 137 (w2.alloc (.cells #[.int .i64 k0, .int .i64 n0] 137)) w2.heap.size #[.int .i64 k0, .int .i64 n0]) := tf
  have HTN : Hid (∀ i, i ∈ ownS g fm fv1 (l ++ (s, a, q) :: r) → i < w2.heap.size) := S2.lt
  have K3 : Hid (Kp (fun i => i = g) w (w2.alloc (.cells #[.int .i64 k0, .int .i64 n0] 137))) := k2.trans k3 (fun _ _ h => h.elim)
  clear s2 f2 o2 k2 S2 S3 tf k3
  by_cases hz : k0 = 0
  · subst hz
    go_wp2_with fail
    have f3 : Fr D (w2.alloc (.cells #[.int .i64 0, .int .i64 n0] 137)) a q.sz q.L q.ps := HS3.out.fr (s, a, q) (by simp)
    refine (resize_any D _ a q f3 n hn).mono ?_
    rintro e w5 ⟨rfl, D5, a5, hb5, fr5, wk5⟩
    have hnt : w2.heap.size ∉ a.own := fun hm => by
      have := HTN.out _ (mem_ownS.2 (.inr (.inr (.inr ⟨(s, a, q), by simp, hm⟩))))
      omega
    have tf5 := HTF.out.kp wk5.k hnt
    have S5 : Sr D5 w5 g fm fv1 (steps + 1) (l ++ (s, a5, grz q n) :: r) ft.tail es c := HS3.out.upd (q' := grz q n) wk5 hb5 fr5
    have wk : Wk D w (g :: a.own) w5 D5 (g :: a5.own) := by
      have hz := K3.out.size
      refine ⟨(K3.out.mono (fun i _ e => by rw [e]; exact List.mem_cons_self)).trans wk5.k (fun i _ h => List.mem_cons_of_mem _ h), fun i hi => ?_, wk5.d, fun i hi => (wk5.e i hi).elim .inl (fun x => .inr (by omega))⟩
      rcases List.mem_cons.1 hi with e | e
      · exact .inl (by rw [e]; exact List.mem_cons_self)
      · exact (wk5.o i e).elim (fun x => .inl (List.mem_cons_of_mem _ x)) (fun x => .inr (by omega))
    have d0 : w5.cell? ⟨w2.heap.size, 0, none⟩ = some (.int .i64 0) := tf5.cell 0
    have d1 : w5.cell? ⟨w2.heap.size, 1, none⟩ = some (.int .i64 n0) := tf5.cell 1
    have HS5 : Hid (Sr D5 w5 g fm fv1 (steps + 1) (l ++ (s, a5, grz q n) :: r) ft.tail es c) := S5
    have HWK : Hid (Wk D w (g :: a.own) w5 D5 (g :: a5.own)) := wk
    clear S5 wk tf5 f3 fr5 wk5 c0 c1
    go_wp2_with (first | (go_at_call 90; refine (came_f 0 n0 _).mono ?_; rintro e w6 ⟨rfl, b6⟩))
    have k6 : Kp (fun _ => False) w5 w6 := Kp.of_below b6
    go_ret
    exact ⟨rfl, D5, fv1, a5, HS5.out.kp k6 (fun _ _ h => h) (fun _ _ h => h), HO2.out, HWK.out.kp k6⟩
  · have hzb : (k0 == 0) = false := by simpa using hz
    go_wp2_with (first | (go_at_call 90; refine (came_f k0 n0 _).mono ?_; rintro e w5 ⟨rfl, b5⟩))
    have k5 : Kp (fun _ => False) (w2.alloc (.cells #[.int .i64 k0, .int .i64 n0] 137)) w5 := Kp.of_below b5
    go_ret
    rw [show grs k0 q n = q from if_neg hz]
    exact ⟨rfl, D, fv1, a, HS3.out.kp k5 (fun _ _ h => h) (fun _ _ h => h), HO2.out, (K3.out.mono (fun i _ e => by rw [e]; exact List.mem_cons_self)).trans k5 (fun _ _ h => h.elim), fun i hi => .inl hi, fun _ h => h, fun _ h => .inl h⟩
end Go.Proofs.YtnccklbnncaeoaaGreat
/- The statements' own num, file. -/
namespace Go.Proofs.YtnccklbnncaeoaaGreat
open Go.RowKit
set_option linter.unusedVariables false
set_option linter.unusedSimpArgs false
set_option maxHeartbeats 2000000 in
theorem num_any (z : Int) (w : World) : Calls Tryz.prog 17 #[.int .i64 z] w fun e w' => e = .returned (.int .i64 z) ∧ w' = w := by
  go_enter Tryz.func17, Tryz.ntmps17
  go_wp2
  go_ret
  exact ⟨rfl, rfl⟩
/-- The file's name. -/
def nmf : ByteArray := ⟨#[102]⟩
theorem nmf_ok : nmd nmf = true := by kernel_rfl
theorem Sr.weak {D : Nat → Prop} {w : World} {g fm : Nat} {fv : Value} {steps : Nat} {ft : List (Int × Int)} {es : List (ByteArray × Value × Nat)} {c : Nat} (h : Sr D w g fm fv steps [] ft es c) : Sr (fun _ => False) w g fm fv steps [] ft es c :=
  ⟨h.st, h.mp, h.ef, fun f hf => by (cases hf), fun f hf => by (cases hf), h.fa, h.nd, fun i hi => hi.elim, fun i hi => hi.elim, h.sb, h.nf⟩
theorem fv_nil {w : World} {fv : Value} (h : Fv w fv []) (ho : fv.ownBlock = none) : fv = .slice none 0 0 := by
  rcases h with ⟨h, _⟩ | h
  · exact h
  · obtain ⟨b, o, cap, cs, rfl, _⟩ := h
    cases ho
set_option maxRecDepth 100000 in
set_option maxHeartbeats 4000000 in
theorem file_nil (n : Nat) (hn : n ≤ 268435456) (w : World) :
    Calls Tryz.prog 11 #[.int .i64 n, .slice none 0 0] w fun e w' => ∃ g F, e = .returned (ptr g) ∧ Sw nmf g 2 F ⟨n, zero, []⟩ [] w' ∧ (∀ i, F i → w.heap.size ≤ i) ∧ Kp (fun _ => False) w w' := by
  have HN := hid (new_none w)
  obtain ⟨z, hz⟩ : ∃ z, w.heap.size = z := ⟨_, rfl⟩
  have HZ := hid hz
  have HNU := hid num_any
  have HC : Hid (∀ w1, Sr (fun _ => False) w1 (z + 1) z (.slice none 0 0) 0 [] [] [] 0 → Calls Tryz.prog 40 #[.pointer (some ⟨z + 1, 0, none⟩), .string nmf] w1 fun e w' => e = .returned (.int .i64 0) ∧ ∃ fv' a es' c', Sr (fun _ => False) w' (z + 1) z fv' (0 + 1) ([] ++ [(nmf, a, ⟨0, zero, []⟩)]) [] es' c' ∧ fv'.ownBlock = none ∧ (∀ i, i ∈ a.own → w1.heap.size ≤ i) ∧ Kp (fun i => i = z + 1 ∨ i = z) w1 w') := fun w1 h =>
    create_good (fun _ => False) w1 (z + 1) z (.slice none 0 0) 0 [] [] [] 0 h nmf nmf_ok rfl (by simp) (by omega) 0 rfl
  have HR : Hid (∀ w2 fv a es c, Sr (fun _ => False) w2 (z + 1) z fv 1 [(nmf, a, ⟨0, zero, []⟩)] [] es c → Calls Tryz.prog 41 #[.pointer (some ⟨z + 1, 0, none⟩), .string nmf, .int .i64 n] w2 fun e w' => e = .returned (.int .i64 0) ∧ ∃ D' fv' a', Sr D' w' (z + 1) z fv' 2 [(nmf, a', ⟨n, zero, []⟩)] [] es c ∧ fv'.ownBlock = fv.ownBlock ∧ Wk (fun _ => False) w2 ((z + 1) :: a.own) w' D' ((z + 1) :: a'.own)) := fun w2 fv a es c h => by
    have hh := resize_go (fun _ => False) w2 (z + 1) z fv 1 [] [] [] es c nmf a ⟨0, zero, []⟩ h (by simp [fget]) (by omega) 0 0 rfl n hn
    exact hh
  have HF : Hid (∀ w3, St 158 w3 (z + 1) #[.map (some z), .slice none 0 0, .int .i64 2] → Calls Tryz.prog 42 #[.pointer (some ⟨z + 1, 0, none⟩), .slice none 0 0] w3 fun e w' => e = .returned (.int .i64 0) ∧ St 158 w' (z + 1) #[.map (some z), .slice none 0 0, .int .i64 2] ∧ Kp (fun i => i = z + 1) w3 w') := fun w3 h => feed_none (z + 1) z 2 w3 h
  rw [hz] at HN
  clear hz
  go_enter Tryz.func11, Tryz.ntmps11
  go_wp2_with (first
    | (go_at_call 39; refine HN.out.mono ?_; rintro _ w1 ⟨rfl, h1, k1⟩; have H1 := hid h1.weak; have K1 := hid k1; clear h1 k1)
    | (go_at_call 17; refine (HNU.out _ _).mono ?_; rintro e w' ⟨rfl, h⟩; replace h := h.symm; subst h)
    | (go_at_call 40; refine (HC.out w1 H1.out).mono ?_; rintro _ w2 ⟨rfl, fv2, a2, es2, c2, h2, o2, n2, k2⟩; have H2 := hid h2; have O2 := hid o2; have N2 := hid n2; have K2 := hid k2; clear h2 o2 n2 k2))
  refine (HR.out w2 fv2 a2 es2 c2 H2.out).mono ?_
  rintro _ w3 ⟨rfl, D3, fv3, a3, h3, o3, k3⟩
  have hfv : fv3 = .slice none 0 0 := fv_nil h3.fa (o3.trans O2.out)
  subst hfv
  have H3 := hid h3
  have K3 := hid k3
  have HF3 := hid (HF.out w3 h3.st)
  clear h3 k3 o3
  go_wp2_with (first
    | (go_at_call 17; refine (HNU.out _ _).mono ?_; rintro e w' ⟨rfl, h⟩; replace h := h.symm; subst h)
    | (go_at_call 42; refine HF3.out.mono ?_; rintro _ w4 ⟨rfl, s4, k4⟩; have S4 := hid s4; have K4 := hid k4; clear s4 k4))
  go_ret
  have h3 := H3.out
  have k4 := K4.out
  have hg : ∀ i, i ∈ a3.own → ¬ i = z + 1 := fun i hi e => by
    have := h3.nd
    unfold ownS at this
    rw [List.nodup_cons] at this
    exact this.1 (by rw [← e]; simp [ownF, hi])
  have hS : Sr D3 w4 (z + 1) z (.slice none 0 0) 2 [(nmf, a3, ⟨n, zero, []⟩)] [] es2 c2 := by
    refine ⟨S4.out, kp_mp h3.mp k4 (by omega), h3.ef, fun f hf => (h3.fr f hf).kp k4 (fun i hi => ?_) (fun i hi e => ?_), h3.nm, .inl ⟨rfl, rfl⟩, h3.nd, h3.dn, fun i hi => Nat.lt_of_lt_of_le (h3.db i hi) k4.size, h3.sb, h3.nf⟩
    · rw [List.mem_singleton.1 hf] at hi
      exact hg i hi
    · exact h3.dn i hi (mem_ownS.2 (.inl e))
  have z0 := HZ.out
  have z1 := K1.out.size
  have z2 := K2.out.size
  have hlow : ∀ i, i ∈ (z + 1) :: a2.own → z ≤ i := fun i hi => by
    rcases List.mem_cons.1 hi with e | e
    · omega
    · have := N2.out i e; omega
  have hlow3 : ∀ i, i ∈ (z + 1) :: a3.own → z ≤ i := fun i hi => by
    rcases K3.out.o i hi with e | e
    · exact hlow i e
    · omega
  refine ⟨z + 1, fun i => D3 i ∨ i ∈ ownS (z + 1) z (.slice none 0 0) [(nmf, a3, ⟨n, zero, []⟩)], rfl, ⟨D3, z, _, 2, es2, c2, a3, hS, Nat.le_refl _, by simp, fun _ => Iff.rfl⟩, fun i hi => ?_, ?_⟩
  · rcases hi with hi | hi
    · rcases K3.out.e i hi with e | e
      · exact e.elim
      · omega
    · rcases mem_ownS.1 hi with e | e | e | ⟨f, hf, e⟩
      · omega
      · omega
      · cases e
      · rw [List.mem_singleton.1 hf] at e
        exact Nat.le_trans (Nat.le_of_eq z0) (hlow3 i (List.mem_cons_of_mem _ e))
  · exact ((K1.out.trans K2.out (fun i hi e => by omega)).trans K3.out.k (fun i hi e => by have := hlow i e; omega)).trans k4 (fun i hi e => by omega)
end Go.Proofs.YtnccklbnncaeoaaGreat
/- cache: a use that brings in a page that nothing was known of; what a way of moves must do. -/
namespace Go.Proofs.YtnccklbnncaeoaaGreat
open Go.RowKit
set_option linter.unusedVariables false
set_option linter.unusedSimpArgs false
structure UNew (bits k : Nat) (G : Gc) (q : Gf) (b : Nat) (H : Gc) : Prop where
  nb : b ∉ G.B
  K : H.K = G.K ++ [b]
  B : H.B = b :: G.B
  L : H.L.Perm (b :: G.L)
  c : ∀ a ∈ G.B, H.c a = G.c a
  y : ∀ a ∈ G.B, H.y a = G.y a
  n : (H.c b).n = k
  di : (H.c b).di = false
  pe : (H.c b).pe = false
  yb : ∃ i, H.y b = some (i, ldz q bits k)
  W : H.W = G.W
  P : H.P = G.P
  t : H.t = G.t + 1
  n1 : H.n1 = G.n1
  n2 : H.n2 = G.n2 + 1
  n3 : H.n3 = G.n3
  n4 : H.n4 = G.n4
theorem use_new {S : ByteArray} {g bits room Q N : Nat} {G : Gc} {q : Gf} {ft : List (Int × Int)} {F : Nat → Prop} {w : World} (h : Cv S g bits room Q N G q ft F w) {s0 k1 k b : Nat} {H : Gc} {q1 : Gf} {ft1 : List (Int × Int)} (hu : UseG bits room s0 k1 k G q ft H q1 ft1 b) (hs0 : w.heap.size ≤ s0) (hg : nget G.c G.K k = none) (hr : G.L.length < room) :
    k1 = 0 ∧ q1 = q ∧ ft1 = ft ∧ UNew bits k G q b H := by
  have hlt : ∀ x ∈ G.B, x < w.heap.size := fun x hx => h.cm.lt (.inr (.inr (.inr (.inr (.inr ⟨x, hx, .inl rfl⟩)))))
  rcases hu with ⟨hk, _⟩ | ⟨hk, G1, hrm, s, G2, i, lv, L, hs, hi, hkn, hkp, hL, rfl⟩
  · unfold kget at hk
    rw [hg] at hk
    cases hk
  · rcases hrm with ⟨_, rfl, rfl, rfl, rfl⟩ | ⟨hn, _⟩
    · rcases hkn with ⟨hn, _⟩ | ⟨hn, wm, rm, h1, h2, h3, rfl⟩
      · change nget G1.c G1.K k = some b at hn
        rw [hg] at hn; cases hn
      · have hbB : b ∉ G1.B := fun e => by have := hlt b e; omega
        have hne : ∀ a ∈ G1.B, a ≠ b := fun a ha e => hbB (e ▸ ha)
        have hWb : G1.W b = [] := by
          cases e : G1.W b with
          | nil => rfl
          | cons y l => exact absurd (h.iv.kb b (h.iv.wk b y (by rw [e]; exact List.mem_cons_self)).1) hbB
        refine ⟨rfl, rfl, rfl, hbB, rfl, rfl, hL, fun a ha => ?_, fun a ha => ?_, ?_, ?_, ?_, ⟨i, ?_⟩, ?_, rfl, rfl, rfl, rfl, rfl, rfl⟩
        · show upd (upd (upd G1.c b _) b _) b _ a = _
          rw [upd_other _ _ (hne a ha), upd_other _ _ (hne a ha), upd_other _ _ (hne a ha)]
        · show upd (upd G1.y b _) b _ a = _
          rw [upd_other _ _ (hne a ha), upd_other _ _ (hne a ha)]
        · simp [gUse, gBring, gNew, upd_same, pc0]
        · simp [gUse, gBring, gNew, upd_same, pc0]
        · simp [gUse, gBring, gNew, upd_same, pc0]
        · simp [gUse, gBring, gNew, upd_same]
        · show upd G1.W b [] = G1.W
          rw [← hWb]; exact upd_self _ _
    · exact absurd hr hn
structure WNew (bits k : Nat) (G : Gc) (q : Gf) (b : Nat) (xs : List Int) (H : Gc) : Prop where
  nb : b ∉ G.B
  K : H.K = G.K ++ [b]
  B : H.B = b :: G.B
  L : H.L.Perm (b :: G.L)
  c : ∀ a ∈ G.B, H.c a = G.c a
  y : ∀ a ∈ G.B, H.y a = G.y a
  n : (H.c b).n = k
  di : (H.c b).di = true
  pe : (H.c b).pe = false
  yb : ∃ i, H.y b = some (i, splice (ldz q bits k) 0 xs)
  W : H.W = G.W
  P : H.P = G.P
  t : H.t = G.t + 1
  n1 : H.n1 = G.n1
  n2 : H.n2 = G.n2 + 1
  n3 : H.n3 = G.n3
  n4 : H.n4 = G.n4
theorem mayn_of {bits k : Nat} (h : k < 268435456 / 2 ^ bits) : mayn bits (k : Int) = true := by
  unfold mayn
  rw [Bool.and_eq_true]
  exact ⟨by simp, by simp only [decide_eq_true_eq]; omega⟩
theorem withn_of {bits a n : Nat} (h : a + n ≤ 2 ^ bits) : withn bits (a : Int) (n : Int) = true := by
  unfold withn
  rw [Bool.and_eq_true, Bool.and_eq_true]
  refine ⟨by simp, by simp, ?_⟩
  simp only [decide_eq_true_eq]
  omega
theorem cw_new {S : ByteArray} {g bits room Q N : Nat} {G : Gc} {q : Gf} {F : Nat → Prop} {w : World} (h : Cv S g bits room Q N G q [] F w) (k : Nat) (xs : List Int) (ao : Option Addr) (m cap : Nat) (hm : m = xs.length) (hx : xs ≠ []) (hxl : xs.length ≤ 2 ^ bits) (hk : k < 268435456 / 2 ^ bits) (hS : Src .u8 w ao xs) (hdis : ∀ r off, ao = some ⟨r, off, none⟩ → ¬ Fc Q G r ∧ ¬ F r) (ht : G.t < 1000000000000) (hN : N + mu G + 2 ≤ 9000) (hg : nget G.c G.K k = none) (hr : G.L.length < room) :
    Calls Tryz.prog 22 #[ptr Q, .int .i64 k, .int .i64 0, .slice ao m cap] w fun e w' => e = .returned (.int .i64 0) ∧ ∃ G' F' b, Cv S g bits room Q N G' q [] F' w' ∧ Cch Q G G' F F' w w' ∧ WNew bits k G q b xs G' := by
  have hp := pow_le bits h.bb
  have hm6 : m ≤ 4611686018427387904 := by rw [hm]; omega
  refine (cwrite_any h (k : Int) 0 xs ao m cap hm hm6 hS hdis (by decide) ht hN).mono ?_
  intro e w' hw
  have hma := mayn_of hk
  have hwi : withn bits (0 : Int) (xs.length : Int) = true := withn_of (a := 0) (by omega)
  cases hw using WrR.el with
  | bad h1 _ => rw [hma, hwi] at h1; cases h1
  | fail _ _ _ hz ho _ _ _ => exact absurd (ho.ftn rfl).1 hz
  | nil _ _ _ _ he _ _ => exact absurd he hx
  | ok a1 a2 hu hbL hy a6 hL hv hc =>
    rename_i k1 b i zs lv L H q1 ft1 F1
    rw [Int.toNat_natCast] at hu
    obtain ⟨rfl, rfl, rfl, u⟩ := use_new h hu (Nat.le_refl _) hg hr
    obtain ⟨j, hj⟩ := u.yb
    rw [hj] at hy
    cases hy
    have hne : ∀ a ∈ G.B, a ≠ b := fun a ha e => u.nb (e ▸ ha)
    have hcb := di_c H b true b
    refine ⟨rfl, _, F1, b, hv, hc, ⟨u.nb, u.K, u.B, hL.trans u.L, fun a ha => ?_, fun a ha => ?_, ?_, ?_, ?_, ⟨i, ?_⟩, u.W, u.P, u.t, u.n1, u.n2, u.n3, u.n4⟩⟩
    · show upd H.c b _ a = _
      rw [upd_other _ _ (hne a ha)]; exact u.c a ha
    · show upd H.y b _ a = _
      rw [upd_other _ _ (hne a ha)]; exact u.y a ha
    · show (upd H.c b _ b).n = k
      rw [hcb.1]; exact u.n
    · show (upd H.c b _ b).di = true
      rw [upd_same]
    · show (upd H.c b _ b).pe = false
      rw [hcb.2.1]; exact u.pe
    · show upd H.y b _ b = _
      rw [upd_same]
      rfl
/-- A page that waits for a dirty one: when it is written, the other one was, and a flush lies between. -/
theorem rc_wait {bits n b0 b1 : Nat} {X Y : Xt} (h : Rc bits n X Y) (hw : b1 ∈ X.G.W b0) (hd0 : (X.G.c b0).di = true) (hd1 : (X.G.c b1).di = true) : (Y.G.c b0).di = false → (Y.G.c b1).di = false ∧ 1 ≤ Y.G.n4 := by
  have key : (b1 ∈ Y.G.W b0 ∨ ((Y.G.c b1).di = false ∧ 1 ≤ Y.G.n4)) ∧ ((Y.G.c b0).di = true ∨ ((Y.G.c b1).di = false ∧ 1 ≤ Y.G.n4)) := by
    induction h using Rc.ind with
    | refl => exact ⟨.inl hw, .inl hd0⟩
    | step hr hm ih =>
      rename_i n X Y Z
      obtain ⟨i1, i2⟩ := ih hw hd0 hd1
      cases hm using Mve.el with
      | fl hk k =>
        rename_i G'
        have hl := k.les
        have h4 : G'.n4 = Y.G.n4 + 1 := by
          rcases k with ⟨h0, _⟩ | ⟨_, _, _, h4, _⟩
          · exact absurd rfl h0
          · exact h4
        have hdd : ∀ a, (G'.c a).di = (Y.G.c a).di := fun a => (hl.c a).2.2.1
        constructor
        · rcases i1 with i1 | ⟨i1, i3⟩
          · cases e : (Y.G.c b1).di with
            | true => exact .inl (hl.D b0 b1 i1 e)
            | false => exact .inr ⟨by show (G'.c b1).di = false; rw [hdd, e], by show 1 ≤ G'.n4; omega⟩
          · exact .inr ⟨by show (G'.c b1).di = false; rw [hdd, i1], by show 1 ≤ G'.n4; omega⟩
        · rcases i2 with i2 | ⟨i2, i3⟩
          · exact .inl (by show (G'.c b0).di = true; rw [hdd, i2])
          · exact .inr ⟨by show (G'.c b1).di = false; rw [hdd, i2], by show 1 ≤ G'.n4; omega⟩
      | wr hk hbL hd hW hyb k =>
        rename_i G' b i zs
        have h4 : G'.n4 = Y.G.n4 := k.n4
        have hfd : ∀ a, (Y.G.c a).di = false → (G'.c a).di = false := fun a ha => by
          rw [k.di a]
          split
          · rfl
          · exact ha
        have r1 : b1 ∈ G'.W b0 ∨ ((G'.c b1).di = false ∧ 1 ≤ G'.n4) := by
          rcases i1 with i1 | ⟨i1, i3⟩
          · exact .inl (by rw [k.W]; exact i1)
          · exact .inr ⟨hfd b1 i1, by omega⟩
        refine ⟨r1, ?_⟩
        by_cases e : b = b0
        · subst e
          rcases i1 with i1 | ⟨i1, i3⟩
          · rw [hW] at i1; cases i1
          · exact .inr ⟨hfd b1 i1, by show 1 ≤ G'.n4; omega⟩
        · rcases i2 with i2 | ⟨i2, i3⟩
          · refine .inl ?_
            show (G'.c b0).di = true
            rw [k.di b0, if_neg (fun x => e x.symm)]
            exact i2
          · exact .inr ⟨hfd b1 i2, by show 1 ≤ G'.n4; omega⟩
  intro h0
  rcases key.2 with h | h
  · rw [h0] at h; cases h
  · exact h
end Go.Proofs.YtnccklbnncaeoaaGreat
/- The statements' works: two pages, one waits for the other one. -/
namespace Go.Proofs.YtnccklbnncaeoaaGreat
open Go.RowKit
set_option linter.unusedVariables false
set_option linter.unusedSimpArgs false
/-- Two dirty pages, 0 and 1, nobody waits. -/
structure Two (G : Gc) (b0 b1 : Nat) : Prop where
  ne : b1 ≠ b0
  g0 : nget G.c G.K 0 = some b0
  g1 : nget G.c G.K 1 = some b1
  L : G.L.Perm [b1, b0]
  d0 : (G.c b0).di = true
  d1 : (G.c b1).di = true
  n0 : (G.c b0).n = 0
  n1 : (G.c b1).n = 1
  W : ∀ x, G.W x = []
  y0 : ∃ i zs, G.y b0 = some (i, zs)
  y1 : ∃ i zs, G.y b1 = some (i, zs) ∧ zs.getD 0 0 = 2
  c1 : G.n1 = 0
  c2 : G.n2 = 2
  c3 : G.n3 = 0
  c4 : G.n4 = 0
  t : G.t = 2
section
variable {S : ByteArray} {g Q N : Nat} {G : Gc} {q : Gf} {F : Nat → Prop} {w : World}
theorem two_of {m : Nat} {G1 G2 : Gc} {q1 q2 : Gf} {b0 b1 : Nat} (h : Cv S g 9 2 Q N G2 q [] F w) (h1 : WNew 9 0 (g0 m) q1 b0 [1] G1) (h2 : WNew 9 1 G1 q2 b1 [2] G2) : Two G2 b0 b1 := by
  have hb0 : b0 ∈ G1.B := by rw [h1.B]; exact List.mem_cons_self
  have hne : b1 ≠ b0 := fun e => h2.nb (e ▸ hb0)
  have hc0 := h2.c b0 hb0
  have hn := h.cm.ks.nin
  have k0 : b0 ∈ G2.K := by rw [h2.K, h1.K]; simp
  have k1 : b1 ∈ G2.K := by rw [h2.K]; simp
  have n0 : (G2.c b0).n = 0 := by rw [hc0]; exact h1.n
  refine ⟨hne, by rw [← n0]; exact nget_of hn k0, by rw [← h2.n]; exact nget_of hn k1, ?_, by rw [hc0]; exact h1.di, h2.di, n0, h2.n, fun x => by rw [h2.W, h1.W]; rfl, ?_, ?_, by rw [h2.n1, h1.n1]; rfl, by rw [h2.n2, h1.n2]; rfl, by rw [h2.n3, h1.n3]; rfl, by rw [h2.n4, h1.n4]; rfl, by rw [h2.t, h1.t]; rfl⟩
  · refine h2.L.trans (List.Perm.cons b1 (h1.L.trans ?_))
    exact List.Perm.refl _
  · obtain ⟨i, hi⟩ := h1.yb
    exact ⟨i, _, by rw [h2.y b0 hb0]; exact hi⟩
  · obtain ⟨i, hi⟩ := h2.yb
    refine ⟨i, _, hi, ?_⟩
    have hp : 0 < 2 ^ 9 := by decide
    rw [getD_splice _ _ _ _ (by rw [ldz_len]; simp)]
    simp
theorem Two.Wg {b0 b1 : Nat} (h : Two G b0 b1) : (gAf G b0 b1).W b0 = [b1] ∧ (gAf G b0 b1).W b1 = [] := by
  constructor
  · show upd G.W b0 (nput G.c (G.W b0) b1) b0 = _
    rw [upd_same, h.W b0]
    unfold nput nget
    simp
  · show upd G.W b0 (nput G.c (G.W b0) b1) b1 = _
    rw [upd_other _ _ h.ne, h.W b1]
theorem Two.mu {b0 b1 : Nat} (h : Two G b0 b1) : dn (gAf G b0 b1) = 2 ∧ YtnccklbnncaeoaaGreat.mu (gAf G b0 b1) = 3 := by
  obtain ⟨w0, w1⟩ := h.Wg
  have hd : dn (gAf G b0 b1) = 2 := by
    unfold dn
    show G.L.countP (fun b => (G.c b).di) = 2
    rw [h.L.countP_eq]
    simp [h.d0, h.d1]
  have hw : dw (gAf G b0 b1) = 1 := by
    unfold dw
    show G.L.countP (fun b => (G.c b).di && decide ((gAf G b0 b1).W b ≠ [])) = 1
    rw [h.L.countP_eq]
    simp [h.d0, h.d1, w0, w1]
  refine ⟨hd, ?_⟩
  unfold YtnccklbnncaeoaaGreat.mu
  omega
/-- What Back of the one that waits leaves. -/
theorem two_back {b0 b1 k : Nat} {G4 : Gc} {q4 : Gf} (h : Two G b0 b1) (hr : Rc 9 k ⟨gAf G b0 b1, q, []⟩ ⟨G4, q4, []⟩) (hnd : G.L.Nodup) (hnin : Nin G.c G.L) (hy : ∀ b ∈ G.L, ∀ i zs, G.y b = some (i, zs) → zs.length = 2 ^ 9) (hz : Zb q) (hk : k + YtnccklbnncaeoaaGreat.mu G4 ≤ YtnccklbnncaeoaaGreat.mu (gAf G b0 b1)) (hd : (G4.c b0).di = false) :
    G4.n1 = 0 ∧ G4.n2 = 2 ∧ G4.n3 = 2 ∧ G4.n4 = 1 ∧ cont q4 512 = 2 ∧ q.sz ≤ q4.sz := by
  obtain ⟨m1, m2⟩ := h.mu
  obtain ⟨w0, w1⟩ := h.Wg
  obtain ⟨d1, f1⟩ := rc_wait hr (b0 := b0) (b1 := b1) (by show b1 ∈ (gAf G b0 b1).W b0; rw [w0]; simp) h.d0 h.d1 hd
  change (G4.c b1).di = false at d1
  change 1 ≤ G4.n4 at f1
  have hst := hr.stb
  have hL : G4.L.Perm [b1, b0] := hst.L.trans h.L
  have hdn : dn G4 = 0 := by
    unfold dn
    rw [hL.countP_eq]
    simp [d1, hd]
  have hc := hr.cnt
  have hdd := hr.dn hnd
  change G4.n3 + G4.n4 = G.n3 + G.n4 + k at hc
  change G4.n3 + dn G4 = G.n3 + dn (gAf G b0 b1) at hdd
  have c3 := h.c3
  have c4 := h.c4
  have hfc := rc_cl hr rfl hnin hy hz (fun b hb hbd => by
    have hb' : b ∈ [b1, b0] := h.L.mem_iff.1 hb
    have hbd' : (G.c b).di = false := hbd
    rcases List.mem_cons.1 hb' with e | e
    · rw [e, h.d1] at hbd'; cases hbd'
    · rw [List.mem_singleton.1 e, h.d0] at hbd'; cases hbd')
  have e1 : G4.n1 = G.n1 := hst.n1
  have e2 : G4.n2 = G.n2 := hst.n2
  refine ⟨by rw [e1, h.c1], by rw [e2, h.c2], by omega, by omega, ?_, hfc.sz⟩
  obtain ⟨i, zs, hyi, h2⟩ := h.y1
  have hyy : G4.y b1 = some (i, zs) := by
    have := hst.y
    change G4.y = G.y at this
    rw [this]; exact hyi
  have := hfc.cl b1 (hL.mem_iff.2 (by simp)) d1 i zs hyy 0 (by decide)
  rw [h2] at this
  have hn1 : (G4.c b1).n = 1 := ((hst.c b1).1).trans h.n1
  change 2 = cont q4 ((G4.c b1).n * 2 ^ 9 + 0) at this
  rw [hn1] at this
  exact this.symm
theorem mu_len (G : Gc) : mu G ≤ 2 * G.L.length := by
  have h1 := mu_le G
  have h2 : dn G ≤ G.L.length := List.countP_le_length
  omega
theorem WNew.len {bits k : Nat} {G H : Gc} {q : Gf} {b : Nat} {xs : List Int} (h : WNew bits k G q b xs H) : H.L.length = G.L.length + 1 := by
  rw [h.L.length_eq]; rfl
theorem WNew.ng {bits k : Nat} {G H : Gc} {q : Gf} {b : Nat} {xs : List Int} (h : WNew bits k G q b xs H) (hkb : ∀ a ∈ G.K, a ∈ G.B) {j : Nat} (hg : nget G.c G.K j = none) (hj : j ≠ k) : nget H.c H.K j = none := by
  unfold nget
  rw [List.find?_eq_none]
  intro a ha
  rw [h.K] at ha
  simp only [decide_eq_true_eq]
  rcases List.mem_append.1 ha with ha | ha
  · rw [h.c a (hkb a ha)]
    exact nget_none hg a ha
  · rw [List.mem_singleton.1 ha, h.n]
    exact fun e => hj e.symm
theorem two_after1 {b0 b1 : Nat} {ft : List (Int × Int)} {e : Ending} {w' : World} (h : Two G b0 b1) (ha : AfR S g 9 2 Q N G q ft F w 0 1 e w') : e = .returned (.int .i64 0) ∧ Cv S g 9 2 Q N (gAf G b0 b1) q ft F w' ∧ Cch Q G (gAf G b0 b1) F F w w' := by
  have hm0 : mayn 9 0 = true := by decide
  have hm1 : mayn 9 1 = true := by decide
  have hno : ∀ x y, ¬ Rch G.W x y := fun x y hr => by
    obtain ⟨c, hc, _⟩ := hr.last
    rw [h.W] at hc; cases hc
  cases ha using AfR.el with
  | arg h1 _ => rw [hm0, hm1] at h1; cases h1
  | same _ _ h1 _ => cases h1
  | nil _ _ _ h1 _ =>
    change nget G.c G.K 1 = none at h1
    rw [h.g1] at h1; cases h1
  | loop _ _ _ _ _ h1 _ => exact absurd h1 (hno _ _)
  | idle _ _ _ h1 _ h2 _ =>
    change nget G.c G.K 1 = some _ at h1
    rw [h.g1] at h1; cases h1
    rw [h.d1] at h2; cases h2
  | ok a1 a2 a3 h1 h2 h3 hs hg hv hc =>
    change nget G.c G.K 1 = some _ at h1
    rw [h.g1] at h1; cases h1
    rcases hg with ⟨h4, rfl⟩ | ⟨h4, _⟩
    · change nget _ _ 0 = some _ at h4
      rw [h.g0] at h4; cases h4
      exact ⟨rfl, hv, hc⟩
    · change nget _ _ 0 = none at h4
      rw [h.g0] at h4; cases h4
theorem two_after2 {b0 b1 : Nat} {ft : List (Int × Int)} {e : Ending} {w' : World} (h : Two G b0 b1) (ha : AfR S g 9 2 Q N (gAf G b0 b1) q ft F w 1 0 e w') : e = .returned (.int .i64 240) ∧ Kp (fun _ => False) w w' := by
  have hm0 : mayn 9 0 = true := by decide
  have hm1 : mayn 9 1 = true := by decide
  have hr : Rch (gAf G b0 b1).W b0 b1 := .one (by rw [h.Wg.1]; simp)
  have g0' : nget (gAf G b0 b1).c (gAf G b0 b1).K 0 = some b0 := h.g0
  have g1' : nget (gAf G b0 b1).c (gAf G b0 b1).K 1 = some b1 := h.g1
  cases ha using AfR.el with
  | arg h1 _ => rw [hm0, hm1] at h1; cases h1
  | same _ _ h1 _ => cases h1
  | nil _ _ _ h1 _ =>
    change nget _ _ 0 = none at h1
    rw [g0'] at h1; cases h1
  | loop _ _ _ _ _ h1 k => exact ⟨rfl, k⟩
  | idle _ _ _ h1 h2 _ _ =>
    change nget _ _ 0 = some _ at h1
    rw [g0'] at h1; cases h1
    exact absurd hr (h2 b1 g1')
  | ok a1 a2 a3 h1 h2 h3 hs hg hv hc =>
    change nget _ _ 0 = some _ at h1
    rw [g0'] at h1; cases h1
    exact absurd hr (h2 b1 g1')
theorem Two.kg {b0 b1 : Nat} (h : Two G b0 b1) : kget (gAf G b0 b1) 0 = some b0 := by
  unfold kget
  have g0' : nget (gAf G b0 b1).c (gAf G b0 b1).K 0 = some b0 := h.g0
  rw [g0']
  dsimp only
  obtain ⟨i, zs, hy⟩ := h.y0
  have hy' : (gAf G b0 b1).y b0 = some (i, zs) := hy
  rw [hy']
  rfl
end
end Go.Proofs.YtnccklbnncaeoaaGreat
