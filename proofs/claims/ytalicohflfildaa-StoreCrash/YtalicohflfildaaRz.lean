/- resize: a file's size. -/
import Derived.Test.YtalicohflfildaaCs
import Derived.Test.YtalicohflfildaaCv
namespace Go.Proofs.Ytalicohflfildaa
open Go.RowKit

theorem cutf_ov (n : Nat) (f : Nat → Int) (p : Nat × List Int) : cutf n (ov f p) = if n ≤ p.1 then cutf n f else ov (cutf n f) (p.1, p.2.take (n - p.1)) := by
  by_cases h : n ≤ p.1
  · rw [if_pos h]
    funext i
    unfold cutf ov
    by_cases hi : i < n
    · rw [if_pos hi, if_pos hi, if_neg (by omega)]
    · rw [if_neg hi, if_neg hi]
  · rw [if_neg h]
    funext i
    unfold cutf ov
    dsimp only
    rw [List.length_take]
    by_cases hi : i < n
    · rw [if_pos hi]
      by_cases hp : p.1 ≤ i ∧ i < p.1 + p.2.length
      · rw [if_pos hp, if_pos ⟨hp.1, by omega⟩]
        simp only [List.getD_eq_getElem?_getD]
        rw [List.getElem?_take, if_pos (by omega)]
      · rw [if_neg hp, if_neg (by omega), if_pos hi]
    · rw [if_neg hi, if_neg (by omega), if_neg hi]
theorem cutf_ovs (n : Nat) (ps : List (Nat × List Int)) (f : Nat → Int) : cutf n (ovs f ps) = ovs (cutf n f) (ctp n ps) := by
  induction ps generalizing f with
  | nil => rfl
  | cons p ps ih =>
    show cutf n (ovs (ov f p) ps) = _
    rw [ih, cutf_ov, show ctp n (p :: ps) = if n ≤ p.1 then ctp n ps else (p.1, p.2.take (n - p.1)) :: ctp n ps from rfl]
    by_cases h : n ≤ p.1
    · rw [if_pos h, if_pos h]
    · rw [if_neg h, if_neg h]; rfl
theorem ctp_mem {n : Nat} {ps : List (Nat × List Int)} {q : Nat × List Int} (h : q ∈ ctp n ps) : ∃ p ∈ ps, p.1 < n ∧ q = (p.1, p.2.take (n - p.1)) := by
  induction ps with
  | nil => simp [ctp] at h
  | cons p ps ih =>
    unfold ctp at h
    by_cases hn : n ≤ p.1
    · rw [if_pos hn] at h
      obtain ⟨p', h1, h2⟩ := ih h
      exact ⟨p', List.mem_cons_of_mem _ h1, h2⟩
    · rw [if_neg hn] at h
      rcases List.mem_cons.1 h with h | h
      · exact ⟨p, by simp, by omega, h⟩
      · obtain ⟨p', h1, h2⟩ := ih h
        exact ⟨p', List.mem_cons_of_mem _ h1, h2⟩
/-- A file behind a resize. -/
def grz (q : Gf) (n : Nat) : Gf := if n < q.sz then ⟨n, cutf n q.L, ctp n q.ps⟩ else ⟨n, q.L, q.ps⟩
set_option maxRecDepth 100000 in
set_option maxHeartbeats 4000000 in
theorem resize_any (D : Nat → Prop) (w : World) (a : Fa) (q : Gf) (hf : Fr D w a q.sz q.L q.ps) (n : Nat) (hn : n ≤ 268435456) :
    Calls Try.prog 47 #[.pointer (some ⟨a.fb, 0, none⟩), .int .i64 n] w fun e w' => e = .returned (.tuple #[]) ∧ ∃ D' a', a'.fb = a.fb ∧ Fr D' w' a' (grz q n).sz (grz q n).L (grz q n).ps ∧ Wk D w a.own w' D' a'.own := by
  obtain ⟨sz, L, ps⟩ := q
  obtain ⟨fb, lm, om, pv⟩ := a
  dsimp only at hf ⊢
  have HF : Hid (Fr D w ⟨fb, lm, om, pv⟩ sz L ps) := hf
  have c0 : w.cell? ⟨fb, 0, none⟩ = some (.int .i64 sz) := hf.st.cell 0
  have f0 := hf.st.frozen 0
  by_cases hlt : n < sz
  · have hlti : (n : Int) < (sz : Int) := by omega
    obtain ⟨el, cl, hla⟩ := hf.la
    obtain ⟨eo, co, hov, hcv⟩ := hf.ov
    obtain ⟨vs0, hpr⟩ := hf.pc
    dsimp only at hla hov hpr
    have hlo := hf.lt
    have hfl : fb < w.heap.size := hlo fb ((Fa.mem _ _).2 (.inl rfl))
    have hll : lm < w.heap.size := hlo lm ((Fa.mem _ _).2 (.inr (.inl rfl)))
    have hol : om < w.heap.size := hlo om ((Fa.mem _ _).2 (.inr (.inr (.inl rfl))))
    have hlm := hf.lm_ne
    have hne := hf.ne
    dsimp only at hlm hne
    have hnd : ∀ i, D i → i ≠ fb ∧ i ≠ lm ∧ i ≠ om ∧ i < w.heap.size := fun i hi => by
      have h1 := hf.nd i hi
      rw [Fa.mem] at h1
      exact ⟨fun e => h1 (.inl e), fun e => h1 (.inr (.inl e)), fun e => h1 (.inr (.inr (.inl e))), hf.db i hi⟩
    have c1 : w.cell? ⟨fb, 1, none⟩ = some (.map (some lm)) := hf.st.cell 1
    have HLA : Hid (Sm D w lm L zero el cl) := hla
    have HOV : Hid (Sm D w om (ovs L ps) L eo co) := hov
    have HCV : Hid (Cov eo ps) := hcv
    have HPR : Hid (Pr D w pv ps vs0) := hpr
    clear hf hla hov hcv hpr hlo
    go_enter Try.func47, Try.ntmps47
    go_wp2_with fail
    refine (cut_any D w lm cl n L zero el HLA.out hn (fun h => (hnd _ h).2.1 rfl)).mono ?_
    rintro e w1 ⟨rfl, el1, cl1, sl1, k1, -⟩
    rw [cutf_zero] at sl1
    obtain ⟨D1, hD1⟩ : ∃ D1 : Nat → Prop, D1 = fun i => D i ∨ (w.heap.size ≤ i ∧ i < w1.heap.size) := ⟨_, rfl⟩
    rw [← hD1] at sl1
    have hd1 : ∀ i, D1 i → i ≠ fb ∧ i ≠ lm ∧ i ≠ om ∧ i < w1.heap.size ∧ (D i ∨ w.heap.size ≤ i) := fun i hi => by
      rw [hD1] at hi
      have hz := k1.size
      rcases hi with h1 | h1
      · have := hnd i h1; exact ⟨this.1, this.2.1, this.2.2.1, by omega, .inl h1⟩
      · exact ⟨by omega, by omega, by omega, h1.2, .inr h1.1⟩
    have hdd : ∀ i, D i → D1 i := fun i hi => by rw [hD1]; exact .inl hi
    have so1 : Sm D1 w1 om (ovs L ps) L eo co := (HOV.out.kp k1 (fun e => hne e.symm) (fun i hi => (hnd i hi).2.1)).mono (fun i _ hi => hdd i hi)
    have pr1 : Pr D1 w1 pv ps vs0 := (HPR.out.kp k1 (fun b hb e => (HF.out.fb_ne hb).2.1 e) (fun i hi => (hnd i hi).2.1)).mono (fun i _ hi => hdd i hi)
    have st1 : St 70 w1 fb #[.int .i64 sz, .map (some lm), .map (some om), pv] := HF.out.st.kp k1 (fun e => hlm.1 e.symm)
    have c2 : w1.cell? ⟨fb, 2, none⟩ = some (.map (some om)) := st1.cell 2
    go_wp2_with fail
    refine (cut_any D1 w1 om co n (ovs L ps) L eo so1 hn (fun h => (hd1 _ h).2.2.1 rfl)).mono ?_
    rintro e w2 ⟨rfl, eo2, co2, so2, k2, hc2⟩
    rw [cutf_ovs] at so2
    obtain ⟨D2, hD2⟩ : ∃ D2 : Nat → Prop, D2 = fun i => D1 i ∨ (w1.heap.size ≤ i ∧ i < w2.heap.size) := ⟨_, rfl⟩
    rw [← hD2] at so2
    have hz1 := k1.size
    have hz2 := k2.size
    have hd2 : ∀ i, D2 i → i ≠ fb ∧ i ≠ lm ∧ i ≠ om ∧ i < w2.heap.size ∧ (D i ∨ w.heap.size ≤ i) := fun i hi => by
      rw [hD2] at hi
      rcases hi with h1 | h1
      · have := hd1 i h1; exact ⟨this.1, this.2.1, this.2.2.1, by omega, this.2.2.2.2⟩
      · exact ⟨by omega, by omega, by omega, h1.2, .inr (by omega)⟩
    have hdd2 : ∀ i, D1 i → D2 i := fun i hi => by rw [hD2]; exact .inl hi
    have sl2 : Sm D2 w2 lm (cutf n L) zero el1 cl1 := (sl1.kp k2 hne (fun i hi => (hd1 i hi).2.2.1)).mono (fun i _ hi => hdd2 i hi)
    have pr2 : Pr D2 w2 pv ps vs0 := (pr1.kp k2 (fun b hb e => (HF.out.fb_ne hb).2.2 e) (fun i hi => (hd1 i hi).2.2.1)).mono (fun i _ hi => hdd2 i hi)
    have st2 : St 70 w2 fb #[.int .i64 sz, .map (some lm), .map (some om), pv] := st1.kp k2 (fun e => hlm.2 e.symm)
    have c3 : w2.cell? ⟨fb, 3, none⟩ = some pv := st2.cell 3
    go_wp2_with fail
    refine (cutp_any D2 w2 pv ps vs0 pr2 n hn (fun p hp => ⟨(HF.out.pb p hp).1, by have := (HF.out.pb p hp).2.2; have := HF.out.sb; omega⟩) HF.out.nb (fun i hi => (hd2 i hi).2.2.2.1)).mono ?_
    rintro e w3 ⟨v3, vs3, rfl, hcp⟩
    have hrow := hcp.row
    have hpr3 := hcp.pr
    have k3 := hcp.kp
    rw [List.take_length] at hrow hpr3
    obtain ⟨ao3, c3', hv3⟩ := ownsRow_shape hrow
    subst hv3
    obtain ⟨cn, hcn⟩ : ∃ x, x = (ctp n ps).length := ⟨_, rfl⟩
    rw [← hcn] at hrow hpr3 ⊢
    have hvo : ∀ b, (Value.slice ao3 cn c3').ownBlock = some b → w2.heap.size ≤ b := by
      intro b hb
      rcases hrow.2 with ⟨h4, _⟩ | ⟨gg, cap, cur, h4, h5, _⟩
      · rw [h4] at hb; cases hb
      · rw [h4] at hb
        have : gg = b := by simpa [Value.ownBlock] using hb
        omega
    have st3 := st2.kp k3 (fun h => h)
    have f3 := st3.frozen 3
    have g3 : w3.cell? ⟨fb, 3, none⟩ = some pv := st3.cell 3
    have g30 : w3.cell? ⟨fb, 0, none⟩ = some (.int .i64 sz) := st3.cell 0
    have f30 := st3.frozen 0
    have st4 := st3.set 3 (.slice ao3 cn c3')
    have f40 := st4.frozen 0
    have g40 : (w3.setCell ⟨fb, 3, none⟩ (.slice ao3 cn c3')).cell? ⟨fb, 0, none⟩ = some (.int .i64 sz) := st4.cell 0
    have st5 := st4.set 0 (.int .i64 n)
    have kC : Kp (fun i => i = fb) w3 ((w3.setCell ⟨fb, 3, none⟩ (.slice ao3 cn c3')).setCell ⟨fb, 0, none⟩ (.int .i64 n)) := (kp_setCell w3 fb 3 (.slice ao3 cn c3') (fun i => i = fb) rfl).trans (kp_setCell _ fb 0 (.int .i64 n) (fun i => i = fb) rfl) (fun _ _ h => h)
    have hz3 := k3.size
    have fin : Fr D2 ((w3.setCell ⟨fb, 3, none⟩ (.slice ao3 cn c3')).setCell ⟨fb, 0, none⟩ (.int .i64 n)) ⟨fb, lm, om, .slice ao3 cn c3'⟩ n (cutf n L) (ctp n ps) := by
      refine ⟨st5, ⟨el1, cl1, (sl2.kp k3 (fun h => h) (fun _ _ h => h)).kp kC hlm.1 (fun i hi => (hd2 i hi).1)⟩, ⟨eo2, co2, (so2.kp k3 (fun h => h) (fun _ _ h => h)).kp kC hlm.2 (fun i hi => (hd2 i hi).1), fun q hq => ?_⟩, ⟨vs3, hpr3.kp kC (fun b hb e => by have := hvo b hb; omega) (fun i hi => (hd2 i hi).1)⟩, hne, fun i hi hm => ?_, fun i hi => ?_, fun i hi => ?_, fun q hq => ?_, hn, ?_⟩
      · obtain ⟨p, hp, hpn, rfl⟩ := ctp_mem hq
        exact hc2 (p.1 / 512) (by omega) (HCV.out p hp)
      · have hd := hd2 i hi
        rcases (Fa.mem _ i).1 hm with e | e | e | e
        · exact hd.1 e
        · exact hd.2.1 e
        · exact hd.2.2.1 e
        · have := hvo i e; omega
      · have := (hd2 i hi).2.2.2.1
        have := kC.size
        omega
      · unfold cutf; rw [if_neg (by omega)]
      · obtain ⟨p, hp, hpn, rfl⟩ := ctp_mem hq
        have h1 := HF.out.pb p hp
        dsimp only
        rw [List.length_take]
        exact ⟨by omega, by omega, by omega⟩
      · have := ctp_len n ps; have := HF.out.nb; omega
    have wk : Wk D w (Fa.mk fb lm om pv).own ((w3.setCell ⟨fb, 3, none⟩ (.slice ao3 cn c3')).setCell ⟨fb, 0, none⟩ (.int .i64 n)) D2 (Fa.mk fb lm om (.slice ao3 cn c3')).own := by
      refine ⟨(((k1.mono (fun i _ e => by rw [e]; exact (Fa.mem _ _).2 (.inr (.inl rfl)))).trans k2 (fun i _ e => by rw [e]; exact (Fa.mem _ _).2 (.inr (.inr (.inl rfl))))).trans k3 (fun _ _ h => h.elim)).trans kC (fun i _ e => by rw [e]; exact (Fa.mem _ _).2 (.inl rfl)), fun i hi => ?_, fun i hi => hdd2 i (hdd i hi), fun i hi => (hd2 i hi).2.2.2.2⟩
      rcases (Fa.mem _ i).1 hi with e | e | e | e
      · exact .inl ((Fa.mem _ _).2 (.inl e))
      · exact .inl ((Fa.mem _ _).2 (.inr (.inl e)))
      · exact .inl ((Fa.mem _ _).2 (.inr (.inr (.inl e))))
      · right; have := hvo i e; omega
    have FIN : Hid (Fr D2 ((w3.setCell ⟨fb, 3, none⟩ (.slice ao3 cn c3')).setCell ⟨fb, 0, none⟩ (.int .i64 n)) ⟨fb, lm, om, .slice ao3 cn c3'⟩ n (cutf n L) (ctp n ps)) := fin
    have WK : Hid (Wk D w (Fa.mk fb lm om pv).own ((w3.setCell ⟨fb, 3, none⟩ (.slice ao3 cn c3')).setCell ⟨fb, 0, none⟩ (.int .i64 n)) D2 (Fa.mk fb lm om (.slice ao3 cn c3')).own) := wk
    clear fin wk hrow hpr3 hcp
    go_wp2
    go_end0
    subst hcn
    refine ⟨rfl, D2, ⟨fb, lm, om, .slice ao3 _ c3'⟩, rfl, ?_, WK.out⟩
    unfold grz
    rw [if_pos hlt]
    exact FIN.out
  · have hge : ¬ (n : Int) < (sz : Int) := by omega
    clear hf
    go_enter Try.func47, Try.ntmps47
    go_wp2
    go_end0
    have kB := kp_setCell w fb 0 (.int .i64 n) (fun i => i = fb) rfl
    have st := HF.out.st.set 0 (.int .i64 n)
    have hne := HF.out.lm_ne
    dsimp only at hne
    have hD : ∀ i, D i → ¬ i = fb := fun i hi e => HF.out.nd i hi ((Fa.mem _ _).2 (.inl e))
    obtain ⟨e1, c1, h1⟩ := HF.out.la
    obtain ⟨e2, c2, h2, g2⟩ := HF.out.ov
    obtain ⟨vs, h3⟩ := HF.out.pc
    refine ⟨rfl, D, ⟨fb, lm, om, pv⟩, rfl, ?_, ⟨kB.mono (fun i _ e => by rw [e]; exact (Fa.mem _ _).2 (.inl rfl)), fun i hi => .inl hi, fun _ h => h, fun _ h => .inl h⟩⟩
    unfold grz
    rw [if_neg hlt]
    exact ⟨st, ⟨e1, c1, h1.kp kB hne.1 hD⟩, ⟨e2, c2, h2.kp kB hne.2 hD, g2⟩, ⟨vs, h3.kp kB (fun b hb e => (HF.out.fb_ne hb).1 e) hD⟩, HF.out.ne, HF.out.nd, fun i hi => Nat.lt_of_lt_of_le (HF.out.db i hi) kB.size, fun i hi => HF.out.lz i (by dsimp only at hi; omega), fun p hp => ⟨(HF.out.pb p hp).1, (HF.out.pb p hp).2.1, by have := (HF.out.pb p hp).2.2; dsimp only; omega⟩, hn, HF.out.nb⟩
end Go.Proofs.Ytalicohflfildaa
