/- later: Next. -/
import Derived.Test.YtgfondgejimkkaaNm
namespace Go.Proofs.Ytgfondgejimkkaa
open Go.RowKit
set_option linter.unusedVariables false
set_option linter.unusedSimpArgs false
/-- What Next tells and leaves. -/
def NxR (w : World) (Q B mb me : Nat) (c : Nat → Rn) (v : Value) (L : List Nat) (most : Int) (e : Ending) (w' : World) : Prop :=
  (most < 1 ∧ e = .returned (.tuple #[.agg zRn.cs, .int .i64 2]) ∧ Kp (fun _ => False) w w') ∨
  (1 ≤ most ∧ L = [] ∧ e = .returned (.tuple #[.agg zRn.cs, .int .i64 7]) ∧ Kp (fun _ => False) w w') ∨
  (1 ≤ most ∧ ∃ x tl, srt (L.map c) = x :: tl ∧ e = .returned (.tuple #[.agg (⟨x.a, min x.n most⟩ : Rn).cs, .int .i64 0]) ∧ ∃ c' v' L', Tr w (Fp Q B mb me v L) Q B mb me c' v' L' w' ∧ srt (L'.map c') = lss (x :: tl) ⟨x.a, min x.n most⟩)
theorem NxR.fin {w w9 w6 : World} {Q B mb me P b : Nat} {c : Nat → Rn} {v : Value} {L : List Nat} {most xa xn : Int} {F tl : List Rn} (h : Lc c w Q B mb me v L) (ht : Mayr ⟨xa, min xn most⟩) (hP : P = w.heap.size) (hge : 1 ≤ most) (htl : srt (L.map c) = c b :: tl) (hcb : c b = ⟨xa, xn⟩)
    (hpm : ((rst L [b]).map c ++ F).Perm (lss (L.map c) ⟨xa, min xn most⟩)) (han : Ap ((rst L [b]).map c ++ F)) (k6 : Kp (fun i => i = P) w9 w6)
    (hT : ∃ c' v' L', Tr w (Fp Q B mb me v L) Q B mb me c' v' L' w9 ∧ ¬ Fp Q B mb me v' L' P ∧ (L'.map c').Perm ((rst L [b]).map c ++ F)) : NxR w Q B mb me c v L most (.returned (.tuple #[.agg (⟨xa, min xn most⟩ : Rn).cs, .int .i64 0])) w6 := by
  obtain ⟨c', v', L', t, hp, pm⟩ := hT
  refine .inr (.inr ⟨hge, ⟨xa, xn⟩, tl, by rw [htl, hcb], rfl, c', v', L', ⟨t.lc.kp k6 (fun i hi e => hp (e ▸ hi)), t.kp.trans k6 (fun i hi e => by omega), t.fp⟩, ?_⟩)
  rw [srt_of_perm (han.perm pm.symm) (pm.trans hpm), (lss_ap ht h.ap).2, htl, hcb]
set_option maxRecDepth 100000 in
set_option maxHeartbeats 16000000 in
theorem next_any (c : Nat → Rn) (w : World) (Q B mb me : Nat) (v : Value) (L : List Nat) (h : Lc c w Q B mb me v L) (most : Int) (hmo : most ≤ 9223372036854775807) :
    Calls Try.prog 29 #[ptr Q, .int .i64 most] w (NxR w Q B mb me c v L most) := by
  have HNO : Hid (∀ U, Kp (fun _ => False) w U → Calls Try.prog 32 #[.pointer (some ⟨Q, 0, none⟩)] U fun e w' => e = .returned (.bool false) ∧ U = w') := fun U hU => none_yes Q B _ _ _ U (h.st.kp hU (fun h => h))
  have HLN : Hid (∀ U, Kp (fun _ => False) w U → Calls Try.prog 34 #[.pointer (some ⟨B, 0, none⟩)] U fun e w' => e = .returned (.int .i64 L.length) ∧ U = w') := fun U hU => (len_any c U 0 B v L (h.ln.kp0 hU)).mono fun e w' ⟨h1, h2⟩ => ⟨h1, h2.symm⟩
  have HQ : Hid (∀ U, Kp (fun _ => False) w U → U.cell? ⟨Q, 0, none⟩ = some (.pointer (some ⟨B, 0, none⟩))) := fun U hU => (h.st.kp hU (fun h => h)).cell 0
  have HH := hid h
  have r0 := Rn.B.new w zRn
  change Rn.B (w.alloc (.cells #[.int .i64 0, .int .i64 0] 38)) w.heap.size zRn at r0
  have k0 : Kp (fun _ => False) w (w.alloc (.cells #[.int .i64 0, .int .i64 0] 38)) := (Kp.refl _ _).alloc _
  have z0 : (w.alloc (.cells #[.int .i64 0, .int .i64 0] 38)).heap.size = w.heap.size + 1 := World.size_alloc _ _
  clear h
  unfold ptr
  go_enter Try.func29, Try.ntmps29
  generalize hC9 : Code.region 9 _ _ = C9
  generalize hC8 : Code.region 8 _ _ = C8
  go_wp2_with fail
  generalize w.alloc (.cells #[.int .i64 0, .int .i64 0] 38) = V at *
  refine (HNO.out V k0).mono ?_
  rintro e V0 ⟨rfl, rfl⟩
  obtain ⟨P, hP⟩ : ∃ P, P = w.heap.size := ⟨_, rfl⟩
  rw [← hP] at r0 z0 ⊢
  have HPw := hid hP
  have R0 := hid r0
  have K0 := hid k0
  have HZ0 := hid z0
  have q0 := HQ.out V k0
  clear hP r0 k0 z0 HNO
  by_cases hlt : most < 1
  · go_wp2_with (refine wpList_store_r rfl _ _ rfl _ rfl (e' := zRn) rfl R0.out ?_; intro w3 s3 k3; have KF : Hid (Kp (fun _ => False) w w3) := K0.out.trans k3 (fun i hi e => by have := HPw.out; omega); clear k3)
    refine bodyPost_ret (results_cell_tmp2 Try.results29 _ _ _ rfl rfl (Rn.B.load s3)) rfl ?_
    exact .inl ⟨hlt, rfl, KF.out⟩
  · have hge : 1 ≤ most := by omega
    by_cases hL : L.length = 0
    · have hL0 : L = [] := List.length_eq_zero_iff.1 hL
      have HL0 := hid hL0
      rw [hL] at HLN
      clear hL hL0
      go_wp2_with fail
      refine (HLN.out V K0.out).mono ?_
      rintro e V0 ⟨rfl, rfl⟩
      go_wp2_with (refine wpList_store_r rfl _ _ rfl _ rfl (e' := zRn) rfl R0.out ?_; intro w3 s3 k3; have KF : Hid (Kp (fun _ => False) w w3) := K0.out.trans k3 (fun i hi e => by have := HPw.out; omega); clear k3)
      refine bodyPost_ret (results_cell_tmp2 Try.results29 _ _ _ rfl rfl (Rn.B.load s3)) rfl ?_
      exact .inr (.inl ⟨hge, HL0.out, rfl, KF.out⟩)
    · have hLp : 0 < L.length := by omega
      have HLp := hid hLp
      obtain ⟨m, hm⟩ : ∃ m, m = L.length := ⟨_, rfl⟩
      rw [← hm] at HLN hLp
      have hmi : ¬ ((m : Int) = 0) := by omega
      go_wp2_with fail
      refine (HLN.out V K0.out).mono ?_
      rintro e V0 ⟨rfl, rfl⟩
      go_wp2_with fail
      refine (first_any c V 0 B v L (HH.out.kp0 K0.out).ln HLp.out).mono ?_
      rintro e V0 ⟨rfl, rfl⟩
      obtain ⟨tl, htl⟩ := top_head HH.out.ap HH.out.hp HLp.out
      have HTL := hid htl
      have hbL := gn_mem HLp.out
      have HBL := hid hbL
      obtain ⟨i9, hwt⟩ := (HH.out.kp0 K0.out).ln.wt hbL
      have HWT := hid hwt
      clear HLN hbL hwt htl hL
      generalize L.getD 0 0 = b at *
      obtain ⟨xa, hxa⟩ : ∃ xa, xa = (c b).a := ⟨_, rfl⟩
      obtain ⟨xn, hxn⟩ : ∃ xn, xn = (c b).n := ⟨_, rfl⟩
      have HCB : Hid (c b = ⟨xa, xn⟩) := Rn.ext' hxa.symm hxn.symm
      have HC : Hid (∀ U, Kp (fun _ => False) V U → (fun U : World => U.cell? ⟨b, 0, none⟩ = some (.int .i64 xa) ∧ U.cell? ⟨b, 1, none⟩ = some (.int .i64 xn)) U) := fun U hU => ⟨by rw [hxa]; exact (St.kp HWT.out hU (fun h => h)).cell 0, by rw [hxn]; exact (St.kp HWT.out hU (fun h => h)).cell 1⟩
      clear hxa hxn
      go_wp2_with fail
      subst hC8
      have cc := HC.out V.drew (Kp.refl (fun _ => False) V).drew
      go_region_held3 (fun U : World => U.cell? ⟨b, 0, none⟩ = some (.int .i64 xa) ∧ U.cell? ⟨b, 1, none⟩ = some (.int .i64 xn)) (first | exact cc | exact HC.out _ ((Kp.refl (fun _ => False) V).drew.alloc _)) (fail)
      all_goals (
        have K8 : Hid (Kp (fun _ => False) V ((V.alloc (.cells #[.int .i64 xa, .int .i64 (min xn most)] 38)).drew)) := ((Kp.refl (fun _ => False) V).alloc _).drew
        have S8 : Hid (Rn.B ((V.alloc (.cells #[.int .i64 xa, .int .i64 (min xn most)] 38)).drew) V.heap.size ⟨xa, min xn most⟩) := (St.new 38 V _)
        generalize (V.alloc (.cells #[.int .i64 xa, .int .i64 (min xn most)] 38)).drew = W8 at K8 S8 ⊢
        have KW8 : Hid (Kp (fun _ => False) w W8) := K0.out.trans K8.out (fun _ _ h => h)
        have HC9 : Hid (∀ U, Kp (fun _ => False) W8 U → (fun U : World => U.cell? ⟨b, 0, none⟩ = some (.int .i64 xa) ∧ U.cell? ⟨b, 1, none⟩ = some (.int .i64 xn) ∧ U.cell? ⟨V.heap.size, 0, none⟩ = some (.int .i64 xa) ∧ U.cell? ⟨V.heap.size, 1, none⟩ = some (.int .i64 (min xn most))) U) := fun U hU => ⟨(HC.out U (K8.out.trans hU (fun _ _ h => h))).1, (HC.out U (K8.out.trans hU (fun _ _ h => h))).2, (S8.out.kp hU (fun h => h)).cell 0, (S8.out.kp hU (fun h => h)).cell 1⟩
        have cd := HC9.out W8.drew (Kp.refl (fun _ => False) W8).drew
        clear cc
        go_wp2_with fail
        subst hC9
        obtain ⟨F, hF⟩ : ∃ F, F = wow ⟨xa, min xn most⟩ ⟨xa, xn⟩ := ⟨_, rfl⟩
        have hmb : Mayr ⟨xa, xn⟩ := by rw [← HCB.out]; exact HH.out.ln.may b HBL.out
        have hmt : Mayr ⟨xa, min xn most⟩ := by unfold Mayr Rn.e at hmb ⊢; dsimp only at *; omega
        have HMT := hid hmt
        have HF := hid hF
        have HWO : Hid (∀ U, Calls Try.prog 49 #[.agg #[.int .i64 xa, .int .i64 xn], .agg #[.int .i64 xa, .int .i64 (min xn most)]] U fun e w' => ∃ ao cap, e = .returned (.slice ao F.length cap) ∧ Srcr w' ao F ∧ (∀ b off, ao = some ⟨b, off, none⟩ → U.heap.size ≤ b) ∧ Kp (fun _ => False) U w') := fun U => (without_any U ⟨xa, xn⟩ ⟨xa, min xn most⟩ hmb hmt).mono (by
          rintro e w' ⟨v1, rfl, o1, k1⟩
          rw [← hF] at o1
          obtain ⟨ao1, cap1, rfl, s1, _, _, h0⟩ := o1.src
          refine ⟨ao1, cap1, rfl, s1, fun b off e => ?_, k1⟩
          subst e
          rcases o1.2 with ⟨e0, _⟩ | ⟨g, cp, cur, e0, hb, _⟩
          · cases e0
          · cases e0; exact hb)
        have hpm := off_one (t := ⟨xa, min xn most⟩) HH.out.ap HH.out.ln.nodup HBL.out hmt (by rw [HCB.out]; exact Int.le_refl _) (by rw [HCB.out]; unfold Rn.e; dsimp only; omega)
        rw [HCB.out, ← hF] at hpm
        have HPM := hid hpm
        have HAN : Hid (Ap ((rst L [b]).map c ++ F)) := (lss_ap hmt HH.out.ap).1.perm hpm.symm
        have hFl : F.length ≤ 2 := by rw [hF]; exact wow_len _ _
        have HNL : Hid (((rst L [b]).map c ++ F).length ≤ 4096) := by
          have h1 := (rst_perm HH.out.ln.nodup (D := [b]) (by simp) (by simpa using HBL.out)).length_eq
          have h2 := HH.out.len
          have h3 : F.length ≤ 1 := by
            rw [hF]
            unfold wow
            dsimp only
            rw [if_neg (by omega)]
            split <;> simp
          show _ ≤ _
          simp at h1 ⊢
          omega
        have HTU : Hid (∀ U g ao cap, Kp (fun _ => False) W8 U → St 74 U g #[ptr b] → w.heap.size ≤ g → Srcr U ao F → (∀ b off, ao = some ⟨b, off, none⟩ → w.heap.size ≤ b) → Calls Try.prog 47 #[.pointer (some ⟨Q, 0, none⟩), .slice (some ⟨g, 0, none⟩) 1 1, .slice ao F.length cap] U fun e w' => e = .returned (.tuple #[.int .i64 (sz ((rst L [b]).map c ++ F) - sz (L.map c)), .int .i64 0]) ∧ Rn.B w' P zRn ∧ (∃ c' v' L', Tr w (Fp Q B mb me v L) Q B mb me c' v' L' w' ∧ ¬ Fp Q B mb me v' L' P ∧ (L'.map c').Perm ((rst L [b]).map c ++ F)) ∧ (fun U : World => U.cell? ⟨b, 0, none⟩ = some (.int .i64 xa) ∧ U.cell? ⟨b, 1, none⟩ = some (.int .i64 xn) ∧ U.cell? ⟨V.heap.size, 0, none⟩ = some (.int .i64 xa) ∧ U.cell? ⟨V.heap.size, 1, none⟩ = some (.int .i64 (min xn most))) w') := fun U g ao cap hU8 hst hg hs hb => by
          have hU := KW8.out.trans hU8 (fun _ _ h => h)
          have hc9 := HC9.out U hU8
          have hvf : ¬ Fp Q B mb me v L V.heap.size := fun hf => by have := HH.out.lt hf; have := K0.out.size; omega
          have hpf : ¬ Fp Q B mb me v L P := fun hf => by have := HH.out.lt hf; have := HPw.out; omega
          refine (turn_gone c U Q B mb me v L [b] F (some ⟨g, 0, none⟩) ao 1 1 _ cap (HH.out.kp0 hU) rfl rfl (by omega) (by simp) (by simpa using HBL.out) (fun _ => ⟨g, 0, rfl, hst.lt, fun j hj => by (have : j = 0 := by simp at hj; omega); subst this; exact hst.cell 0⟩) hs (fun _ b off e hf => by cases e; have := HH.out.lt hf; omega) (fun _ b off e hf => by have := hb b off e; have := HH.out.lt hf; omega) HAN.out).mono (fun e w' ht => ?_)
          obtain ⟨ht, hgo⟩ := ht
          obtain ⟨sl, hwt⟩ := hgo HNL.out b (by simp)
          unfold Wt at hwt
          rw [HCB.out] at hwt
          rcases ht with ⟨h1, _⟩ | ⟨_, h2, c', v', L', h3, h4⟩
          · exact absurd h1 (by have := HNL.out; omega)
          · exact ⟨h2, (R0.out.kp (K8.out.trans hU8 (fun _ _ h => h)) (fun h => h)).kp h3.kp hpf, ⟨c', v', L', ⟨h3.lc, (hU.mono (fun _ _ h => h.elim)).trans h3.kp (fun _ _ h => h), fun k hk => (h3.fp k hk).imp id (Nat.le_trans hU.size)⟩, fun hk => (h3.fp _ hk).elim hpf (fun h => by have := K8.out.size; have := hU8.size; have := HZ0.out; omega), h4⟩, hwt.cell 0, hwt.cell 1, kp_cell h3.kp hc9.2.2.1 hvf, kp_cell h3.kp hc9.2.2.2 hvf⟩
        have HWs : Hid (w.heap.size ≤ W8.heap.size) := KW8.out.size
        clear hF hmb hmt hpm hFl
        go_region_held3 (fun U : World => U.cell? ⟨b, 0, none⟩ = some (.int .i64 xa) ∧ U.cell? ⟨b, 1, none⟩ = some (.int .i64 xn) ∧ U.cell? ⟨V.heap.size, 0, none⟩ = some (.int .i64 xa) ∧ U.cell? ⟨V.heap.size, 1, none⟩ = some (.int .i64 (min xn most))) (first | exact cd | exact cd2 | exact cd9 | exact HC9.out _ ((Kp.refl (fun _ => False) W8).drew.alloc _) | exact HC9.out _ (K5.out.alloc _)) (first | (go_at_call 49; refine (HWO.out _).mono ?_; rintro e w5 ⟨ao5, cap5, rfl, s5, b5, k5⟩; have K5 : Hid (Kp (fun _ => False) W8 w5) := (by first | exact ((Kp.refl (fun _ => False) W8).alloc _).drew.trans k5 (fun _ _ h => h) | exact (Kp.refl (fun _ => False) W8).drew.trans k5 (fun _ _ h => h)); have cd2 := HC9.out w5 K5.out; have S5 := hid s5; have B5 : Hid (∀ b off, ao5 = some ⟨b, off, none⟩ → w.heap.size ≤ b) := (by intro b off e; first | exact Nat.le_trans HWs.out (Nat.le_trans (((Kp.refl (fun _ => False) W8).alloc _).drew).size (b5 b off e)) | exact Nat.le_trans HWs.out (b5 b off e)); try (have ST5 : Hid (St 74 w5 W8.heap.size #[ptr b]) := (St.new 74 W8 #[ptr b]).kp ((Kp.refl (fun _ => False) _).drew.trans k5 (fun _ _ h => h)) (fun h => h)); clear s5 b5 k5 HWO) | (go_at_call 47; (first | (refine (HTU.out _ _ _ _ K5.out ST5.out HWs.out S5.out B5.out).mono ?_) | (refine (HTU.out _ _ _ _ (K5.out.alloc _) (St.new 74 w5 #[ptr b]) (Nat.le_trans HWs.out K5.out.size) (S5.out.kp ((Kp.refl (fun _ => False) _).alloc _) (fun _ _ _ _ h => h)) B5.out).mono ?_)); rintro e w9 ⟨rfl, r9, ht, cd9⟩; have HT9 := hid ht; have R9 := hid r9; clear ht r9))
        all_goals (
          obtain ⟨_, _, d0, d1⟩ := cd9
          clear cd cd2
          go_wp2_with (refine wpList_store_r rfl _ _ rfl _ rfl (e' := ⟨xa, min xn most⟩) rfl R9.out ?_; intro w6 s6 k6; have K6 : Hid (Kp (fun i => i = P) w9 w6) := k6; clear k6)
          refine bodyPost_ret (results_cell_tmp2 Try.results29 _ _ _ rfl rfl (Rn.B.load s6)) rfl ?_
          exact NxR.fin HH.out HMT.out HPw.out hge HTL.out HCB.out HPM.out HAN.out K6.out HT9.out))
end Go.Proofs.Ytgfondgejimkkaa
