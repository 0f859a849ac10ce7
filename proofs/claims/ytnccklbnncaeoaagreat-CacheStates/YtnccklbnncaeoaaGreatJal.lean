import Derived.Test.YtnccklbnncaeoaaGreatJak
import Derived.Test.YtnccklbnncaeoaaGreatJah
import Derived.Test.YtnccklbnncaeoaaGreatJaf
import Derived.RangeFuncNested
import Derived.RangeFuncBound
import Derived.RangeFuncCalls
import Derived.RangeFuncLeaves
import Derived.RangeFuncFrom
import Derived.Shelf.Abstract
import Derived.Shelf.RegionOpen
import Derived.WalkKit
import Derived.OwnWalkIn
import Derived.TacticsInMore
import Derived.LoopNIn
import Derived.LoopIn
/- cache: flush. -/
namespace Go.Proofs.YtnccklbnncaeoaaGreat
open Go.RowKit
set_option linter.unusedVariables false
set_option linter.unusedSimpArgs false
/-- What flush leaves. -/
def FlG (e : Int) (G G' : Gc) : Prop := (e ≠ 0 ∧ G' = G) ∨ (e = 0 ∧ Les G G' ∧ G'.P = [] ∧ G'.n4 = G.n4 + 1 ∧ ∀ b ∈ G.B, (G'.c b).pe = false)
/-- Rows of pointers: where they lie. -/
theorem prow {w : World} {v : Value} {L : List Nat} (h : w.ownsRow 0 138 1 v L.length (L.map ptr)) : ∃ ao cap, v = .slice ao L.length cap ∧ L.length ≤ maxLen ∧ ∀ i, i < L.length → ∃ r, ao = some ⟨r, 0, none⟩ ∧ w.cell? ⟨r, i, none⟩ = some (ptr (L.getD i 0)) := by
  have ho := h
  rcases h.2 with ⟨h1, h0⟩ | ⟨r, cap, cur, rfl, h1, h2, h3, h4, h5, h6⟩
  · exact ⟨none, 0, by rw [h0]; exact h1, by rw [h0]; simp, fun i hi => by omega⟩
  · refine ⟨_, cap, rfl, by omega, fun i hi => ⟨r, rfl, ?_⟩⟩
    have := ho.cells (g := r) rfl i (ptr (L.getD i 0)) (by simp [List.getD, hi])
    rw [add_z] at this
    exact this
theorem Cm.un {S : ByteArray} {g bits room Q : Nat} {G : Gc} {w : World} (h : Cm S g bits room Q G w) {b : Nat} (hb : b ∈ G.B) : Cm S g bits room Q (gUn G b) (w.setCell ⟨b, 3, none⟩ (.bool false)) ∧ Kp (fun i => i = b) w (w.setCell ⟨b, 3, none⟩ (.bool false)) := by
  have hk : Kp (fun i => i = b) w (w.setCell ⟨b, 3, none⟩ (.bool false)) := kp_setCell w b 3 _ (fun i => i = b) rfl
  refine ⟨?_, hk⟩
  have hm : b ∈ G.L → Mayp { G.c b with pe := false } := fun hl => h.ln.may b hl
  have := Cm.page h hb (p := { G.c b with pe := false }) (y := G.y b) (w' := w.setCell ⟨b, 3, none⟩ (.bool false)) (fun s hs => ?_) hk rfl rfl rfl hm ?_ (fun i zs e a ha hab zs' e2 => hab (h.yi a ha b hb i zs' zs e2 e))
  · rw [upd_self] at this
    exact this
  · have h2 := St.set hs 3 (.bool false)
    simpa [Pc.cs] using h2
  · exact (h.pg b hb).ys.kp hk (fun i zs e => tag_ne (h.yt hb e) (h.pt hb) (by decide))
theorem Fl.start {S : ByteArray} {g bits room Q N : Nat} {G : Gc} {q : Gf} {ft : List (Int × Int)} {F : Nat → Prop} {w w' : World} (h : Cv S g bits room Q N G q ft F w) (n : Nat) (hc : Cm S g bits room Q { G with n4 := n } w') : Fl S g bits room Q { G with n4 := n } 0 { G with n4 := n } w' :=
  ⟨hc, ⟨h.iv.wk, h.iv.wr, h.iv.rk, h.iv.kb, h.iv.lk, h.iv.ll, h.iv.pk, h.iv.dk, h.iv.hp⟩, h.op, Les.refl _, rfl, rfl, rfl, fun j _ hj => h.pp _ (gn_mem hj), fun j hj _ => by omega⟩
theorem Fl.fin {S : ByteArray} {g bits room Q N n : Nat} {G H : Gc} {q q' : Gf} {ft ft' : List (Int × Int)} {F F' : Nat → Prop} {w w1 w' : World} (h : Cv S g bits room Q N G q ft F w) (hn : n = G.n4 + 1) (f : Fl S g bits room Q { G with n4 := n } G.P.length H w1) (hs : Sw S g (N + 1) F' q' ft' w') (ha : ∀ i, Fc Q G i → ¬ F' i)
    (hc : Cm S g bits room Q { H with pv := .slice none 0 0, P := [] } w') : Cv S g bits room Q (N + 1) { H with pv := .slice none 0 0, P := [] } q' ft' F' w' ∧ FlG 0 G { H with pv := .slice none 0 0, P := [] } ∧ (∀ i, Fc Q { H with pv := .slice none 0 0, P := [] } i → Fc Q G i) := by
  have hl := f.le
  have hB : H.B = G.B := hl.B
  have hpe : ∀ b ∈ G.B, (H.c b).pe = false := by
    intro b hb
    cases hx : (H.c b).pe with
    | false => rfl
    | true =>
      have h1 := (f.iv.pk b (by rw [hB]; exact hb) hx).2
      rw [f.p] at h1
      obtain ⟨i, hi, e⟩ := gn_of h1
      have := f.pf i hi hi
      change (H.c (G.P.getD i 0)).pe = false at this
      change G.P.getD i 0 = b at e
      rw [e, hx] at this
      cases this
  have hfc : ∀ i, Fc Q { H with pv := .slice none 0 0, P := [] } i → Fc Q G i := by
    rintro i (e | e | e | e | e | e)
    · exact .inl e
    · exact .inr (.inl (e.trans hl.kl))
    · exact .inr (.inr (.inl (e.trans hl.pm)))
    · exact .inr (.inr (.inr (.inl (by rw [← hl.lv]; exact e))))
    · cases e
    · obtain ⟨b, hb, e⟩ := e
      refine .inr (.inr (.inr (.inr (.inr ⟨b, by rw [← hB]; exact hb, ?_⟩))))
      rcases e with e | e | e | ⟨zs, e⟩
      · exact .inl e
      · exact .inr (.inl (e.trans (hl.c b).2.2.2.2.1))
      · exact .inr (.inr (.inl (e.trans (hl.c b).2.2.2.2.2)))
      · exact .inr (.inr (.inr ⟨zs, by rw [← hl.y]; exact e⟩))
  refine ⟨⟨hc, hs, fun i hi => ha i (hfc i hi), ⟨f.iv.wk, f.iv.wr, f.iv.rk, f.iv.kb, f.iv.lk, f.iv.ll, fun b hb hx => ?_, f.iv.dk, f.iv.hp⟩, f.op, (fun b hb => by cases hb), List.nodup_nil, ?_, ?_, fun b hb => ?_, fun b hb => ?_, fun b hb i zs e => h.yl b (by rw [← hB]; exact hb) i zs (by rw [← hl.y]; exact e), ?_, h.bb, h.rr⟩, .inr ⟨rfl, ⟨hl.kl, hl.pm, hl.lv, hl.y, hl.B, hl.L, hl.t, hl.n1, hl.n2, hl.n3, hl.c, hl.K, hl.W, hl.D⟩, rfl, by show H.n4 = _; rw [f.n]; exact hn, hpe⟩, hfc⟩
  · change b ∈ H.B at hb
    rw [hB] at hb
    change (H.c b).pe = true at hx
    rw [hpe b hb] at hx; cases hx
  · show H.n3 + H.n4 ≤ N + 1
    have h1 := f.n
    have h2 := hl.n3
    have h3 := h.nn
    change H.n4 = n at h1
    change H.n3 = G.n3 at h2
    omega
  · show H.n1 + H.n2 = H.t
    have h1 := hl.n1
    have h2 := hl.n2
    have h3 := hl.t
    have h4 := h.tt
    change H.n1 = G.n1 at h1
    change H.n2 = G.n2 at h2
    change H.t = G.t at h3
    omega
  · show (H.c b).tk ≤ H.t
    rw [(hl.c b).2.2.2.1, hl.t]
    exact h.tk b (by rw [← hB]; exact hb)
  · show (H.c b).n < _
    rw [(hl.c b).1]
    exact h.nb b (by rw [← hB]; exact hb)
  · show H.L.length ≤ room
    rw [hl.L]
    exact h.lr
set_option maxHeartbeats 4000000 in
set_option maxRecDepth 100000 in
theorem cflush_any {S : ByteArray} {g bits room Q N : Nat} {G : Gc} {q : Gf} {ft : List (Int × Int)} {F : Nat → Prop} {w : World} (h : Cv S g bits room Q N G q ft F w) (hN : N ≤ 9000) :
    Calls Tryz.prog 75 #[ptr Q] w fun e w' => e = .returned (.int .i64 (ferr (ft.headD (0, 0)).1)) ∧ ∃ G' F', Cv S g bits room Q (N + 1) G' (gfl q (lft (ft.headD (0, 0)).1 (ft.headD (0, 0)).2 q.ps.length)) ft.tail F' w' ∧ Cch Q G G' F F' w w' ∧ FlG (ferr (ft.headD (0, 0)).1) G G' := by
  obtain ⟨k0, hk0⟩ : ∃ k, ferr (ft.headD (0, 0)).1 = k := ⟨_, rfl⟩
  have HST : Hid (∀ W, Kp (fun _ => False) w W → Calls Tryz.prog 121 #[ptr g, .string S] W fun e w' => e = .returned (.int .i64 k0) ∧ ∃ F', Cm S g bits room Q G w' ∧ Sw S g (N + 1) F' (gfl q (lft (ft.headD (0, 0)).1 (ft.headD (0, 0)).2 q.ps.length)) ft.tail w' ∧ (∀ i, Fc Q G i → ¬ F' i) ∧ Cch Q G G F F' w w') := fun W k => by
    refine (flush_w (h.sw.kp0 k) (by omega)).mono ?_
    rintro e w' ⟨rfl, hk, F', hs, hf⟩
    have hcm := (h.cm.kp0 k).kp hk h.ap
    refine ⟨by rw [hk0], F', hcm, hs, fun i hi hF => ?_, ⟨(k.mono (fun _ _ e => e.elim)).trans hk (fun i _ e => .inr e), fun i hi => .inl hi, fun i hi => (hf i hi).imp id (fun e => Nat.le_trans k.size e)⟩⟩
    have hl := (h.cm.kp0 k).lt hi
    rcases hf i hF with h2 | h2
    · exact h.ap i hi h2
    · omega
  generalize hq' : gfl q (lft (ft.headD (0, 0)).1 (ft.headD (0, 0)).2 q.ps.length) = q' at *
  rw [hk0]
  have z0 := h.cm.st.cell 0
  have z1 := h.cm.st.cell 1
  simp at z0 z1
  have HH := hid h
  have hnn := h.nn
  clear h
  unfold ptr at *
  go_enter Tryz.func75, Tryz.ntmps75
  go_wp2
  refine (wpIn_wide (n := 3)).1 ?_
  refine wpIn_region_two 8 hmix (by kernel_rfl) rfl ?_
  dsimp only [List.take, List.drop]
  repeat (gi_big_quiet_step (fail))
  refine wpQuietIn_nil ?_
  intro U hU
  obtain ⟨nq, hU2⟩ := hU
  subst hU2
  gi_wp2_with fail
  refine ⟨trivial, (callsIn_wide.2 (HST.out _ (drewN_kp _ w nq))).mono ?_⟩
  rintro _ w1 ⟨rfl, F', H1, H2, H3, H4⟩
  gi_wp2_with fail
  have HSW := hid H2
  have HAP := hid H3
  have HCH := hid H4
  have HCM := hid H1
  clear H1 H2 H3 H4 z0 z1 HST
  by_cases hk : k0 = 0
  · subst hk
    have z11 := HCM.out.st.cell 11
    have f11 := HCM.out.st.frozen 11
    have z6 := HCM.out.st.cell 6
    simp at z11 z6
    obtain ⟨ao, cap, hpv, hpl, hrow⟩ := prow HCM.out.pd
    rw [hpv] at z6
    unfold ptr at *
    go_wp2
    have HPV := hid hpv
    have HPL := hid hpl
    have hG1 : Cm S g bits room Q { G with n4 := G.n4 + 1 } (w1.setCell ⟨Q, 11, none⟩ (.int .i64 ((G.n4 : Int) + 1))) := by
      refine Cm.nums HCM.out (w' := w1.setCell ⟨Q, 11, none⟩ (.int .i64 ((G.n4 : Int) + 1))) ?_ (kp_setCell w1 Q 11 _ (fun i => i = Q) rfl)
      have h2 := St.set HCM.out.st 11 (.int .i64 ((G.n4 : Int) + 1))
      simpa [ptr] using h2
    have HF0 := hid (Fl.start HH.out (G.n4 + 1) hG1)
    have HK0 : Hid (Kp (Fc Q G) w1 (w1.setCell ⟨Q, 11, none⟩ (.int .i64 ((G.n4 : Int) + 1)))) := kp_setCell w1 Q 11 _ (Fc Q G) (.inl rfl)
    clear z11 f11 z6 hpv hrow hG1
    generalize w1.setCell ⟨Q, 11, none⟩ (.int .i64 ((G.n4 : Int) + 1)) = W at HF0 HK0 ⊢
    unfold maxLen at hpl
    have HPN := hid HH.out.pn
    go_loopw [32, 5] (fun vi _ wr => ∃ i : Nat, vi = .int .i64 i ∧ i ≤ G.P.length ∧ ∃ H, Fl S g bits room Q { G with n4 := G.n4 + 1 } i H wr ∧ Kp (Fc Q G) w1 wr) (fun vi _ _ => G.P.length - (intOf vi).toNat)
    case atStart => exact ⟨0, rfl, Nat.zero_le _, _, HF0.out, HK0.out⟩
    case round =>
      clear HF0 HK0
      obtain ⟨i, rfl, hi, H, hF, hkp⟩ := hrel
      by_cases hlt : i < G.P.length
      · have hlt' : (i : Int) < (G.P.length : Int) := by omega
        obtain ⟨b, hbe⟩ : ∃ b, G.P.getD i 0 = b := ⟨_, rfl⟩
        have hbP : b ∈ G.P := hbe ▸ gn_mem hlt
        have hbB : b ∈ H.B := hF.cm.pb b (by rw [hF.p]; exact hbP)
        have hpd := hF.cm.pd
        rw [hF.p, hF.v] at hpd
        change wr.ownsRow 0 138 1 G.pv G.P.length (G.P.map ptr) at hpd
        obtain ⟨ao2, cap2, hpv2, _, hrow⟩ := prow hpd
        rw [HPV.out] at hpv2
        obtain ⟨e1, e2⟩ : ao2 = ao ∧ cap2 = cap := by simp only [Value.slice.injEq] at hpv2; exact ⟨hpv2.1.symm, hpv2.2.2.symm⟩
        subst e1 e2
        obtain ⟨r, rfl, hri⟩ := hrow i hlt
        rw [hbe] at hri
        obtain ⟨h1, h2⟩ := hF.cm.un hbB
        obtain ⟨s, hs⟩ := (hF.cm.pg b hbB).wt
        have y3 := St.cell hs 3
        have f3 := St.frozen hs 3
        simp [Pc.cs] at y3
        have hpeb : (H.c b).pe = true := by
          have := hF.pe i (Nat.le_refl _) hlt
          change (H.c (G.P.getD i 0)).pe = true at this
          rw [hbe] at this; exact this
        have hbK : b ∈ (gUn H b).K := (hF.iv.pk b hbB hpeb).1
        have HST := hid (set_any h1 b hbK ((hF.iv.un b).rset b))
        have HNX : Hid (∀ w', Cm S g bits room Q (gSet (gUn H b) b) w' → Fl S g bits room Q { G with n4 := G.n4 + 1 } (i + 1) (gSet (gUn H b) b) w') := fun w' hc => by
          have := hF.next (w' := w') HPN.out hlt (by show Cm S g bits room Q (gSet (gUn H (G.P.getD i 0)) (G.P.getD i 0)) w'; rw [hbe]; exact hc)
          change Fl S g bits room Q { G with n4 := G.n4 + 1 } (i + 1) (gSet (gUn H (G.P.getD i 0)) (G.P.getD i 0)) w' at this
          rw [hbe] at this
          exact this
        have HKP : Hid (Kp (Fc Q G) w1 (wr.setCell ⟨b, 3, none⟩ (.bool false))) := hkp.trans (h2.mono (G := Fc Q G) (fun i _ e => .inr (.inr (.inr (.inr (.inr ⟨b, by have := hF.le.B; change H.B = G.B at this; rw [← this]; exact hbB, .inl e⟩)))))) (fun _ _ h => h)
        have HFC : Hid (∀ j, Fc Q (gUn H b) j → Fc Q G j) := fun j hj => by
          have h3 := hF.le.fc hF.v j (fc_un hj)
          exact h3
        clear hF hpd hpv2 hrow h1 h2 hs hkp
        unfold ptr at hri HST
        go_wp2_with (first | (go_at_call 122; refine HST.out.mono ?_; rintro _ w2 ⟨rfl, H1, H2⟩))
        exact ⟨⟨i + 1, by simp, by omega, _, HNX.out _ H1, HKP.out.trans H2 (fun j _ e => HFC.out j e)⟩, by simp [intOf]; omega⟩
      · obtain rfl : i = G.P.length := by omega
        have z6 := hF.cm.st.cell 6
        have f6 := hF.cm.st.frozen 6
        simp at z6
        have hfin : Cm S g bits room Q { H with pv := .slice none 0 0, P := [] } (wr.setCell ⟨Q, 6, none⟩ (.slice none 0 0)) := by
          refine Cm.pend hF.cm (w' := wr.setCell ⟨Q, 6, none⟩ (.slice none 0 0)) ?_ ⟨rfl, .inl ⟨rfl, rfl⟩⟩ (kp_setCell wr Q 6 _ _ (.inl rfl)) (fun b hb => by cases hb) (.inl rfl)
          have h2 := St.set hF.cm.st 6 (.slice none 0 0)
          simpa using h2
        have hkp2 : Kp (Fc Q G) w1 (wr.setCell ⟨Q, 6, none⟩ (.slice none 0 0)) := hkp.trans (kp_setCell wr Q 6 _ (Fc Q G) (.inl rfl)) (fun _ _ h => h)
        obtain ⟨k1, k2, k3⟩ := Fl.fin HH.out rfl hF (HSW.out.kp hkp2 (fun i hF' hG => HAP.out i hG hF')) HAP.out hfin
        have K1 := hid k1
        have K2 := hid k2
        have K3 := hid k3
        have HK := hid hkp2
        clear hF hfin hkp hkp2 k1 k2 k3
        go_wp2
        go_ret
        exact ⟨rfl, _, F', K1.out, ⟨HCH.out.kp.trans HK.out (fun i _ e => .inl e), fun i hi => .inl (K3.out i hi), HCH.out.ff⟩, K2.out⟩
  · have hb : (k0 != 0) = true := by simpa using hk
    go_wp2
    go_ret
    exact ⟨rfl, G, F', ⟨HCM.out, HSW.out, HAP.out, HH.out.iv, HH.out.op, HH.out.pp, HH.out.pn, by have := HH.out.nn; omega, HH.out.tt, HH.out.tk, HH.out.nb, HH.out.yl, HH.out.lr, HH.out.bb, HH.out.rr⟩, HCH.out, .inl ⟨hk, rfl⟩⟩
end Go.Proofs.YtnccklbnncaeoaaGreat
/- cache: what is written back, move by move; plain mathematics. -/
namespace Go.Proofs.YtnccklbnncaeoaaGreat
open Go.RowKit
set_option linter.unusedVariables false
set_option linter.unusedSimpArgs false
/-- A cache, its file, the fates. -/
structure Xt where
  G : Gc
  q : Gf
  ft : List (Int × Int)
/-- What a page's writing leaves. -/
structure WrG (G : Gc) (b : Nat) (G' : Gc) : Prop where
  kl : G'.kl = G.kl
  pm : G'.pm = G.pm
  B : G'.B = G.B
  K : G'.K = G.K
  W : G'.W = G.W
  R : G'.R = G.R
  y : G'.y = G.y
  t : G'.t = G.t
  n1 : G'.n1 = G.n1
  n2 : G'.n2 = G.n2
  n3 : G'.n3 = G.n3 + 1
  n4 : G'.n4 = G.n4
  L : G'.L.Perm G.L
  c : ∀ a, G'.c a = if a = b then { G.c b with di := false, pe := true } else G.c a
  P : G'.P = if (G.c b).pe then G.P else G.P ++ [b]
def fk (ft : List (Int × Int)) : Int := ferr (ft.headD (0, 0)).1
/-- What a flush, or a writing, makes of the file. -/
def qfl (q : Gf) (ft : List (Int × Int)) : Gf := gfl q (lft (ft.headD (0, 0)).1 (ft.headD (0, 0)).2 q.ps.length)
def qwr (q : Gf) (ft : List (Int × Int)) (p : Nat) (zs : List Int) : Gf := gwr p zs q ((pcs p zs.length).take (lft (ft.headD (0, 0)).1 (ft.headD (0, 0)).2 zs.length))
/-- A step of the store that goes well. -/
def Mve (bits : Nat) (X Y : Xt) : Prop :=
  (∃ G' : Gc, fk X.ft = 0 ∧ FlG 0 X.G G' ∧ Y = ⟨G', qfl X.q X.ft, X.ft.tail⟩) ∨
  (∃ G' : Gc, ∃ b i : Nat, ∃ zs : List Int, fk X.ft = 0 ∧ b ∈ X.G.L ∧ (X.G.c b).di = true ∧ X.G.W b = [] ∧ X.G.y b = some (i, zs) ∧ WrG X.G b G' ∧ Y = ⟨G', qwr X.q X.ft ((X.G.c b).n * 2 ^ bits) zs, X.ft.tail⟩)
theorem Mve.fl {bits : Nat} {X : Xt} {G' : Gc} (h1 : fk X.ft = 0) (h2 : FlG 0 X.G G') : Mve bits X ⟨G', qfl X.q X.ft, X.ft.tail⟩ := .inl ⟨G', h1, h2, rfl⟩
theorem Mve.wr {bits : Nat} {X : Xt} {G' : Gc} {b i : Nat} {zs : List Int} (h1 : fk X.ft = 0) (h2 : b ∈ X.G.L) (h3 : (X.G.c b).di = true) (h4 : X.G.W b = []) (h5 : X.G.y b = some (i, zs)) (h6 : WrG X.G b G') : Mve bits X ⟨G', qwr X.q X.ft ((X.G.c b).n * 2 ^ bits) zs, X.ft.tail⟩ := .inr ⟨G', b, i, zs, h1, h2, h3, h4, h5, h6, rfl⟩
theorem Mve.el {bits : Nat} {X : Xt} {motive : ∀ Y : Xt, Mve bits X Y → Prop}
    (fl : ∀ {G' : Gc} (h1 : fk X.ft = 0) (h2 : FlG 0 X.G G'), motive ⟨G', qfl X.q X.ft, X.ft.tail⟩ (.fl h1 h2))
    (wr : ∀ {G' : Gc} {b i : Nat} {zs : List Int} (h1 : fk X.ft = 0) (h2 : b ∈ X.G.L) (h3 : (X.G.c b).di = true) (h4 : X.G.W b = []) (h5 : X.G.y b = some (i, zs)) (h6 : WrG X.G b G'), motive ⟨G', qwr X.q X.ft ((X.G.c b).n * 2 ^ bits) zs, X.ft.tail⟩ (.wr h1 h2 h3 h4 h5 h6))
    {Y : Xt} (h : Mve bits X Y) : motive Y h := by
  rcases h with ⟨G', h1, h2, rfl⟩ | ⟨G', b, i, zs, h1, h2, h3, h4, h5, h6, rfl⟩
  · exact fl h1 h2
  · exact wr h1 h2 h3 h4 h5 h6
/-- One that fails. -/
def Mvf (bits : Nat) (X : Xt) (z : Int) (Y : Xt) : Prop :=
  (fk X.ft ≠ 0 ∧ z = fk X.ft ∧ Y = ⟨X.G, qfl X.q X.ft, X.ft.tail⟩) ∨
  (∃ b i : Nat, ∃ zs : List Int, fk X.ft ≠ 0 ∧ b ∈ X.G.L ∧ (X.G.c b).di = true ∧ X.G.W b = [] ∧ X.G.y b = some (i, zs) ∧ z = fk X.ft ∧ Y = ⟨X.G, qwr X.q X.ft ((X.G.c b).n * 2 ^ bits) zs, X.ft.tail⟩)
theorem Mvf.fl {bits : Nat} {X : Xt} (h1 : fk X.ft ≠ 0) : Mvf bits X (fk X.ft) ⟨X.G, qfl X.q X.ft, X.ft.tail⟩ := .inl ⟨h1, rfl, rfl⟩
theorem Mvf.wr {bits : Nat} {X : Xt} {b i : Nat} {zs : List Int} (h1 : fk X.ft ≠ 0) (h2 : b ∈ X.G.L) (h3 : (X.G.c b).di = true) (h4 : X.G.W b = []) (h5 : X.G.y b = some (i, zs)) : Mvf bits X (fk X.ft) ⟨X.G, qwr X.q X.ft ((X.G.c b).n * 2 ^ bits) zs, X.ft.tail⟩ := .inr ⟨b, i, zs, h1, h2, h3, h4, h5, rfl, rfl⟩
def Rc (bits : Nat) : Nat → Xt → Xt → Prop
  | 0, X, Y => Y = X
  | n + 1, X, Y => ∃ Z, Rc bits n X Z ∧ Mve bits Z Y
theorem Rc.refl {bits : Nat} (X : Xt) : Rc bits 0 X X := rfl
theorem Rc.step {bits n : Nat} {X Y Z : Xt} (h : Rc bits n X Y) (m : Mve bits Y Z) : Rc bits (n + 1) X Z := ⟨Y, h, m⟩
theorem Rc.ind {bits : Nat} {motive : ∀ (n : Nat) (X Y : Xt), Rc bits n X Y → Prop} (refl : ∀ X : Xt, motive 0 X X (.refl X)) (step : ∀ {n : Nat} {X Y Z : Xt} (h : Rc bits n X Y) (m : Mve bits Y Z) (ih : motive n X Y h), motive (n + 1) X Z (.step h m)) {n : Nat} {X Y : Xt} (h : Rc bits n X Y) : motive n X Y h := by
  induction n generalizing Y with
  | zero =>
    have e : Y = X := h
    subst e
    exact refl Y
  | succ n ih =>
    obtain ⟨Z, h1, h2⟩ := h
    exact step h1 h2 (ih h1)
theorem Rc.trans {bits m n : Nat} {X Y Z : Xt} (h : Rc bits m X Y) (k : Rc bits n Y Z) : Rc bits (m + n) X Z := by
  induction k using Rc.ind with
  | refl => exact h
  | step _ hm ih => exact .step (ih h) hm
/-- How it ends. -/
def Out (bits k : Nat) (X : Xt) (z : Int) (Z : Xt) : Prop := (z = 0 ∧ Rc bits k X Z) ∨ (z ≠ 0 ∧ ∃ j Y, k = j + 1 ∧ Rc bits j X Y ∧ Mvf bits Y z Z)
theorem Out.refl (bits : Nat) (X : Xt) : Out bits 0 X 0 X := .inl ⟨rfl, .refl X⟩
theorem Rc.out {bits j k : Nat} {X Y Z : Xt} {z : Int} (h : Rc bits j X Y) (o : Out bits k Y z Z) : Out bits (j + k) X z Z := by
  rcases o with ⟨h1, h2⟩ | ⟨h1, i, V, rfl, h2, h3⟩
  · exact .inl ⟨h1, h.trans h2⟩
  · exact .inr ⟨h1, j + i, V, by omega, h.trans h2, h3⟩
/-- How many are dirty. -/
def dn (G : Gc) : Nat := G.L.countP (fun b => (G.c b).di)
/-- What no step changes. -/
structure Stb (G G' : Gc) : Prop where
  kl : G'.kl = G.kl
  pm : G'.pm = G.pm
  B : G'.B = G.B
  y : G'.y = G.y
  t : G'.t = G.t
  n1 : G'.n1 = G.n1
  n2 : G'.n2 = G.n2
  L : G'.L.Perm G.L
  c : ∀ b, (G'.c b).n = (G.c b).n ∧ (G'.c b).bv = (G.c b).bv ∧ (G'.c b).tk = (G.c b).tk ∧ (G'.c b).wm = (G.c b).wm ∧ (G'.c b).rm = (G.c b).rm
  d : ∀ b, (G'.c b).di = true → (G.c b).di = true
  K : ∀ b, b ∈ G'.K → b ∈ G.K
  W : ∀ b a, a ∈ G'.W b → a ∈ G.W b
theorem Stb.refl (G : Gc) : Stb G G := ⟨rfl, rfl, rfl, rfl, rfl, rfl, rfl, List.Perm.refl _, fun _ => ⟨rfl, rfl, rfl, rfl, rfl⟩, fun _ h => h, fun _ h => h, fun _ _ h => h⟩
theorem Stb.trans {G H I : Gc} (h : Stb G H) (k : Stb H I) : Stb G I :=
  ⟨k.kl.trans h.kl, k.pm.trans h.pm, k.B.trans h.B, k.y.trans h.y, k.t.trans h.t, k.n1.trans h.n1, k.n2.trans h.n2, k.L.trans h.L,
   fun b => ⟨(k.c b).1.trans (h.c b).1, (k.c b).2.1.trans (h.c b).2.1, (k.c b).2.2.1.trans (h.c b).2.2.1, (k.c b).2.2.2.1.trans (h.c b).2.2.2.1, (k.c b).2.2.2.2.trans (h.c b).2.2.2.2⟩,
   fun b hb => h.d b (k.d b hb), fun b hb => h.K b (k.K b hb), fun b a ha => h.W b a (k.W b a ha)⟩
theorem Les.stb {G G' : Gc} (h : Les G G') : Stb G G' :=
  ⟨h.kl, h.pm, h.B, h.y, h.t, h.n1, h.n2, by rw [h.L], fun b => ⟨(h.c b).1, (h.c b).2.1, (h.c b).2.2.2.1, (h.c b).2.2.2.2.1, (h.c b).2.2.2.2.2⟩, fun b hb => by rw [← (h.c b).2.2.1]; exact hb, h.K, h.W⟩
theorem WrG.di {G G' : Gc} {b : Nat} (h : WrG G b G') (a : Nat) : (G'.c a).di = if a = b then false else (G.c a).di := by
  rw [h.c a]; split <;> rfl
theorem WrG.pe {G G' : Gc} {b : Nat} (h : WrG G b G') (a : Nat) : (G'.c a).pe = if a = b then true else (G.c a).pe := by
  rw [h.c a]; split <;> rfl
theorem WrG.stb {G G' : Gc} {b : Nat} (h : WrG G b G') : Stb G G' :=
  ⟨h.kl, h.pm, h.B, h.y, h.t, h.n1, h.n2, h.L, fun a => by
    rw [h.c a]
    split
    · rename_i e; rw [e]; exact ⟨rfl, rfl, rfl, rfl, rfl⟩
    · exact ⟨rfl, rfl, rfl, rfl, rfl⟩, fun a ha => by
    rw [h.di a] at ha
    split at ha
    · cases ha
    · exact ha, fun a ha => by rw [← h.K]; exact ha, fun a x hx => by rw [← h.W]; exact hx⟩
theorem FlG.les {e : Int} {G G' : Gc} (h : FlG e G G') : Les G G' := by
  rcases h with ⟨_, rfl⟩ | ⟨_, h, _⟩
  · exact Les.refl _
  · exact h
theorem Mve.stb {bits : Nat} {X Y : Xt} (h : Mve bits X Y) : Stb X.G Y.G := by
  cases h using Mve.el with
  | fl _ h => exact h.les.stb
  | wr _ _ _ _ _ h => exact h.stb
theorem Rc.stb {bits n : Nat} {X Y : Xt} (h : Rc bits n X Y) : Stb X.G Y.G := by
  induction h using Rc.ind with
  | refl => exact Stb.refl _
  | step _ hm ih => exact ih.trans hm.stb
theorem Mvf.same {bits : Nat} {X Y : Xt} {z : Int} (h : Mvf bits X z Y) : Y.G = X.G := by
  rcases h with ⟨_, _, rfl⟩ | ⟨_, _, _, _, _, _, _, _, _, rfl⟩ <;> rfl
theorem Out.stb {bits k : Nat} {X Z : Xt} {z : Int} (h : Out bits k X z Z) : Stb X.G Z.G := by
  rcases h with ⟨_, h⟩ | ⟨_, j, Y, _, h, hf⟩
  · exact h.stb
  · rw [hf.same]; exact h.stb
theorem dn_congr {G G' : Gc} (hL : G'.L.Perm G.L) (hc : ∀ b, (G'.c b).di = (G.c b).di) : dn G' = dn G := by
  unfold dn
  rw [hL.countP_eq]
  exact List.countP_congr fun b _ => by rw [hc]
theorem FlG.dn {e : Int} {G G' : Gc} (h : FlG e G G') : dn G' = dn G := dn_congr (by rw [h.les.L]) (fun b => (h.les.c b).2.2.1)
theorem WrG.dn {G G' : Gc} {b : Nat} (h : WrG G b G') (hb : b ∈ G.L) (hn : G.L.Nodup) (hd : (G.c b).di = true) : dn G' + 1 = dn G := by
  unfold YtnccklbnncaeoaaGreat.dn
  rw [h.L.countP_eq]
  obtain ⟨l, r, hlr⟩ := List.append_of_mem hb
  rw [hlr] at hn ⊢
  simp only [List.countP_append, List.countP_cons, h.di b, hd, if_true, Bool.false_eq_true, if_false]
  have hl : ∀ a ∈ l, a ≠ b := fun a ha e => by
    subst e
    rw [List.nodup_append] at hn
    exact hn.2.2 a ha a (by simp) rfl
  have hr : ∀ a ∈ r, a ≠ b := fun a ha e => by
    subst e
    rw [List.nodup_append, List.nodup_cons] at hn
    exact hn.2.1.1 ha
  have e1 : List.countP (fun a => (G'.c a).di) l = List.countP (fun a => (G.c a).di) l := List.countP_congr fun a ha => by rw [h.di a, if_neg (hl a ha)]
  have e2 : List.countP (fun a => (G'.c a).di) r = List.countP (fun a => (G.c a).di) r := List.countP_congr fun a ha => by rw [h.di a, if_neg (hr a ha)]
  rw [e1, e2]
  omega
/-- How many are dirty, and those that wait counted twice. -/
def dw (G : Gc) : Nat := G.L.countP (fun b => (G.c b).di && decide (G.W b ≠ []))
def mu (G : Gc) : Nat := dn G + dw G
theorem mu_le (G : Gc) : mu G ≤ 2 * dn G := by
  unfold mu dw dn
  have : G.L.countP (fun b => (G.c b).di && decide (G.W b ≠ [])) ≤ G.L.countP (fun b => (G.c b).di) := List.countP_mono_left (fun b _ h => (Bool.and_eq_true _ _ ▸ h : _ ∧ _).1)
  omega
theorem nil_of_sub {l m : List Nat} (h : ∀ a, a ∈ l → a ∈ m) (hm : m = []) : l = [] :=
  List.eq_nil_iff_forall_not_mem.2 fun a ha => by have := h a ha; rw [hm] at this; cases this
theorem FlG.dw {e : Int} {G G' : Gc} (h : FlG e G G') : dw G' ≤ dw G := by
  unfold YtnccklbnncaeoaaGreat.dw
  have hl := h.les
  rw [hl.L]
  refine List.countP_mono_left fun b _ hb => ?_
  simp only [Bool.and_eq_true, decide_eq_true_eq] at hb ⊢
  exact ⟨by rw [← (hl.c b).2.2.1]; exact hb.1, fun e => hb.2 (nil_of_sub (hl.W b) e)⟩
theorem FlG.mu {e : Int} {G G' : Gc} (h : FlG e G G') : mu G' ≤ mu G := by
  unfold YtnccklbnncaeoaaGreat.mu
  rw [h.dn]
  have := h.dw
  omega
/-- A flush for one that waits. -/
theorem FlG.mu_lt {e : Int} {G G' : Gc} (h : FlG e G G') {b : Nat} (hb : b ∈ G.L) (hd : (G.c b).di = true) (hw : G.W b ≠ []) (hn : G'.W b = []) : YtnccklbnncaeoaaGreat.mu G' + 1 ≤ YtnccklbnncaeoaaGreat.mu G := by
  unfold YtnccklbnncaeoaaGreat.mu
  rw [h.dn]
  have hl := h.les
  have mono : ∀ l : List Nat, l.countP (fun b => (G'.c b).di && decide (G'.W b ≠ [])) ≤ l.countP (fun b => (G.c b).di && decide (G.W b ≠ [])) := fun l => by
    refine List.countP_mono_left fun b _ hb => ?_
    simp only [Bool.and_eq_true, decide_eq_true_eq] at hb ⊢
    exact ⟨by rw [← (hl.c b).2.2.1]; exact hb.1, fun e => hb.2 (nil_of_sub (hl.W b) e)⟩
  have : YtnccklbnncaeoaaGreat.dw G' + 1 ≤ YtnccklbnncaeoaaGreat.dw G := by
    unfold YtnccklbnncaeoaaGreat.dw
    rw [hl.L]
    obtain ⟨l, r, hlr⟩ := List.append_of_mem hb
    rw [hlr, List.countP_append, List.countP_append, List.countP_cons, List.countP_cons]
    have h1 := mono l
    have h2 := mono r
    have e1 : ((G'.c b).di && decide (G'.W b ≠ [])) = false := by rw [hn]; simp
    have e2 : ((G.c b).di && decide (G.W b ≠ [])) = true := by rw [hd]; simp [hw]
    rw [e1, e2]
    simp only [Bool.false_eq_true, if_false, if_true]
    omega
  omega
theorem WrG.mu {G G' : Gc} {b : Nat} (h : WrG G b G') (hb : b ∈ G.L) (hn : G.L.Nodup) (hd : (G.c b).di = true) : YtnccklbnncaeoaaGreat.mu G' + 1 ≤ YtnccklbnncaeoaaGreat.mu G := by
  have h1 := h.dn hb hn hd
  have h2 : YtnccklbnncaeoaaGreat.dw G' ≤ YtnccklbnncaeoaaGreat.dw G := by
    unfold YtnccklbnncaeoaaGreat.dw
    rw [h.L.countP_eq]
    refine List.countP_mono_left fun a _ ha => ?_
    simp only [Bool.and_eq_true, decide_eq_true_eq] at ha ⊢
    exact ⟨h.stb.d a ha.1, by rw [← h.W]; exact ha.2⟩
  unfold YtnccklbnncaeoaaGreat.mu
  omega
/-- How many steps were written, how many flushed. -/
theorem Rc.cnt {bits n : Nat} {X Y : Xt} (h : Rc bits n X Y) : Y.G.n3 + Y.G.n4 = X.G.n3 + X.G.n4 + n := by
  induction h using Rc.ind with
  | refl => rfl
  | step _ hm ih =>
    cases hm using Mve.el with
    | fl _ k =>
      rcases k with ⟨h0, _⟩ | ⟨_, hl, _, h4, _⟩
      · exact absurd rfl h0
      · have := hl.n3
        dsimp only
        omega
    | wr _ _ _ _ _ k =>
      have h3 := k.n3
      have h4 := k.n4
      dsimp only
      omega
theorem Rc.dn {bits n : Nat} {X Y : Xt} (h : Rc bits n X Y) (hn : X.G.L.Nodup) : Y.G.n3 + YtnccklbnncaeoaaGreat.dn Y.G = X.G.n3 + YtnccklbnncaeoaaGreat.dn X.G := by
  induction h using Rc.ind with
  | refl => rfl
  | step hr hm ih =>
    have hn2 := hr.stb.L.nodup_iff.2 hn
    have ih := ih hn
    cases hm using Mve.el with
    | fl _ k =>
      have h2 := k.dn
      have := k.les.n3
      dsimp only
      omega
    | wr _ hb hd _ _ k =>
      have h3 := k.n3
      have h2 := k.dn hb hn2 hd
      dsimp only
      omega
theorem Rc.ftn {bits n : Nat} {X Y : Xt} (h : Rc bits n X Y) (hf : X.ft = []) : Y.ft = [] := by
  induction h using Rc.ind with
  | refl => exact hf
  | step hr hm ih =>
    cases hm using Mve.el with
    | fl _ k => dsimp only; rw [ih hf]; rfl
    | wr _ hb hd _ _ k => dsimp only; rw [ih hf]; rfl
/-- Without fates nothing fails. -/
theorem Out.ftn {bits n : Nat} {X Y : Xt} {z : Int} (h : Out bits n X z Y) (hf : X.ft = []) : z = 0 ∧ Rc bits n X Y ∧ Y.ft = [] := by
  rcases h with ⟨h1, h2⟩ | ⟨h1, j, V, rfl, h2, h3⟩
  · exact ⟨h1, h2, h2.ftn hf⟩
  · have hv := h2.ftn hf
    rcases h3 with ⟨hk, _⟩ | ⟨_, _, _, hk, _⟩
    · exact absurd (by rw [hv]; rfl) hk
    · exact absurd (by rw [hv]; rfl) hk
/-- A height that falls with each step. -/
def Rok (rk : Nat → Nat) (G : Gc) : Prop := ∀ a b, b ∈ G.W a → rk b < rk a
theorem Rok.stb {rk : Nat → Nat} {G G' : Gc} (h : Rok rk G) (s : Stb G G') : Rok rk G' := fun a b hb => h a b (s.W a b hb)
end Go.Proofs.YtnccklbnncaeoaaGreat
/- cache: place; a page is written: what is known behind it. -/
namespace Go.Proofs.YtnccklbnncaeoaaGreat
open Go.RowKit
set_option linter.unusedVariables false
set_option linter.unusedSimpArgs false
theorem Cv.wrote {S : ByteArray} {g bits room Q N : Nat} {G G' : Gc} {q q' : Gf} {ft ft' : List (Int × Int)} {F F' : Nat → Prop} {w w' : World} {b : Nat} (h : Cv S g bits room Q N G q ft F w) (hb : b ∈ G.L) (hg : WrG G b G') (hx : Hpd G'.c G'.L) (hc : Cm S g bits room Q G' w') (hs : Sw S g (N + 1) F' q' ft' w') (ha : ∀ i, Fc Q G' i → ¬ F' i) : Cv S g bits room Q (N + 1) G' q' ft' F' w' := by
  have hbB := h.cm.lb b hb
  have mP : ∀ a, a ∈ G'.P → a ∈ G.P ∨ a = b := fun a ha => by
    rw [hg.P] at ha
    split at ha
    · exact .inl ha
    · rcases List.mem_append.1 ha with h1 | h1
      · exact .inl h1
      · exact .inr (List.mem_singleton.1 h1)
  refine ⟨hc, hs, ha, ⟨fun x a hxa => ?_, fun x a => ?_, by rw [hg.W]; exact h.iv.rk, fun a ha => by rw [hg.B]; rw [hg.K] at ha; exact h.iv.kb a ha, fun a => ?_, fun a ha => by rw [hg.K]; exact h.iv.ll a (hg.L.mem_iff.1 ha), fun a ha hp => ?_, fun a ha hd => ?_, hx⟩, fun x a hxa => ?_, fun a ha => ?_, ?_, ?_, ?_, fun a ha => ?_, fun a ha => ?_, fun a ha i zs e => ?_, ?_, h.bb, h.rr⟩
  · rw [hg.W] at hxa; rw [hg.K]; exact h.iv.wk x a hxa
  · rw [hg.W, hg.R]; exact h.iv.wr x a
  · rw [hg.L.mem_iff, hg.B, hg.y]; exact h.iv.lk a
  · rw [hg.B] at ha
    rw [hg.pe a] at hp
    rw [hg.K, hg.P]
    split at hp
    · rename_i e
      subst e
      refine ⟨h.iv.ll a hb, ?_⟩
      split
      · rename_i e; exact (h.iv.pk a ha e).2
      · simp
    · obtain ⟨h1, h2⟩ := h.iv.pk a ha hp
      refine ⟨h1, ?_⟩
      split
      · exact h2
      · exact List.mem_append_left _ h2
  · rw [hg.B] at ha
    rw [hg.di a] at hd
    split at hd
    · cases hd
    · exact hg.L.mem_iff.2 (h.iv.dk a ha hd)
  · rw [hg.W] at hxa
    rw [hg.di a, hg.pe a]
    by_cases e : a = b
    · rw [if_pos e, if_pos e]; exact .inr rfl
    · rw [if_neg e, if_neg e]; exact h.op x a hxa
  · rw [hg.pe a]
    by_cases e : a = b
    · rw [if_pos e]
    · rw [if_neg e]
      exact h.pp a ((mP a ha).resolve_right e)
  · rw [hg.P]
    split
    · exact h.pn
    · rename_i hp
      rw [List.nodup_append]
      refine ⟨h.pn, by simp, fun x hx y hy e => ?_⟩
      rw [List.mem_singleton.1 hy] at e
      subst e
      exact hp (h.pp x hx)
  · rw [hg.n3, hg.n4]; have := h.nn; omega
  · rw [hg.n1, hg.n2, hg.t]; exact h.tt
  · rw [hg.B] at ha
    rw [(hg.stb.c a).2.2.1, hg.t]
    exact h.tk a ha
  · rw [hg.B] at ha
    rw [(hg.stb.c a).1]
    exact h.nb a ha
  · rw [hg.B] at ha
    rw [hg.y] at e
    exact h.yl a ha i zs e
  · rw [hg.L.length_eq]; exact h.lr
theorem shl_nat (n bits : Nat) : (n : Int) <<< bits = ((n * 2 ^ bits : Nat) : Int) := by
  rw [Int.shiftLeft_eq]
  simp
set_option maxHeartbeats 2000000 in
theorem place_any (w : World) (Q bits n : Nat) (hb : bits ≤ 16) (hn : n * 2 ^ bits ≤ 268435456) (h : w.cell? ⟨Q, 2, none⟩ = some (.int .i64 bits)) :
    Calls Tryz.prog 116 #[ptr Q, .int .i64 n] w fun e w' => e = .returned (.int .i64 ((n * 2 ^ bits : Nat) : Int)) ∧ w' = w := by
  have e := shl_nat n bits
  have e2 : IntKind.i64.wrap (((n * 2 ^ bits : Nat)) : Int) = ((n * 2 ^ bits : Nat) : Int) := by rw [IntKind.wrap_i64]; omega
  obtain ⟨m, hm⟩ : ∃ m, n * 2 ^ bits = m := ⟨_, rfl⟩
  rw [hm] at e e2 ⊢
  have e3 : wrap64 ((n : Int) * 2 ^ bits) = (m : Int) := by
    have : ((n : Int) * 2 ^ bits) = ((n * 2 ^ bits : Nat) : Int) := by simp
    rw [this, hm]
    unfold wrap64
    omega
  unfold ptr
  go_enter Tryz.func116, Tryz.ntmps116
  go_wp2
  go_ret
  refine ⟨?_, rfl⟩
  show Ending.returned (.int .i64 (wrap64 ((n : Int) * 2 ^ bits))) = _
  rw [e3]
end Go.Proofs.YtnccklbnncaeoaaGreat
/- cache: eachDirty, over whatever writeBack does. -/
namespace Go.Proofs.YtnccklbnncaeoaaGreat
open Go.RowKit
set_option linter.unusedVariables false
set_option linter.unusedSimpArgs false
/-- What writing these pages back leaves. -/
def BkP (S : ByteArray) (g bits room Q N : Nat) (rk : Nat → Nat) (n : Nat) (G : Gc) (q : Gf) (ft : List (Int × Int)) (F : Nat → Prop) (w : World) (l : List Nat) (e : Ending) (w' : World) : Prop :=
  ∃ z k G' q' ft' F', e = .returned (.int .i64 z) ∧ Cv S g bits room Q (N + k) G' q' ft' F' w' ∧ Cch Q G G' F F' w w' ∧ Out bits k ⟨G, q, ft⟩ z ⟨G', q', ft'⟩ ∧ k + mu G' ≤ mu G + (if z = 0 then 0 else 2) ∧ (z = 0 → ∀ b ∈ l, (G'.c b).di = false) ∧ ∀ a, n ≤ rk a → (G'.c a).di = (G.c a).di
/-- What writeBack does with pages of a height below n. -/
def WbIH (S : ByteArray) (g bits room Q : Nat) (rk : Nat → Nat) (n : Nat) : Prop :=
  ∀ N G q ft F w b, Cv S g bits room Q N G q ft F w → Rok rk G → rk b < n → b ∈ G.B → (G.c b).di = true → N + mu G + 2 ≤ 9000 → Calls Tryz.prog 72 #[ptr Q, ptr b] w (BkP S g bits room Q N rk n G q ft F w [b])
/-- What eachDirty's loop holds when i are done. -/
structure Ed (S : ByteArray) (g bits room Q N : Nat) (rk : Nat → Nat) (n : Nat) (G : Gc) (q : Gf) (ft : List (Int × Int)) (F : Nat → Prop) (w : World) (l : List Nat) (i k : Nat) (G' : Gc) (q' : Gf) (ft' : List (Int × Int)) (F' : Nat → Prop) (w' : World) : Prop where
  cv : Cv S g bits room Q (N + k) G' q' ft' F' w'
  ch : Cch Q G G' F F' w w'
  rc : Rc bits k ⟨G, q, ft⟩ ⟨G', q', ft'⟩
  bd : k + mu G' ≤ mu G
  dd : ∀ j, j < i → j < l.length → (G'.c (l.getD j 0)).di = false
  hi : ∀ a, n ≤ rk a → (G'.c a).di = (G.c a).di
set_option maxHeartbeats 4000000 in
set_option maxRecDepth 100000 in
theorem each_any {S : ByteArray} {g bits room Q N : Nat} {G : Gc} {q : Gf} {ft : List (Int × Int)} {F : Nat → Prop} {w : World} (h : Cv S g bits room Q N G q ft F w) (rk : Nat → Nat) (n : Nat) (hrk : Rok rk G) (IH : WbIH S g bits room Q rk n) (l : List Nat) (v : Value) (base : Nat) (hv : w.ownsRow base 138 1 v l.length (l.map ptr)) (hvr : ∀ r, v.ownBlock = some r → ¬ Fc Q G r ∧ ¬ F r) (hl : ∀ b ∈ l, b ∈ G.B ∧ rk b < n) (hN : N + mu G + 2 ≤ 9000) :
    Calls Tryz.prog 71 #[.func (.func 72) #[ptr Q] #[], v] w (BkP S g bits room Q N rk n G q ft F w l) := by
  have hv0 : w.ownsRow 0 138 1 v l.length (l.map ptr) := ⟨hv.1, by
    rcases hv.2 with e | ⟨g', cap, cur, e, h1, h2⟩
    · exact .inl e
    · exact .inr ⟨g', cap, cur, e, Nat.zero_le _, h2⟩⟩
  obtain ⟨ao, cap, hve, hlm, _⟩ := prow hv0
  have HV := hid hv0
  have HVR := hid hvr
  have HE := hid hve
  have HH := hid h
  have HRK := hid hrk
  have HIH := hid IH
  have HL := hid hl
  clear h hrk IH hv hvr hv0 hl
  unfold maxLen at hlm
  rw [hve]
  clear hve
  unfold ptr
  go_enter Tryz.func71, Tryz.ntmps71
  go_wp2
  go_loopw [10, 6, 7] (fun vi _ _ wr => ∃ i : Nat, vi = .int .i64 i ∧ i ≤ l.length ∧ ∃ k G' q' ft' F', Ed S g bits room Q N rk n G q ft F w l i k G' q' ft' F' wr) (fun vi _ _ _ => l.length - (intOf vi).toNat)
  case atStart => exact ⟨0, rfl, Nat.zero_le _, 0, G, q, ft, F, HH.out, Cch.refl _ _ _ _, .refl _, Nat.le_of_eq (by omega), fun j hj => by omega, fun _ _ => rfl⟩
  case round =>
    obtain ⟨i, rfl, hi, k, G', q', ft', F', hE⟩ := hrel
    by_cases hlt : i < l.length
    · have hlt' : (i : Int) < (l.length : Int) := by omega
      obtain ⟨b, hbe⟩ : ∃ b, l.getD i 0 = b := ⟨_, rfl⟩
      have hbl : b ∈ l := hbe ▸ gn_mem hlt
      have hst := hE.rc.stb
      have hbB : b ∈ G'.B := by
        have := hst.B
        change G'.B = G.B at this
        rw [this]; exact (HL.out b hbl).1
      have ho2 := own_kp HV.out hE.ch.kp (fun r e x => x.elim (HVR.out r e).1 (HVR.out r e).2)
      obtain ⟨ao2, cap2, hv2, _, hrow⟩ := prow ho2
      rw [HE.out] at hv2
      obtain ⟨e1, e2⟩ : ao2 = ao ∧ cap2 = cap := by simp only [Value.slice.injEq] at hv2; exact ⟨hv2.1.symm, hv2.2.2.symm⟩
      subst e1 e2
      obtain ⟨r, rfl, hri⟩ := hrow i hlt
      rw [hbe] at hri
      obtain ⟨s, hs⟩ := (hE.cv.cm.pg b hbB).wt
      have y2 := St.cell hs 2
      simp [Pc.cs] at y2
      unfold ptr at hri
      have HE2 := hid hE
      have HBE := hid hbe
      cases hd : (G'.c b).di with
      | false =>
        rw [hd] at y2
        clear hE hst ho2 hv2 hrow hs
        go_wp2
        refine ⟨⟨i + 1, by simp, by omega, k, G', q', ft', F', HE2.out.cv, HE2.out.ch, HE2.out.rc, HE2.out.bd, fun j hj hjl => ?_, HE2.out.hi⟩, by simp [intOf]; omega⟩
        by_cases e : j = i
        · subst e; rw [HBE.out]; exact hd
        · exact HE2.out.dd j (by omega) hjl
      | true =>
        rw [hd] at y2
        have HC := hid (HIH.out (N + k) G' q' ft' F' wr b hE.cv (HRK.out.stb hst) (HL.out b hbl).2 hbB hd (by have := hE.bd; omega))
        clear hE hst ho2 hv2 hrow hs
        unfold ptr at HC
        go_wp2_with (first | (go_at_call 72; refine HC.out.mono ?_; rintro _ w2 ⟨z, k2, G2, q2, ft2, F2, rfl, H1, H2, H3, H4, H5, H6⟩))
        · rename_i hz
          have hz0 : z ≠ 0 := by simpa using hz
          go_ret
          refine ⟨z, k + k2, G2, q2, ft2, F2, rfl, by rw [← Nat.add_assoc]; exact H1, HE2.out.ch.trans H2, HE2.out.rc.out H3, ?_, fun e => absurd e hz0, fun a ha => (H6 a ha).trans (HE2.out.hi a ha)⟩
          have := HE2.out.bd
          omega
        · rename_i hz
          have hz0 : z = 0 := by simpa using hz
          subst hz0
          rcases H3 with ⟨_, hrc⟩ | ⟨hne, _⟩
          · have hb5 := HE2.out.bd
            simp only [if_true] at H4
            refine ⟨⟨i + 1, by simp, by omega, k + k2, G2, q2, ft2, F2, by rw [← Nat.add_assoc]; exact H1, HE2.out.ch.trans H2, HE2.out.rc.trans hrc, by omega, fun j hj hjl => ?_, fun a ha => (H6 a ha).trans (HE2.out.hi a ha)⟩, by simp [intOf]; omega⟩
            by_cases e : j = i
            · subst e; rw [HBE.out]; exact H5 rfl b (by simp)
            · cases hx : (G2.c (l.getD j 0)).di with
              | false => rfl
              | true =>
                have h7 := hrc.stb.d _ hx
                change (G'.c (l.getD j 0)).di = true at h7
                rw [HE2.out.dd j (by omega) hjl] at h7
                cases h7
          · exact absurd rfl hne
    · obtain rfl : i = l.length := by omega
      go_wp2
      go_ret
      refine ⟨0, k, G', q', ft', F', rfl, hE.cv, hE.ch, .inl ⟨rfl, hE.rc⟩, by have := hE.bd; simp; omega, fun _ b hb => ?_, hE.hi⟩
      obtain ⟨j, hj, e⟩ := gn_of hb
      have := hE.dd j hj hj
      rw [e] at this
      exact this
end Go.Proofs.YtnccklbnncaeoaaGreat
/- A range over a function whose iterator changes blocks that were there before (O, the iterator's), and what it leaves is told at the end. Whatever the program. -/
namespace Go.Proofs.YtnccklbnncaeoaaGreat
open Go.RowKit

/-- J abides what the iterator does to its own blocks, and new ones. -/
def AbW {α : Type} (J : List α → (Nat → Prop) → World → Prop) : Prop :=
  ∀ s O X Y, J s O X → Kp O X Y → J s (fun i => O i ∨ (X.heap.size ≤ i ∧ i < Y.heap.size)) Y
/-- What the iterator tells, and that it leaves alone all that is not its own. -/
def SeqW {α : Type} (F : Fence) (n : Nat) (P : Program) (g : Nat) (pb lb : Array Value) (encs : α → Array Value) (S Sx : List α → World → Prop) (Sp : List α → Prop) (O₀ : Nat → Prop) (w : World) : Prop :=
  ∀ (l : Nat) (J Jx : List α → (Nat → Prop) → World → Prop) (W : World), Below w.heap.size w W → AbW J → AbW Jx →
    (∀ pre O x W1, J pre O W1 → Sp (pre ++ [x]) → YieldAt F (n - 1) P l (encs x) W1 fun e W' =>
      (e = .returned (.bool true) ∧ J (pre ++ [x]) O W' ∧ Kp (fun i => ¬ O i) W1 W') ∨ (e = .returned (.bool false) ∧ Jx (pre ++ [x]) O W' ∧ Kp (fun i => ¬ O i) W1 W')) →
    J [] O₀ W →
    CallsIn F n P g (pb ++ #[.func (.yield l) #[] #[]] ++ lb) W fun e W' => (∃ v, e = .returned v) ∧ ((∃ xs O, S xs W' ∧ J xs O W') ∨ (∃ pre O, Sx pre W' ∧ Jx pre O W'))
/-- How the body of a round may be left. -/
def postW {α : Type} (B : Nat) (I : List α → (Nat → Prop) → World → Prop) (Ix : Code → List α → (Nat → Prop) → World → Prop) (xs : List α) (O : Nat → Prop) (W : World) : Exit → Act → World → Prop
  | .normal, _, W' => Kp (fun i => ¬ O i ∧ i ≠ B ∧ i ≠ B + 1) W W' ∧ I xs O W'
  | .ret, _, W' => Kp (fun i => ¬ O i ∧ i ≠ B ∧ i ≠ B + 1) W W' ∧ Ix .ret xs O W'
  | .exit id, _, W' => Kp (fun i => ¬ O i ∧ i ≠ B ∧ i ≠ B + 1) W W' ∧ Ix (.exit id) xs O W'
  | .goto t, _, W' => Kp (fun i => ¬ O i ∧ i ≠ B ∧ i ≠ B + 1) W W' ∧ Ix (.goto t) xs O W'
  | .panic _, _, _ => False
  | .outgrown, _, _ => False
variable {F : Fence} {n : Nat} {P : Program} {w : World}
theorem kp_putN2 {O : Nat → Prop} (W : World) (l : Nat) (o' : Obj) (h : ¬ O l) : Kp (fun i => ¬ O i) W (W.putObj l o') :=
  ⟨rfl, rfl, rfl, by simp, fun k _ hk => World.putObj_heap_other (fun e => hk (by rw [e]; exact h))⟩
theorem kp_tr2 {G : Nat → Prop} {X Y Z : World} (h : Kp G X Y) (k : Kp G Y Z) : Kp G X Z := h.trans k (fun _ _ x => x)
theorem wpIn_rangeFunc_W {α : Type} {g : Operand} {ps : Array Tmp} {assign body : Code} {Q : Exit → Act → World → Prop} {a : Act} {w : World}
    (hro : F.round = none) (h1 : 1 ≤ n) {gf : Nat} {pb lb : Array Value} (hg : a.eval g = .func (.func gf) pb lb) (hFg : F.fn gf) (eg : ∀ args w, (callFunc gf args).run P w = .ok (.enter gf args) w)
    {encs : α → Array Value} {S Sx : List α → World → Prop} {Sp : List α → Prop} {O₀ : Nat → Prop} {w0 : World} (hseq : SeqW F (n - 1) P gf pb lb encs S Sx Sp O₀ w0)
    (hS : ∀ xs X r o', S xs X → X.heap[w.heap.size + 1]? = some (.loop r) → S xs (X.putObj (w.heap.size + 1) o')) (hSx : ∀ xs X r o', Sx xs X → X.heap[w.heap.size + 1]? = some (.loop r) → Sx xs (X.putObj (w.heap.size + 1) o')) (hO : ∀ i, O₀ i → i < w.heap.size) (hb0 : Below w0.heap.size w0 w) (hps : ∀ x, (encs x).size = ps.size)
    (I : List α → (Nat → Prop) → World → Prop) (Ix : Code → List α → (Nat → Prop) → World → Prop)
    (hI : AbW I) (hIx : ∀ c, AbW (Ix c))
    (hI2 : ∀ s O X o', I s O X → w.heap.size + 1 < X.heap.size → I s O (X.putObj (w.heap.size + 1) o'))
    (hIx2 : ∀ c s O X o', Ix c s O X → w.heap.size + 1 < X.heap.size → Ix c s O (X.putObj (w.heap.size + 1) o'))
    (h0 : ∀ r, I [] O₀ ((w.alloc (.deferred (some []))).alloc (.loop r))) (Ax : α → Act → World → Prop) (hAx : ∀ x a' X o', Ax x a' X → Ax x a' (X.putObj (w.heap.size + 1) o'))
    (hassign : ∀ (l : Nat) (pre : List α) (O : Nat → Prop) (x : α) (W : World) (K : Act → World → Prop), l = w.heap.size + 1 → w.heap.size + 1 < W.heap.size → I pre O W → (∀ a' W', Kp (fun i => ¬ O i ∧ i ≠ w.heap.size ∧ i ≠ w.heap.size + 1) W W' → I pre O W' → Ax x a' W' → K a' W') →
      assign.wpIn (F.inRound l) (n - 1 - 1) P (Exit.then K (fun _ _ _ => False)) { tmps := (ps.zip (encs x)).foldl (fun t (p, v) => t.setIfInBounds p v) a.tmps, defers := [] } W)
    (hbody : ∀ (l : Nat) (pre : List α) (O : Nat → Prop) (x : α) (a' : Act) (W : World), l = w.heap.size + 1 → w.heap.size + 1 < W.heap.size → ¬ O w.heap.size → ¬ O (w.heap.size + 1) → I pre O W → Ax x a' W → Sp (pre ++ [x]) → body.wpIn (F.inRound l) (n - 1 - 1) P (postW w.heap.size I Ix (pre ++ [x]) O W) a' W)
    (hdone : ∀ (D : Nat) (xs : List α) (O : Nat → Prop) (W : World), D = w.heap.size → S xs W → I xs O W → W.heap[D]? = some (.deferred (some [])) → Q .normal { a with defers := { target := .collected D, args := #[] } :: a.defers } W)
    (hstop : ∀ (D : Nat) (c : Code) (pre : List α) (O : Nat → Prop) (W : World), D = w.heap.size → Sx pre W → Ix c pre O W → W.heap[D]? = some (.deferred (some [])) → c.wpIn F n P Q { a with defers := { target := .collected D, args := #[] } :: a.defers } W) :
    (Code.rangeFunc g ps assign body).wpIn F n P Q a w := by
  refine wpIn_rangeFunc ?_
  intro fn hfn
  rw [hro]
  obtain ⟨rc, hrc⟩ : ∃ rc : LoopState → Option Code → Loop, rc = fun st pe => { state := st, pending := pe, fn, tmps := a.tmps, params := ps, assign, body, defers := w.heap.size } := ⟨_, rfl⟩
  obtain ⟨V, hV⟩ : ∃ V, V = (w.alloc (.deferred (some []))).alloc (.loop (rc .ready none)) := ⟨_, rfl⟩
  obtain ⟨L, hL⟩ : ∃ L, L = w.heap.size + 1 := ⟨_, rfl⟩
  have sV : V.heap.size = w.heap.size + 1 + 1 := by rw [hV]; simp
  have lV : V.heap[L]? = some (.loop (rc .ready none)) := by
    rw [hV, hL]
    have := World.alloc_heap_new (w.alloc (.deferred (some []))) (.loop (rc .ready none))
    rwa [World.size_alloc] at this
  have dV : V.heap[w.heap.size]? = some (.deferred (some [])) := by
    rw [hV]
    exact (Below.heap_alloc _ _ _ (by simp)).trans (World.alloc_heap_new w _)
  have iV : I [] O₀ V := by rw [hV]; exact h0 _
  have bV : Below w0.heap.size w0 V := by
    rw [hV]
    exact hb0.trans ((((Below.refl _ w).alloc (Nat.le_refl _) _).alloc (by simp) _).mono hb0.size)
  refine ⟨L, [{ target := .collected w.heap.size, args := #[] }], V, { target := .fn (.func gf) lb, args := pb ++ #[.func (.yield L) #[] #[]] }, V, gf, pb ++ #[.func (.yield L) #[] #[]] ++ lb, V, ?_, ?_, ?_, ?_, fun _ => h1, ?_⟩
  · rw [hV, hL, hrc]; exact run_enterLoop_outer _ _ _ _ _
  · simp only [resolve, hg]
    simp [go_sem]
  · intro f' hf'; simp [Target.leads] at hf'; subst hf'; exact hFg
  · simp [invoke, go_sem, eg]
  · have ab : ∀ {K : List α → (Nat → Prop) → World → Prop} {ob : Obj}, AbW K → ∀ s (O : Nat → Prop) X Y, (K s O X ∧ X.heap[L]? = some ob ∧ X.heap[w.heap.size]? = some (.deferred (some [])) ∧ ¬ O L ∧ ¬ O w.heap.size) → Kp O X Y →
        (K s (fun i => O i ∨ (X.heap.size ≤ i ∧ i < Y.heap.size)) Y ∧ Y.heap[L]? = some ob ∧ Y.heap[w.heap.size]? = some (.deferred (some [])) ∧ ¬ (O L ∨ (X.heap.size ≤ L ∧ L < Y.heap.size)) ∧ ¬ (O w.heap.size ∨ (X.heap.size ≤ w.heap.size ∧ w.heap.size < Y.heap.size))) := by
      rintro K ob hK s O X Y ⟨hk, hl, hd, n1, n2⟩ kk
      have x1 := (Array.getElem?_eq_some_iff.1 hl).1
      have x2 := (Array.getElem?_eq_some_iff.1 hd).1
      exact ⟨hK s O X Y hk kk, (kk.block _ x1 (fun x => n1 x)).trans hl, (kk.block _ x2 (fun x => n2 x)).trans hd, fun x => x.elim n1 (fun x => by omega), fun x => x.elim n2 (fun x => by omega)⟩
    refine (hseq L
      (fun pre O W => I pre O W ∧ W.heap[L]? = some (.loop (rc .ready none)) ∧ W.heap[w.heap.size]? = some (.deferred (some [])) ∧ ¬ O L ∧ ¬ O w.heap.size)
      (fun pre O W => ∃ c, Ix c pre O W ∧ W.heap[L]? = some (.loop (rc .done (some c))) ∧ W.heap[w.heap.size]? = some (.deferred (some [])) ∧ ¬ O L ∧ ¬ O w.heap.size)
      V bV (fun s O X Y hs kk => ab hI s O X Y hs kk) (fun s O X Y hs kk => by obtain ⟨c, hs⟩ := hs; exact ⟨c, ab (hIx c) s O X Y hs kk⟩)
      ?_ ⟨iV, lV, dV, fun x => absurd (hO _ x) (by omega), fun x => absurd (hO _ x) (by omega)⟩).mono ?_
    · rintro pre O x W ⟨hi, hl, hd, n1, n2⟩ hsp
      have hlt : L < W.heap.size := (Array.getElem?_eq_some_iff.1 hl).1
      have hy := run_yield (P := P) (args := encs x) hl (by rw [hrc]; exact hps x)
      rw [hrc] at hy
      refine ⟨fn, _, assign, body, hy, roundIn_of_wpIn hfn (hassign _ pre O x W _ hL (by omega) hi ?_)⟩
      clear hy
      intro a' Z kZ iZ aZ
      have lZ := (kZ.block L hlt (fun x => x.2.2 hL)).trans hl
      have dZ := (kZ.block w.heap.size (by omega) (fun x => x.2.1 rfl)).trans hd
      have sZ : L < Z.heap.size := (Array.getElem?_eq_some_iff.1 lZ).1
      have kZ' : Kp (fun i => ¬ O i) W Z := kZ.mono (fun _ _ x => x.1)
      refine ⟨_, run_beginRound lZ (by rw [hrc]), ?_⟩
      obtain ⟨bz, hbz⟩ : ∃ bz : Obj, bz = .loop { rc .ready none with state := .busy } := ⟨_, rfl⟩
      rw [← hbz]
      have lB : (Z.putObj L bz).heap[L]? = some bz := World.putObj_heap_same sZ
      have dB : (Z.putObj L bz).heap[w.heap.size]? = some (.deferred (some [])) := (World.putObj_heap_other (by omega)).trans dZ
      have sB : L < (Z.putObj L bz).heap.size := (Array.getElem?_eq_some_iff.1 lB).1
      have kB : Kp (fun i => ¬ O i) W (Z.putObj L bz) := kp_tr2 kZ' (kp_putN2 _ _ _ n1)
      have iB : I pre O (Z.putObj L bz) := by rw [hL]; exact hI2 _ _ _ _ iZ (by omega)
      have aB : Ax x a' (Z.putObj L bz) := by rw [hL]; exact hAx _ _ _ _ aZ
      refine wpIn_mono (hbody L pre O x a' _ hL (by omega) n2 (by rw [← hL]; exact n1) iB aB hsp) ?_
      have fin : ∀ (jump : Option Code) (Y : World), Kp (fun i => ¬ O i ∧ i ≠ w.heap.size ∧ i ≠ w.heap.size + 1) (Z.putObj L bz) Y →
          (Instr.endRound L jump).run P Y = .ok (.bool jump.isNone) (Y.putObj L (.loop (rc (if jump.isNone then .ready else .done) jump))) ∧ L < Y.heap.size ∧
          (Y.putObj L (.loop (rc (if jump.isNone then .ready else .done) jump))).heap[L]? = some (.loop (rc (if jump.isNone then .ready else .done) jump)) ∧
          (Y.putObj L (.loop (rc (if jump.isNone then .ready else .done) jump))).heap[w.heap.size]? = some (.deferred (some [])) ∧
          Kp (fun i => ¬ O i) W (Y.putObj L (.loop (rc (if jump.isNone then .ready else .done) jump))) := fun jump Y kY => by
        have lY := (kY.block L sB (fun x => x.2.2 hL)).trans lB
        have dY := (kY.block w.heap.size (by omega) (fun x => x.2.1 rfl)).trans dB
        have sY : L < Y.heap.size := (Array.getElem?_eq_some_iff.1 lY).1
        rw [hbz] at lY
        have hr := run_endRound (P := P) jump lY
        rw [hrc] at hr ⊢
        exact ⟨hr, sY, World.putObj_heap_same sY, (World.putObj_heap_other (by omega)).trans dY, kp_tr2 kB (kp_tr2 (kY.mono (fun _ _ x => x.1)) (kp_putN2 _ _ _ n1))⟩
      rintro e a3 Y hp
      cases e with
      | normal =>
        obtain ⟨kY, iY⟩ := hp
        obtain ⟨hr, sY, l4, d4, k4⟩ := fin none Y kY
        exact ⟨_, _, hr, .inl ⟨rfl, ⟨by rw [hL]; exact hI2 _ _ _ _ iY (by omega), l4, d4, n1, n2⟩, k4⟩⟩
      | ret =>
        obtain ⟨kY, iY⟩ := hp
        obtain ⟨hr, sY, l4, d4, k4⟩ := fin (some .ret) Y kY
        exact ⟨_, _, hr, .inr ⟨rfl, ⟨.ret, by rw [hL]; exact hIx2 _ _ _ _ _ iY (by omega), l4, d4, n1, n2⟩, k4⟩⟩
      | exit id =>
        obtain ⟨kY, iY⟩ := hp
        obtain ⟨hr, sY, l4, d4, k4⟩ := fin (some (.exit id)) Y kY
        exact ⟨_, _, hr, .inr ⟨rfl, ⟨.exit id, by rw [hL]; exact hIx2 _ _ _ _ _ iY (by omega), l4, d4, n1, n2⟩, k4⟩⟩
      | goto t =>
        obtain ⟨kY, iY⟩ := hp
        obtain ⟨hr, sY, l4, d4, k4⟩ := fin (some (.goto t)) Y kY
        exact ⟨_, _, hr, .inr ⟨rfl, ⟨.goto t, by rw [hL]; exact hIx2 _ _ _ _ _ iY (by omega), l4, d4, n1, n2⟩, k4⟩⟩
      | panic ch => exact hp.elim
      | outgrown => exact hp.elim
    · rintro e Y ⟨⟨v, rfl⟩, (⟨xs, O, hS1, hi, hl, hd, n1, n2⟩ | ⟨pre, O, hSp, c, hi, hl, hd, n1, n2⟩)⟩
      · have sY : L < Y.heap.size := (Array.getElem?_eq_some_iff.1 hl).1
        exact ⟨none, _, by have := run_endLoop (P := P) hl (by rw [hrc]; simp); rw [hrc] at this; exact this, hdone _ xs O _ rfl (by rw [hL]; exact hS _ _ _ _ hS1 (hL ▸ hl)) (by rw [hL]; exact hI2 _ _ _ _ hi (by omega)) ((World.putObj_heap_other (by omega)).trans hd)⟩
      · have sY : L < Y.heap.size := (Array.getElem?_eq_some_iff.1 hl).1
        exact ⟨some c, _, by have := run_endLoop (P := P) hl (by rw [hrc]; simp); rw [hrc] at this; exact this, hstop _ c pre O _ rfl (by rw [hL]; exact hSx _ _ _ _ hSp (hL ▸ hl)) (by rw [hL]; exact hIx2 _ _ _ _ _ hi (by omega)) ((World.putObj_heap_other (by omega)).trans hd)⟩
end Go.Proofs.YtnccklbnncaeoaaGreat
