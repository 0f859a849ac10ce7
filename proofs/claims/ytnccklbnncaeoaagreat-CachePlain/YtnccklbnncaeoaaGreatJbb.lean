import Derived.Test.YtnccklbnncaeoaaGreatJav
import Derived.Test.YtnccklbnncaeoaaGreatJba
import Derived.Test.YtnccklbnncaeoaaGreatJad
import Derived.Test.YtnccklbnncaeoaaGreatJat
import Derived.Test.YtnccklbnncaeoaaGreatJar
/- cache: a cache and its store, together; flush. -/
namespace Go.Proofs.YtnccklbnncaeoaaGreat
open Go.RowKit
set_option linter.unusedVariables false
set_option linter.unusedSimpArgs false
/-- A cache and the store beneath it. -/
structure Cv (S : ByteArray) (g bits room Q N : Nat) (G : Gc) (q : Gf) (ft : List (Int × Int)) (F : Nat → Prop) (w : World) : Prop where
  cm : Cm S g bits room Q G w
  sw : Sw S g N F q ft w
  ap : ∀ i, Fc Q G i → ¬ F i
  iv : Iv G
  op : Op G
  pp : ∀ b ∈ G.P, (G.c b).pe = true
  pn : G.P.Nodup
  nn : G.n3 + G.n4 ≤ N
  tt : G.n1 + G.n2 = G.t
  tk : ∀ b ∈ G.B, (G.c b).tk ≤ G.t
  nb : ∀ b ∈ G.B, (G.c b).n < 268435456 / 2 ^ bits
  yl : ∀ b ∈ G.B, ∀ i zs, G.y b = some (i, zs) → zs.length = 2 ^ bits
  lr : G.L.length ≤ room
  bb : 9 ≤ bits ∧ bits ≤ 16
  rr : 1 ≤ room ∧ room ≤ 1024
/-- What a change leaves alone. -/
structure Cch (Q : Nat) (G G' : Gc) (F F' : Nat → Prop) (w w' : World) : Prop where
  kp : Kp (fun i => Fc Q G i ∨ F i) w w'
  fc : ∀ i, Fc Q G' i → Fc Q G i ∨ w.heap.size ≤ i
  ff : ∀ i, F' i → F i ∨ w.heap.size ≤ i
theorem Cch.refl (Q : Nat) (G : Gc) (F : Nat → Prop) (w : World) : Cch Q G G F F w w := ⟨Kp.refl _ _, fun _ h => .inl h, fun _ h => .inl h⟩
theorem Cch.trans {Q : Nat} {G H I : Gc} {F1 F2 F3 : Nat → Prop} {w w1 w2 : World} (h : Cch Q G H F1 F2 w w1) (k : Cch Q H I F2 F3 w1 w2) : Cch Q G I F1 F3 w w2 :=
  ⟨h.kp.trans k.kp (fun i hi e => by
      rcases e with e | e
      · exact (h.fc i e).elim .inl (fun h => by omega)
      · exact (h.ff i e).elim .inr (fun h => by omega)),
   fun i hi => (k.fc i hi).elim (h.fc i) (fun e => .inr (Nat.le_trans h.kp.size e)),
   fun i hi => (k.ff i hi).elim (h.ff i) (fun e => .inr (Nat.le_trans h.kp.size e))⟩
theorem Cch.kp0 {Q : Nat} {G G' : Gc} {F F' : Nat → Prop} {w w1 w2 : World} (h : Cch Q G G' F F' w w1) (k : Kp (fun _ => False) w1 w2) : Cch Q G G' F F' w w2 :=
  ⟨h.kp.trans k (fun _ _ e => e.elim), h.fc, h.ff⟩
theorem Cch.pre {Q : Nat} {G G' : Gc} {F F' : Nat → Prop} {w w1 w2 : World} (k : Kp (fun _ => False) w w1) (h : Cch Q G G' F F' w1 w2) : Cch Q G G' F F' w w2 :=
  ⟨(k.mono (fun _ _ e => e.elim)).trans h.kp (fun _ _ e => e), fun i hi => (h.fc i hi).imp id (fun e => Nat.le_trans k.size e), fun i hi => (h.ff i hi).imp id (fun e => Nat.le_trans k.size e)⟩
theorem Cv.kp {S : ByteArray} {g bits room Q N : Nat} {G : Gc} {q : Gf} {ft : List (Int × Int)} {F X : Nat → Prop} {w w' : World} (h : Cv S g bits room Q N G q ft F w) (k : Kp X w w') (h1 : ∀ i, Fc Q G i → ¬ X i) (h2 : ∀ i, F i → ¬ X i) : Cv S g bits room Q N G q ft F w' :=
  ⟨h.cm.kp k h1, h.sw.kp k h2, h.ap, h.iv, h.op, h.pp, h.pn, h.nn, h.tt, h.tk, h.nb, h.yl, h.lr, h.bb, h.rr⟩
theorem Cv.kp0 {S : ByteArray} {g bits room Q N : Nat} {G : Gc} {q : Gf} {ft : List (Int × Int)} {F : Nat → Prop} {w w' : World} (h : Cv S g bits room Q N G q ft F w) (k : Kp (fun _ => False) w w') : Cv S g bits room Q N G q ft F w' := h.kp k (fun _ _ h => h) (fun _ _ h => h)
/-- A page is pending no more. -/
def gUn (G : Gc) (b : Nat) : Gc := { G with c := upd G.c b { G.c b with pe := false } }
theorem gUn_c (G : Gc) (b a : Nat) : ((gUn G b).c a).n = (G.c a).n ∧ ((gUn G b).c a).bv = (G.c a).bv ∧ ((gUn G b).c a).di = (G.c a).di ∧ ((gUn G b).c a).tk = (G.c a).tk ∧ ((gUn G b).c a).wm = (G.c a).wm ∧ ((gUn G b).c a).rm = (G.c a).rm := by
  show (upd G.c b { G.c b with pe := false } a).n = _ ∧ (upd G.c b { G.c b with pe := false } a).bv = _ ∧ (upd G.c b { G.c b with pe := false } a).di = _ ∧ (upd G.c b { G.c b with pe := false } a).tk = _ ∧ (upd G.c b { G.c b with pe := false } a).wm = _ ∧ (upd G.c b { G.c b with pe := false } a).rm = _
  unfold upd
  split
  · rename_i e; rw [e]; exact ⟨rfl, rfl, rfl, rfl, rfl, rfl⟩
  · exact ⟨rfl, rfl, rfl, rfl, rfl, rfl⟩
theorem gUn_pe (G : Gc) (b a : Nat) : ((gUn G b).c a).pe = if a = b then false else (G.c a).pe := by
  show (upd G.c b { G.c b with pe := false } a).pe = _
  unfold upd
  split <;> rfl
theorem les_un (G : Gc) (b : Nat) : Les G (gUn G b) := ⟨rfl, rfl, rfl, rfl, rfl, rfl, rfl, rfl, rfl, rfl, gUn_c G b, fun _ h => h, fun _ _ h => h, fun _ _ h _ => h⟩
theorem key_congr {c d : Nat → Pc} {a : Nat} (h1 : (d a).di = (c a).di) (h2 : (d a).tk = (c a).tk) : key d a = key c a := by
  unfold key; rw [h1, h2]
theorem Iv.un {G : Gc} (h : Iv G) (b : Nat) : Iv (gUn G b) :=
  ⟨h.wk, h.wr, h.rk, h.kb, h.lk, h.ll, fun a ha hp => by
    rw [gUn_pe] at hp
    split at hp
    · cases hp
    · exact h.pk a ha hp, fun a ha hd => h.dk a ha (by rw [← (gUn_c G b a).2.2.1]; exact hd), Hpd.congr h.hp (fun a _ => key_congr (gUn_c G b a).2.2.1 (gUn_c G b a).2.2.2.1)⟩
theorem Op.un {G : Gc} (h : Op G) (b : Nat) : Opx (gUn G b) b := fun x a ha hab => by
  rw [(gUn_c G b a).2.2.1, gUn_pe, if_neg hab]
  exact h x a ha
theorem fc_un {Q : Nat} {G : Gc} {b i : Nat} (hi : Fc Q (gUn G b) i) : Fc Q G i :=
  fc_same (H := gUn G b) (G := G) rfl rfl rfl rfl rfl (fun a _ => ⟨(gUn_c G b a).2.2.2.2.1, (gUn_c G b a).2.2.2.2.2⟩) (fun a _ j zs e => ⟨zs, e⟩) i hi
theorem Les.fc {Q : Nat} {G G' : Gc} (h : Les G G') (hp : G'.pv = G.pv) (i : Nat) (hi : Fc Q G' i) : Fc Q G i :=
  fc_same h.kl h.pm h.lv hp h.B (fun a _ => ⟨(h.c a).2.2.2.2.1, (h.c a).2.2.2.2.2⟩) (fun a _ j zs e => ⟨zs, by rw [← h.y]; exact e⟩) i hi
/-- What the loop of flush holds when i are done. -/
structure Fl (S : ByteArray) (g bits room Q : Nat) (G : Gc) (i : Nat) (H : Gc) (w : World) : Prop where
  cm : Cm S g bits room Q H w
  iv : Iv H
  op : Op H
  le : Les G H
  p : H.P = G.P
  v : H.pv = G.pv
  n : H.n4 = G.n4
  pe : ∀ j, i ≤ j → j < G.P.length → (H.c (G.P.getD j 0)).pe = true
  pf : ∀ j, j < i → j < G.P.length → (H.c (G.P.getD j 0)).pe = false
theorem Fl.next {S : ByteArray} {g bits room Q : Nat} {G : Gc} {i : Nat} {H : Gc} {w : World} (h : Fl S g bits room Q G i H w) (hn : G.P.Nodup) (hi : i < G.P.length) {w' : World} (hc : Cm S g bits room Q (gSet (gUn H (G.P.getD i 0)) (G.P.getD i 0)) w') : Fl S g bits room Q G (i + 1) (gSet (gUn H (G.P.getD i 0)) (G.P.getD i 0)) w' := by
  have hb : G.P.getD i 0 ∈ G.P := gn_mem hi
  generalize hbe : G.P.getD i 0 = b at *
  have hbB : b ∈ H.B := h.cm.pb b (by rw [h.p]; exact hb)
  obtain ⟨h1, h2, h3⟩ := (h.iv.un b).set b hbB (h.op.un b)
  have hw := set_wpR (gUn H b) b
  have hpe : ∀ a, ((gSet (gUn H b) b).c a).pe = if a = b then false else (H.c a).pe := fun a => by rw [hw.1]; exact gUn_pe H b a
  have hne : ∀ j, j < G.P.length → j ≠ i → G.P.getD j 0 ≠ b := fun j hj hji e => by
    rw [← hbe, gn hj, gn hi] at e
    exact hji ((List.getElem_inj hn).1 e)
  refine ⟨hc, h1, h2, (h.le.trans (les_un H b)).trans h3, hw.2.1.trans h.p, hw.2.2.1.trans h.v, hw.2.2.2.trans h.n, fun j hj hl => ?_, fun j hj hl => ?_⟩
  · rw [hpe, if_neg (hne j hl (by omega))]
    exact h.pe j (by omega) hl
  · rw [hpe]
    by_cases e : j = i
    · subst e; rw [hbe, if_pos rfl]
    · rw [if_neg (hne j hl e)]
      exact h.pf j (by omega) hl
end Go.Proofs.YtnccklbnncaeoaaGreat
/- cache: flush. -/
namespace Go.Proofs.YtnccklbnncaeoaaGreat
open Go.RowKit
set_option linter.unusedVariables false
set_option linter.unusedSimpArgs false
/-- What flush leaves. -/
def FlG (e : Int) (G G' : Gc) : Prop := (e ≠ 0 ∧ G' = G) ∨ (e = 0 ∧ Les G G' ∧ G'.P = [] ∧ G'.n4 = G.n4 + 1 ∧ ∀ b ∈ G.B, (G'.c b).pe = false)
/-- Rows of pointers: where they lie. -/
theorem prow {w : World} {v : Value} {L : List Nat} (h : w.ownsRow 0 138 1 v L.length (L.map ptr)) : ∃ ao cap, v = .slice ao L.length cap ∧ L.length ≤ maxLen ∧ ∀ i, i < L.length → ∃ r, ao = some ⟨r, 0, none⟩ ∧ w.cell? ⟨r, i, none⟩ = some (ptr (L.getD i 0)) := by
  have ho := h
  rcases h.2 with ⟨h1, h0⟩ | ⟨r, cap, cur, rfl, h1, h2, h3, h4, h5, h6⟩
  · exact ⟨none, 0, by rw [h0]; exact h1, by rw [h0]; simp, fun i hi => by omega⟩
  · refine ⟨_, cap, rfl, by omega, fun i hi => ⟨r, rfl, ?_⟩⟩
    have := ho.cells (g := r) rfl i (ptr (L.getD i 0)) (by simp [List.getD, hi])
    rw [add_z] at this
    exact this
theorem Cm.un {S : ByteArray} {g bits room Q : Nat} {G : Gc} {w : World} (h : Cm S g bits room Q G w) {b : Nat} (hb : b ∈ G.B) : Cm S g bits room Q (gUn G b) (w.setCell ⟨b, 3, none⟩ (.bool false)) ∧ Kp (fun i => i = b) w (w.setCell ⟨b, 3, none⟩ (.bool false)) := by
  have hk : Kp (fun i => i = b) w (w.setCell ⟨b, 3, none⟩ (.bool false)) := kp_setCell w b 3 _ (fun i => i = b) rfl
  refine ⟨?_, hk⟩
  have hm : b ∈ G.L → Mayp { G.c b with pe := false } := fun hl => h.ln.may b hl
  have := Cm.page h hb (p := { G.c b with pe := false }) (y := G.y b) (w' := w.setCell ⟨b, 3, none⟩ (.bool false)) (fun s hs => ?_) hk rfl rfl rfl hm ?_ (fun i zs e a ha hab zs' e2 => hab (h.yi a ha b hb i zs' zs e2 e))
  · rw [upd_self] at this
    exact this
  · have h2 := St.set hs 3 (.bool false)
    simpa [Pc.cs] using h2
  · exact (h.pg b hb).ys.kp hk (fun i zs e => tag_ne (h.yt hb e) (h.pt hb) (by decide))
theorem Fl.start {S : ByteArray} {g bits room Q N : Nat} {G : Gc} {q : Gf} {ft : List (Int × Int)} {F : Nat → Prop} {w w' : World} (h : Cv S g bits room Q N G q ft F w) (n : Nat) (hc : Cm S g bits room Q { G with n4 := n } w') : Fl S g bits room Q { G with n4 := n } 0 { G with n4 := n } w' :=
  ⟨hc, ⟨h.iv.wk, h.iv.wr, h.iv.rk, h.iv.kb, h.iv.lk, h.iv.ll, h.iv.pk, h.iv.dk, h.iv.hp⟩, h.op, Les.refl _, rfl, rfl, rfl, fun j _ hj => h.pp _ (gn_mem hj), fun j hj _ => by omega⟩
theorem Fl.fin {S : ByteArray} {g bits room Q N n : Nat} {G H : Gc} {q q' : Gf} {ft ft' : List (Int × Int)} {F F' : Nat → Prop} {w w1 w' : World} (h : Cv S g bits room Q N G q ft F w) (hn : n = G.n4 + 1) (f : Fl S g bits room Q { G with n4 := n } G.P.length H w1) (hs : Sw S g (N + 1) F' q' ft' w') (ha : ∀ i, Fc Q G i → ¬ F' i)
    (hc : Cm S g bits room Q { H with pv := .slice none 0 0, P := [] } w') : Cv S g bits room Q (N + 1) { H with pv := .slice none 0 0, P := [] } q' ft' F' w' ∧ FlG 0 G { H with pv := .slice none 0 0, P := [] } ∧ (∀ i, Fc Q { H with pv := .slice none 0 0, P := [] } i → Fc Q G i) := by
  have hl := f.le
  have hB : H.B = G.B := hl.B
  have hpe : ∀ b ∈ G.B, (H.c b).pe = false := by
    intro b hb
    cases hx : (H.c b).pe with
    | false => rfl
    | true =>
      have h1 := (f.iv.pk b (by rw [hB]; exact hb) hx).2
      rw [f.p] at h1
      obtain ⟨i, hi, e⟩ := gn_of h1
      have := f.pf i hi hi
      change (H.c (G.P.getD i 0)).pe = false at this
      change G.P.getD i 0 = b at e
      rw [e, hx] at this
      cases this
  have hfc : ∀ i, Fc Q { H with pv := .slice none 0 0, P := [] } i → Fc Q G i := by
    rintro i (e | e | e | e | e | e)
    · exact .inl e
    · exact .inr (.inl (e.trans hl.kl))
    · exact .inr (.inr (.inl (e.trans hl.pm)))
    · exact .inr (.inr (.inr (.inl (by rw [← hl.lv]; exact e))))
    · cases e
    · obtain ⟨b, hb, e⟩ := e
      refine .inr (.inr (.inr (.inr (.inr ⟨b, by rw [← hB]; exact hb, ?_⟩))))
      rcases e with e | e | e | ⟨zs, e⟩
      · exact .inl e
      · exact .inr (.inl (e.trans (hl.c b).2.2.2.2.1))
      · exact .inr (.inr (.inl (e.trans (hl.c b).2.2.2.2.2)))
      · exact .inr (.inr (.inr ⟨zs, by rw [← hl.y]; exact e⟩))
  refine ⟨⟨hc, hs, fun i hi => ha i (hfc i hi), ⟨f.iv.wk, f.iv.wr, f.iv.rk, f.iv.kb, f.iv.lk, f.iv.ll, fun b hb hx => ?_, f.iv.dk, f.iv.hp⟩, f.op, (fun b hb => by cases hb), List.nodup_nil, ?_, ?_, fun b hb => ?_, fun b hb => ?_, fun b hb i zs e => h.yl b (by rw [← hB]; exact hb) i zs (by rw [← hl.y]; exact e), ?_, h.bb, h.rr⟩, .inr ⟨rfl, ⟨hl.kl, hl.pm, hl.lv, hl.y, hl.B, hl.L, hl.t, hl.n1, hl.n2, hl.n3, hl.c, hl.K, hl.W, hl.D⟩, rfl, by show H.n4 = _; rw [f.n]; exact hn, hpe⟩, hfc⟩
  · change b ∈ H.B at hb
    rw [hB] at hb
    change (H.c b).pe = true at hx
    rw [hpe b hb] at hx; cases hx
  · show H.n3 + H.n4 ≤ N + 1
    have h1 := f.n
    have h2 := hl.n3
    have h3 := h.nn
    change H.n4 = n at h1
    change H.n3 = G.n3 at h2
    omega
  · show H.n1 + H.n2 = H.t
    have h1 := hl.n1
    have h2 := hl.n2
    have h3 := hl.t
    have h4 := h.tt
    change H.n1 = G.n1 at h1
    change H.n2 = G.n2 at h2
    change H.t = G.t at h3
    omega
  · show (H.c b).tk ≤ H.t
    rw [(hl.c b).2.2.2.1, hl.t]
    exact h.tk b (by rw [← hB]; exact hb)
  · show (H.c b).n < _
    rw [(hl.c b).1]
    exact h.nb b (by rw [← hB]; exact hb)
  · show H.L.length ≤ room
    rw [hl.L]
    exact h.lr
set_option maxHeartbeats 4000000 in
set_option maxRecDepth 100000 in
theorem cflush_any {S : ByteArray} {g bits room Q N : Nat} {G : Gc} {q : Gf} {ft : List (Int × Int)} {F : Nat → Prop} {w : World} (h : Cv S g bits room Q N G q ft F w) (hN : N ≤ 9000) :
    Calls Tryz.prog 75 #[ptr Q] w fun e w' => e = .returned (.int .i64 (ferr (ft.headD (0, 0)).1)) ∧ ∃ G' F', Cv S g bits room Q (N + 1) G' (gfl q (lft (ft.headD (0, 0)).1 (ft.headD (0, 0)).2 q.ps.length)) ft.tail F' w' ∧ Cch Q G G' F F' w w' ∧ FlG (ferr (ft.headD (0, 0)).1) G G' := by
  obtain ⟨k0, hk0⟩ : ∃ k, ferr (ft.headD (0, 0)).1 = k := ⟨_, rfl⟩
  have HST : Hid (∀ W, Kp (fun _ => False) w W → Calls Tryz.prog 121 #[ptr g, .string S] W fun e w' => e = .returned (.int .i64 k0) ∧ ∃ F', Cm S g bits room Q G w' ∧ Sw S g (N + 1) F' (gfl q (lft (ft.headD (0, 0)).1 (ft.headD (0, 0)).2 q.ps.length)) ft.tail w' ∧ (∀ i, Fc Q G i → ¬ F' i) ∧ Cch Q G G F F' w w') := fun W k => by
    refine (flush_w (h.sw.kp0 k) (by omega)).mono ?_
    rintro e w' ⟨rfl, hk, F', hs, hf⟩
    have hcm := (h.cm.kp0 k).kp hk h.ap
    refine ⟨by rw [hk0], F', hcm, hs, fun i hi hF => ?_, ⟨(k.mono (fun _ _ e => e.elim)).trans hk (fun i _ e => .inr e), fun i hi => .inl hi, fun i hi => (hf i hi).imp id (fun e => Nat.le_trans k.size e)⟩⟩
    have hl := (h.cm.kp0 k).lt hi
    rcases hf i hF with h2 | h2
    · exact h.ap i hi h2
    · omega
  generalize hq' : gfl q (lft (ft.headD (0, 0)).1 (ft.headD (0, 0)).2 q.ps.length) = q' at *
  rw [hk0]
  have z0 := h.cm.st.cell 0
  have z1 := h.cm.st.cell 1
  simp at z0 z1
  have HH := hid h
  have hnn := h.nn
  clear h
  unfold ptr at *
  go_enter Tryz.func75, Tryz.ntmps75
  go_wp2
  refine (wpIn_wide (n := 3)).1 ?_
  refine wpIn_region_two 8 hmix (by kernel_rfl) rfl ?_
  dsimp only [List.take, List.drop]
  repeat (gi_big_quiet_step (fail))
  refine wpQuietIn_nil ?_
  intro U hU
  obtain ⟨nq, hU2⟩ := hU
  subst hU2
  gi_wp2_with fail
  refine ⟨trivial, (callsIn_wide.2 (HST.out _ (drewN_kp _ w nq))).mono ?_⟩
  rintro _ w1 ⟨rfl, F', H1, H2, H3, H4⟩
  gi_wp2_with fail
  have HSW := hid H2
  have HAP := hid H3
  have HCH := hid H4
  have HCM := hid H1
  clear H1 H2 H3 H4 z0 z1 HST
  by_cases hk : k0 = 0
  · subst hk
    have z11 := HCM.out.st.cell 11
    have f11 := HCM.out.st.frozen 11
    have z6 := HCM.out.st.cell 6
    simp at z11 z6
    obtain ⟨ao, cap, hpv, hpl, hrow⟩ := prow HCM.out.pd
    rw [hpv] at z6
    unfold ptr at *
    go_wp2
    have HPV := hid hpv
    have HPL := hid hpl
    have hG1 : Cm S g bits room Q { G with n4 := G.n4 + 1 } (w1.setCell ⟨Q, 11, none⟩ (.int .i64 ((G.n4 : Int) + 1))) := by
      refine Cm.nums HCM.out (w' := w1.setCell ⟨Q, 11, none⟩ (.int .i64 ((G.n4 : Int) + 1))) ?_ (kp_setCell w1 Q 11 _ (fun i => i = Q) rfl)
      have h2 := St.set HCM.out.st 11 (.int .i64 ((G.n4 : Int) + 1))
      simpa [ptr] using h2
    have HF0 := hid (Fl.start HH.out (G.n4 + 1) hG1)
    have HK0 : Hid (Kp (Fc Q G) w1 (w1.setCell ⟨Q, 11, none⟩ (.int .i64 ((G.n4 : Int) + 1)))) := kp_setCell w1 Q 11 _ (Fc Q G) (.inl rfl)
    clear z11 f11 z6 hpv hrow hG1
    generalize w1.setCell ⟨Q, 11, none⟩ (.int .i64 ((G.n4 : Int) + 1)) = W at HF0 HK0 ⊢
    unfold maxLen at hpl
    have HPN := hid HH.out.pn
    go_loopw [32, 5] (fun vi _ wr => ∃ i : Nat, vi = .int .i64 i ∧ i ≤ G.P.length ∧ ∃ H, Fl S g bits room Q { G with n4 := G.n4 + 1 } i H wr ∧ Kp (Fc Q G) w1 wr) (fun vi _ _ => G.P.length - (intOf vi).toNat)
    case atStart => exact ⟨0, rfl, Nat.zero_le _, _, HF0.out, HK0.out⟩
    case round =>
      clear HF0 HK0
      obtain ⟨i, rfl, hi, H, hF, hkp⟩ := hrel
      by_cases hlt : i < G.P.length
      · have hlt' : (i : Int) < (G.P.length : Int) := by omega
        obtain ⟨b, hbe⟩ : ∃ b, G.P.getD i 0 = b := ⟨_, rfl⟩
        have hbP : b ∈ G.P := hbe ▸ gn_mem hlt
        have hbB : b ∈ H.B := hF.cm.pb b (by rw [hF.p]; exact hbP)
        have hpd := hF.cm.pd
        rw [hF.p, hF.v] at hpd
        change wr.ownsRow 0 138 1 G.pv G.P.length (G.P.map ptr) at hpd
        obtain ⟨ao2, cap2, hpv2, _, hrow⟩ := prow hpd
        rw [HPV.out] at hpv2
        obtain ⟨e1, e2⟩ : ao2 = ao ∧ cap2 = cap := by simp only [Value.slice.injEq] at hpv2; exact ⟨hpv2.1.symm, hpv2.2.2.symm⟩
        subst e1 e2
        obtain ⟨r, rfl, hri⟩ := hrow i hlt
        rw [hbe] at hri
        obtain ⟨h1, h2⟩ := hF.cm.un hbB
        obtain ⟨s, hs⟩ := (hF.cm.pg b hbB).wt
        have y3 := St.cell hs 3
        have f3 := St.frozen hs 3
        simp [Pc.cs] at y3
        have hpeb : (H.c b).pe = true := by
          have := hF.pe i (Nat.le_refl _) hlt
          change (H.c (G.P.getD i 0)).pe = true at this
          rw [hbe] at this; exact this
        have hbK : b ∈ (gUn H b).K := (hF.iv.pk b hbB hpeb).1
        have HST := hid (set_any h1 b hbK ((hF.iv.un b).rset b))
        have HNX : Hid (∀ w', Cm S g bits room Q (gSet (gUn H b) b) w' → Fl S g bits room Q { G with n4 := G.n4 + 1 } (i + 1) (gSet (gUn H b) b) w') := fun w' hc => by
          have := hF.next (w' := w') HPN.out hlt (by show Cm S g bits room Q (gSet (gUn H (G.P.getD i 0)) (G.P.getD i 0)) w'; rw [hbe]; exact hc)
          change Fl S g bits room Q { G with n4 := G.n4 + 1 } (i + 1) (gSet (gUn H (G.P.getD i 0)) (G.P.getD i 0)) w' at this
          rw [hbe] at this
          exact this
        have HKP : Hid (Kp (Fc Q G) w1 (wr.setCell ⟨b, 3, none⟩ (.bool false))) := hkp.trans (h2.mono (G := Fc Q G) (fun i _ e => .inr (.inr (.inr (.inr (.inr ⟨b, by have := hF.le.B; change H.B = G.B at this; rw [← this]; exact hbB, .inl e⟩)))))) (fun _ _ h => h)
        have HFC : Hid (∀ j, Fc Q (gUn H b) j → Fc Q G j) := fun j hj => by
          have h3 := hF.le.fc hF.v j (fc_un hj)
          exact h3
        clear hF hpd hpv2 hrow h1 h2 hs hkp
        unfold ptr at hri HST
        go_wp2_with (first | (go_at_call 122; refine HST.out.mono ?_; rintro _ w2 ⟨rfl, H1, H2⟩))
        exact ⟨⟨i + 1, by simp, by omega, _, HNX.out _ H1, HKP.out.trans H2 (fun j _ e => HFC.out j e)⟩, by simp [intOf]; omega⟩
      · obtain rfl : i = G.P.length := by omega
        have z6 := hF.cm.st.cell 6
        have f6 := hF.cm.st.frozen 6
        simp at z6
        have hfin : Cm S g bits room Q { H with pv := .slice none 0 0, P := [] } (wr.setCell ⟨Q, 6, none⟩ (.slice none 0 0)) := by
          refine Cm.pend hF.cm (w' := wr.setCell ⟨Q, 6, none⟩ (.slice none 0 0)) ?_ ⟨rfl, .inl ⟨rfl, rfl⟩⟩ (kp_setCell wr Q 6 _ _ (.inl rfl)) (fun b hb => by cases hb) (.inl rfl)
          have h2 := St.set hF.cm.st 6 (.slice none 0 0)
          simpa using h2
        have hkp2 : Kp (Fc Q G) w1 (wr.setCell ⟨Q, 6, none⟩ (.slice none 0 0)) := hkp.trans (kp_setCell wr Q 6 _ (Fc Q G) (.inl rfl)) (fun _ _ h => h)
        obtain ⟨k1, k2, k3⟩ := Fl.fin HH.out rfl hF (HSW.out.kp hkp2 (fun i hF' hG => HAP.out i hG hF')) HAP.out hfin
        have K1 := hid k1
        have K2 := hid k2
        have K3 := hid k3
        have HK := hid hkp2
        clear hF hfin hkp hkp2 k1 k2 k3
        go_wp2
        go_ret
        exact ⟨rfl, _, F', K1.out, ⟨HCH.out.kp.trans HK.out (fun i _ e => .inl e), fun i hi => .inl (K3.out i hi), HCH.out.ff⟩, K2.out⟩
  · have hb : (k0 != 0) = true := by simpa using hk
    go_wp2
    go_ret
    exact ⟨rfl, G, F', ⟨HCM.out, HSW.out, HAP.out, HH.out.iv, HH.out.op, HH.out.pp, HH.out.pn, by have := HH.out.nn; omega, HH.out.tt, HH.out.tk, HH.out.nb, HH.out.yl, HH.out.lr, HH.out.bb, HH.out.rr⟩, HCH.out, .inl ⟨hk, rfl⟩⟩
end Go.Proofs.YtnccklbnncaeoaaGreat
/- cache: what is written back, move by move; plain mathematics. -/
namespace Go.Proofs.YtnccklbnncaeoaaGreat
open Go.RowKit
set_option linter.unusedVariables false
set_option linter.unusedSimpArgs false
/-- A cache, its file, the fates. -/
structure Xt where
  G : Gc
  q : Gf
  ft : List (Int × Int)
/-- What a page's writing leaves. -/
structure WrG (G : Gc) (b : Nat) (G' : Gc) : Prop where
  kl : G'.kl = G.kl
  pm : G'.pm = G.pm
  B : G'.B = G.B
  K : G'.K = G.K
  W : G'.W = G.W
  R : G'.R = G.R
  y : G'.y = G.y
  t : G'.t = G.t
  n1 : G'.n1 = G.n1
  n2 : G'.n2 = G.n2
  n3 : G'.n3 = G.n3 + 1
  n4 : G'.n4 = G.n4
  L : G'.L.Perm G.L
  c : ∀ a, G'.c a = if a = b then { G.c b with di := false, pe := true } else G.c a
  P : G'.P = if (G.c b).pe then G.P else G.P ++ [b]
def fk (ft : List (Int × Int)) : Int := ferr (ft.headD (0, 0)).1
/-- What a flush, or a writing, makes of the file. -/
def qfl (q : Gf) (ft : List (Int × Int)) : Gf := gfl q (lft (ft.headD (0, 0)).1 (ft.headD (0, 0)).2 q.ps.length)
def qwr (q : Gf) (ft : List (Int × Int)) (p : Nat) (zs : List Int) : Gf := gwr p zs q ((pcs p zs.length).take (lft (ft.headD (0, 0)).1 (ft.headD (0, 0)).2 zs.length))
/-- A step of the store that goes well. -/
def Mve (bits : Nat) (X Y : Xt) : Prop :=
  (∃ G' : Gc, fk X.ft = 0 ∧ FlG 0 X.G G' ∧ Y = ⟨G', qfl X.q X.ft, X.ft.tail⟩) ∨
  (∃ G' : Gc, ∃ b i : Nat, ∃ zs : List Int, fk X.ft = 0 ∧ b ∈ X.G.L ∧ (X.G.c b).di = true ∧ X.G.W b = [] ∧ X.G.y b = some (i, zs) ∧ WrG X.G b G' ∧ Y = ⟨G', qwr X.q X.ft ((X.G.c b).n * 2 ^ bits) zs, X.ft.tail⟩)
theorem Mve.fl {bits : Nat} {X : Xt} {G' : Gc} (h1 : fk X.ft = 0) (h2 : FlG 0 X.G G') : Mve bits X ⟨G', qfl X.q X.ft, X.ft.tail⟩ := .inl ⟨G', h1, h2, rfl⟩
theorem Mve.wr {bits : Nat} {X : Xt} {G' : Gc} {b i : Nat} {zs : List Int} (h1 : fk X.ft = 0) (h2 : b ∈ X.G.L) (h3 : (X.G.c b).di = true) (h4 : X.G.W b = []) (h5 : X.G.y b = some (i, zs)) (h6 : WrG X.G b G') : Mve bits X ⟨G', qwr X.q X.ft ((X.G.c b).n * 2 ^ bits) zs, X.ft.tail⟩ := .inr ⟨G', b, i, zs, h1, h2, h3, h4, h5, h6, rfl⟩
theorem Mve.el {bits : Nat} {X : Xt} {motive : ∀ Y : Xt, Mve bits X Y → Prop}
    (fl : ∀ {G' : Gc} (h1 : fk X.ft = 0) (h2 : FlG 0 X.G G'), motive ⟨G', qfl X.q X.ft, X.ft.tail⟩ (.fl h1 h2))
    (wr : ∀ {G' : Gc} {b i : Nat} {zs : List Int} (h1 : fk X.ft = 0) (h2 : b ∈ X.G.L) (h3 : (X.G.c b).di = true) (h4 : X.G.W b = []) (h5 : X.G.y b = some (i, zs)) (h6 : WrG X.G b G'), motive ⟨G', qwr X.q X.ft ((X.G.c b).n * 2 ^ bits) zs, X.ft.tail⟩ (.wr h1 h2 h3 h4 h5 h6))
    {Y : Xt} (h : Mve bits X Y) : motive Y h := by
  rcases h with ⟨G', h1, h2, rfl⟩ | ⟨G', b, i, zs, h1, h2, h3, h4, h5, h6, rfl⟩
  · exact fl h1 h2
  · exact wr h1 h2 h3 h4 h5 h6
/-- One that fails. -/
def Mvf (bits : Nat) (X : Xt) (z : Int) (Y : Xt) : Prop :=
  (fk X.ft ≠ 0 ∧ z = fk X.ft ∧ Y = ⟨X.G, qfl X.q X.ft, X.ft.tail⟩) ∨
  (∃ b i : Nat, ∃ zs : List Int, fk X.ft ≠ 0 ∧ b ∈ X.G.L ∧ (X.G.c b).di = true ∧ X.G.W b = [] ∧ X.G.y b = some (i, zs) ∧ z = fk X.ft ∧ Y = ⟨X.G, qwr X.q X.ft ((X.G.c b).n * 2 ^ bits) zs, X.ft.tail⟩)
theorem Mvf.fl {bits : Nat} {X : Xt} (h1 : fk X.ft ≠ 0) : Mvf bits X (fk X.ft) ⟨X.G, qfl X.q X.ft, X.ft.tail⟩ := .inl ⟨h1, rfl, rfl⟩
theorem Mvf.wr {bits : Nat} {X : Xt} {b i : Nat} {zs : List Int} (h1 : fk X.ft ≠ 0) (h2 : b ∈ X.G.L) (h3 : (X.G.c b).di = true) (h4 : X.G.W b = []) (h5 : X.G.y b = some (i, zs)) : Mvf bits X (fk X.ft) ⟨X.G, qwr X.q X.ft ((X.G.c b).n * 2 ^ bits) zs, X.ft.tail⟩ := .inr ⟨b, i, zs, h1, h2, h3, h4, h5, rfl, rfl⟩
def Rc (bits : Nat) : Nat → Xt → Xt → Prop
  | 0, X, Y => Y = X
  | n + 1, X, Y => ∃ Z, Rc bits n X Z ∧ Mve bits Z Y
theorem Rc.refl {bits : Nat} (X : Xt) : Rc bits 0 X X := rfl
theorem Rc.step {bits n : Nat} {X Y Z : Xt} (h : Rc bits n X Y) (m : Mve bits Y Z) : Rc bits (n + 1) X Z := ⟨Y, h, m⟩
theorem Rc.ind {bits : Nat} {motive : ∀ (n : Nat) (X Y : Xt), Rc bits n X Y → Prop} (refl : ∀ X : Xt, motive 0 X X (.refl X)) (step : ∀ {n : Nat} {X Y Z : Xt} (h : Rc bits n X Y) (m : Mve bits Y Z) (ih : motive n X Y h), motive (n + 1) X Z (.step h m)) {n : Nat} {X Y : Xt} (h : Rc bits n X Y) : motive n X Y h := by
  induction n generalizing Y with
  | zero =>
    have e : Y = X := h
    subst e
    exact refl Y
  | succ n ih =>
    obtain ⟨Z, h1, h2⟩ := h
    exact step h1 h2 (ih h1)
theorem Rc.trans {bits m n : Nat} {X Y Z : Xt} (h : Rc bits m X Y) (k : Rc bits n Y Z) : Rc bits (m + n) X Z := by
  induction k using Rc.ind with
  | refl => exact h
  | step _ hm ih => exact .step (ih h) hm
/-- How it ends. -/
def Out (bits k : Nat) (X : Xt) (z : Int) (Z : Xt) : Prop := (z = 0 ∧ Rc bits k X Z) ∨ (z ≠ 0 ∧ ∃ j Y, k = j + 1 ∧ Rc bits j X Y ∧ Mvf bits Y z Z)
theorem Out.refl (bits : Nat) (X : Xt) : Out bits 0 X 0 X := .inl ⟨rfl, .refl X⟩
theorem Rc.out {bits j k : Nat} {X Y Z : Xt} {z : Int} (h : Rc bits j X Y) (o : Out bits k Y z Z) : Out bits (j + k) X z Z := by
  rcases o with ⟨h1, h2⟩ | ⟨h1, i, V, rfl, h2, h3⟩
  · exact .inl ⟨h1, h.trans h2⟩
  · exact .inr ⟨h1, j + i, V, by omega, h.trans h2, h3⟩
/-- How many are dirty. -/
def dn (G : Gc) : Nat := G.L.countP (fun b => (G.c b).di)
/-- What no step changes. -/
structure Stb (G G' : Gc) : Prop where
  kl : G'.kl = G.kl
  pm : G'.pm = G.pm
  B : G'.B = G.B
  y : G'.y = G.y
  t : G'.t = G.t
  n1 : G'.n1 = G.n1
  n2 : G'.n2 = G.n2
  L : G'.L.Perm G.L
  c : ∀ b, (G'.c b).n = (G.c b).n ∧ (G'.c b).bv = (G.c b).bv ∧ (G'.c b).tk = (G.c b).tk ∧ (G'.c b).wm = (G.c b).wm ∧ (G'.c b).rm = (G.c b).rm
  d : ∀ b, (G'.c b).di = true → (G.c b).di = true
  K : ∀ b, b ∈ G'.K → b ∈ G.K
  W : ∀ b a, a ∈ G'.W b → a ∈ G.W b
theorem Stb.refl (G : Gc) : Stb G G := ⟨rfl, rfl, rfl, rfl, rfl, rfl, rfl, List.Perm.refl _, fun _ => ⟨rfl, rfl, rfl, rfl, rfl⟩, fun _ h => h, fun _ h => h, fun _ _ h => h⟩
theorem Stb.trans {G H I : Gc} (h : Stb G H) (k : Stb H I) : Stb G I :=
  ⟨k.kl.trans h.kl, k.pm.trans h.pm, k.B.trans h.B, k.y.trans h.y, k.t.trans h.t, k.n1.trans h.n1, k.n2.trans h.n2, k.L.trans h.L,
   fun b => ⟨(k.c b).1.trans (h.c b).1, (k.c b).2.1.trans (h.c b).2.1, (k.c b).2.2.1.trans (h.c b).2.2.1, (k.c b).2.2.2.1.trans (h.c b).2.2.2.1, (k.c b).2.2.2.2.trans (h.c b).2.2.2.2⟩,
   fun b hb => h.d b (k.d b hb), fun b hb => h.K b (k.K b hb), fun b a ha => h.W b a (k.W b a ha)⟩
theorem Les.stb {G G' : Gc} (h : Les G G') : Stb G G' :=
  ⟨h.kl, h.pm, h.B, h.y, h.t, h.n1, h.n2, by rw [h.L], fun b => ⟨(h.c b).1, (h.c b).2.1, (h.c b).2.2.2.1, (h.c b).2.2.2.2.1, (h.c b).2.2.2.2.2⟩, fun b hb => by rw [← (h.c b).2.2.1]; exact hb, h.K, h.W⟩
theorem WrG.di {G G' : Gc} {b : Nat} (h : WrG G b G') (a : Nat) : (G'.c a).di = if a = b then false else (G.c a).di := by
  rw [h.c a]; split <;> rfl
theorem WrG.pe {G G' : Gc} {b : Nat} (h : WrG G b G') (a : Nat) : (G'.c a).pe = if a = b then true else (G.c a).pe := by
  rw [h.c a]; split <;> rfl
theorem WrG.stb {G G' : Gc} {b : Nat} (h : WrG G b G') : Stb G G' :=
  ⟨h.kl, h.pm, h.B, h.y, h.t, h.n1, h.n2, h.L, fun a => by
    rw [h.c a]
    split
    · rename_i e; rw [e]; exact ⟨rfl, rfl, rfl, rfl, rfl⟩
    · exact ⟨rfl, rfl, rfl, rfl, rfl⟩, fun a ha => by
    rw [h.di a] at ha
    split at ha
    · cases ha
    · exact ha, fun a ha => by rw [← h.K]; exact ha, fun a x hx => by rw [← h.W]; exact hx⟩
theorem FlG.les {e : Int} {G G' : Gc} (h : FlG e G G') : Les G G' := by
  rcases h with ⟨_, rfl⟩ | ⟨_, h, _⟩
  · exact Les.refl _
  · exact h
theorem Mve.stb {bits : Nat} {X Y : Xt} (h : Mve bits X Y) : Stb X.G Y.G := by
  cases h using Mve.el with
  | fl _ h => exact h.les.stb
  | wr _ _ _ _ _ h => exact h.stb
theorem Rc.stb {bits n : Nat} {X Y : Xt} (h : Rc bits n X Y) : Stb X.G Y.G := by
  induction h using Rc.ind with
  | refl => exact Stb.refl _
  | step _ hm ih => exact ih.trans hm.stb
theorem Mvf.same {bits : Nat} {X Y : Xt} {z : Int} (h : Mvf bits X z Y) : Y.G = X.G := by
  rcases h with ⟨_, _, rfl⟩ | ⟨_, _, _, _, _, _, _, _, _, rfl⟩ <;> rfl
theorem Out.stb {bits k : Nat} {X Z : Xt} {z : Int} (h : Out bits k X z Z) : Stb X.G Z.G := by
  rcases h with ⟨_, h⟩ | ⟨_, j, Y, _, h, hf⟩
  · exact h.stb
  · rw [hf.same]; exact h.stb
theorem dn_congr {G G' : Gc} (hL : G'.L.Perm G.L) (hc : ∀ b, (G'.c b).di = (G.c b).di) : dn G' = dn G := by
  unfold dn
  rw [hL.countP_eq]
  exact List.countP_congr fun b _ => by rw [hc]
theorem FlG.dn {e : Int} {G G' : Gc} (h : FlG e G G') : dn G' = dn G := dn_congr (by rw [h.les.L]) (fun b => (h.les.c b).2.2.1)
theorem WrG.dn {G G' : Gc} {b : Nat} (h : WrG G b G') (hb : b ∈ G.L) (hn : G.L.Nodup) (hd : (G.c b).di = true) : dn G' + 1 = dn G := by
  unfold YtnccklbnncaeoaaGreat.dn
  rw [h.L.countP_eq]
  obtain ⟨l, r, hlr⟩ := List.append_of_mem hb
  rw [hlr] at hn ⊢
  simp only [List.countP_append, List.countP_cons, h.di b, hd, if_true, Bool.false_eq_true, if_false]
  have hl : ∀ a ∈ l, a ≠ b := fun a ha e => by
    subst e
    rw [List.nodup_append] at hn
    exact hn.2.2 a ha a (by simp) rfl
  have hr : ∀ a ∈ r, a ≠ b := fun a ha e => by
    subst e
    rw [List.nodup_append, List.nodup_cons] at hn
    exact hn.2.1.1 ha
  have e1 : List.countP (fun a => (G'.c a).di) l = List.countP (fun a => (G.c a).di) l := List.countP_congr fun a ha => by rw [h.di a, if_neg (hl a ha)]
  have e2 : List.countP (fun a => (G'.c a).di) r = List.countP (fun a => (G.c a).di) r := List.countP_congr fun a ha => by rw [h.di a, if_neg (hr a ha)]
  rw [e1, e2]
  omega
/-- How many are dirty, and those that wait counted twice. -/
def dw (G : Gc) : Nat := G.L.countP (fun b => (G.c b).di && decide (G.W b ≠ []))
def mu (G : Gc) : Nat := dn G + dw G
theorem mu_le (G : Gc) : mu G ≤ 2 * dn G := by
  unfold mu dw dn
  have : G.L.countP (fun b => (G.c b).di && decide (G.W b ≠ [])) ≤ G.L.countP (fun b => (G.c b).di) := List.countP_mono_left (fun b _ h => (Bool.and_eq_true _ _ ▸ h : _ ∧ _).1)
  omega
theorem nil_of_sub {l m : List Nat} (h : ∀ a, a ∈ l → a ∈ m) (hm : m = []) : l = [] :=
  List.eq_nil_iff_forall_not_mem.2 fun a ha => by have := h a ha; rw [hm] at this; cases this
theorem FlG.dw {e : Int} {G G' : Gc} (h : FlG e G G') : dw G' ≤ dw G := by
  unfold YtnccklbnncaeoaaGreat.dw
  have hl := h.les
  rw [hl.L]
  refine List.countP_mono_left fun b _ hb => ?_
  simp only [Bool.and_eq_true, decide_eq_true_eq] at hb ⊢
  exact ⟨by rw [← (hl.c b).2.2.1]; exact hb.1, fun e => hb.2 (nil_of_sub (hl.W b) e)⟩
theorem FlG.mu {e : Int} {G G' : Gc} (h : FlG e G G') : mu G' ≤ mu G := by
  unfold YtnccklbnncaeoaaGreat.mu
  rw [h.dn]
  have := h.dw
  omega
/-- A flush for one that waits. -/
theorem FlG.mu_lt {e : Int} {G G' : Gc} (h : FlG e G G') {b : Nat} (hb : b ∈ G.L) (hd : (G.c b).di = true) (hw : G.W b ≠ []) (hn : G'.W b = []) : YtnccklbnncaeoaaGreat.mu G' + 1 ≤ YtnccklbnncaeoaaGreat.mu G := by
  unfold YtnccklbnncaeoaaGreat.mu
  rw [h.dn]
  have hl := h.les
  have mono : ∀ l : List Nat, l.countP (fun b => (G'.c b).di && decide (G'.W b ≠ [])) ≤ l.countP (fun b => (G.c b).di && decide (G.W b ≠ [])) := fun l => by
    refine List.countP_mono_left fun b _ hb => ?_
    simp only [Bool.and_eq_true, decide_eq_true_eq] at hb ⊢
    exact ⟨by rw [← (hl.c b).2.2.1]; exact hb.1, fun e => hb.2 (nil_of_sub (hl.W b) e)⟩
  have : YtnccklbnncaeoaaGreat.dw G' + 1 ≤ YtnccklbnncaeoaaGreat.dw G := by
    unfold YtnccklbnncaeoaaGreat.dw
    rw [hl.L]
    obtain ⟨l, r, hlr⟩ := List.append_of_mem hb
    rw [hlr, List.countP_append, List.countP_append, List.countP_cons, List.countP_cons]
    have h1 := mono l
    have h2 := mono r
    have e1 : ((G'.c b).di && decide (G'.W b ≠ [])) = false := by rw [hn]; simp
    have e2 : ((G.c b).di && decide (G.W b ≠ [])) = true := by rw [hd]; simp [hw]
    rw [e1, e2]
    simp only [Bool.false_eq_true, if_false, if_true]
    omega
  omega
theorem WrG.mu {G G' : Gc} {b : Nat} (h : WrG G b G') (hb : b ∈ G.L) (hn : G.L.Nodup) (hd : (G.c b).di = true) : YtnccklbnncaeoaaGreat.mu G' + 1 ≤ YtnccklbnncaeoaaGreat.mu G := by
  have h1 := h.dn hb hn hd
  have h2 : YtnccklbnncaeoaaGreat.dw G' ≤ YtnccklbnncaeoaaGreat.dw G := by
    unfold YtnccklbnncaeoaaGreat.dw
    rw [h.L.countP_eq]
    refine List.countP_mono_left fun a _ ha => ?_
    simp only [Bool.and_eq_true, decide_eq_true_eq] at ha ⊢
    exact ⟨h.stb.d a ha.1, by rw [← h.W]; exact ha.2⟩
  unfold YtnccklbnncaeoaaGreat.mu
  omega
/-- How many steps were written, how many flushed. -/
theorem Rc.cnt {bits n : Nat} {X Y : Xt} (h : Rc bits n X Y) : Y.G.n3 + Y.G.n4 = X.G.n3 + X.G.n4 + n := by
  induction h using Rc.ind with
  | refl => rfl
  | step _ hm ih =>
    cases hm using Mve.el with
    | fl _ k =>
      rcases k with ⟨h0, _⟩ | ⟨_, hl, _, h4, _⟩
      · exact absurd rfl h0
      · have := hl.n3
        dsimp only
        omega
    | wr _ _ _ _ _ k =>
      have h3 := k.n3
      have h4 := k.n4
      dsimp only
      omega
theorem Rc.dn {bits n : Nat} {X Y : Xt} (h : Rc bits n X Y) (hn : X.G.L.Nodup) : Y.G.n3 + YtnccklbnncaeoaaGreat.dn Y.G = X.G.n3 + YtnccklbnncaeoaaGreat.dn X.G := by
  induction h using Rc.ind with
  | refl => rfl
  | step hr hm ih =>
    have hn2 := hr.stb.L.nodup_iff.2 hn
    have ih := ih hn
    cases hm using Mve.el with
    | fl _ k =>
      have h2 := k.dn
      have := k.les.n3
      dsimp only
      omega
    | wr _ hb hd _ _ k =>
      have h3 := k.n3
      have h2 := k.dn hb hn2 hd
      dsimp only
      omega
theorem Rc.ftn {bits n : Nat} {X Y : Xt} (h : Rc bits n X Y) (hf : X.ft = []) : Y.ft = [] := by
  induction h using Rc.ind with
  | refl => exact hf
  | step hr hm ih =>
    cases hm using Mve.el with
    | fl _ k => dsimp only; rw [ih hf]; rfl
    | wr _ hb hd _ _ k => dsimp only; rw [ih hf]; rfl
/-- Without fates nothing fails. -/
theorem Out.ftn {bits n : Nat} {X Y : Xt} {z : Int} (h : Out bits n X z Y) (hf : X.ft = []) : z = 0 ∧ Rc bits n X Y ∧ Y.ft = [] := by
  rcases h with ⟨h1, h2⟩ | ⟨h1, j, V, rfl, h2, h3⟩
  · exact ⟨h1, h2, h2.ftn hf⟩
  · have hv := h2.ftn hf
    rcases h3 with ⟨hk, _⟩ | ⟨_, _, _, hk, _⟩
    · exact absurd (by rw [hv]; rfl) hk
    · exact absurd (by rw [hv]; rfl) hk
/-- A height that falls with each step. -/
def Rok (rk : Nat → Nat) (G : Gc) : Prop := ∀ a b, b ∈ G.W a → rk b < rk a
theorem Rok.stb {rk : Nat → Nat} {G G' : Gc} (h : Rok rk G) (s : Stb G G') : Rok rk G' := fun a b hb => h a b (s.W a b hb)
end Go.Proofs.YtnccklbnncaeoaaGreat
/- cache: place; a page is written: what is known behind it. -/
namespace Go.Proofs.YtnccklbnncaeoaaGreat
open Go.RowKit
set_option linter.unusedVariables false
set_option linter.unusedSimpArgs false
theorem Cv.wrote {S : ByteArray} {g bits room Q N : Nat} {G G' : Gc} {q q' : Gf} {ft ft' : List (Int × Int)} {F F' : Nat → Prop} {w w' : World} {b : Nat} (h : Cv S g bits room Q N G q ft F w) (hb : b ∈ G.L) (hg : WrG G b G') (hx : Hpd G'.c G'.L) (hc : Cm S g bits room Q G' w') (hs : Sw S g (N + 1) F' q' ft' w') (ha : ∀ i, Fc Q G' i → ¬ F' i) : Cv S g bits room Q (N + 1) G' q' ft' F' w' := by
  have hbB := h.cm.lb b hb
  have mP : ∀ a, a ∈ G'.P → a ∈ G.P ∨ a = b := fun a ha => by
    rw [hg.P] at ha
    split at ha
    · exact .inl ha
    · rcases List.mem_append.1 ha with h1 | h1
      · exact .inl h1
      · exact .inr (List.mem_singleton.1 h1)
  refine ⟨hc, hs, ha, ⟨fun x a hxa => ?_, fun x a => ?_, by rw [hg.W]; exact h.iv.rk, fun a ha => by rw [hg.B]; rw [hg.K] at ha; exact h.iv.kb a ha, fun a => ?_, fun a ha => by rw [hg.K]; exact h.iv.ll a (hg.L.mem_iff.1 ha), fun a ha hp => ?_, fun a ha hd => ?_, hx⟩, fun x a hxa => ?_, fun a ha => ?_, ?_, ?_, ?_, fun a ha => ?_, fun a ha => ?_, fun a ha i zs e => ?_, ?_, h.bb, h.rr⟩
  · rw [hg.W] at hxa; rw [hg.K]; exact h.iv.wk x a hxa
  · rw [hg.W, hg.R]; exact h.iv.wr x a
  · rw [hg.L.mem_iff, hg.B, hg.y]; exact h.iv.lk a
  · rw [hg.B] at ha
    rw [hg.pe a] at hp
    rw [hg.K, hg.P]
    split at hp
    · rename_i e
      subst e
      refine ⟨h.iv.ll a hb, ?_⟩
      split
      · rename_i e; exact (h.iv.pk a ha e).2
      · simp
    · obtain ⟨h1, h2⟩ := h.iv.pk a ha hp
      refine ⟨h1, ?_⟩
      split
      · exact h2
      · exact List.mem_append_left _ h2
  · rw [hg.B] at ha
    rw [hg.di a] at hd
    split at hd
    · cases hd
    · exact hg.L.mem_iff.2 (h.iv.dk a ha hd)
  · rw [hg.W] at hxa
    rw [hg.di a, hg.pe a]
    by_cases e : a = b
    · rw [if_pos e, if_pos e]; exact .inr rfl
    · rw [if_neg e, if_neg e]; exact h.op x a hxa
  · rw [hg.pe a]
    by_cases e : a = b
    · rw [if_pos e]
    · rw [if_neg e]
      exact h.pp a ((mP a ha).resolve_right e)
  · rw [hg.P]
    split
    · exact h.pn
    · rename_i hp
      rw [List.nodup_append]
      refine ⟨h.pn, by simp, fun x hx y hy e => ?_⟩
      rw [List.mem_singleton.1 hy] at e
      subst e
      exact hp (h.pp x hx)
  · rw [hg.n3, hg.n4]; have := h.nn; omega
  · rw [hg.n1, hg.n2, hg.t]; exact h.tt
  · rw [hg.B] at ha
    rw [(hg.stb.c a).2.2.1, hg.t]
    exact h.tk a ha
  · rw [hg.B] at ha
    rw [(hg.stb.c a).1]
    exact h.nb a ha
  · rw [hg.B] at ha
    rw [hg.y] at e
    exact h.yl a ha i zs e
  · rw [hg.L.length_eq]; exact h.lr
theorem shl_nat (n bits : Nat) : (n : Int) <<< bits = ((n * 2 ^ bits : Nat) : Int) := by
  rw [Int.shiftLeft_eq]
  simp
set_option maxHeartbeats 2000000 in
theorem place_any (w : World) (Q bits n : Nat) (hb : bits ≤ 16) (hn : n * 2 ^ bits ≤ 268435456) (h : w.cell? ⟨Q, 2, none⟩ = some (.int .i64 bits)) :
    Calls Tryz.prog 116 #[ptr Q, .int .i64 n] w fun e w' => e = .returned (.int .i64 ((n * 2 ^ bits : Nat) : Int)) ∧ w' = w := by
  have e := shl_nat n bits
  have e2 : IntKind.i64.wrap (((n * 2 ^ bits : Nat)) : Int) = ((n * 2 ^ bits : Nat) : Int) := by rw [IntKind.wrap_i64]; omega
  obtain ⟨m, hm⟩ : ∃ m, n * 2 ^ bits = m := ⟨_, rfl⟩
  rw [hm] at e e2 ⊢
  have e3 : wrap64 ((n : Int) * 2 ^ bits) = (m : Int) := by
    have : ((n : Int) * 2 ^ bits) = ((n * 2 ^ bits : Nat) : Int) := by simp
    rw [this, hm]
    unfold wrap64
    omega
  unfold ptr
  go_enter Tryz.func116, Tryz.ntmps116
  go_wp2
  go_ret
  refine ⟨?_, rfl⟩
  show Ending.returned (.int .i64 (wrap64 ((n : Int) * 2 ^ bits))) = _
  rw [e3]
end Go.Proofs.YtnccklbnncaeoaaGreat
/- cache: eachDirty, over whatever writeBack does. -/
namespace Go.Proofs.YtnccklbnncaeoaaGreat
open Go.RowKit
set_option linter.unusedVariables false
set_option linter.unusedSimpArgs false
/-- What writing these pages back leaves. -/
def BkP (S : ByteArray) (g bits room Q N : Nat) (rk : Nat → Nat) (n : Nat) (G : Gc) (q : Gf) (ft : List (Int × Int)) (F : Nat → Prop) (w : World) (l : List Nat) (e : Ending) (w' : World) : Prop :=
  ∃ z k G' q' ft' F', e = .returned (.int .i64 z) ∧ Cv S g bits room Q (N + k) G' q' ft' F' w' ∧ Cch Q G G' F F' w w' ∧ Out bits k ⟨G, q, ft⟩ z ⟨G', q', ft'⟩ ∧ k + mu G' ≤ mu G + (if z = 0 then 0 else 2) ∧ (z = 0 → ∀ b ∈ l, (G'.c b).di = false) ∧ ∀ a, n ≤ rk a → (G'.c a).di = (G.c a).di
/-- What writeBack does with pages of a height below n. -/
def WbIH (S : ByteArray) (g bits room Q : Nat) (rk : Nat → Nat) (n : Nat) : Prop :=
  ∀ N G q ft F w b, Cv S g bits room Q N G q ft F w → Rok rk G → rk b < n → b ∈ G.B → (G.c b).di = true → N + mu G + 2 ≤ 9000 → Calls Tryz.prog 72 #[ptr Q, ptr b] w (BkP S g bits room Q N rk n G q ft F w [b])
/-- What eachDirty's loop holds when i are done. -/
structure Ed (S : ByteArray) (g bits room Q N : Nat) (rk : Nat → Nat) (n : Nat) (G : Gc) (q : Gf) (ft : List (Int × Int)) (F : Nat → Prop) (w : World) (l : List Nat) (i k : Nat) (G' : Gc) (q' : Gf) (ft' : List (Int × Int)) (F' : Nat → Prop) (w' : World) : Prop where
  cv : Cv S g bits room Q (N + k) G' q' ft' F' w'
  ch : Cch Q G G' F F' w w'
  rc : Rc bits k ⟨G, q, ft⟩ ⟨G', q', ft'⟩
  bd : k + mu G' ≤ mu G
  dd : ∀ j, j < i → j < l.length → (G'.c (l.getD j 0)).di = false
  hi : ∀ a, n ≤ rk a → (G'.c a).di = (G.c a).di
set_option maxHeartbeats 4000000 in
set_option maxRecDepth 100000 in
theorem each_any {S : ByteArray} {g bits room Q N : Nat} {G : Gc} {q : Gf} {ft : List (Int × Int)} {F : Nat → Prop} {w : World} (h : Cv S g bits room Q N G q ft F w) (rk : Nat → Nat) (n : Nat) (hrk : Rok rk G) (IH : WbIH S g bits room Q rk n) (l : List Nat) (v : Value) (base : Nat) (hv : w.ownsRow base 138 1 v l.length (l.map ptr)) (hvr : ∀ r, v.ownBlock = some r → ¬ Fc Q G r ∧ ¬ F r) (hl : ∀ b ∈ l, b ∈ G.B ∧ rk b < n) (hN : N + mu G + 2 ≤ 9000) :
    Calls Tryz.prog 71 #[.func (.func 72) #[ptr Q] #[], v] w (BkP S g bits room Q N rk n G q ft F w l) := by
  have hv0 : w.ownsRow 0 138 1 v l.length (l.map ptr) := ⟨hv.1, by
    rcases hv.2 with e | ⟨g', cap, cur, e, h1, h2⟩
    · exact .inl e
    · exact .inr ⟨g', cap, cur, e, Nat.zero_le _, h2⟩⟩
  obtain ⟨ao, cap, hve, hlm, _⟩ := prow hv0
  have HV := hid hv0
  have HVR := hid hvr
  have HE := hid hve
  have HH := hid h
  have HRK := hid hrk
  have HIH := hid IH
  have HL := hid hl
  clear h hrk IH hv hvr hv0 hl
  unfold maxLen at hlm
  rw [hve]
  clear hve
  unfold ptr
  go_enter Tryz.func71, Tryz.ntmps71
  go_wp2
  go_loopw [10, 6, 7] (fun vi _ _ wr => ∃ i : Nat, vi = .int .i64 i ∧ i ≤ l.length ∧ ∃ k G' q' ft' F', Ed S g bits room Q N rk n G q ft F w l i k G' q' ft' F' wr) (fun vi _ _ _ => l.length - (intOf vi).toNat)
  case atStart => exact ⟨0, rfl, Nat.zero_le _, 0, G, q, ft, F, HH.out, Cch.refl _ _ _ _, .refl _, Nat.le_of_eq (by omega), fun j hj => by omega, fun _ _ => rfl⟩
  case round =>
    obtain ⟨i, rfl, hi, k, G', q', ft', F', hE⟩ := hrel
    by_cases hlt : i < l.length
    · have hlt' : (i : Int) < (l.length : Int) := by omega
      obtain ⟨b, hbe⟩ : ∃ b, l.getD i 0 = b := ⟨_, rfl⟩
      have hbl : b ∈ l := hbe ▸ gn_mem hlt
      have hst := hE.rc.stb
      have hbB : b ∈ G'.B := by
        have := hst.B
        change G'.B = G.B at this
        rw [this]; exact (HL.out b hbl).1
      have ho2 := own_kp HV.out hE.ch.kp (fun r e x => x.elim (HVR.out r e).1 (HVR.out r e).2)
      obtain ⟨ao2, cap2, hv2, _, hrow⟩ := prow ho2
      rw [HE.out] at hv2
      obtain ⟨e1, e2⟩ : ao2 = ao ∧ cap2 = cap := by simp only [Value.slice.injEq] at hv2; exact ⟨hv2.1.symm, hv2.2.2.symm⟩
      subst e1 e2
      obtain ⟨r, rfl, hri⟩ := hrow i hlt
      rw [hbe] at hri
      obtain ⟨s, hs⟩ := (hE.cv.cm.pg b hbB).wt
      have y2 := St.cell hs 2
      simp [Pc.cs] at y2
      unfold ptr at hri
      have HE2 := hid hE
      have HBE := hid hbe
      cases hd : (G'.c b).di with
      | false =>
        rw [hd] at y2
        clear hE hst ho2 hv2 hrow hs
        go_wp2
        refine ⟨⟨i + 1, by simp, by omega, k, G', q', ft', F', HE2.out.cv, HE2.out.ch, HE2.out.rc, HE2.out.bd, fun j hj hjl => ?_, HE2.out.hi⟩, by simp [intOf]; omega⟩
        by_cases e : j = i
        · subst e; rw [HBE.out]; exact hd
        · exact HE2.out.dd j (by omega) hjl
      | true =>
        rw [hd] at y2
        have HC := hid (HIH.out (N + k) G' q' ft' F' wr b hE.cv (HRK.out.stb hst) (HL.out b hbl).2 hbB hd (by have := hE.bd; omega))
        clear hE hst ho2 hv2 hrow hs
        unfold ptr at HC
        go_wp2_with (first | (go_at_call 72; refine HC.out.mono ?_; rintro _ w2 ⟨z, k2, G2, q2, ft2, F2, rfl, H1, H2, H3, H4, H5, H6⟩))
        · rename_i hz
          have hz0 : z ≠ 0 := by simpa using hz
          go_ret
          refine ⟨z, k + k2, G2, q2, ft2, F2, rfl, by rw [← Nat.add_assoc]; exact H1, HE2.out.ch.trans H2, HE2.out.rc.out H3, ?_, fun e => absurd e hz0, fun a ha => (H6 a ha).trans (HE2.out.hi a ha)⟩
          have := HE2.out.bd
          omega
        · rename_i hz
          have hz0 : z = 0 := by simpa using hz
          subst hz0
          rcases H3 with ⟨_, hrc⟩ | ⟨hne, _⟩
          · have hb5 := HE2.out.bd
            simp only [if_true] at H4
            refine ⟨⟨i + 1, by simp, by omega, k + k2, G2, q2, ft2, F2, by rw [← Nat.add_assoc]; exact H1, HE2.out.ch.trans H2, HE2.out.rc.trans hrc, by omega, fun j hj hjl => ?_, fun a ha => (H6 a ha).trans (HE2.out.hi a ha)⟩, by simp [intOf]; omega⟩
            by_cases e : j = i
            · subst e; rw [HBE.out]; exact H5 rfl b (by simp)
            · cases hx : (G2.c (l.getD j 0)).di with
              | false => rfl
              | true =>
                have h7 := hrc.stb.d _ hx
                change (G'.c (l.getD j 0)).di = true at h7
                rw [HE2.out.dd j (by omega) hjl] at h7
                cases h7
          · exact absurd rfl hne
    · obtain rfl : i = l.length := by omega
      go_wp2
      go_ret
      refine ⟨0, k, G', q', ft', F', rfl, hE.cv, hE.ch, .inl ⟨rfl, hE.rc⟩, by have := hE.bd; simp; omega, fun _ b hb => ?_, hE.hi⟩
      obtain ⟨j, hj, e⟩ := gn_of hb
      have := hE.dd j hj hj
      rw [e] at this
      exact this
end Go.Proofs.YtnccklbnncaeoaaGreat
/- cache: maps.Values and slices.Values of pages, as iterators. -/
namespace Go.Proofs.YtnccklbnncaeoaaGreat
open Go.RowKit Go.Shelf
attribute [local go_sem] Oper.semAt_some
set_option linter.unusedVariables false
set_option linter.unusedSimpArgs false
def KR (O : Nat → Prop) (A B : World) : Prop := ∀ i, O i → B.heap[i]? = A.heap[i]?
theorem kr_lt {O : Nat → Prop} {A B : World} (h : KR O A B) {i : Nat} (hi : O i) (hl : i < A.heap.size) : i < B.heap.size := by
  have h2 : A.heap[i]? = some A.heap[i] := Array.getElem?_eq_getElem hl
  rw [← h i hi] at h2
  exact (Array.getElem?_eq_some_iff.1 h2).1
set_option maxRecDepth 100000 in
set_option maxHeartbeats 4000000 in
theorem mval_seq (n : Nat) (hn : 1 ≤ n) (bt m : Nat) (c : Nat → Pc) (L : List Nat) (w : World) (hm : Mn c w m L) (s1 : St 106 w bt #[.map (some m)]) :
    SeqW Fence.wide n Tryz.prog 148 #[] #[.pointer (some ⟨bt, 0, none⟩)] (fun b : Nat => #[ptr b]) (fun ys X => ys.Perm L ∧ KR (fun i => i = bt ∨ i = m) w X) (fun _ _ => True) (fun pre => pre.Nodup ∧ ∀ b ∈ pre, b ∈ L) (fun i => i = bt ∨ i = m) w := by
  intro l J Jx W hW hA hAx hY h0
  obtain ⟨es, q, hmp, hes⟩ := hm
  have T1 := hid (s1.below hW s1.lt)
  have M1 : Hid (Mp (Value.int .i64) W m es q) := hmp.of_block (hW.block m hmp.lt)
  have HES := hid hes
  have LB : Hid (∀ i, (i = bt ∨ i = m) → i < W.heap.size) := by
    rintro i (rfl | rfl)
    · exact T1.out.lt
    · exact M1.out.lt
  have HB := hid (blk_map hes)
  have HBW : Hid (∀ i, (i = bt ∨ i = m) → W.heap[i]? = w.heap[i]?) := by
    rintro i (rfl | rfl)
    · exact hW.block i s1.lt
    · exact hW.block i hmp.lt
  clear s1 hW hmp hes
  have c0 : W.cell? ⟨bt, 0, none⟩ = some (.map (some m)) := T1.out.cell 0
  have HY := hid hY
  clear hY
  have hrg := run_range_mp (P := Tryz.prog) Tryz.und106 M1.out
  refine callsIn_of_wp Tryz.func148 rfl trivial ?_ rfl
  simp only [Tryz.ntmps148, List.size_toArray, List.length_cons, List.length_nil, Nat.reduceAdd, Nat.reduceSub, Array.replicate_succ, Array.replicate_zero, List.push_toArray, List.append_toArray, List.nil_append, List.cons_append]
  gi_wp2_with fail
  have K0 : Kp (fun _ => False) W (W.alloc (.mapIter (some m) q #[] q)) := (Kp.refl _ _).alloc _
  have H0 : Hid (Mi (W.alloc (.mapIter (some m) q #[] q)) W.heap.size m q es []) := mi_new W m q es
  have J0 := hid (hA [] _ W _ h0 (K0.mono (fun _ _ h => h.elim)))
  have R0 : Hid (KR (fun i => i = bt ∨ i = m) W (W.alloc (.mapIter (some m) q #[] q))) := fun i hi => K0.block i (LB.out i hi) (fun h => h)
  have hsz : (W.alloc (.mapIter (some m) q #[] q)).heap.size = W.heap.size + 1 := by simp
  clear hrg c0 K0 h0
  generalize hr : W.heap.size = r at H0 J0 hsz ⊢
  have HR : Hid (W.heap.size = r) := hr
  clear hr
  generalize hV : W.alloc (.mapIter (some m) q #[] q) = V at H0 J0 R0 hsz ⊢
  clear hV
  gi_loopw [4] (fun _ wr => ∃ (ds : List (Int × Value × Nat)) (O : Nat → Prop), Mi wr r m q es ds ∧ Hid (J (ds.map blk) O wr) ∧ Hid (∀ i, (i = bt ∨ i = m ∨ i = r) → O i) ∧ Hid (KR (fun i => i = bt ∨ i = m) W wr)) (fun _ wr => es.length - itn wr r)
  case atStart => exact ⟨[], _, H0.out, J0, fun i hi => by
      rcases hi with e | e | e
      · exact .inl (.inl e)
      · exact .inl (.inr e)
      · exact .inr (by omega), R0⟩
  case round =>
    clear H0 J0 R0 hsz
    obtain ⟨ds, O, hmi, HJ, HOS, HKR⟩ := hrel
    have hrm : r ≠ m := by have := LB.out m (.inr rfl); have := HR.out; omega
    have hm2 : Mp (Value.int .i64) wr m es q := M1.out.of_block (HKR.out m (.inr rfl))
    have hin := hmi.itn
    have hle := hmi.le
    rcases hmi.next (P := Tryz.prog) hm2 hrm 0 with ⟨hp, hrun⟩ | ⟨e, w2, he, hne, hrun, hmi2, hk2, hent⟩
    · have HP : Hid ((ds.map blk).Perm L) := by rw [← HB.out.1]; exact hp.map blk
      clear hp hm2 hmi
      gi_wp2_with fail
      go_end0
      exact ⟨⟨_, rfl⟩, .inl ⟨_, O, ⟨HP.out, fun i hi => (HKR.out i hi).trans (HBW.out i hi)⟩, HJ.out⟩⟩
    · obtain ⟨b, hbe⟩ : ∃ b, blk e = b := ⟨_, rfl⟩
      have hea := HB.out.2 e he
      rw [hbe] at hea
      have hbL : b ∈ L := by rw [← HB.out.1, ← hbe]; exact List.mem_map_of_mem he
      have hkO : Kp O wr w2 := hk2.mono (fun i _ e => HOS.out i (.inr (.inr e)))
      have J2 := hid (hA _ O wr w2 HJ.out hkO)
      have HSP : ((ds ++ [e]).map blk).Nodup ∧ ∀ x ∈ (ds ++ [e]).map blk, x ∈ L := by
        have hsub := hmi2.sub
        refine ⟨?_, fun x hx => ?_⟩
        · rw [List.map_append, List.map_singleton]
          have hnd : (ds.map blk).Nodup := by
            have h1 : (es.map blk).Nodup := by
              have := (Mn.nodup (c := c) (w := wr) (m := m) (L := L) ⟨es, q, hm2, HES.out⟩)
              rw [HB.out.1]; exact this
            have h2 : ∀ ds : List (Int × Value × Nat), ds.Nodup → (∀ d ∈ ds, d ∈ es) → (ds.map blk).Nodup := by
              intro ds
              induction ds with
              | nil => intro _ _; exact List.nodup_nil
              | cons d ds ih =>
                intro hn hs
                rw [List.nodup_cons] at hn
                rw [List.map_cons, List.nodup_cons]
                exact ⟨blk_new M1.out.2 HES.out (fun x hx => hs x (List.mem_cons_of_mem _ hx)) (hs d (by simp)) hn.1, ih hn.2 (fun x hx => hs x (List.mem_cons_of_mem _ hx))⟩
            exact h2 ds hmi.nd hmi.sub
          rw [List.nodup_append]
          refine ⟨hnd, by simp, fun x hx y hy e2 => ?_⟩
          rw [List.mem_singleton.1 hy] at e2
          subst e2
          exact blk_new M1.out.2 HES.out hmi.sub he hne hx
        · obtain ⟨d, hd, rfl⟩ := List.mem_map.1 hx
          rw [← HB.out.1]
          exact List.mem_map_of_mem (hsub d hd)
      rw [List.map_append, List.map_singleton, hbe] at HSP
      obtain ⟨fn, tmps, assign, body, hy, hR⟩ := HY.out _ _ b w2 J2.out HSP
      have HRR := hid hR
      have KR2 : Hid (KR (fun i => i = bt ∨ i = m) W w2) := fun i hi => (hk2.block i (kr_lt HKR.out hi (LB.out i hi)) (fun e => by
        have h1 := LB.out i hi
        have h2 := HR.out
        change i = r at e
        omega)).trans (HKR.out i hi)
      have HMI := hid hmi2
      have HIN : Hid (itn wr r = ds.length) := hin
      have hle2 := hmi2.le
      rw [List.length_append, List.length_singleton] at hle2
      have HBE := hid hbe
      rw [hea.2] at hrun hent
      unfold ptr at hrun hent hy
      clear hR hm2 hmi hmi2 hkO hk2 HSP hbe hin J2
      gi_wp2_with fail
      refine HRR.out.mono ?_
      rintro ee w3 (⟨rfl, hJ3, hk3⟩ | ⟨rfl, hJx3, hk3⟩)
      · have hJ4 := hJ3
        rw [← HBE.out, ← List.map_singleton (f := blk), ← List.map_append] at hJ4
        have HJ3 := hid hJ4
        have hmi3 : Mi w3 r m q es (ds ++ [e]) := HMI.out.kp hk3 (fun h => h (.inl (HOS.out r (.inr (.inr rfl)))))
        have KR3 : Hid (KR (fun i => i = bt ∨ i = m) W w3) := fun i hi => (hk3.block i (kr_lt KR2.out hi (LB.out i hi)) (fun x => x (Or.inl (HOS.out i (hi.elim .inl (fun e => .inr (.inl e))))))).trans (KR2.out i hi)
        have h4 := hmi3.itn
        rw [List.length_append, List.length_singleton] at h4
        have HM3 := hid hmi3
        clear hk3 hJ3 hJ4 hmi3
        gi_wp2
        exact ⟨⟨ds ++ [e], _, HM3.out, HJ3, fun i hi => Or.inl (HOS.out i hi), KR3⟩, by rw [HIN.out, h4]; omega⟩
      · gi_wp2
        refine bodyPost_ret (results_none rfl _ _ _) rfl ?_
        exact ⟨⟨_, rfl⟩, .inr ⟨_, _, trivial, hJx3⟩⟩
/-- The blocks that a row's iterator reads. -/
def RO (bt : Nat) (v : Value) (i : Nat) : Prop := i = bt ∨ v.ownBlock = some i
theorem own_blk {w w' : World} {base n : Nat} {v : Value} {xs : List Value} {t : TypeId} {s : Nat} (h : w.ownsRow base t s v n xs) (hg : ∀ g, v.ownBlock = some g → w'.heap[g]? = w.heap[g]?) : w'.ownsRow base t s v n xs := by
  refine ⟨h.1, ?_⟩
  rcases h.2 with h0 | ⟨g, cap, cur, rfl, h1, h2, h3, h4, h5, h6⟩
  · exact .inl h0
  · exact .inr ⟨g, cap, cur, rfl, h1, by rw [hg g rfl]; exact h2, h3, h4, h5, h6⟩
theorem take_snoc {L : List Nat} {k : Nat} (h : k < L.length) : L.take k ++ [L.getD k 0] = L.take (k + 1) := by
  rw [List.take_add_one]
  simp [List.getD, List.getElem?_eq_getElem h]
set_option maxRecDepth 100000 in
set_option maxHeartbeats 4000000 in
theorem val_seq (n : Nat) (hn : 1 ≤ n) (bt : Nat) (v : Value) (L : List Nat) (w : World) (ho : w.ownsRow 0 138 1 v L.length (L.map ptr)) (s1 : St 108 w bt #[v]) :
    SeqW Fence.wide n Tryz.prog 120 #[] #[.pointer (some ⟨bt, 0, none⟩)] (fun b : Nat => #[ptr b]) (fun ys X => ys = L ∧ KR (RO bt v) w X) (fun _ _ => True) (fun pre => ∃ j, j ≤ L.length ∧ pre = L.take j) (RO bt v) w := by
  intro l J Jx W hW hA hAx hY h0
  have O0 : W.ownsRow 0 138 1 v L.length (L.map ptr) := own_blk ho (fun g e => by
    obtain ⟨cur, h1, _⟩ := ownb ho e
    exact hW.block g (Array.getElem?_eq_some_iff.1 h1).1)
  have T1 := hid (s1.below hW s1.lt)
  have LB : Hid (∀ i, RO bt v i → i < W.heap.size) := by
    rintro i (rfl | e)
    · exact T1.out.lt
    · obtain ⟨cur, h1, _⟩ := ownb O0 e
      exact (Array.getElem?_eq_some_iff.1 h1).1
  have HO := hid O0
  have HBW : Hid (∀ i, RO bt v i → W.heap[i]? = w.heap[i]?) := by
    rintro i (rfl | e)
    · exact hW.block i s1.lt
    · obtain ⟨cur, h1, _⟩ := ownb ho e
      exact hW.block i (Array.getElem?_eq_some_iff.1 h1).1
  obtain ⟨ao, cap, hv, hl, _⟩ := prow O0
  clear ho s1 hW O0
  obtain ⟨N, hN⟩ : ∃ N, N = L.length := ⟨_, rfl⟩
  have c0 : W.cell? ⟨bt, 0, none⟩ = some (.slice ao N cap) := by rw [hN, ← hv]; exact T1.out.cell 0
  have HY := hid hY
  have HV := hid hv
  rw [← hN] at hl HY
  have HN := hid hN
  unfold maxLen at hl
  clear hN hY hv
  refine callsIn_of_wp Tryz.func120 rfl trivial ?_ rfl
  simp only [Tryz.ntmps120, List.size_toArray, List.length_cons, List.length_nil, Nat.reduceAdd, Nat.reduceSub, Array.replicate_succ, Array.replicate_zero, List.push_toArray, List.append_toArray, List.nil_append, List.cons_append]
  gi_wp2_with fail
  gi_loopw [7, 4] (fun i _ wr => ∃ (k : Nat) (O : Nat → Prop), i = .int .i64 k ∧ k ≤ N ∧ Hid (J (L.take k) O wr) ∧ Hid (∀ i, RO bt v i → O i) ∧ Hid (KR (RO bt v) W wr)) (fun i _ _ => N - (intOf i).toNat)
  case atStart => exact ⟨0, _, rfl, Nat.zero_le _, h0, fun _ h => h, fun _ _ => rfl⟩
  case round =>
    clear c0
    obtain ⟨k, O, rfl, hk, HJ, HOS, HKR⟩ := hrel
    by_cases hlt : k < N
    · have hkl : k < L.length := by have := HN.out; omega
      have hlt' : (k : Int) < (N : Int) := by omega
      have ho2 := own_blk HO.out (w' := wr) (fun g e => HKR.out g (.inr e))
      obtain ⟨ao2, cap2, hv2, _, hrow⟩ := prow ho2
      rw [HV.out] at hv2
      obtain ⟨e1, e2⟩ : ao2 = ao ∧ cap2 = cap := by simp only [Value.slice.injEq] at hv2; exact ⟨hv2.1.symm, hv2.2.2.symm⟩
      subst e1 e2
      obtain ⟨r, rfl, hri⟩ := hrow k hkl
      have HTS := hid (take_snoc hkl)
      generalize L.getD k 0 = b at *
      obtain ⟨fn, tmps, assign, body, hy, hR⟩ := HY.out _ _ b wr HJ.out ⟨k + 1, by have := HN.out; omega, HTS.out⟩
      have HRR := hid hR
      unfold ptr at hri hy
      clear hR ho2 hv2 hrow
      gi_wp2_with fail
      refine HRR.out.mono ?_
      rw [HTS.out]
      rintro ee w3 (⟨rfl, hJ3, hk3⟩ | ⟨rfl, hJx3, hk3⟩)
      · have KR3 : Hid (KR (RO bt v) W w3) := fun i hi => (hk3.block i (kr_lt HKR.out hi (LB.out i hi)) (fun x => x (HOS.out i hi))).trans (HKR.out i hi)
        have HJ3 := hid hJ3
        clear hk3 hJ3
        gi_wp2
        exact ⟨⟨k + 1, O, by go_num, hlt, HJ3, HOS, KR3⟩, by simp [intOf]; omega⟩
      · gi_wp2
        refine bodyPost_ret (results_none rfl _ _ _) rfl ?_
        exact ⟨⟨_, rfl⟩, .inr ⟨_, _, trivial, hJx3⟩⟩
    · obtain rfl : k = N := by omega
      have HT : Hid (L.take k = L) := List.take_of_length_le (by have := HN.out; omega)
      gi_wp2_with fail
      go_end0
      exact ⟨⟨_, rfl⟩, .inl ⟨_, _, ⟨rfl, fun i hi => (HKR.out i hi).trans (HBW.out i hi)⟩, by rw [← HT.out]; exact HJ.out⟩⟩
end Go.Proofs.YtnccklbnncaeoaaGreat
