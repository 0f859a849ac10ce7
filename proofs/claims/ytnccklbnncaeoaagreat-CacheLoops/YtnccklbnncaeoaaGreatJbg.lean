import Derived.Test.YtnccklbnncaeoaaGreatJbf
/- cache: a page's bytes are brought in. -/
namespace Go.Proofs.YtnccklbnncaeoaaGreat
open Go.RowKit
set_option linter.unusedVariables false
set_option linter.unusedSimpArgs false
/-- A cache over its store while a ticket is still to be drawn. -/
structure Cb (S : ByteArray) (g bits room Q N : Nat) (G : Gc) (q : Gf) (ft : List (Int × Int)) (F : Nat → Prop) (w : World) : Prop where
  cm : Cm S g bits room Q G w
  sw : Sw S g N F q ft w
  ap : ∀ i, Fc Q G i → ¬ F i
  iv : Iv G
  op : Op G
  pp : ∀ b ∈ G.P, (G.c b).pe = true
  pn : G.P.Nodup
  nn : G.n3 + G.n4 ≤ N
  tt : G.n1 + G.n2 = G.t + 1
  tk : ∀ b ∈ G.B, (G.c b).tk ≤ G.t
  nb : ∀ b ∈ G.B, (G.c b).n < 268435456 / 2 ^ bits
  yl : ∀ b ∈ G.B, ∀ i zs, G.y b = some (i, zs) → zs.length = 2 ^ bits
  lr : G.L.length ≤ room
  bb : 9 ≤ bits ∧ bits ≤ 16
  rr : 1 ≤ room ∧ room ≤ 1024
section
variable {S : ByteArray} {g bits room Q N : Nat} {G G1 G2 : Gc} {q : Gf} {ft : List (Int × Int)} {F : Nat → Prop} {w : World}
theorem bring_cm (h : Cm S g bits room Q G w) {b i : Nat} {Z : List Int} (hb : b ∈ G.B) (hbL : b ∉ G.L) (hr : Rw .u8 5 w i Z) (hf : ∀ a ∈ G.B, a ≠ b → ∀ zs', G.y a ≠ some (i, zs')) :
    Cm S g bits room Q (gBring G b i Z) (w.setCell ⟨b, 1, none⟩ (.slice (some ⟨i, 0, none⟩) Z.length Z.length)) ∧ Kp (fun j => j = b) w (w.setCell ⟨b, 1, none⟩ (.slice (some ⟨i, 0, none⟩) Z.length Z.length)) := by
  have hk : Kp (fun j => j = b) w (w.setCell ⟨b, 1, none⟩ (.slice (some ⟨i, 0, none⟩) Z.length Z.length)) := kp_setCell w b 1 _ (fun j => j = b) rfl
  refine ⟨Cm.page h (b := b) hb (p := { G.c b with bv := .slice (some ⟨i, 0, none⟩) Z.length Z.length }) (y := some (i, Z)) (fun s hs => ?_) hk rfl rfl rfl (fun e => absurd e hbL) ⟨rfl, hr.kp hk (tag_ne (rw_tag hr) (h.pt hb) (by decide))⟩ (fun j zs e a ha hab zs' => ?_), hk⟩
  · have h2 : St 142 (w.setCell ⟨b, 1, none⟩ (.slice (some ⟨i, 0, none⟩) Z.length Z.length)) b (((G.c b).cs s).set! 1 (.slice (some ⟨i, 0, none⟩) Z.length Z.length)) := St.set hs 1 _
    simpa [Pc.cs] using h2
  · cases e
    exact hf a ha hab zs'
theorem fc_bring {b i : Nat} {Z : List Int} (hb : b ∈ G.B) {j : Nat} (hj : Fc Q (gBring G b i Z) j) : Fc Q G j ∨ j = i := by
  rcases hj with e | e | e | e | e | ⟨a, ha, e⟩
  · exact .inl (.inl e)
  · exact .inl (.inr (.inl e))
  · exact .inl (.inr (.inr (.inl e)))
  · exact .inl (.inr (.inr (.inr (.inl e))))
  · exact .inl (.inr (.inr (.inr (.inr (.inl e)))))
  · have hwm : ((gBring G b i Z).c a).wm = (G.c a).wm ∧ ((gBring G b i Z).c a).rm = (G.c a).rm := by
      show (upd G.c b _ a).wm = _ ∧ (upd G.c b _ a).rm = _
      unfold upd; split
      · rename_i e; rw [e]; exact ⟨rfl, rfl⟩
      · exact ⟨rfl, rfl⟩
    rw [hwm.1, hwm.2] at e
    rcases e with e | e | e | ⟨zs, e⟩
    · exact .inl (.inr (.inr (.inr (.inr (.inr ⟨a, ha, .inl e⟩)))))
    · exact .inl (.inr (.inr (.inr (.inr (.inr ⟨a, ha, .inr (.inl e)⟩)))))
    · exact .inl (.inr (.inr (.inr (.inr (.inr ⟨a, ha, .inr (.inr (.inl e))⟩)))))
    · change upd G.y b (some (i, Z)) a = some (j, zs) at e
      unfold upd at e
      split at e
      · cases e; exact .inr rfl
      · exact .inl (.inr (.inr (.inr (.inr (.inr ⟨a, ha, .inr (.inr (.inr ⟨zs, e⟩))⟩)))))
theorem fc_kn {s k b : Nat} (hp : KnP s G k b G2) {j : Nat} (hj : Fc Q G2 j) : Fc Q G j ∨ s ≤ j := by
  rcases hj with e | e | e | e | e | ⟨a, ha, e⟩
  · exact .inl (.inl e)
  · exact .inl (.inr (.inl (by rw [← hp.kl]; exact e)))
  · exact .inl (.inr (.inr (.inl (by rw [← hp.pm]; exact e))))
  · exact .inl (.inr (.inr (.inr (.inl (by rw [← hp.lv]; exact e)))))
  · exact .inl (.inr (.inr (.inr (.inr (.inl (by rw [← hp.pv]; exact e))))))
  · by_cases hB : a ∈ G.B
    · rw [hp.c a hB, hp.ya a hB] at e
      exact .inl (.inr (.inr (.inr (.inr (.inr ⟨a, hB, e⟩)))))
    · have hab := (hp.B a ha).resolve_left hB
      subst hab
      have hn := hp.nw hB
      rw [hp.y] at e
      rcases e with e | e | e | ⟨zs, e⟩
      · exact .inr (by omega)
      · exact .inr (by omega)
      · exact .inr (by omega)
      · cases e
/-- What all of it leaves. -/
theorem bring_cb {w' : World} {s k b i : Nat} {Z : List Int} {lv : Value} {L : List Nat} (h : Cv S g bits room Q N G q ft F w) (hk : k < 268435456 / 2 ^ bits) (hroom : G.L.length < room) (hp : KnP s { G with n2 := G.n2 + 1 } k b G2) (hs : w.heap.size ≤ s) (hi : w.heap.size ≤ i) (hZ : Z.length = 2 ^ bits)
    (hL : L.Perm (b :: G.L)) (hh : Hpd (gBring G2 b i Z).c L) (hc : Cm S g bits room Q { gBring G2 b i Z with lv := lv, L := L } w') (hkp : Kp (Fc Q G) w w') (hfc : ∀ j, Fc Q { gBring G2 b i Z with lv := lv, L := L } j → Fc Q G j ∨ w.heap.size ≤ j) :
    Cb S g bits room Q N { gBring G2 b i Z with lv := lv, L := L } q ft F w' ∧ Cch Q G { gBring G2 b i Z with lv := lv, L := L } F F w w' := by
  have hcc : ∀ a, ((gBring G2 b i Z).c a).n = (G2.c a).n ∧ ((gBring G2 b i Z).c a).pe = (G2.c a).pe ∧ ((gBring G2 b i Z).c a).di = (G2.c a).di ∧ ((gBring G2 b i Z).c a).tk = (G2.c a).tk := fun a => by
    show (upd G2.c b _ a).n = _ ∧ (upd G2.c b _ a).pe = _ ∧ (upd G2.c b _ a).di = _ ∧ (upd G2.c b _ a).tk = _
    unfold upd; split
    · rename_i e; rw [e]; exact ⟨rfl, rfl, rfl, rfl⟩
    · exact ⟨rfl, rfl, rfl, rfl⟩
  have hy : ∀ a, (gBring G2 b i Z).y a = if a = b then some (i, Z) else G2.y a := fun a => rfl
  have hm : ∀ a, a ∈ L ↔ a = b ∨ a ∈ G.L := fun a => by rw [hL.mem_iff, List.mem_cons]
  have hL2 : G2.L = G.L := hp.L
  refine ⟨⟨hc, h.sw.kp hkp (fun j hj hf => h.ap j hf hj), fun j hj hf => ?_, ⟨hp.iv.wk, hp.iv.wr, hp.iv.rk, hp.iv.kb, fun a => ?_, fun a ha => ?_, fun a ha he => ?_, fun a ha hd => ?_, hh⟩, fun x a ha => ?_, fun a ha => ?_, ?_, ?_, ?_, fun a ha => ?_, fun a ha => ?_, fun a ha j zs e => ?_, ?_, h.bb, h.rr⟩, hkp.mono (fun j _ e => .inl e), hfc, fun j hj => .inl hj⟩
  · rcases hfc j hj with e | e
    · exact h.ap j e hf
    · have := h.sw.lt hf; omega
  · show a ∈ L ↔ a ∈ G2.B ∧ (gBring G2 b i Z).y a ≠ none
    rw [hm a, hy a]
    by_cases e : a = b
    · subst e
      simp [hp.bB]
    · rw [if_neg e, ← hp.iv.lk a, hL2]
      simp [e]
  · rcases (hm a).1 ha with rfl | ha
    · exact hp.bK
    · exact hp.iv.ll a (by rw [hL2]; exact ha)
  · exact hp.iv.pk a ha (by rw [← (hcc a).2.1]; exact he)
  · refine (hm a).2 (.inr ?_)
    rw [← hL2]
    exact hp.iv.dk a ha (by rw [← (hcc a).2.2.1]; exact hd)
  · show ((gBring G2 b i Z).c a).di = true ∨ ((gBring G2 b i Z).c a).pe = true
    rw [(hcc a).2.1, (hcc a).2.2.1]
    exact hp.op x a ha
  · show ((gBring G2 b i Z).c a).pe = true
    rw [(hcc a).2.1]
    have ha' : a ∈ G.P := by have e := hp.P; change G2.P = G.P at e; rw [← e]; exact ha
    have hpe := h.pp a ha'
    have hc2 := hp.c a (h.cm.pb a ha')
    change G2.c a = G.c a at hc2
    rw [hc2]
    exact hpe
  · have e := hp.P
    change G2.P = G.P at e
    show G2.P.Nodup
    rw [e]; exact h.pn
  · have e3 := hp.n3
    have e4 := hp.n4
    change G2.n3 = G.n3 at e3
    change G2.n4 = G.n4 at e4
    show G2.n3 + G2.n4 ≤ N
    rw [e3, e4]; exact h.nn
  · have e1 := hp.n1
    have e2 := hp.n2
    have e3 := hp.t
    change G2.n1 = G.n1 at e1
    change G2.n2 = G.n2 + 1 at e2
    change G2.t = G.t at e3
    show G2.n1 + G2.n2 = G2.t + 1
    have := h.tt
    omega
  · show ((gBring G2 b i Z).c a).tk ≤ G2.t
    have e3 := hp.t
    change G2.t = G.t at e3
    rw [(hcc a).2.2.2, e3]
    by_cases hB : a ∈ G.B
    · have hc2 := hp.c a hB
      change G2.c a = G.c a at hc2
      rw [hc2]; exact h.tk a hB
    · have hab := (hp.B a ha).resolve_left hB
      subst hab
      rw [(hp.nw hB).2.2.2.2]; omega
  · show ((gBring G2 b i Z).c a).n < _
    rw [(hcc a).1]
    rcases hp.B a ha with hB | rfl
    · have hc2 := hp.c a hB
      change G2.c a = G.c a at hc2
      rw [hc2]; exact h.nb a hB
    · rw [hp.n]; exact hk
  · have e' : (gBring G2 b i Z).y a = some (j, zs) := e
    rw [hy a] at e'
    split at e'
    · cases e'; exact hZ
    · rename_i hab
      have hB := (hp.B a ha).resolve_right hab
      have hya := hp.ya a hB
      change G2.y a = G.y a at hya
      rw [hya] at e'
      exact h.yl a hB j zs e'
  · show L.length ≤ room
    have := hL.length_eq
    simp at this
    omega
end
end Go.Proofs.YtnccklbnncaeoaaGreat
/- cache: bringIn. -/
namespace Go.Proofs.YtnccklbnncaeoaaGreat
open Go.RowKit
set_option linter.unusedVariables false
set_option linter.unusedSimpArgs false
/-- Room was made. -/
def RmG (bits room k : Nat) (G : Gc) (q : Gf) (ft : List (Int × Int)) (G1 : Gc) (q1 : Gf) (ft1 : List (Int × Int)) : Prop :=
  (G.L.length < room ∧ k = 0 ∧ G1 = G ∧ q1 = q ∧ ft1 = ft) ∨
  (¬ G.L.length < room ∧ ∃ G', Out bits k ⟨G, q, ft⟩ 0 ⟨G', q1, ft1⟩ ∧ k + mu G' ≤ mu G ∧ (G'.c (G.L.getD 0 0)).di = false ∧ ∃ lv M, (G.L.getD 0 0 :: M).Perm G'.L ∧ G1 = gLet G' lv M (G.L.getD 0 0))
section
variable {S : ByteArray} {g bits room Q N : Nat} {G G1 : Gc} {q q1 : Gf} {ft ft1 : List (Int × Int)} {F : Nat → Prop} {w : World}
theorem let_c (G : Gc) (lv : Value) (M : List Nat) (b : Nat) (a : Nat) : (gLet G lv M b).c a = (gBare G b).c a := congrFun (set_wpR (gBare { G with lv := lv, L := M } b) b).1 a
theorem set_L (G : Gc) (b : Nat) : (gSet G b).L = G.L := by
  unfold gSet
  split
  · exact (les_forget G b).L
  · exact (les_forget { gS G b (G.R b) with R := upd G.R b [] } b).L
theorem set_t (G : Gc) (b : Nat) : (gSet G b).t = G.t := by
  unfold gSet
  split
  · exact (les_forget G b).t
  · exact (les_forget { gS G b (G.R b) with R := upd G.R b [] } b).t
theorem let_L (G : Gc) (lv : Value) (M : List Nat) (b : Nat) : (gLet G lv M b).L = M := set_L _ _
theorem let_t (G : Gc) (lv : Value) (M : List Nat) (b : Nat) : (gLet G lv M b).t = G.t := set_t _ _
/-- What was not kept is not kept then. -/
theorem RmG.no {k0 : Nat} (h : RmG bits room k0 G q ft G1 q1 ft1) {k : Nat} (hn : ∀ a ∈ G.L, (G.c a).n ≠ k) : ∀ a ∈ G1.L, (G1.c a).n ≠ k := by
  rcases h with ⟨_, _, rfl, _, _⟩ | ⟨_, G', ho, _, _, lv, M, hp, he⟩
  · exact hn
  · intro a ha
    rw [he, let_L] at ha
    have ha' : a ∈ G'.L := hp.mem_iff.1 (List.mem_cons_of_mem _ ha)
    have hst := ho.stb
    have hG : a ∈ G.L := (List.Perm.mem_iff hst.L).1 ha'
    rw [he, let_c, (bare_c G' _ a).1, (hst.c a).1]
    exact hn a hG
theorem RmG.t {k0 : Nat} (h : RmG bits room k0 G q ft G1 q1 ft1) : G1.t = G.t := by
  rcases h with ⟨_, _, rfl, _, _⟩ | ⟨_, G', ho, _, _, lv, M, hp, he⟩
  · rfl
  · rw [he, let_t]; exact ho.stb.t
theorem room_any (h : Cv S g bits room Q N G q ft F w) (hN : N + mu G + 2 ≤ 9000) :
    Calls Tryz.prog 143 #[ptr Q] w fun e w' => ∃ z k1 G1 q1 ft1 F1, e = .returned (.int .i64 z) ∧ Cv S g bits room Q (N + k1) G1 q1 ft1 F1 w' ∧ Cch Q G G1 F F1 w w' ∧
      ((z ≠ 0 ∧ Out bits k1 ⟨G, q, ft⟩ z ⟨G1, q1, ft1⟩ ∧ k1 + mu G1 ≤ mu G + 2) ∨ (z = 0 ∧ RmG bits room k1 G q ft G1 q1 ft1 ∧ G1.L.length < room)) := by
  refine (makeroom_any h hN).mono ?_
  intro e w' hm
  unfold Mk at hm
  split at hm
  · rename_i hr
    obtain ⟨rfl, k⟩ := hm
    exact ⟨0, 0, G, q, ft, F, rfl, h.kp0 k, (Cch.refl Q G F w).kp0 k, .inr ⟨rfl, .inl ⟨hr, rfl, rfl, rfl, rfl⟩, hr⟩⟩
  · rename_i hr
    obtain ⟨z, k, G', q', ft', F', rfl, ho, hb, hm⟩ := hm
    by_cases hz : z = 0
    · subst hz
      rw [if_pos rfl] at hm hb
      obtain ⟨hd, lv, M, hp, hc, hh⟩ := hm
      refine ⟨0, k, _, q', ft', F', rfl, hc, hh, .inr ⟨rfl, .inr ⟨hr, G', ho, by omega, hd, lv, M, hp, rfl⟩, ?_⟩⟩
      rw [let_L]
      have h1 := hp.length_eq
      have h2 := ho.stb.L.length_eq
      have h3 := h.lr
      have h4 := h.rr
      change G'.L.length = G.L.length at h2
      simp at h1
      omega
    · rw [if_neg hz] at hm hb
      exact ⟨z, k, G', q', ft', F', rfl, hm.1, hm.2, .inl ⟨hz, ho, hb⟩⟩
/-- What bringing in leaves. -/
def BrP (S : ByteArray) (g bits room Q N : Nat) (G : Gc) (q : Gf) (ft : List (Int × Int)) (F : Nat → Prop) (w : World) (k : Nat) (e : Ending) (w' : World) : Prop :=
  ∃ z k1 G1 q1 ft1 F1,
    (z ≠ 0 ∧ e = .returned (.tuple #[.pointer none, .int .i64 z]) ∧ Out bits k1 ⟨G, q, ft⟩ z ⟨G1, q1, ft1⟩ ∧ k1 + mu G1 ≤ mu G + 2 ∧ Cv S g bits room Q (N + k1) G1 q1 ft1 F1 w' ∧ Cch Q G G1 F F1 w w') ∨
    (z = 0 ∧ RmG bits room k1 G q ft G1 q1 ft1 ∧ ∃ s b G2 i lv L, w.heap.size ≤ s ∧ KnG s { G1 with n2 := G1.n2 + 1 } k b G2 ∧ KnP s { G1 with n2 := G1.n2 + 1 } k b G2 ∧ L.Perm (b :: G1.L) ∧ w.heap.size ≤ i ∧ e = .returned (.tuple #[ptr b, .int .i64 0]) ∧
      Cb S g bits room Q (N + k1) { gBring G2 b i (ldz q1 bits k) with lv := lv, L := L } q1 ft1 F1 w' ∧ Cch Q G { gBring G2 b i (ldz q1 bits k) with lv := lv, L := L } F F1 w w')
set_option maxRecDepth 100000 in
set_option maxHeartbeats 4000000 in
theorem bringin_any (h : Cv S g bits room Q N G q ft F w) (k : Nat) (hk : k < 268435456 / 2 ^ bits) (hno : kget G k = none) (hN : N + mu G + 2 ≤ 9000) (ht : G.t < 1000000000000) :
    Calls Tryz.prog 109 #[ptr Q, .int .i64 k] w (BrP S g bits room Q N G q ft F w k) := by
  have HR := hid (room_any h hN)
  have HNO := hid (h.kget_none hno)
  clear h hno
  unfold ptr at HR
  unfold ptr
  go_enter Tryz.func109, Tryz.ntmps109
  go_wp2_with fail
  refine HR.out.mono ?_
  rintro _ w1 ⟨z, k1, G1, q1, ft1, F1, rfl, hv, hc, hor⟩
  have HC := hid hc
  clear HR hc
  by_cases hz : z = 0
  · have hor2 : RmG bits room k1 G q ft G1 q1 ft1 ∧ G1.L.length < room := by
      rcases hor with ⟨h, _⟩ | ⟨_, h⟩
      · exact absurd hz h
      · exact h
    clear hor
    subst hz
    have HRM := hid hor2.1
    have HRL := hid hor2.2
    have hno1 := HRM.out.no HNO.out
    have ht1 := HRM.out.t
    have htt := hv.tt
    have hn2 : G1.n2 < 1000000000000 := by omega
    have HLD := hid (load_any hv k hk)
    have HV := hid hv
    have HN1 := hid hno1
    clear hor2 hno1 hv htt ht1 HNO
    unfold ptr at HLD
    go_wp2_with fail
    refine HLD.out.mono ?_
    rintro _ w2 ⟨i, hi, rfl, hr, k2⟩
    have hcm := HV.out.cm.kp0 k2
    have z9 := hcm.st.cell 9
    have f9 := hcm.st.frozen 9
    simp at z9
    have HCM := hid hcm
    have HI := hid hi
    have HR2 := hid hr
    have K2 := hid k2
    clear hcm hi hr k2 HLD
    go_wp2_with fail
    have hcm3 : Cm S g bits room Q { G1 with n2 := G1.n2 + 1 } (w2.setCell ⟨Q, 9, none⟩ (.int .i64 ((G1.n2 : Int) + 1))) := by
      refine Cm.nums HCM.out (w' := w2.setCell ⟨Q, 9, none⟩ (.int .i64 ((G1.n2 : Int) + 1))) ?_ (kp_setCell w2 Q 9 _ (fun i => i = Q) rfl)
      have h2 := St.set HCM.out.st 9 (.int .i64 ((G1.n2 : Int) + 1))
      simpa [ptr] using h2
    have k3 : Kp (fun j => j = Q) w2 (w2.setCell ⟨Q, 9, none⟩ (.int .i64 ((G1.n2 : Int) + 1))) := kp_setCell w2 Q 9 _ (fun i => i = Q) rfl
    have r3 := HR2.out.kp k3 (fun e => tag_ne (rw_tag HR2.out) HCM.out.st.tag (by decide) e)
    generalize w2.setCell ⟨Q, 9, none⟩ (.int .i64 ((G1.n2 : Int) + 1)) = w3 at hcm3 k3 r3 ⊢
    have hkn := known_any hcm3 HV.out.iv.wb.1 HV.out.iv.wb.2 k
    unfold ptr at hkn
    refine hkn.mono ?_
    rintro _ w4 ⟨b, G2, hg, rfl, hcm4, k4⟩
    have hsz3 : w1.heap.size ≤ w3.heap.size := Nat.le_trans K2.out.size k3.size
    have hKN : KnP w3.heap.size { G1 with n2 := G1.n2 + 1 } k b G2 := KnG.of (G := { G1 with n2 := G1.n2 + 1 }) (w := w3) (fun a ha => hcm3.lt (.inr (.inr (.inr (.inr (.inr ⟨a, ha, .inl rfl⟩)))))) ⟨HV.out.iv.wk, HV.out.iv.wr, HV.out.iv.rk, HV.out.iv.kb, HV.out.iv.lk, HV.out.iv.ll, HV.out.iv.pk, HV.out.iv.dk, HV.out.iv.hp⟩ HV.out.op (Nat.le_refl _) HN1.out hg
    have r4 := r3.kp k4 (fun e => tag_ne (rw_tag r3) hcm3.ks.tag (by decide) e)
    obtain ⟨s4, hs4⟩ := (hcm4.pg b hKN.bB).wt
    have y1 : w4.cell? ⟨b, 1, none⟩ = some (G2.c b).bv := St.cell hs4 1
    have f1 : w4.frozen? ⟨b, 1, none⟩ = false := St.frozen hs4 1
    have hZl : (ldz q1 bits k).length = 2 ^ bits := ldz_len q1 bits k
    obtain ⟨hcm5, k5⟩ := bring_cm hcm4 hKN.bB hKN.bL r4 (fun a ha hab zs' e => by
      have hB := (hKN.B a ha).resolve_right hab
      have hya := hKN.ya a hB
      rw [hya] at e
      have := HV.out.cm.lt (.inr (.inr (.inr (.inr (.inr ⟨a, hB, .inr (.inr (.inr ⟨zs', e⟩))⟩)))))
      have := HI.out
      omega)
    rw [hZl] at hcm5 k5
    have z5 := hcm5.st.cell 5
    simp [gBring] at z5
    have hrr := HV.out.rr
    have hLl : (gBring G2 b i (ldz q1 bits k)).L.length < 17592186044415 := by
      have e := hKN.L
      change G2.L = G1.L at e
      show G2.L.length < _
      rw [e]; have := HRL.out; omega
    have hhp : Hpd (gBring G2 b i (ldz q1 bits k)).c (gBring G2 b i (ldz q1 bits k)).L := Hpd.congr hKN.iv.hp (fun a ha => by
      have hab : a ≠ b := fun e => hKN.bL (e ▸ ha)
      have : (gBring G2 b i (ldz q1 bits k)).c a = G2.c a := upd_other _ _ hab
      unfold key
      rw [this])
    have hmy : Mayp ((gBring G2 b i (ldz q1 bits k)).c b) := by
      have : (gBring G2 b i (ldz q1 bits k)).c b = { G2.c b with bv := .slice (some ⟨i, 0, none⟩) (ldz q1 bits k).length (ldz q1 bits k).length } := upd_same _ _ _
      rw [this]
      show (G2.c b).tk < 4611686018427387904
      by_cases hB : b ∈ G1.B
      · have e := hKN.c b hB
        change G2.c b = G1.c b at e
        rw [e]
        have := HV.out.tk b hB
        have := HV.out.tt
        have := HRM.out.t
        omega
      · rw [(hKN.nw hB).2.2.2.2]; omega
    have hadd := add_any hcm5 b hKN.bB hKN.bL hhp hmy hLl
    unfold ptr at hadd z5
    have HAD := hid hadd
    have HG := hid hg
    have HKN := hid hKN
    have K3 := hid k3
    have K4 := hid k4
    have HS3 := hid hsz3
    have K5 := hid k5
    clear hg hKN hcm3 k3 r3 hkn k4 r4 hs4 hsz3 hcm4 hadd hhp hmy hLl hcm5 k5
    go_wp2_with fail
    refine HAD.out.mono ?_
    rintro _ w6 ⟨rfl, lv, L, hpm, hhd, hcm6, k6, hfc6⟩
    go_wp2_with fail
    go_ret2
    have hsz := HC.out.kp.size
    have hsz3 := HS3.out
    have e2 := HKN.out.L
    change G2.L = G1.L at e2
    have hL : L.Perm (b :: G1.L) := by rw [← e2]; exact hpm
    have hfb : ∀ j, Fc Q (gBring G2 b i (ldz q1 bits k)) j → Fc Q G1 j ∨ w1.heap.size ≤ j := fun j hj => by
      rcases fc_bring HKN.out.bB hj with e | e
      · rcases fc_kn HKN.out e with e | e
        · exact .inl e
        · exact .inr (by omega)
      · have := HI.out
        exact .inr (by omega)
    have hz5 := K5.out.size
    have hz4 := K4.out.size
    have hkp : Kp (Fc Q G1) w1 w6 := by
      refine ((((K2.out.mono (G := Fc Q G1) (fun _ _ e => e.elim)).trans K3.out (fun j _ e => .inl e)).trans K4.out (fun j _ e => .inr (.inr (.inl e)))).trans K5.out (fun j hj e => ?_)).trans k6 (fun j hj e => ?_)
      · subst e
        by_cases hB : j ∈ G1.B
        · exact .inr (.inr (.inr (.inr (.inr ⟨j, hB, .inl rfl⟩))))
        · have := (HKN.out.nw hB).1; omega
      · rcases hfb j e with e | e
        · exact e
        · omega
    have hfc : ∀ j, Fc Q { gBring G2 b i (ldz q1 bits k) with lv := lv, L := L } j → Fc Q G1 j ∨ w1.heap.size ≤ j := fun j hj => by
      rcases hfc6 j hj with e | e
      · exact hfb j e
      · exact .inr (by omega)
    obtain ⟨cb, cch⟩ := bring_cb HV.out hk HRL.out HKN.out HS3.out HI.out (ldz_len q1 bits k) hL hhd hcm6 hkp hfc
    have hi := HI.out
    exact ⟨0, k1, G1, q1, ft1, F1, .inr ⟨rfl, HRM.out, w3.heap.size, b, G2, i, lv, L, by omega, HG.out, HKN.out, hL, by omega, rfl, cb, HC.out.trans cch⟩⟩
  · have hz2 : decide (z = 0) = false := by simpa using hz
    have hor2 : Out bits k1 ⟨G, q, ft⟩ z ⟨G1, q1, ft1⟩ ∧ k1 + mu G1 ≤ mu G + 2 := by
      rcases hor with ⟨_, h⟩ | ⟨h, _⟩
      · exact h
      · exact absurd h hz
    have HO := hid hor2
    have HV := hid hv
    clear hor hor2 hv HNO
    go_wp2_with fail
    all_goals
      go_ret2
      exact ⟨z, k1, G1, q1, ft1, F1, .inl ⟨hz, rfl, HO.out.1, HO.out.2, HV.out, HC.out⟩⟩
end
end Go.Proofs.YtnccklbnncaeoaaGreat
/- cache: within; what a use leaves. -/
namespace Go.Proofs.YtnccklbnncaeoaaGreat
open Go.RowKit
set_option linter.unusedVariables false
set_option linter.unusedSimpArgs false
def withn (bits : Nat) (a n : Int) : Bool := decide (0 ≤ a) && (decide (0 ≤ n) && decide (n ≤ ((2 ^ bits : Nat) : Int) - a))
set_option maxHeartbeats 4000000 in
theorem within_any (w : World) (Q bits : Nat) (a n : Int) (hb : 9 ≤ bits ∧ bits ≤ 16) (ha : a ≤ 9223372036854775807) (h : w.cell? ⟨Q, 2, none⟩ = some (.int .i64 bits)) :
    Calls Tryz.prog 108 #[ptr Q, .int .i64 a, .int .i64 n] w fun e w' => e = .returned (.bool (withn bits a n)) ∧ w' = w := by
  have hp := pow_le bits hb
  have hmin : min bits 64 = bits := Nat.min_eq_left (by omega)
  have hsh : wrap64 ((2 : Int) ^ bits) = ((2 ^ bits : Nat) : Int) := by
    rw [show ((2 : Int) ^ bits) = ((2 ^ bits : Nat) : Int) by simp]
    unfold wrap64
    omega
  unfold withn
  obtain ⟨m, hm⟩ : ∃ m, 2 ^ bits = m := ⟨_, rfl⟩
  rw [hm] at hp hsh ⊢
  have HP := hid hp
  clear hp
  unfold ptr
  by_cases h0 : 0 ≤ a
  · have hsub : wrap64 ((m : Int) - a) = (m : Int) - a := by unfold wrap64; have := HP.out; omega
    have d0 : decide (0 ≤ a) = true := by simpa using h0
    rw [d0, Bool.true_and]
    by_cases h1 : 0 ≤ n
    · have d1 : decide (0 ≤ n) = true := by simpa using h1
      rw [d1, Bool.true_and]
      go_enter Tryz.func108, Tryz.ntmps108
      go_wp2_with fail
      go_ret
      refine ⟨?_, rfl⟩
      simp [hsub, hsh]
    · have d1 : decide (0 ≤ n) = false := by simpa using h1
      rw [d1, Bool.false_and]
      go_enter Tryz.func108, Tryz.ntmps108
      go_wp2_with fail
      go_ret
      exact ⟨rfl, rfl⟩
  · have d0 : decide (0 ≤ a) = false := by simpa using h0
    rw [d0, Bool.false_and]
    go_enter Tryz.func108, Tryz.ntmps108
    go_wp2_with fail
    go_ret
    exact ⟨rfl, rfl⟩
/-- A page was used. -/
def gUse (G : Gc) (b : Nat) (lv : Value) (L : List Nat) : Gc := { G with t := G.t + 1, c := upd G.c b { G.c b with tk := G.t + 1 }, lv := lv, L := L }
section
variable {S : ByteArray} {g bits room Q N : Nat} {G : Gc} {q : Gf} {ft : List (Int × Int)} {F : Nat → Prop} {w : World}
theorem use_c (G : Gc) (b t a : Nat) : (upd G.c b { G.c b with tk := t } a).n = (G.c a).n ∧ (upd G.c b { G.c b with tk := t } a).di = (G.c a).di ∧ (upd G.c b { G.c b with tk := t } a).pe = (G.c a).pe ∧ (upd G.c b { G.c b with tk := t } a).bv = (G.c a).bv ∧ (upd G.c b { G.c b with tk := t } a).wm = (G.c a).wm ∧ (upd G.c b { G.c b with tk := t } a).rm = (G.c a).rm ∧ (upd G.c b { G.c b with tk := t } a).tk = if a = b then t else (G.c a).tk := by
  unfold upd
  split
  · rename_i e; rw [e]; exact ⟨rfl, rfl, rfl, rfl, rfl, rfl, rfl⟩
  · exact ⟨rfl, rfl, rfl, rfl, rfl, rfl, rfl⟩
theorem use_cv {w' : World} {b : Nat} {lv : Value} {L : List Nat} (h : Cb S g bits room Q N G q ft F w) (hL : L.Perm G.L) (hh : Hpd (gUse G b lv L).c L) (hc : Cm S g bits room Q (gUse G b lv L) w') (hk : Kp (Fc Q G) w w') (hfc : ∀ j, Fc Q (gUse G b lv L) j → Fc Q G j ∨ w.heap.size ≤ j) : Cv S g bits room Q N (gUse G b lv L) q ft F w' ∧ Cch Q G (gUse G b lv L) F F w w' := by
  have hcc := use_c G b (G.t + 1)
  refine ⟨⟨hc, h.sw.kp hk (fun j hj hf => h.ap j hf hj), fun j hj hf => ?_, ⟨h.iv.wk, h.iv.wr, h.iv.rk, h.iv.kb, fun a => ?_, fun a ha => h.iv.ll a (hL.mem_iff.1 ha), fun a ha he => h.iv.pk a ha (by rw [← (hcc a).2.2.1]; exact he), fun a ha hd => hL.mem_iff.2 (h.iv.dk a ha (by rw [← (hcc a).2.1]; exact hd)), hh⟩, fun x a ha => ?_, fun a ha => ?_, h.pn, h.nn, ?_, fun a ha => ?_, fun a ha => ?_, h.yl, ?_, h.bb, h.rr⟩, hk.mono (fun j _ e => .inl e), hfc, fun j hj => .inl hj⟩
  · rcases hfc j hj with e | e
    · exact h.ap j e hf
    · have := h.sw.lt hf; omega
  · show a ∈ L ↔ _
    rw [hL.mem_iff]; exact h.iv.lk a
  · show (upd G.c b { G.c b with tk := G.t + 1 } a).di = true ∨ (upd G.c b { G.c b with tk := G.t + 1 } a).pe = true
    rw [(hcc a).2.1, (hcc a).2.2.1]
    exact h.op x a ha
  · show (upd G.c b { G.c b with tk := G.t + 1 } a).pe = true
    rw [(hcc a).2.2.1]
    exact h.pp a ha
  · exact h.tt
  · show (upd G.c b { G.c b with tk := G.t + 1 } a).tk ≤ G.t + 1
    rw [(hcc a).2.2.2.2.2.2]
    have := h.tk a ha
    split <;> omega
  · show (upd G.c b { G.c b with tk := G.t + 1 } a).n < _
    rw [(hcc a).1]
    exact h.nb a ha
  · show L.length ≤ room
    rw [hL.length_eq]; exact h.lr
/-- The ticket is drawn, in memory. -/
theorem tick_cm (h : Cm S g bits room Q G w) {b : Nat} (hb : b ∈ G.B) (ht : G.t + 1 < 4611686018427387904) :
    Cm S g bits room Q { G with t := G.t + 1, c := upd G.c b { G.c b with tk := G.t + 1 } } ((w.setCell ⟨Q, 7, none⟩ (.int .i64 ((G.t : Int) + 1))).setCell ⟨b, 4, none⟩ (.int .i64 ((G.t : Int) + 1))) ∧ Kp (fun i => i = Q ∨ i = b) w ((w.setCell ⟨Q, 7, none⟩ (.int .i64 ((G.t : Int) + 1))).setCell ⟨b, 4, none⟩ (.int .i64 ((G.t : Int) + 1))) ∧ (w.setCell ⟨Q, 7, none⟩ (.int .i64 ((G.t : Int) + 1))).cell? ⟨b, 4, none⟩ = some (.int .i64 (G.c b).tk) ∧ (w.setCell ⟨Q, 7, none⟩ (.int .i64 ((G.t : Int) + 1))).frozen? ⟨b, 4, none⟩ = false ∧ (w.setCell ⟨Q, 7, none⟩ (.int .i64 ((G.t : Int) + 1))).cell? ⟨Q, 7, none⟩ = some (.int .i64 ((G.t : Int) + 1)) := by
  have k1 : Kp (fun i => i = Q) w (w.setCell ⟨Q, 7, none⟩ (.int .i64 ((G.t : Int) + 1))) := kp_setCell w Q 7 _ (fun i => i = Q) rfl
  have h1 : Cm S g bits room Q { G with t := G.t + 1 } (w.setCell ⟨Q, 7, none⟩ (.int .i64 ((G.t : Int) + 1))) := by
    refine Cm.nums h (w' := w.setCell ⟨Q, 7, none⟩ (.int .i64 ((G.t : Int) + 1))) ?_ k1
    have h2 := St.set h.st 7 (.int .i64 ((G.t : Int) + 1))
    simpa [ptr] using h2
  generalize w.setCell ⟨Q, 7, none⟩ (.int .i64 ((G.t : Int) + 1)) = W at h1 k1 ⊢
  have k2 : Kp (fun i => i = b) W (W.setCell ⟨b, 4, none⟩ (.int .i64 ((G.t : Int) + 1))) := kp_setCell W b 4 _ (fun i => i = b) rfl
  obtain ⟨s1, hs1⟩ := (h1.pg b hb).wt
  refine ⟨?_, (k1.mono (fun _ _ e => .inl e)).trans k2 (fun _ _ e => .inr e), by have := St.cell hs1 4; simpa [Pc.cs] using this, St.frozen hs1 4, by have := h1.st.cell 7; simpa using this⟩
  have h3 := Cm.page h1 (b := b) hb (p := { G.c b with tk := G.t + 1 }) (y := G.y b) (w' := W.setCell ⟨b, 4, none⟩ (.int .i64 ((G.t : Int) + 1))) (fun s hs => by
      have h2 : St 142 (W.setCell ⟨b, 4, none⟩ (.int .i64 ((G.t : Int) + 1))) b (((G.c b).cs s).set! 4 (.int .i64 ((G.t : Int) + 1))) := St.set hs 4 _
      simpa [Pc.cs] using h2) k2 rfl rfl rfl (fun _ => ht) ((h1.pg b hb).ys.kp k2 (fun i zs e => tag_ne (h1.yt hb e) (h1.pt hb) (by decide))) (fun i zs e a ha hab zs' e' => hab (h.yi a ha b hb i zs' zs e' e))
  have e : upd G.y b (G.y b) = G.y := upd_self _ _
  have h4 : Cm S g bits room Q { { G with t := G.t + 1 } with c := upd G.c b { G.c b with tk := G.t + 1 }, y := G.y } (W.setCell ⟨b, 4, none⟩ (.int .i64 ((G.t : Int) + 1))) := by
    rw [← e]; exact h3
  exact h4
end
end Go.Proofs.YtnccklbnncaeoaaGreat
/- cache: use. -/
namespace Go.Proofs.YtnccklbnncaeoaaGreat
open Go.RowKit
set_option linter.unusedVariables false
set_option linter.unusedSimpArgs false
section
variable {S : ByteArray} {g bits room Q N : Nat} {G : Gc} {q : Gf} {ft : List (Int × Int)} {F : Nat → Prop} {w : World}
/-- The line's end of a use. -/
theorem tail_any (h : Cb S g bits room Q N G q ft F w) (b : Nat) (hb : b ∈ G.L) (t0 kl0 tk0 : Nat) (e1 : G.t = t0) (e2 : G.kl = kl0) (e3 : (G.c b).tk = tk0) (ht : t0 + 1 < 4611686018427387904) :
    w.cell? ⟨Q, 7, none⟩ = some (.int .i64 t0) ∧ w.frozen? ⟨Q, 7, none⟩ = false ∧ (w.setCell ⟨Q, 7, none⟩ (.int .i64 ((t0 : Int) + 1))).cell? ⟨Q, 7, none⟩ = some (.int .i64 ((t0 : Int) + 1)) ∧ (w.setCell ⟨Q, 7, none⟩ (.int .i64 ((t0 : Int) + 1))).cell? ⟨b, 4, none⟩ = some (.int .i64 tk0) ∧ (w.setCell ⟨Q, 7, none⟩ (.int .i64 ((t0 : Int) + 1))).frozen? ⟨b, 4, none⟩ = false ∧
    ((w.setCell ⟨Q, 7, none⟩ (.int .i64 ((t0 : Int) + 1))).setCell ⟨b, 4, none⟩ (.int .i64 ((t0 : Int) + 1))).cell? ⟨Q, 5, none⟩ = some (ptr kl0) ∧
    Calls Tryz.prog 63 #[ptr kl0, ptr b] ((w.setCell ⟨Q, 7, none⟩ (.int .i64 ((t0 : Int) + 1))).setCell ⟨b, 4, none⟩ (.int .i64 ((t0 : Int) + 1))) fun e w' => e = .returned (.tuple #[]) ∧ ∃ lv L, L.Perm G.L ∧ Cv S g bits room Q N (gUse G b lv L) q ft F w' ∧ Cch Q G (gUse G b lv L) F F w w' := by
  subst e1 e2 e3
  have hB := h.cm.lb b hb
  obtain ⟨c1, k1, y4, f4, z7⟩ := tick_cm h.cm hB ht
  refine ⟨by have := h.cm.st.cell 7; simpa using this, h.cm.st.frozen 7, z7, y4, f4, by have z5 := c1.st.cell 5; simpa using z5, ?_⟩
  clear y4 f4 z7
  have hfw : ∀ j, Fc Q { G with t := G.t + 1, c := upd G.c b { G.c b with tk := G.t + 1 } } j → Fc Q G j := fun j hj =>
    fc_same (H := { G with t := G.t + 1, c := upd G.c b { G.c b with tk := G.t + 1 } }) (G := G) rfl rfl rfl rfl rfl (fun a _ => ⟨(use_c G b (G.t + 1) a).2.2.2.2.1, (use_c G b (G.t + 1) a).2.2.2.2.2.1⟩) (fun a _ i zs e => ⟨zs, e⟩) j hj
  generalize (w.setCell ⟨Q, 7, none⟩ (.int .i64 ((G.t : Int) + 1))).setCell ⟨b, 4, none⟩ (.int .i64 ((G.t : Int) + 1)) = W at c1 k1 ⊢
  have hrr := h.rr
  have hlr := h.lr
  refine (moved_any c1 b hb G.c h.iv.hp (fun a ha => upd_other _ _ ha) (by show G.L.length < _; omega)).mono ?_
  rintro e w' ⟨rfl, lv, L, hp, hh, hc, hk, hfc⟩
  have hsz := k1.size
  have hk2 : Kp (Fc Q G) w w' := (k1.mono (G := Fc Q G) (fun j _ e => by
    rcases e with e | e
    · exact .inl e
    · exact .inr (.inr (.inr (.inr (.inr ⟨b, hB, .inl e⟩)))))).trans hk (fun j _ e => hfw j e)
  obtain ⟨cv, ch⟩ := use_cv h hp hh hc hk2 (fun j hj => by
    rcases hfc j hj with e | e
    · exact .inl (hfw j e)
    · exact .inr (by omega))
  exact ⟨rfl, lv, L, hp, cv, ch⟩
/-- What a use leaves. -/
def UsP (S : ByteArray) (g bits room Q N : Nat) (G : Gc) (q : Gf) (ft : List (Int × Int)) (F : Nat → Prop) (w : World) (k a n : Int) (e : Ending) (w' : World) : Prop :=
  if mayn bits k && withn bits a n then
    match kget G k.toNat with
    | some b => ∃ lv L, e = .returned (.tuple #[ptr b, .int .i64 0]) ∧ L.Perm G.L ∧ Cv S g bits room Q N (gUse { G with n1 := G.n1 + 1 } b lv L) q ft F w' ∧ Cch Q G (gUse { G with n1 := G.n1 + 1 } b lv L) F F w w'
    | none => ∃ z k1 G1 q1 ft1 F1,
        (z ≠ 0 ∧ e = .returned (.tuple #[.pointer none, .int .i64 z]) ∧ Out bits k1 ⟨G, q, ft⟩ z ⟨G1, q1, ft1⟩ ∧ k1 + mu G1 ≤ mu G + 2 ∧ Cv S g bits room Q (N + k1) G1 q1 ft1 F1 w' ∧ Cch Q G G1 F F1 w w') ∨
        (z = 0 ∧ RmG bits room k1 G q ft G1 q1 ft1 ∧ ∃ s b G2 i lv L, w.heap.size ≤ s ∧ KnG s { G1 with n2 := G1.n2 + 1 } k.toNat b G2 ∧ KnP s { G1 with n2 := G1.n2 + 1 } k.toNat b G2 ∧ L.Perm (b :: G1.L) ∧ w.heap.size ≤ i ∧ e = .returned (.tuple #[ptr b, .int .i64 0]) ∧
          Cv S g bits room Q (N + k1) (gUse (gBring G2 b i (ldz q1 bits k.toNat)) b lv L) q1 ft1 F1 w' ∧ Cch Q G (gUse (gBring G2 b i (ldz q1 bits k.toNat)) b lv L) F F1 w w')
  else e = .returned (.tuple #[.pointer none, .int .i64 2]) ∧ Kp (fun _ => False) w w'
theorem may_lt (k bits : Nat) (hb : 9 ≤ bits ∧ bits ≤ 16) (hm : mayn bits k = true) : k < 268435456 / 2 ^ bits := by
  unfold mayn at hm
  rw [Bool.and_eq_true] at hm
  have := of_decide_eq_true hm.2
  omega
set_option maxRecDepth 100000 in
set_option maxHeartbeats 8000000 in
theorem use_bad (h : Cv S g bits room Q N G q ft F w) (k a n : Int) (ha : a ≤ 9223372036854775807) (hb : (mayn bits k && withn bits a n) = false) :
    Calls Tryz.prog 62 #[ptr Q, .int .i64 k, .int .i64 a, .int .i64 n] w fun e w' => e = .returned (.tuple #[.pointer none, .int .i64 2]) ∧ w' = w := by
  have HN := hid h.live
  have HM := hid (h.maya k)
  have HI : Hid (Calls Tryz.prog 108 #[ptr Q, .int .i64 a, .int .i64 n] w fun e w' => e = .returned (.bool (withn bits a n)) ∧ w' = w) := within_any w Q bits a n h.bb ha (by have := h.cm.st.cell 2; simpa using this)
  clear h
  cases hm : mayn bits k with
  | false =>
    rw [hm] at HM
    unfold ptr at *
    go_enter Tryz.func62, Tryz.ntmps62
    go_wp2_with (first | (go_at_call 64; refine HN.out.mono ?_; rintro e w' ⟨rfl, h⟩; replace h := h.symm; subst h) | (go_at_call 65; refine HM.out.mono ?_; rintro e w' ⟨rfl, h⟩; replace h := h.symm; subst h))
    go_ret2
    exact ⟨rfl, rfl⟩
  | true =>
    rw [hm, Bool.true_and] at hb
    rw [hm] at HM
    rw [hb] at HI
    unfold ptr at *
    go_enter Tryz.func62, Tryz.ntmps62
    go_wp2_with (first | (go_at_call 64; refine HN.out.mono ?_; rintro e w' ⟨rfl, h⟩; replace h := h.symm; subst h) | (go_at_call 65; refine HM.out.mono ?_; rintro e w' ⟨rfl, h⟩; replace h := h.symm; subst h) | (go_at_call 108; refine HI.out.mono ?_; rintro e w' ⟨rfl, h⟩; replace h := h.symm; subst h))
    go_ret2
    exact ⟨rfl, rfl⟩
set_option maxRecDepth 100000 in
set_option maxHeartbeats 8000000 in
theorem use_hit (h : Cv S g bits room Q N G q ft F w) (k : Nat) (a n : Int) (ha : a ≤ 9223372036854775807) (hm : mayn bits k = true) (hw : withn bits a n = true) (b : Nat) (hg : kget G k = some b) (ht : G.t < 1000000000000) :
    Calls Tryz.prog 62 #[ptr Q, .int .i64 k, .int .i64 a, .int .i64 n] w fun e w' => ∃ lv L, e = .returned (.tuple #[ptr b, .int .i64 0]) ∧ L.Perm G.L ∧ Cv S g bits room Q N (gUse { G with n1 := G.n1 + 1 } b lv L) q ft F w' ∧ Cch Q G (gUse { G with n1 := G.n1 + 1 } b lv L) F F w w' := by
  have HN := hid h.live
  have HM := hid (h.maya k)
  have HI : Hid (Calls Tryz.prog 108 #[ptr Q, .int .i64 a, .int .i64 n] w fun e w' => e = .returned (.bool (withn bits a n)) ∧ w' = w) := within_any w Q bits a n h.bb ha (by have := h.cm.st.cell 2; simpa using this)
  rw [hm] at HM
  rw [hw] at HI
  have HS : Hid (∀ m, Calls Tryz.prog 30 #[ptr g, .string S] (w.drewN m) fun e w' => e = .returned (.tuple #[.int .i64 q.sz, .int .i64 0]) ∧ w' = w.drewN m) := fun m => size_w (h.sw.kp0 (drewN_kp _ _ _))
  have HF : Hid (∀ m, Calls Tryz.prog 70 #[ptr Q, .int .i64 k] (w.drewN m) fun e w' => e = .returned (.tuple #[ptr b, .int .i64 0]) ∧ w' = w.drewN m) := fun m => by
    have := find_any (h.kp0 (drewN_kp _ _ m)) k hm
    rw [hg] at this
    exact this
  obtain ⟨hbL, hbB, _, _⟩ := h.kget_some hg
  have z0 := h.cm.st.cell 0
  have z1 := h.cm.st.cell 1
  simp at z0 z1
  have HH := hid h
  clear h
  unfold ptr at HN HM HI HS HF z0
  unfold ptr
  go_enter Tryz.func62, Tryz.ntmps62
  go_wp2_with (first | (go_at_call 64; refine HN.out.mono ?_; rintro e w' ⟨rfl, h⟩; replace h := h.symm; subst h) | (go_at_call 65; refine HM.out.mono ?_; rintro e w' ⟨rfl, h⟩; replace h := h.symm; subst h) | (go_at_call 108; refine HI.out.mono ?_; rintro e w' ⟨rfl, h⟩; replace h := h.symm; subst h))
  go_quiet (first | (go_at_call 30; refine Calls.quiet_of_same (HS.out _)))
  have h1 := HH.out.kp0 (drewN_kp (fun _ => False) w nq)
  have K1 : Hid (Kp (fun _ => False) w (w.drewN nq)) := drewN_kp _ _ _
  have hF := hid (HF.out nq)
  clear HN HM HI HS HF z0 z1
  generalize w.drewN nq = w1 at h1 K1 hF ⊢
  have z8 := h1.cm.st.cell 8
  have f8 := h1.cm.st.frozen 8
  simp at z8
  have htt := h1.tt
  have hn1 : G.n1 < 1000000000000 := by omega
  have k2 : Kp (fun i => i = Q) w1 (w1.setCell ⟨Q, 8, none⟩ (.int .i64 ((G.n1 : Int) + 1))) := kp_setCell w1 Q 8 _ (fun i => i = Q) rfl
  have c2 : Cm S g bits room Q { G with n1 := G.n1 + 1 } (w1.setCell ⟨Q, 8, none⟩ (.int .i64 ((G.n1 : Int) + 1))) := by
    refine Cm.nums h1.cm (w' := w1.setCell ⟨Q, 8, none⟩ (.int .i64 ((G.n1 : Int) + 1))) ?_ k2
    have h2 := St.set h1.cm.st 8 (.int .i64 ((G.n1 : Int) + 1))
    simpa [ptr] using h2
  have cb : Cb S g bits room Q N { G with n1 := G.n1 + 1 } q ft F (w1.setCell ⟨Q, 8, none⟩ (.int .i64 ((G.n1 : Int) + 1))) :=
    ⟨c2, h1.sw.kp k2 (fun j hj e => h1.ap j (.inl e) hj), h1.ap, ⟨h1.iv.wk, h1.iv.wr, h1.iv.rk, h1.iv.kb, h1.iv.lk, h1.iv.ll, h1.iv.pk, h1.iv.dk, h1.iv.hp⟩, h1.op, h1.pp, h1.pn, h1.nn, by show G.n1 + 1 + G.n2 = G.t + 1; omega, h1.tk, h1.nb, h1.yl, h1.lr, h1.bb, h1.rr⟩
  obtain ⟨z7, f7, z72, y4, f4, z5, ht63⟩ := tail_any cb b hbL G.t G.kl (G.c b).tk rfl rfl rfl (by omega)
  have HT := hid ht63
  have HC2 : Hid (Cch Q G { G with n1 := G.n1 + 1 } F F w (w1.setCell ⟨Q, 8, none⟩ (.int .i64 ((G.n1 : Int) + 1)))) := Cch.pre K1.out ⟨k2.mono (fun _ _ e => .inl (.inl e)), fun _ e => .inl e, fun _ e => .inl e⟩
  have htb : G.t < 1000000000000 := ht
  clear h1 htt c2 k2 cb ht63
  unfold ptr at z5 HT
  go_wp2_with (first | (go_at_call 70; refine hF.out.mono ?_; rintro e w' ⟨rfl, h⟩; replace h := h.symm; subst h))
  refine HT.out.mono ?_
  rintro _ w6 ⟨rfl, lv, L, hp, hv, hc⟩
  go_wp2_with fail
  go_ret2
  exact ⟨lv, L, rfl, hp, hv, HC2.out.trans hc⟩
set_option maxRecDepth 100000 in
set_option maxHeartbeats 8000000 in
theorem use_miss (h : Cv S g bits room Q N G q ft F w) (k : Nat) (a n : Int) (ha : a ≤ 9223372036854775807) (hm : mayn bits k = true) (hw : withn bits a n = true) (hg : kget G k = none) (ht : G.t < 1000000000000) (hN : N + mu G + 2 ≤ 9000) :
    Calls Tryz.prog 62 #[ptr Q, .int .i64 k, .int .i64 a, .int .i64 n] w fun e w' => ∃ z k1 G1 q1 ft1 F1,
        (z ≠ 0 ∧ e = .returned (.tuple #[.pointer none, .int .i64 z]) ∧ Out bits k1 ⟨G, q, ft⟩ z ⟨G1, q1, ft1⟩ ∧ k1 + mu G1 ≤ mu G + 2 ∧ Cv S g bits room Q (N + k1) G1 q1 ft1 F1 w' ∧ Cch Q G G1 F F1 w w') ∨
        (z = 0 ∧ RmG bits room k1 G q ft G1 q1 ft1 ∧ ∃ s b G2 i lv L, w.heap.size ≤ s ∧ KnG s { G1 with n2 := G1.n2 + 1 } k b G2 ∧ KnP s { G1 with n2 := G1.n2 + 1 } k b G2 ∧ L.Perm (b :: G1.L) ∧ w.heap.size ≤ i ∧ e = .returned (.tuple #[ptr b, .int .i64 0]) ∧
          Cv S g bits room Q (N + k1) (gUse (gBring G2 b i (ldz q1 bits k)) b lv L) q1 ft1 F1 w' ∧ Cch Q G (gUse (gBring G2 b i (ldz q1 bits k)) b lv L) F F1 w w') := by
  have HN := hid h.live
  have HM := hid (h.maya k)
  have HI : Hid (Calls Tryz.prog 108 #[ptr Q, .int .i64 a, .int .i64 n] w fun e w' => e = .returned (.bool (withn bits a n)) ∧ w' = w) := within_any w Q bits a n h.bb ha (by have := h.cm.st.cell 2; simpa using this)
  have hkb : k < 268435456 / 2 ^ bits := may_lt k bits h.bb hm
  rw [hm] at HM
  rw [hw] at HI
  have HS : Hid (∀ m, Calls Tryz.prog 30 #[ptr g, .string S] (w.drewN m) fun e w' => e = .returned (.tuple #[.int .i64 q.sz, .int .i64 0]) ∧ w' = w.drewN m) := fun m => size_w (h.sw.kp0 (drewN_kp _ _ _))
  have HF : Hid (∀ m, Calls Tryz.prog 70 #[ptr Q, .int .i64 k] (w.drewN m) fun e w' => e = .returned (.tuple #[.pointer none, .int .i64 7]) ∧ w' = w.drewN m) := fun m => by
    have := find_any (h.kp0 (drewN_kp _ _ m)) k hm
    rw [hg] at this
    exact this
  have z0 := h.cm.st.cell 0
  have z1 := h.cm.st.cell 1
  simp at z0 z1
  have HH := hid h
  clear h
  unfold ptr at HN HM HI HS HF z0
  unfold ptr
  go_enter Tryz.func62, Tryz.ntmps62
  go_wp2_with (first | (go_at_call 64; refine HN.out.mono ?_; rintro e w' ⟨rfl, h⟩; replace h := h.symm; subst h) | (go_at_call 65; refine HM.out.mono ?_; rintro e w' ⟨rfl, h⟩; replace h := h.symm; subst h) | (go_at_call 108; refine HI.out.mono ?_; rintro e w' ⟨rfl, h⟩; replace h := h.symm; subst h))
  go_quiet (first | (go_at_call 30; refine Calls.quiet_of_same (HS.out _)))
  have h1 := HH.out.kp0 (drewN_kp (fun _ => False) w nq)
  have K1 : Hid (Kp (fun _ => False) w (w.drewN nq)) := drewN_kp _ _ _
  have hF := hid (HF.out nq)
  clear HN HM HI HS HF z0 z1
  generalize w.drewN nq = w1 at h1 K1 hF ⊢
  have HB := hid (bringin_any h1 k hkb hg hN ht)
  clear h1
  unfold ptr at HB
  go_wp2_with (first | (go_at_call 70; refine hF.out.mono ?_; rintro e w' ⟨rfl, h⟩; replace h := h.symm; subst h))
  refine HB.out.mono ?_
  rintro _ w2 ⟨z, k1, G1, q1, ft1, F1, ⟨hz, rfl, ho, hd, hv, hc⟩ | ⟨rfl, hr, s, b, G2, i, lv, L, hs, hkn, hkp, hL, hi, rfl, hcb, hc⟩⟩
  · have hz2 : decide (z = 0) = false := by simpa using hz
    have HO := hid ho
    have HD := hid hd
    have HV := hid hv
    have HC := hid (Cch.pre K1.out hc)
    clear ho hd hv hc HB
    go_wp2_with fail
    all_goals
      go_ret2
      exact ⟨z, k1, G1, q1, ft1, F1, .inl ⟨hz, rfl, HO.out, HD.out, HV.out, HC.out⟩⟩
  · have hbL : b ∈ L := hL.mem_iff.2 List.mem_cons_self
    have htG : G2.t < 1000000000000 := by
      have e := hkp.t
      change G2.t = G1.t at e
      rw [e, hr.t]; exact ht
    have hc2 := Cch.pre K1.out hc
    obtain ⟨z7, f7, z72, y4, f4, z5, ht63⟩ := tail_any hcb b hbL G2.t G2.kl _ rfl rfl rfl (by omega)
    have HT := hid ht63
    have HC2 := hid hc2
    have HR := hid hr
    have HKN := hid hkn
    have HKP := hid hkp
    have HPL := hid hL
    have hsz := K1.out.size
    clear hr hkn hkp hL hcb hc ht63 hc2 HB
    unfold ptr at z5 HT
    unfold ptr at *
    go_wp2_with fail
    refine HT.out.mono ?_
    rintro _ w6 ⟨rfl, lv', L', hp, hv, hc'⟩
    go_wp2_with fail
    go_ret2
    exact ⟨0, k1, G1, q1, ft1, F1, .inr ⟨rfl, HR.out, s, b, G2, i, lv', L', by omega, HKN.out, HKP.out, hp.trans HPL.out, by omega, rfl, hv, HC2.out.trans hc'⟩⟩
theorem use_any (h : Cv S g bits room Q N G q ft F w) (k a n : Int) (ha : a ≤ 9223372036854775807) (ht : G.t < 1000000000000) (hN : N + mu G + 2 ≤ 9000) :
    Calls Tryz.prog 62 #[ptr Q, .int .i64 k, .int .i64 a, .int .i64 n] w (UsP S g bits room Q N G q ft F w k a n) := by
  unfold UsP
  by_cases hb : (mayn bits k && withn bits a n) = true
  · simp only [if_pos hb]
    rw [Bool.and_eq_true] at hb
    obtain ⟨hm, hw⟩ := hb
    obtain ⟨m, rfl⟩ : ∃ m : Nat, k = (m : Int) := by
      unfold mayn at hm
      simp at hm
      exact ⟨k.toNat, by omega⟩
    rw [Int.toNat_natCast]
    cases hg : kget G m with
    | none => exact use_miss h m a n ha hm hw hg ht hN
    | some b => exact use_hit h m a n ha hm hw b hg ht
  · simp only [if_neg hb]
    refine (use_bad h k a n ha (by simpa using hb)).mono ?_
    rintro e w' ⟨rfl, rfl⟩
    exact ⟨rfl, Kp.refl _ _⟩
end
end Go.Proofs.YtnccklbnncaeoaaGreat
/- cache: a use in three ways; Read. -/
namespace Go.Proofs.YtnccklbnncaeoaaGreat
open Go.RowKit
set_option linter.unusedVariables false
set_option linter.unusedSimpArgs false
set_option maxRecDepth 100000 in
set_option maxHeartbeats 1000000 in
theorem bclone_any (zs : List Int) (ad : Addr) (n cap : Nat) (w : World) (hNe : n = zs.length) (hN : n ≤ 10000000000) (hS : Src .u8 w (some ad) zs) :
    Calls Tryz.prog 77 #[.slice (some ad) n cap] w fun e w' => ∃ v, e = .returned v ∧ OwnI .u8 5 w' w.heap.size v zs ∧ Below w.heap.size w w' := by
  have he : ∀ w : World, (binOp .eql 47 (.slice (some ad) n cap) (.slice none 0 0)).run Tryz.prog w = .ok (.bool false) w := fun _ => rfl
  have HNE : Hid (n = zs.length) := hNe
  have HS : Hid (Src .u8 w (some ad) zs) := hS
  have hb0 : Below w.heap.size w (w.alloc (.cells #[] 5)) := (Below.refl _ _).alloc (Nat.le_refl _) _
  have HB0 : Hid (Below w.heap.size w (w.alloc (.cells #[] 5))) := hb0
  have HO : Hid (OwnI .u8 5 (w.alloc (.cells #[] 5)) w.heap.size (.slice (some ⟨w.heap.size, 0, none⟩) 0 0) []) := .inr ⟨w.heap.size, 0, [], rfl, Nat.le_refl _, St.new 5 w #[], rfl, by unfold maxLen; omega⟩
  clear hNe hS hb0
  go_enter Tryz.func77, Tryz.ntmps77
  go_wp2_with (first | (at_builtin; refine wpList_append_i (κ := .u8) 47 5 1 Tryz.underlying47 Tryz.info5 (by decide) rfl (.tmp 5) (.tmp 6) rfl w.heap.size (.slice (some ⟨w.heap.size, 0, none⟩) 0 0) [] rfl HO.out (some ad) n cap zs rfl HNE.out.symm (fun e => by cases e) (HS.out.below HB0.out) (by have := HNE.out; simp; omega) (by simp) ?_; intro v' w1 h1 h2 h3 h4))
  go_ret
  rw [List.nil_append] at h1
  exact ⟨v', rfl, h1, HB0.out.trans h4⟩
theorem ownI_base {w : World} {a b : Nat} {v : Value} {zs : List Int} (h : OwnI .u8 5 w a v zs) (hab : b ≤ a) : OwnI .u8 5 w b v zs := by
  rcases h with h | ⟨g, c, tl, h1, h2, h3⟩
  · exact .inl h
  · exact .inr ⟨g, c, tl, h1, by omega, h3⟩
theorem ownI_ge {w : World} {a j : Nat} {v : Value} {zs : List Int} (h : OwnI .u8 5 w a v zs) (e : v.ownBlock = some j) : a ≤ j := by
  rcases h with ⟨rfl, _⟩ | ⟨g, c, tl, rfl, h2, h3⟩
  · cases e
  · simp [Value.ownBlock] at e
    omega
/-- A use that came to a page: how. -/
def UseG (bits room s0 k1 k : Nat) (G : Gc) (q : Gf) (ft : List (Int × Int)) (H : Gc) (q1 : Gf) (ft1 : List (Int × Int)) (b : Nat) : Prop :=
  (kget G k = some b ∧ k1 = 0 ∧ q1 = q ∧ ft1 = ft ∧ ∃ lv L, L.Perm G.L ∧ H = gUse { G with n1 := G.n1 + 1 } b lv L) ∨
  (kget G k = none ∧ ∃ G1, RmG bits room k1 G q ft G1 q1 ft1 ∧ ∃ s G2 i lv L, s0 ≤ s ∧ s0 ≤ i ∧ KnG s { G1 with n2 := G1.n2 + 1 } k b G2 ∧ KnP s { G1 with n2 := G1.n2 + 1 } k b G2 ∧ L.Perm (b :: G1.L) ∧ H = gUse (gBring G2 b i (ldz q1 bits k)) b lv L)
/-- A use ends in one of three ways. -/
def UsW (S : ByteArray) (g bits room Q N : Nat) (G : Gc) (q : Gf) (ft : List (Int × Int)) (F : Nat → Prop) (w : World) (k a n : Int) (e : Ending) (w' : World) : Prop :=
  (((mayn bits k && withn bits a n) = false) ∧ (Kp (fun _ => False) w w') ∧ e = (.returned (.tuple #[.pointer none, .int .i64 2]))) ∨
  (∃ z : Int, ∃ k1 : Nat, ∃ G1 : Gc, ∃ q1 : Gf, ∃ ft1 : List (Int × Int), ∃ F1 : Nat → Prop, (mayn bits k = true) ∧ (withn bits a n = true) ∧ (kget G k.toNat = none) ∧ (z ≠ 0) ∧ (Out bits k1 ⟨G, q, ft⟩ z ⟨G1, q1, ft1⟩) ∧ (k1 + mu G1 ≤ mu G + 2) ∧ (Cv S g bits room Q (N + k1) G1 q1 ft1 F1 w') ∧ (Cch Q G G1 F F1 w w') ∧ e = (.returned (.tuple #[.pointer none, .int .i64 z]))) ∨
  (∃ k1 : Nat, ∃ b : Nat, ∃ H : Gc, ∃ q1 : Gf, ∃ ft1 : List (Int × Int), ∃ F1 : Nat → Prop, (mayn bits k = true) ∧ (withn bits a n = true) ∧ (UseG bits room w.heap.size k1 k.toNat G q ft H q1 ft1 b) ∧ (b ∈ H.L) ∧ (Cv S g bits room Q (N + k1) H q1 ft1 F1 w') ∧ (Cch Q G H F F1 w w') ∧ e = (.returned (.tuple #[ptr b, .int .i64 0])))
theorem UsW.bad {S : ByteArray} {g bits room Q N : Nat} {G : Gc} {q : Gf} {ft : List (Int × Int)} {F : Nat → Prop} {w : World} {k a n : Int} {w' : World} (h1 : (mayn bits k && withn bits a n) = false) (h2 : Kp (fun _ => False) w w') : UsW S g bits room Q N G q ft F w k a n (.returned (.tuple #[.pointer none, .int .i64 2])) w' :=
  .inl ⟨h1, h2, rfl⟩
theorem UsW.fail {S : ByteArray} {g bits room Q N : Nat} {G : Gc} {q : Gf} {ft : List (Int × Int)} {F : Nat → Prop} {w : World} {k a n : Int} {w' : World} {z : Int} {k1 : Nat} {G1 : Gc} {q1 : Gf} {ft1 : List (Int × Int)} {F1 : Nat → Prop} (h1 : mayn bits k = true) (h2 : withn bits a n = true) (h3 : kget G k.toNat = none) (h4 : z ≠ 0) (h5 : Out bits k1 ⟨G, q, ft⟩ z ⟨G1, q1, ft1⟩) (h6 : k1 + mu G1 ≤ mu G + 2) (h7 : Cv S g bits room Q (N + k1) G1 q1 ft1 F1 w') (h8 : Cch Q G G1 F F1 w w') : UsW S g bits room Q N G q ft F w k a n (.returned (.tuple #[.pointer none, .int .i64 z])) w' :=
  .inr (.inl ⟨z, k1, G1, q1, ft1, F1, h1, h2, h3, h4, h5, h6, h7, h8, rfl⟩)
theorem UsW.ok {S : ByteArray} {g bits room Q N : Nat} {G : Gc} {q : Gf} {ft : List (Int × Int)} {F : Nat → Prop} {w : World} {k a n : Int} {w' : World} {k1 : Nat} {b : Nat} {H : Gc} {q1 : Gf} {ft1 : List (Int × Int)} {F1 : Nat → Prop} (h1 : mayn bits k = true) (h2 : withn bits a n = true) (h3 : UseG bits room w.heap.size k1 k.toNat G q ft H q1 ft1 b) (h4 : b ∈ H.L) (h5 : Cv S g bits room Q (N + k1) H q1 ft1 F1 w') (h6 : Cch Q G H F F1 w w') : UsW S g bits room Q N G q ft F w k a n (.returned (.tuple #[ptr b, .int .i64 0])) w' :=
  .inr (.inr (⟨k1, b, H, q1, ft1, F1, h1, h2, h3, h4, h5, h6, rfl⟩))
theorem UsW.el {S : ByteArray} {g bits room Q N : Nat} {G : Gc} {q : Gf} {ft : List (Int × Int)} {F : Nat → Prop} {w : World} {k a n : Int} {motive : ∀ (e : Ending) (w' : World), UsW S g bits room Q N G q ft F w k a n e w' → Prop}
    (bad : ∀ {w' : World} (h1 : (mayn bits k && withn bits a n) = false) (h2 : Kp (fun _ => False) w w'), motive (.returned (.tuple #[.pointer none, .int .i64 2])) w' (UsW.bad h1 h2))
    (fail : ∀ {w' : World} {z : Int} {k1 : Nat} {G1 : Gc} {q1 : Gf} {ft1 : List (Int × Int)} {F1 : Nat → Prop} (h1 : mayn bits k = true) (h2 : withn bits a n = true) (h3 : kget G k.toNat = none) (h4 : z ≠ 0) (h5 : Out bits k1 ⟨G, q, ft⟩ z ⟨G1, q1, ft1⟩) (h6 : k1 + mu G1 ≤ mu G + 2) (h7 : Cv S g bits room Q (N + k1) G1 q1 ft1 F1 w') (h8 : Cch Q G G1 F F1 w w'), motive (.returned (.tuple #[.pointer none, .int .i64 z])) w' (UsW.fail h1 h2 h3 h4 h5 h6 h7 h8))
    (ok : ∀ {w' : World} {k1 : Nat} {b : Nat} {H : Gc} {q1 : Gf} {ft1 : List (Int × Int)} {F1 : Nat → Prop} (h1 : mayn bits k = true) (h2 : withn bits a n = true) (h3 : UseG bits room w.heap.size k1 k.toNat G q ft H q1 ft1 b) (h4 : b ∈ H.L) (h5 : Cv S g bits room Q (N + k1) H q1 ft1 F1 w') (h6 : Cch Q G H F F1 w w'), motive (.returned (.tuple #[ptr b, .int .i64 0])) w' (UsW.ok h1 h2 h3 h4 h5 h6))
    {e : Ending} {w' : World} (h : UsW S g bits room Q N G q ft F w k a n e w') : motive e w' h := by
  rcases h with ⟨h1, h2, rfl⟩ | ⟨z, k1, G1, q1, ft1, F1, h1, h2, h3, h4, h5, h6, h7, h8, rfl⟩ | ⟨k1, b, H, q1, ft1, F1, h1, h2, h3, h4, h5, h6, rfl⟩
  · exact bad h1 h2
  · exact fail h1 h2 h3 h4 h5 h6 h7 h8
  · exact ok h1 h2 h3 h4 h5 h6
section
variable {S : ByteArray} {g bits room Q N : Nat} {G : Gc} {q : Gf} {ft : List (Int × Int)} {F : Nat → Prop} {w : World}
theorem use_w (h : Cv S g bits room Q N G q ft F w) (k a n : Int) (ha : a ≤ 9223372036854775807) (ht : G.t < 1000000000000) (hN : N + mu G + 2 ≤ 9000) :
    Calls Tryz.prog 62 #[ptr Q, .int .i64 k, .int .i64 a, .int .i64 n] w (UsW S g bits room Q N G q ft F w k a n) := by
  refine (use_any h k a n ha ht hN).mono ?_
  intro e w' hu
  unfold UsP at hu
  split at hu
  · rename_i hb
    rw [Bool.and_eq_true] at hb
    split at hu
    · rename_i b hg
      obtain ⟨lv, L, rfl, hp, hv, hc⟩ := hu
      exact .ok hb.1 hb.2 (.inl ⟨hg, rfl, rfl, rfl, lv, L, hp, rfl⟩) (hp.mem_iff.2 (h.kget_some hg).1) hv hc
    · rename_i hg
      obtain ⟨z, k1, G1, q1, ft1, F1, ⟨hz, rfl, ho, hd, hv, hc⟩ | ⟨rfl, hr, s, b, G2, i, lv, L, hs, hkn, hkp, hL, hi, rfl, hv, hc⟩⟩ := hu
      · exact .fail hb.1 hb.2 hg hz ho hd hv hc
      · exact .ok hb.1 hb.2 (.inr ⟨hg, G1, hr, s, G2, i, lv, L, hs, hi, hkn, hkp, hL, rfl⟩) (hL.mem_iff.2 List.mem_cons_self) hv hc
  · rename_i hb
    obtain ⟨rfl, hk⟩ := hu
    exact .bad (by simpa using hb) hk
/-- Read. -/
def RdR (S : ByteArray) (g bits room Q N : Nat) (G : Gc) (q : Gf) (ft : List (Int × Int)) (F : Nat → Prop) (w : World) (k a n : Int) (e : Ending) (w' : World) : Prop :=
  (((mayn bits k && withn bits a n) = false) ∧ (Kp (fun _ => False) w w') ∧ e = (.returned (.tuple #[.slice none 0 0, .int .i64 2]))) ∨
  (∃ z : Int, ∃ k1 : Nat, ∃ G1 : Gc, ∃ q1 : Gf, ∃ ft1 : List (Int × Int), ∃ F1 : Nat → Prop, (mayn bits k = true) ∧ (withn bits a n = true) ∧ (kget G k.toNat = none) ∧ (z ≠ 0) ∧ (Out bits k1 ⟨G, q, ft⟩ z ⟨G1, q1, ft1⟩) ∧ (k1 + mu G1 ≤ mu G + 2) ∧ (Cv S g bits room Q (N + k1) G1 q1 ft1 F1 w') ∧ (Cch Q G G1 F F1 w w') ∧ e = (.returned (.tuple #[.slice none 0 0, .int .i64 z]))) ∨
  (∃ k1 : Nat, ∃ b : Nat, ∃ i : Nat, ∃ zs : List Int, ∃ v : Value, ∃ H : Gc, ∃ q1 : Gf, ∃ ft1 : List (Int × Int), ∃ F1 : Nat → Prop, (mayn bits k = true) ∧ (withn bits a n = true) ∧ (UseG bits room w.heap.size k1 k.toNat G q ft H q1 ft1 b) ∧ (b ∈ H.L) ∧ (H.y b = some (i, zs)) ∧ (OwnI .u8 5 w' w.heap.size v ((zs.drop a.toNat).take n.toNat)) ∧ ((∀ j, v.ownBlock = some j → ¬ Fc Q H j ∧ ¬ F1 j)) ∧ (Cv S g bits room Q (N + k1) H q1 ft1 F1 w') ∧ (Cch Q G H F F1 w w') ∧ e = (.returned (.tuple #[v, .int .i64 0])))
theorem RdR.bad {S : ByteArray} {g bits room Q N : Nat} {G : Gc} {q : Gf} {ft : List (Int × Int)} {F : Nat → Prop} {w : World} {k a n : Int} {w' : World} (h1 : (mayn bits k && withn bits a n) = false) (h2 : Kp (fun _ => False) w w') : RdR S g bits room Q N G q ft F w k a n (.returned (.tuple #[.slice none 0 0, .int .i64 2])) w' :=
  .inl ⟨h1, h2, rfl⟩
theorem RdR.fail {S : ByteArray} {g bits room Q N : Nat} {G : Gc} {q : Gf} {ft : List (Int × Int)} {F : Nat → Prop} {w : World} {k a n : Int} {w' : World} {z : Int} {k1 : Nat} {G1 : Gc} {q1 : Gf} {ft1 : List (Int × Int)} {F1 : Nat → Prop} (h1 : mayn bits k = true) (h2 : withn bits a n = true) (h3 : kget G k.toNat = none) (h4 : z ≠ 0) (h5 : Out bits k1 ⟨G, q, ft⟩ z ⟨G1, q1, ft1⟩) (h6 : k1 + mu G1 ≤ mu G + 2) (h7 : Cv S g bits room Q (N + k1) G1 q1 ft1 F1 w') (h8 : Cch Q G G1 F F1 w w') : RdR S g bits room Q N G q ft F w k a n (.returned (.tuple #[.slice none 0 0, .int .i64 z])) w' :=
  .inr (.inl ⟨z, k1, G1, q1, ft1, F1, h1, h2, h3, h4, h5, h6, h7, h8, rfl⟩)
theorem RdR.ok {S : ByteArray} {g bits room Q N : Nat} {G : Gc} {q : Gf} {ft : List (Int × Int)} {F : Nat → Prop} {w : World} {k a n : Int} {w' : World} {k1 : Nat} {b : Nat} {i : Nat} {zs : List Int} {v : Value} {H : Gc} {q1 : Gf} {ft1 : List (Int × Int)} {F1 : Nat → Prop} (h1 : mayn bits k = true) (h2 : withn bits a n = true) (h3 : UseG bits room w.heap.size k1 k.toNat G q ft H q1 ft1 b) (h4 : b ∈ H.L) (h5 : H.y b = some (i, zs)) (h6 : OwnI .u8 5 w' w.heap.size v ((zs.drop a.toNat).take n.toNat)) (h7 : (∀ j, v.ownBlock = some j → ¬ Fc Q H j ∧ ¬ F1 j)) (h8 : Cv S g bits room Q (N + k1) H q1 ft1 F1 w') (h9 : Cch Q G H F F1 w w') : RdR S g bits room Q N G q ft F w k a n (.returned (.tuple #[v, .int .i64 0])) w' :=
  .inr (.inr (⟨k1, b, i, zs, v, H, q1, ft1, F1, h1, h2, h3, h4, h5, h6, h7, h8, h9, rfl⟩))
theorem RdR.el {S : ByteArray} {g bits room Q N : Nat} {G : Gc} {q : Gf} {ft : List (Int × Int)} {F : Nat → Prop} {w : World} {k a n : Int} {motive : ∀ (e : Ending) (w' : World), RdR S g bits room Q N G q ft F w k a n e w' → Prop}
    (bad : ∀ {w' : World} (h1 : (mayn bits k && withn bits a n) = false) (h2 : Kp (fun _ => False) w w'), motive (.returned (.tuple #[.slice none 0 0, .int .i64 2])) w' (RdR.bad h1 h2))
    (fail : ∀ {w' : World} {z : Int} {k1 : Nat} {G1 : Gc} {q1 : Gf} {ft1 : List (Int × Int)} {F1 : Nat → Prop} (h1 : mayn bits k = true) (h2 : withn bits a n = true) (h3 : kget G k.toNat = none) (h4 : z ≠ 0) (h5 : Out bits k1 ⟨G, q, ft⟩ z ⟨G1, q1, ft1⟩) (h6 : k1 + mu G1 ≤ mu G + 2) (h7 : Cv S g bits room Q (N + k1) G1 q1 ft1 F1 w') (h8 : Cch Q G G1 F F1 w w'), motive (.returned (.tuple #[.slice none 0 0, .int .i64 z])) w' (RdR.fail h1 h2 h3 h4 h5 h6 h7 h8))
    (ok : ∀ {w' : World} {k1 : Nat} {b : Nat} {i : Nat} {zs : List Int} {v : Value} {H : Gc} {q1 : Gf} {ft1 : List (Int × Int)} {F1 : Nat → Prop} (h1 : mayn bits k = true) (h2 : withn bits a n = true) (h3 : UseG bits room w.heap.size k1 k.toNat G q ft H q1 ft1 b) (h4 : b ∈ H.L) (h5 : H.y b = some (i, zs)) (h6 : OwnI .u8 5 w' w.heap.size v ((zs.drop a.toNat).take n.toNat)) (h7 : (∀ j, v.ownBlock = some j → ¬ Fc Q H j ∧ ¬ F1 j)) (h8 : Cv S g bits room Q (N + k1) H q1 ft1 F1 w') (h9 : Cch Q G H F F1 w w'), motive (.returned (.tuple #[v, .int .i64 0])) w' (RdR.ok h1 h2 h3 h4 h5 h6 h7 h8 h9))
    {e : Ending} {w' : World} (h : RdR S g bits room Q N G q ft F w k a n e w') : motive e w' h := by
  rcases h with ⟨h1, h2, rfl⟩ | ⟨z, k1, G1, q1, ft1, F1, h1, h2, h3, h4, h5, h6, h7, h8, rfl⟩ | ⟨k1, b, i, zs, v, H, q1, ft1, F1, h1, h2, h3, h4, h5, h6, h7, h8, h9, rfl⟩
  · exact bad h1 h2
  · exact fail h1 h2 h3 h4 h5 h6 h7 h8
  · exact ok h1 h2 h3 h4 h5 h6 h7 h8 h9
set_option maxRecDepth 100000 in
set_option maxHeartbeats 8000000 in
theorem read_any (h : Cv S g bits room Q N G q ft F w) (k a n : Int) (ha : a ≤ 9223372036854775807) (ht : G.t < 1000000000000) (hN : N + mu G + 2 ≤ 9000) :
    Calls Tryz.prog 28 #[ptr Q, .int .i64 k, .int .i64 a, .int .i64 n] w (RdR S g bits room Q N G q ft F w k a n) := by
  have HU := hid (use_w h k a n ha ht hN)
  clear h
  unfold ptr at HU
  unfold ptr
  go_enter Tryz.func28, Tryz.ntmps28
  go_wp2_with fail
  refine HU.out.mono ?_
  intro e w1 hu
  cases hu using UsW.el with
  | bad h1 h2 =>
    have H1 := hid h1
    clear HU
    go_wp2_with fail
    go_ret2
    exact .bad H1.out h2
  | fail h1 h2 h3 hz h4 h5 h6 h7 =>
    rename_i z k1 G1 q1 ft1 F1
    have hz2 : decide (z = 0) = false := by simpa using hz
    have H1 := hid h1
    have H2 := hid h2
    have H3 := hid h3
    have H4 := hid h4
    have H5 := hid h5
    have H6 := hid h6
    have H7 := hid h7
    clear h1 h2 h3 h4 h5 h6 h7 HU
    go_wp2_with fail
    all_goals
      go_ret2
      exact .fail H1.out H2.out H3.out hz H4.out H5.out H6.out H7.out
  | ok h1 h2 h3 h4 h5 h6 =>
    rename_i k1 b H q1 ft1 F1
    have hB := h5.cm.lb b h4
    have hpg := h5.cm.pg b hB
    obtain ⟨i, zs, hy, hbv, hrw⟩ : ∃ i zs, H.y b = some (i, zs) ∧ (H.c b).bv = .slice (some ⟨i, 0, none⟩) zs.length zs.length ∧ Rw .u8 5 w1 i zs := by
      rcases hpg.ys.shape with ⟨e, _⟩ | ⟨i, zs, e, e2, e3⟩
      · exact absurd e ((h5.iv.lk b).1 h4).2
      · exact ⟨i, zs, e, e2, e3⟩
    obtain ⟨s, hs⟩ := hpg.wt
    have y1 := St.cell hs 1
    simp [Pc.cs] at y1
    rw [hbv] at y1
    have hzl := h5.yl b hB i zs hy
    have hp := pow_le bits h5.bb
    have hwn := h2
    unfold withn at hwn
    rw [Bool.and_eq_true, Bool.and_eq_true] at hwn
    have w1' := of_decide_eq_true hwn.1
    have w2' := of_decide_eq_true hwn.2.1
    have w3' := of_decide_eq_true hwn.2.2
    obtain ⟨a', rfl⟩ : ∃ a' : Nat, a = (a' : Int) := ⟨a.toNat, by omega⟩
    obtain ⟨n', rfl⟩ : ∃ n' : Nat, n = (n' : Int) := ⟨n.toNat, by omega⟩
    have hle : a' + n' ≤ zs.length := by omega
    have hzb : zs.length ≤ 65536 := by omega
    have HLN : Hid (n' = ((zs.drop a').take n').length) := by show _ = _; simp; omega
    have HN4 : Hid (n' ≤ 10000000000) := by show _ ≤ _; omega
    have HSR : Hid (Src .u8 w1 (some ⟨i, a', none⟩) ((zs.drop a').take n')) := Src.mk (fun j hj => by
      have hj2 : j < n' := by rw [HLN.out]; exact hj
      rw [hrw.cell (a' + j) (by omega)]
      congr 2
      simp [List.getD, List.getElem?_take, hj2, List.getElem?_drop])
    have HS0 : Hid (zs.length ≤ a' → Src .u8 w1 (some ⟨i, 0, none⟩) ((zs.drop a').take n')) := fun hz => Src.mk (fun j hj => by
      have := HLN.out
      omega)
    have H1 := hid h1
    have H2 := hid h2
    have H3 := hid h3
    have H4 := hid h4
    have H5 := hid h5
    have H6 := hid h6
    have HY := hid hy
    have HRW := hid hrw
    clear h1 h2 h3 h4 h5 h6 HU hpg hs hrw hy hwn w1' w2' w3' hbv hzl hp ha
    unfold ptr
    go_wp2_with fail
    · have hz : zs.length ≤ a' := by omega
      have hB := hid (bclone_any ((zs.drop a').take n') ⟨i, 0, none⟩ n' 0 w1 HLN.out HN4.out (HS0.out hz))
      refine hB.out.mono ?_
      rintro _ w2 ⟨v, rfl, ho, hbl⟩
      have k2 : Kp (fun _ => False) w1 w2 := Kp.of_below hbl
      have HO := hid ho
      have K2 := hid k2
      clear ho hbl k2
      go_wp2_with fail
      go_ret2
      have hv2 := H5.out.kp0 K2.out
      refine .ok H1.out H2.out H3.out H4.out HY.out (i := i) (zs := zs) (v := v) ?_ (fun j e => ?_) hv2 (H6.out.kp0 K2.out)
      · rw [Int.toNat_natCast, Int.toNat_natCast]
        exact ownI_base HO.out H6.out.kp.size
      · have hj := ownI_ge HO.out e
        exact ⟨fun x => by have := H5.out.cm.lt x; omega, fun x => by have := H5.out.sw.lt x; omega⟩
    · have hB := hid (bclone_any ((zs.drop a').take n') ⟨i, a', none⟩ n' (zs.length - a') w1 HLN.out HN4.out HSR.out)
      refine hB.out.mono ?_
      rintro _ w2 ⟨v, rfl, ho, hbl⟩
      have k2 : Kp (fun _ => False) w1 w2 := Kp.of_below hbl
      have HO := hid ho
      have K2 := hid k2
      clear ho hbl k2
      go_wp2_with fail
      go_ret2
      have hv2 := H5.out.kp0 K2.out
      refine .ok H1.out H2.out H3.out H4.out HY.out (i := i) (zs := zs) (v := v) ?_ (fun j e => ?_) hv2 (H6.out.kp0 K2.out)
      · rw [Int.toNat_natCast, Int.toNat_natCast]
        exact ownI_base HO.out H6.out.kp.size
      · have hj := ownI_ge HO.out e
        exact ⟨fun x => by have := H5.out.cm.lt x; omega, fun x => by have := H5.out.sw.lt x; omega⟩
end
end Go.Proofs.YtnccklbnncaeoaaGreat
