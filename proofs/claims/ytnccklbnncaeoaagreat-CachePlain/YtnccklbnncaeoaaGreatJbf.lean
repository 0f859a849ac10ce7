import Derived.Test.YtnccklbnncaeoaaGreatJbe
/- cache: within; what a use leaves. -/
namespace Go.Proofs.YtnccklbnncaeoaaGreat
open Go.RowKit
set_option linter.unusedVariables false
set_option linter.unusedSimpArgs false
def withn (bits : Nat) (a n : Int) : Bool := decide (0 ≤ a) && (decide (0 ≤ n) && decide (n ≤ ((2 ^ bits : Nat) : Int) - a))
set_option maxHeartbeats 4000000 in
theorem within_any (w : World) (Q bits : Nat) (a n : Int) (hb : 9 ≤ bits ∧ bits ≤ 16) (ha : a ≤ 9223372036854775807) (h : w.cell? ⟨Q, 2, none⟩ = some (.int .i64 bits)) :
    Calls Tryz.prog 108 #[ptr Q, .int .i64 a, .int .i64 n] w fun e w' => e = .returned (.bool (withn bits a n)) ∧ w' = w := by
  have hp := pow_le bits hb
  have hmin : min bits 64 = bits := Nat.min_eq_left (by omega)
  have hsh : wrap64 ((2 : Int) ^ bits) = ((2 ^ bits : Nat) : Int) := by
    rw [show ((2 : Int) ^ bits) = ((2 ^ bits : Nat) : Int) by simp]
    unfold wrap64
    omega
  unfold withn
  obtain ⟨m, hm⟩ : ∃ m, 2 ^ bits = m := ⟨_, rfl⟩
  rw [hm] at hp hsh ⊢
  have HP := hid hp
  clear hp
  unfold ptr
  by_cases h0 : 0 ≤ a
  · have hsub : wrap64 ((m : Int) - a) = (m : Int) - a := by unfold wrap64; have := HP.out; omega
    have d0 : decide (0 ≤ a) = true := by simpa using h0
    rw [d0, Bool.true_and]
    by_cases h1 : 0 ≤ n
    · have d1 : decide (0 ≤ n) = true := by simpa using h1
      rw [d1, Bool.true_and]
      go_enter Tryz.func108, Tryz.ntmps108
      go_wp2_with fail
      go_ret
      refine ⟨?_, rfl⟩
      simp [hsub, hsh]
    · have d1 : decide (0 ≤ n) = false := by simpa using h1
      rw [d1, Bool.false_and]
      go_enter Tryz.func108, Tryz.ntmps108
      go_wp2_with fail
      go_ret
      exact ⟨rfl, rfl⟩
  · have d0 : decide (0 ≤ a) = false := by simpa using h0
    rw [d0, Bool.false_and]
    go_enter Tryz.func108, Tryz.ntmps108
    go_wp2_with fail
    go_ret
    exact ⟨rfl, rfl⟩
/-- A page was used. -/
def gUse (G : Gc) (b : Nat) (lv : Value) (L : List Nat) : Gc := { G with t := G.t + 1, c := upd G.c b { G.c b with tk := G.t + 1 }, lv := lv, L := L }
section
variable {S : ByteArray} {g bits room Q N : Nat} {G : Gc} {q : Gf} {ft : List (Int × Int)} {F : Nat → Prop} {w : World}
theorem use_c (G : Gc) (b t a : Nat) : (upd G.c b { G.c b with tk := t } a).n = (G.c a).n ∧ (upd G.c b { G.c b with tk := t } a).di = (G.c a).di ∧ (upd G.c b { G.c b with tk := t } a).pe = (G.c a).pe ∧ (upd G.c b { G.c b with tk := t } a).bv = (G.c a).bv ∧ (upd G.c b { G.c b with tk := t } a).wm = (G.c a).wm ∧ (upd G.c b { G.c b with tk := t } a).rm = (G.c a).rm ∧ (upd G.c b { G.c b with tk := t } a).tk = if a = b then t else (G.c a).tk := by
  unfold upd
  split
  · rename_i e; rw [e]; exact ⟨rfl, rfl, rfl, rfl, rfl, rfl, rfl⟩
  · exact ⟨rfl, rfl, rfl, rfl, rfl, rfl, rfl⟩
theorem use_cv {w' : World} {b : Nat} {lv : Value} {L : List Nat} (h : Cb S g bits room Q N G q ft F w) (hL : L.Perm G.L) (hh : Hpd (gUse G b lv L).c L) (hc : Cm S g bits room Q (gUse G b lv L) w') (hk : Kp (Fc Q G) w w') (hfc : ∀ j, Fc Q (gUse G b lv L) j → Fc Q G j ∨ w.heap.size ≤ j) : Cv S g bits room Q N (gUse G b lv L) q ft F w' ∧ Cch Q G (gUse G b lv L) F F w w' := by
  have hcc := use_c G b (G.t + 1)
  refine ⟨⟨hc, h.sw.kp hk (fun j hj hf => h.ap j hf hj), fun j hj hf => ?_, ⟨h.iv.wk, h.iv.wr, h.iv.rk, h.iv.kb, fun a => ?_, fun a ha => h.iv.ll a (hL.mem_iff.1 ha), fun a ha he => h.iv.pk a ha (by rw [← (hcc a).2.2.1]; exact he), fun a ha hd => hL.mem_iff.2 (h.iv.dk a ha (by rw [← (hcc a).2.1]; exact hd)), hh⟩, fun x a ha => ?_, fun a ha => ?_, h.pn, h.nn, ?_, fun a ha => ?_, fun a ha => ?_, h.yl, ?_, h.bb, h.rr⟩, hk.mono (fun j _ e => .inl e), hfc, fun j hj => .inl hj⟩
  · rcases hfc j hj with e | e
    · exact h.ap j e hf
    · have := h.sw.lt hf; omega
  · show a ∈ L ↔ _
    rw [hL.mem_iff]; exact h.iv.lk a
  · show (upd G.c b { G.c b with tk := G.t + 1 } a).di = true ∨ (upd G.c b { G.c b with tk := G.t + 1 } a).pe = true
    rw [(hcc a).2.1, (hcc a).2.2.1]
    exact h.op x a ha
  · show (upd G.c b { G.c b with tk := G.t + 1 } a).pe = true
    rw [(hcc a).2.2.1]
    exact h.pp a ha
  · exact h.tt
  · show (upd G.c b { G.c b with tk := G.t + 1 } a).tk ≤ G.t + 1
    rw [(hcc a).2.2.2.2.2.2]
    have := h.tk a ha
    split <;> omega
  · show (upd G.c b { G.c b with tk := G.t + 1 } a).n < _
    rw [(hcc a).1]
    exact h.nb a ha
  · show L.length ≤ room
    rw [hL.length_eq]; exact h.lr
/-- The ticket is drawn, in memory. -/
theorem tick_cm (h : Cm S g bits room Q G w) {b : Nat} (hb : b ∈ G.B) (ht : G.t + 1 < 4611686018427387904) :
    Cm S g bits room Q { G with t := G.t + 1, c := upd G.c b { G.c b with tk := G.t + 1 } } ((w.setCell ⟨Q, 7, none⟩ (.int .i64 ((G.t : Int) + 1))).setCell ⟨b, 4, none⟩ (.int .i64 ((G.t : Int) + 1))) ∧ Kp (fun i => i = Q ∨ i = b) w ((w.setCell ⟨Q, 7, none⟩ (.int .i64 ((G.t : Int) + 1))).setCell ⟨b, 4, none⟩ (.int .i64 ((G.t : Int) + 1))) ∧ (w.setCell ⟨Q, 7, none⟩ (.int .i64 ((G.t : Int) + 1))).cell? ⟨b, 4, none⟩ = some (.int .i64 (G.c b).tk) ∧ (w.setCell ⟨Q, 7, none⟩ (.int .i64 ((G.t : Int) + 1))).frozen? ⟨b, 4, none⟩ = false ∧ (w.setCell ⟨Q, 7, none⟩ (.int .i64 ((G.t : Int) + 1))).cell? ⟨Q, 7, none⟩ = some (.int .i64 ((G.t : Int) + 1)) := by
  have k1 : Kp (fun i => i = Q) w (w.setCell ⟨Q, 7, none⟩ (.int .i64 ((G.t : Int) + 1))) := kp_setCell w Q 7 _ (fun i => i = Q) rfl
  have h1 : Cm S g bits room Q { G with t := G.t + 1 } (w.setCell ⟨Q, 7, none⟩ (.int .i64 ((G.t : Int) + 1))) := by
    refine Cm.nums h (w' := w.setCell ⟨Q, 7, none⟩ (.int .i64 ((G.t : Int) + 1))) ?_ k1
    have h2 := St.set h.st 7 (.int .i64 ((G.t : Int) + 1))
    simpa [ptr] using h2
  generalize w.setCell ⟨Q, 7, none⟩ (.int .i64 ((G.t : Int) + 1)) = W at h1 k1 ⊢
  have k2 : Kp (fun i => i = b) W (W.setCell ⟨b, 4, none⟩ (.int .i64 ((G.t : Int) + 1))) := kp_setCell W b 4 _ (fun i => i = b) rfl
  obtain ⟨s1, hs1⟩ := (h1.pg b hb).wt
  refine ⟨?_, (k1.mono (fun _ _ e => .inl e)).trans k2 (fun _ _ e => .inr e), by have := St.cell hs1 4; simpa [Pc.cs] using this, St.frozen hs1 4, by have := h1.st.cell 7; simpa using this⟩
  have h3 := Cm.page h1 (b := b) hb (p := { G.c b with tk := G.t + 1 }) (y := G.y b) (w' := W.setCell ⟨b, 4, none⟩ (.int .i64 ((G.t : Int) + 1))) (fun s hs => by
      have h2 : St 142 (W.setCell ⟨b, 4, none⟩ (.int .i64 ((G.t : Int) + 1))) b (((G.c b).cs s).set! 4 (.int .i64 ((G.t : Int) + 1))) := St.set hs 4 _
      simpa [Pc.cs] using h2) k2 rfl rfl rfl (fun _ => ht) ((h1.pg b hb).ys.kp k2 (fun i zs e => tag_ne (h1.yt hb e) (h1.pt hb) (by decide))) (fun i zs e a ha hab zs' e' => hab (h.yi a ha b hb i zs' zs e' e))
  have e : upd G.y b (G.y b) = G.y := upd_self _ _
  have h4 : Cm S g bits room Q { { G with t := G.t + 1 } with c := upd G.c b { G.c b with tk := G.t + 1 }, y := G.y } (W.setCell ⟨b, 4, none⟩ (.int .i64 ((G.t : Int) + 1))) := by
    rw [← e]; exact h3
  exact h4
end
end Go.Proofs.YtnccklbnncaeoaaGreat
/- cache: use. -/
namespace Go.Proofs.YtnccklbnncaeoaaGreat
open Go.RowKit
set_option linter.unusedVariables false
set_option linter.unusedSimpArgs false
section
variable {S : ByteArray} {g bits room Q N : Nat} {G : Gc} {q : Gf} {ft : List (Int × Int)} {F : Nat → Prop} {w : World}
/-- The line's end of a use. -/
theorem tail_any (h : Cb S g bits room Q N G q ft F w) (b : Nat) (hb : b ∈ G.L) (t0 kl0 tk0 : Nat) (e1 : G.t = t0) (e2 : G.kl = kl0) (e3 : (G.c b).tk = tk0) (ht : t0 + 1 < 4611686018427387904) :
    w.cell? ⟨Q, 7, none⟩ = some (.int .i64 t0) ∧ w.frozen? ⟨Q, 7, none⟩ = false ∧ (w.setCell ⟨Q, 7, none⟩ (.int .i64 ((t0 : Int) + 1))).cell? ⟨Q, 7, none⟩ = some (.int .i64 ((t0 : Int) + 1)) ∧ (w.setCell ⟨Q, 7, none⟩ (.int .i64 ((t0 : Int) + 1))).cell? ⟨b, 4, none⟩ = some (.int .i64 tk0) ∧ (w.setCell ⟨Q, 7, none⟩ (.int .i64 ((t0 : Int) + 1))).frozen? ⟨b, 4, none⟩ = false ∧
    ((w.setCell ⟨Q, 7, none⟩ (.int .i64 ((t0 : Int) + 1))).setCell ⟨b, 4, none⟩ (.int .i64 ((t0 : Int) + 1))).cell? ⟨Q, 5, none⟩ = some (ptr kl0) ∧
    Calls Tryz.prog 63 #[ptr kl0, ptr b] ((w.setCell ⟨Q, 7, none⟩ (.int .i64 ((t0 : Int) + 1))).setCell ⟨b, 4, none⟩ (.int .i64 ((t0 : Int) + 1))) fun e w' => e = .returned (.tuple #[]) ∧ ∃ lv L, L.Perm G.L ∧ Cv S g bits room Q N (gUse G b lv L) q ft F w' ∧ Cch Q G (gUse G b lv L) F F w w' := by
  subst e1 e2 e3
  have hB := h.cm.lb b hb
  obtain ⟨c1, k1, y4, f4, z7⟩ := tick_cm h.cm hB ht
  refine ⟨by have := h.cm.st.cell 7; simpa using this, h.cm.st.frozen 7, z7, y4, f4, by have z5 := c1.st.cell 5; simpa using z5, ?_⟩
  clear y4 f4 z7
  have hfw : ∀ j, Fc Q { G with t := G.t + 1, c := upd G.c b { G.c b with tk := G.t + 1 } } j → Fc Q G j := fun j hj =>
    fc_same (H := { G with t := G.t + 1, c := upd G.c b { G.c b with tk := G.t + 1 } }) (G := G) rfl rfl rfl rfl rfl (fun a _ => ⟨(use_c G b (G.t + 1) a).2.2.2.2.1, (use_c G b (G.t + 1) a).2.2.2.2.2.1⟩) (fun a _ i zs e => ⟨zs, e⟩) j hj
  generalize (w.setCell ⟨Q, 7, none⟩ (.int .i64 ((G.t : Int) + 1))).setCell ⟨b, 4, none⟩ (.int .i64 ((G.t : Int) + 1)) = W at c1 k1 ⊢
  have hrr := h.rr
  have hlr := h.lr
  refine (moved_any c1 b hb G.c h.iv.hp (fun a ha => upd_other _ _ ha) (by show G.L.length < _; omega)).mono ?_
  rintro e w' ⟨rfl, lv, L, hp, hh, hc, hk, hfc⟩
  have hsz := k1.size
  have hk2 : Kp (Fc Q G) w w' := (k1.mono (G := Fc Q G) (fun j _ e => by
    rcases e with e | e
    · exact .inl e
    · exact .inr (.inr (.inr (.inr (.inr ⟨b, hB, .inl e⟩)))))).trans hk (fun j _ e => hfw j e)
  obtain ⟨cv, ch⟩ := use_cv h hp hh hc hk2 (fun j hj => by
    rcases hfc j hj with e | e
    · exact .inl (hfw j e)
    · exact .inr (by omega))
  exact ⟨rfl, lv, L, hp, cv, ch⟩
/-- What a use leaves. -/
def UsP (S : ByteArray) (g bits room Q N : Nat) (G : Gc) (q : Gf) (ft : List (Int × Int)) (F : Nat → Prop) (w : World) (k a n : Int) (e : Ending) (w' : World) : Prop :=
  if mayn bits k && withn bits a n then
    match kget G k.toNat with
    | some b => ∃ lv L, e = .returned (.tuple #[ptr b, .int .i64 0]) ∧ L.Perm G.L ∧ Cv S g bits room Q N (gUse { G with n1 := G.n1 + 1 } b lv L) q ft F w' ∧ Cch Q G (gUse { G with n1 := G.n1 + 1 } b lv L) F F w w'
    | none => ∃ z k1 G1 q1 ft1 F1,
        (z ≠ 0 ∧ e = .returned (.tuple #[.pointer none, .int .i64 z]) ∧ Out bits k1 ⟨G, q, ft⟩ z ⟨G1, q1, ft1⟩ ∧ k1 + mu G1 ≤ mu G + 2 ∧ Cv S g bits room Q (N + k1) G1 q1 ft1 F1 w' ∧ Cch Q G G1 F F1 w w') ∨
        (z = 0 ∧ RmG bits room k1 G q ft G1 q1 ft1 ∧ ∃ s b G2 i lv L, w.heap.size ≤ s ∧ KnG s { G1 with n2 := G1.n2 + 1 } k.toNat b G2 ∧ KnP s { G1 with n2 := G1.n2 + 1 } k.toNat b G2 ∧ L.Perm (b :: G1.L) ∧ w.heap.size ≤ i ∧ e = .returned (.tuple #[ptr b, .int .i64 0]) ∧
          Cv S g bits room Q (N + k1) (gUse (gBring G2 b i (ldz q1 bits k.toNat)) b lv L) q1 ft1 F1 w' ∧ Cch Q G (gUse (gBring G2 b i (ldz q1 bits k.toNat)) b lv L) F F1 w w')
  else e = .returned (.tuple #[.pointer none, .int .i64 2]) ∧ Kp (fun _ => False) w w'
theorem may_lt (k bits : Nat) (hb : 9 ≤ bits ∧ bits ≤ 16) (hm : mayn bits k = true) : k < 268435456 / 2 ^ bits := by
  unfold mayn at hm
  rw [Bool.and_eq_true] at hm
  have := of_decide_eq_true hm.2
  omega
set_option maxRecDepth 100000 in
set_option maxHeartbeats 8000000 in
theorem use_bad (h : Cv S g bits room Q N G q ft F w) (k a n : Int) (ha : a ≤ 9223372036854775807) (hb : (mayn bits k && withn bits a n) = false) :
    Calls Tryz.prog 62 #[ptr Q, .int .i64 k, .int .i64 a, .int .i64 n] w fun e w' => e = .returned (.tuple #[.pointer none, .int .i64 2]) ∧ w' = w := by
  have HN := hid h.live
  have HM := hid (h.maya k)
  have HI : Hid (Calls Tryz.prog 108 #[ptr Q, .int .i64 a, .int .i64 n] w fun e w' => e = .returned (.bool (withn bits a n)) ∧ w' = w) := within_any w Q bits a n h.bb ha (by have := h.cm.st.cell 2; simpa using this)
  clear h
  cases hm : mayn bits k with
  | false =>
    rw [hm] at HM
    unfold ptr at *
    go_enter Tryz.func62, Tryz.ntmps62
    go_wp2_with (first | (go_at_call 64; refine HN.out.mono ?_; rintro e w' ⟨rfl, h⟩; replace h := h.symm; subst h) | (go_at_call 65; refine HM.out.mono ?_; rintro e w' ⟨rfl, h⟩; replace h := h.symm; subst h))
    go_ret2
    exact ⟨rfl, rfl⟩
  | true =>
    rw [hm, Bool.true_and] at hb
    rw [hm] at HM
    rw [hb] at HI
    unfold ptr at *
    go_enter Tryz.func62, Tryz.ntmps62
    go_wp2_with (first | (go_at_call 64; refine HN.out.mono ?_; rintro e w' ⟨rfl, h⟩; replace h := h.symm; subst h) | (go_at_call 65; refine HM.out.mono ?_; rintro e w' ⟨rfl, h⟩; replace h := h.symm; subst h) | (go_at_call 108; refine HI.out.mono ?_; rintro e w' ⟨rfl, h⟩; replace h := h.symm; subst h))
    go_ret2
    exact ⟨rfl, rfl⟩
set_option maxRecDepth 100000 in
set_option maxHeartbeats 8000000 in
theorem use_hit (h : Cv S g bits room Q N G q ft F w) (k : Nat) (a n : Int) (ha : a ≤ 9223372036854775807) (hm : mayn bits k = true) (hw : withn bits a n = true) (b : Nat) (hg : kget G k = some b) (ht : G.t < 1000000000000) :
    Calls Tryz.prog 62 #[ptr Q, .int .i64 k, .int .i64 a, .int .i64 n] w fun e w' => ∃ lv L, e = .returned (.tuple #[ptr b, .int .i64 0]) ∧ L.Perm G.L ∧ Cv S g bits room Q N (gUse { G with n1 := G.n1 + 1 } b lv L) q ft F w' ∧ Cch Q G (gUse { G with n1 := G.n1 + 1 } b lv L) F F w w' := by
  have HN := hid h.live
  have HM := hid (h.maya k)
  have HI : Hid (Calls Tryz.prog 108 #[ptr Q, .int .i64 a, .int .i64 n] w fun e w' => e = .returned (.bool (withn bits a n)) ∧ w' = w) := within_any w Q bits a n h.bb ha (by have := h.cm.st.cell 2; simpa using this)
  rw [hm] at HM
  rw [hw] at HI
  have HS : Hid (∀ m, Calls Tryz.prog 30 #[ptr g, .string S] (w.drewN m) fun e w' => e = .returned (.tuple #[.int .i64 q.sz, .int .i64 0]) ∧ w' = w.drewN m) := fun m => size_w (h.sw.kp0 (drewN_kp _ _ _))
  have HF : Hid (∀ m, Calls Tryz.prog 70 #[ptr Q, .int .i64 k] (w.drewN m) fun e w' => e = .returned (.tuple #[ptr b, .int .i64 0]) ∧ w' = w.drewN m) := fun m => by
    have := find_any (h.kp0 (drewN_kp _ _ m)) k hm
    rw [hg] at this
    exact this
  obtain ⟨hbL, hbB, _, _⟩ := h.kget_some hg
  have z0 := h.cm.st.cell 0
  have z1 := h.cm.st.cell 1
  simp at z0 z1
  have HH := hid h
  clear h
  unfold ptr at HN HM HI HS HF z0
  unfold ptr
  go_enter Tryz.func62, Tryz.ntmps62
  go_wp2_with (first | (go_at_call 64; refine HN.out.mono ?_; rintro e w' ⟨rfl, h⟩; replace h := h.symm; subst h) | (go_at_call 65; refine HM.out.mono ?_; rintro e w' ⟨rfl, h⟩; replace h := h.symm; subst h) | (go_at_call 108; refine HI.out.mono ?_; rintro e w' ⟨rfl, h⟩; replace h := h.symm; subst h))
  go_quiet (first | (go_at_call 30; refine Calls.quiet_of_same (HS.out _)))
  have h1 := HH.out.kp0 (drewN_kp (fun _ => False) w nq)
  have K1 : Hid (Kp (fun _ => False) w (w.drewN nq)) := drewN_kp _ _ _
  have hF := hid (HF.out nq)
  clear HN HM HI HS HF z0 z1
  generalize w.drewN nq = w1 at h1 K1 hF ⊢
  have z8 := h1.cm.st.cell 8
  have f8 := h1.cm.st.frozen 8
  simp at z8
  have htt := h1.tt
  have hn1 : G.n1 < 1000000000000 := by omega
  have k2 : Kp (fun i => i = Q) w1 (w1.setCell ⟨Q, 8, none⟩ (.int .i64 ((G.n1 : Int) + 1))) := kp_setCell w1 Q 8 _ (fun i => i = Q) rfl
  have c2 : Cm S g bits room Q { G with n1 := G.n1 + 1 } (w1.setCell ⟨Q, 8, none⟩ (.int .i64 ((G.n1 : Int) + 1))) := by
    refine Cm.nums h1.cm (w' := w1.setCell ⟨Q, 8, none⟩ (.int .i64 ((G.n1 : Int) + 1))) ?_ k2
    have h2 := St.set h1.cm.st 8 (.int .i64 ((G.n1 : Int) + 1))
    simpa [ptr] using h2
  have cb : Cb S g bits room Q N { G with n1 := G.n1 + 1 } q ft F (w1.setCell ⟨Q, 8, none⟩ (.int .i64 ((G.n1 : Int) + 1))) :=
    ⟨c2, h1.sw.kp k2 (fun j hj e => h1.ap j (.inl e) hj), h1.ap, ⟨h1.iv.wk, h1.iv.wr, h1.iv.rk, h1.iv.kb, h1.iv.lk, h1.iv.ll, h1.iv.pk, h1.iv.dk, h1.iv.hp⟩, h1.op, h1.pp, h1.pn, h1.nn, by show G.n1 + 1 + G.n2 = G.t + 1; omega, h1.tk, h1.nb, h1.yl, h1.lr, h1.bb, h1.rr⟩
  obtain ⟨z7, f7, z72, y4, f4, z5, ht63⟩ := tail_any cb b hbL G.t G.kl (G.c b).tk rfl rfl rfl (by omega)
  have HT := hid ht63
  have HC2 : Hid (Cch Q G { G with n1 := G.n1 + 1 } F F w (w1.setCell ⟨Q, 8, none⟩ (.int .i64 ((G.n1 : Int) + 1)))) := Cch.pre K1.out ⟨k2.mono (fun _ _ e => .inl (.inl e)), fun _ e => .inl e, fun _ e => .inl e⟩
  have htb : G.t < 1000000000000 := ht
  clear h1 htt c2 k2 cb ht63
  unfold ptr at z5 HT
  go_wp2_with (first | (go_at_call 70; refine hF.out.mono ?_; rintro e w' ⟨rfl, h⟩; replace h := h.symm; subst h))
  refine HT.out.mono ?_
  rintro _ w6 ⟨rfl, lv, L, hp, hv, hc⟩
  go_wp2_with fail
  go_ret2
  exact ⟨lv, L, rfl, hp, hv, HC2.out.trans hc⟩
set_option maxRecDepth 100000 in
set_option maxHeartbeats 8000000 in
theorem use_miss (h : Cv S g bits room Q N G q ft F w) (k : Nat) (a n : Int) (ha : a ≤ 9223372036854775807) (hm : mayn bits k = true) (hw : withn bits a n = true) (hg : kget G k = none) (ht : G.t < 1000000000000) (hN : N + mu G + 2 ≤ 9000) :
    Calls Tryz.prog 62 #[ptr Q, .int .i64 k, .int .i64 a, .int .i64 n] w fun e w' => ∃ z k1 G1 q1 ft1 F1,
        (z ≠ 0 ∧ e = .returned (.tuple #[.pointer none, .int .i64 z]) ∧ Out bits k1 ⟨G, q, ft⟩ z ⟨G1, q1, ft1⟩ ∧ k1 + mu G1 ≤ mu G + 2 ∧ Cv S g bits room Q (N + k1) G1 q1 ft1 F1 w' ∧ Cch Q G G1 F F1 w w') ∨
        (z = 0 ∧ RmG bits room k1 G q ft G1 q1 ft1 ∧ ∃ s b G2 i lv L, w.heap.size ≤ s ∧ KnG s { G1 with n2 := G1.n2 + 1 } k b G2 ∧ KnP s { G1 with n2 := G1.n2 + 1 } k b G2 ∧ L.Perm (b :: G1.L) ∧ w.heap.size ≤ i ∧ e = .returned (.tuple #[ptr b, .int .i64 0]) ∧
          Cv S g bits room Q (N + k1) (gUse (gBring G2 b i (ldz q1 bits k)) b lv L) q1 ft1 F1 w' ∧ Cch Q G (gUse (gBring G2 b i (ldz q1 bits k)) b lv L) F F1 w w') := by
  have HN := hid h.live
  have HM := hid (h.maya k)
  have HI : Hid (Calls Tryz.prog 108 #[ptr Q, .int .i64 a, .int .i64 n] w fun e w' => e = .returned (.bool (withn bits a n)) ∧ w' = w) := within_any w Q bits a n h.bb ha (by have := h.cm.st.cell 2; simpa using this)
  have hkb : k < 268435456 / 2 ^ bits := may_lt k bits h.bb hm
  rw [hm] at HM
  rw [hw] at HI
  have HS : Hid (∀ m, Calls Tryz.prog 30 #[ptr g, .string S] (w.drewN m) fun e w' => e = .returned (.tuple #[.int .i64 q.sz, .int .i64 0]) ∧ w' = w.drewN m) := fun m => size_w (h.sw.kp0 (drewN_kp _ _ _))
  have HF : Hid (∀ m, Calls Tryz.prog 70 #[ptr Q, .int .i64 k] (w.drewN m) fun e w' => e = .returned (.tuple #[.pointer none, .int .i64 7]) ∧ w' = w.drewN m) := fun m => by
    have := find_any (h.kp0 (drewN_kp _ _ m)) k hm
    rw [hg] at this
    exact this
  have z0 := h.cm.st.cell 0
  have z1 := h.cm.st.cell 1
  simp at z0 z1
  have HH := hid h
  clear h
  unfold ptr at HN HM HI HS HF z0
  unfold ptr
  go_enter Tryz.func62, Tryz.ntmps62
  go_wp2_with (first | (go_at_call 64; refine HN.out.mono ?_; rintro e w' ⟨rfl, h⟩; replace h := h.symm; subst h) | (go_at_call 65; refine HM.out.mono ?_; rintro e w' ⟨rfl, h⟩; replace h := h.symm; subst h) | (go_at_call 108; refine HI.out.mono ?_; rintro e w' ⟨rfl, h⟩; replace h := h.symm; subst h))
  go_quiet (first | (go_at_call 30; refine Calls.quiet_of_same (HS.out _)))
  have h1 := HH.out.kp0 (drewN_kp (fun _ => False) w nq)
  have K1 : Hid (Kp (fun _ => False) w (w.drewN nq)) := drewN_kp _ _ _
  have hF := hid (HF.out nq)
  clear HN HM HI HS HF z0 z1
  generalize w.drewN nq = w1 at h1 K1 hF ⊢
  have HB := hid (bringin_any h1 k hkb hg hN ht)
  clear h1
  unfold ptr at HB
  go_wp2_with (first | (go_at_call 70; refine hF.out.mono ?_; rintro e w' ⟨rfl, h⟩; replace h := h.symm; subst h))
  refine HB.out.mono ?_
  rintro _ w2 ⟨z, k1, G1, q1, ft1, F1, ⟨hz, rfl, ho, hd, hv, hc⟩ | ⟨rfl, hr, s, b, G2, i, lv, L, hs, hkn, hkp, hL, hi, rfl, hcb, hc⟩⟩
  · have hz2 : decide (z = 0) = false := by simpa using hz
    have HO := hid ho
    have HD := hid hd
    have HV := hid hv
    have HC := hid (Cch.pre K1.out hc)
    clear ho hd hv hc HB
    go_wp2_with fail
    all_goals
      go_ret2
      exact ⟨z, k1, G1, q1, ft1, F1, .inl ⟨hz, rfl, HO.out, HD.out, HV.out, HC.out⟩⟩
  · have hbL : b ∈ L := hL.mem_iff.2 List.mem_cons_self
    have htG : G2.t < 1000000000000 := by
      have e := hkp.t
      change G2.t = G1.t at e
      rw [e, hr.t]; exact ht
    have hc2 := Cch.pre K1.out hc
    obtain ⟨z7, f7, z72, y4, f4, z5, ht63⟩ := tail_any hcb b hbL G2.t G2.kl _ rfl rfl rfl (by omega)
    have HT := hid ht63
    have HC2 := hid hc2
    have HR := hid hr
    have HKN := hid hkn
    have HKP := hid hkp
    have HPL := hid hL
    have hsz := K1.out.size
    clear hr hkn hkp hL hcb hc ht63 hc2 HB
    unfold ptr at z5 HT
    unfold ptr at *
    go_wp2_with fail
    refine HT.out.mono ?_
    rintro _ w6 ⟨rfl, lv', L', hp, hv, hc'⟩
    go_wp2_with fail
    go_ret2
    exact ⟨0, k1, G1, q1, ft1, F1, .inr ⟨rfl, HR.out, s, b, G2, i, lv', L', by omega, HKN.out, HKP.out, hp.trans HPL.out, by omega, rfl, hv, HC2.out.trans hc'⟩⟩
theorem use_any (h : Cv S g bits room Q N G q ft F w) (k a n : Int) (ha : a ≤ 9223372036854775807) (ht : G.t < 1000000000000) (hN : N + mu G + 2 ≤ 9000) :
    Calls Tryz.prog 62 #[ptr Q, .int .i64 k, .int .i64 a, .int .i64 n] w (UsP S g bits room Q N G q ft F w k a n) := by
  unfold UsP
  by_cases hb : (mayn bits k && withn bits a n) = true
  · simp only [if_pos hb]
    rw [Bool.and_eq_true] at hb
    obtain ⟨hm, hw⟩ := hb
    obtain ⟨m, rfl⟩ : ∃ m : Nat, k = (m : Int) := by
      unfold mayn at hm
      simp at hm
      exact ⟨k.toNat, by omega⟩
    rw [Int.toNat_natCast]
    cases hg : kget G m with
    | none => exact use_miss h m a n ha hm hw hg ht hN
    | some b => exact use_hit h m a n ha hm hw b hg ht
  · simp only [if_neg hb]
    refine (use_bad h k a n ha (by simpa using hb)).mono ?_
    rintro e w' ⟨rfl, rfl⟩
    exact ⟨rfl, Kp.refl _ _⟩
end
end Go.Proofs.YtnccklbnncaeoaaGreat
/- cache: a use in three ways; Read. -/
namespace Go.Proofs.YtnccklbnncaeoaaGreat
open Go.RowKit
set_option linter.unusedVariables false
set_option linter.unusedSimpArgs false
set_option maxRecDepth 100000 in
set_option maxHeartbeats 1000000 in
theorem bclone_any (zs : List Int) (ad : Addr) (n cap : Nat) (w : World) (hNe : n = zs.length) (hN : n ≤ 10000000000) (hS : Src .u8 w (some ad) zs) :
    Calls Tryz.prog 77 #[.slice (some ad) n cap] w fun e w' => ∃ v, e = .returned v ∧ OwnI .u8 5 w' w.heap.size v zs ∧ Below w.heap.size w w' := by
  have he : ∀ w : World, (binOp .eql 47 (.slice (some ad) n cap) (.slice none 0 0)).run Tryz.prog w = .ok (.bool false) w := fun _ => rfl
  have HNE : Hid (n = zs.length) := hNe
  have HS : Hid (Src .u8 w (some ad) zs) := hS
  have hb0 : Below w.heap.size w (w.alloc (.cells #[] 5)) := (Below.refl _ _).alloc (Nat.le_refl _) _
  have HB0 : Hid (Below w.heap.size w (w.alloc (.cells #[] 5))) := hb0
  have HO : Hid (OwnI .u8 5 (w.alloc (.cells #[] 5)) w.heap.size (.slice (some ⟨w.heap.size, 0, none⟩) 0 0) []) := .inr ⟨w.heap.size, 0, [], rfl, Nat.le_refl _, St.new 5 w #[], rfl, by unfold maxLen; omega⟩
  clear hNe hS hb0
  go_enter Tryz.func77, Tryz.ntmps77
  go_wp2_with (first | (at_builtin; refine wpList_append_i (κ := .u8) 47 5 1 Tryz.underlying47 Tryz.info5 (by decide) rfl (.tmp 5) (.tmp 6) rfl w.heap.size (.slice (some ⟨w.heap.size, 0, none⟩) 0 0) [] rfl HO.out (some ad) n cap zs rfl HNE.out.symm (fun e => by cases e) (HS.out.below HB0.out) (by have := HNE.out; simp; omega) (by simp) ?_; intro v' w1 h1 h2 h3 h4))
  go_ret
  rw [List.nil_append] at h1
  exact ⟨v', rfl, h1, HB0.out.trans h4⟩
theorem ownI_base {w : World} {a b : Nat} {v : Value} {zs : List Int} (h : OwnI .u8 5 w a v zs) (hab : b ≤ a) : OwnI .u8 5 w b v zs := by
  rcases h with h | ⟨g, c, tl, h1, h2, h3⟩
  · exact .inl h
  · exact .inr ⟨g, c, tl, h1, by omega, h3⟩
theorem ownI_ge {w : World} {a j : Nat} {v : Value} {zs : List Int} (h : OwnI .u8 5 w a v zs) (e : v.ownBlock = some j) : a ≤ j := by
  rcases h with ⟨rfl, _⟩ | ⟨g, c, tl, rfl, h2, h3⟩
  · cases e
  · simp [Value.ownBlock] at e
    omega
/-- A use that came to a page: how. -/
def UseG (bits room s0 k1 k : Nat) (G : Gc) (q : Gf) (ft : List (Int × Int)) (H : Gc) (q1 : Gf) (ft1 : List (Int × Int)) (b : Nat) : Prop :=
  (kget G k = some b ∧ k1 = 0 ∧ q1 = q ∧ ft1 = ft ∧ ∃ lv L, L.Perm G.L ∧ H = gUse { G with n1 := G.n1 + 1 } b lv L) ∨
  (kget G k = none ∧ ∃ G1, RmG bits room k1 G q ft G1 q1 ft1 ∧ ∃ s G2 i lv L, s0 ≤ s ∧ s0 ≤ i ∧ KnG s { G1 with n2 := G1.n2 + 1 } k b G2 ∧ KnP s { G1 with n2 := G1.n2 + 1 } k b G2 ∧ L.Perm (b :: G1.L) ∧ H = gUse (gBring G2 b i (ldz q1 bits k)) b lv L)
/-- A use ends in one of three ways. -/
def UsW (S : ByteArray) (g bits room Q N : Nat) (G : Gc) (q : Gf) (ft : List (Int × Int)) (F : Nat → Prop) (w : World) (k a n : Int) (e : Ending) (w' : World) : Prop :=
  (((mayn bits k && withn bits a n) = false) ∧ (Kp (fun _ => False) w w') ∧ e = (.returned (.tuple #[.pointer none, .int .i64 2]))) ∨
  (∃ z : Int, ∃ k1 : Nat, ∃ G1 : Gc, ∃ q1 : Gf, ∃ ft1 : List (Int × Int), ∃ F1 : Nat → Prop, (mayn bits k = true) ∧ (withn bits a n = true) ∧ (kget G k.toNat = none) ∧ (z ≠ 0) ∧ (Out bits k1 ⟨G, q, ft⟩ z ⟨G1, q1, ft1⟩) ∧ (k1 + mu G1 ≤ mu G + 2) ∧ (Cv S g bits room Q (N + k1) G1 q1 ft1 F1 w') ∧ (Cch Q G G1 F F1 w w') ∧ e = (.returned (.tuple #[.pointer none, .int .i64 z]))) ∨
  (∃ k1 : Nat, ∃ b : Nat, ∃ H : Gc, ∃ q1 : Gf, ∃ ft1 : List (Int × Int), ∃ F1 : Nat → Prop, (mayn bits k = true) ∧ (withn bits a n = true) ∧ (UseG bits room w.heap.size k1 k.toNat G q ft H q1 ft1 b) ∧ (b ∈ H.L) ∧ (Cv S g bits room Q (N + k1) H q1 ft1 F1 w') ∧ (Cch Q G H F F1 w w') ∧ e = (.returned (.tuple #[ptr b, .int .i64 0])))
theorem UsW.bad {S : ByteArray} {g bits room Q N : Nat} {G : Gc} {q : Gf} {ft : List (Int × Int)} {F : Nat → Prop} {w : World} {k a n : Int} {w' : World} (h1 : (mayn bits k && withn bits a n) = false) (h2 : Kp (fun _ => False) w w') : UsW S g bits room Q N G q ft F w k a n (.returned (.tuple #[.pointer none, .int .i64 2])) w' :=
  .inl ⟨h1, h2, rfl⟩
theorem UsW.fail {S : ByteArray} {g bits room Q N : Nat} {G : Gc} {q : Gf} {ft : List (Int × Int)} {F : Nat → Prop} {w : World} {k a n : Int} {w' : World} {z : Int} {k1 : Nat} {G1 : Gc} {q1 : Gf} {ft1 : List (Int × Int)} {F1 : Nat → Prop} (h1 : mayn bits k = true) (h2 : withn bits a n = true) (h3 : kget G k.toNat = none) (h4 : z ≠ 0) (h5 : Out bits k1 ⟨G, q, ft⟩ z ⟨G1, q1, ft1⟩) (h6 : k1 + mu G1 ≤ mu G + 2) (h7 : Cv S g bits room Q (N + k1) G1 q1 ft1 F1 w') (h8 : Cch Q G G1 F F1 w w') : UsW S g bits room Q N G q ft F w k a n (.returned (.tuple #[.pointer none, .int .i64 z])) w' :=
  .inr (.inl ⟨z, k1, G1, q1, ft1, F1, h1, h2, h3, h4, h5, h6, h7, h8, rfl⟩)
theorem UsW.ok {S : ByteArray} {g bits room Q N : Nat} {G : Gc} {q : Gf} {ft : List (Int × Int)} {F : Nat → Prop} {w : World} {k a n : Int} {w' : World} {k1 : Nat} {b : Nat} {H : Gc} {q1 : Gf} {ft1 : List (Int × Int)} {F1 : Nat → Prop} (h1 : mayn bits k = true) (h2 : withn bits a n = true) (h3 : UseG bits room w.heap.size k1 k.toNat G q ft H q1 ft1 b) (h4 : b ∈ H.L) (h5 : Cv S g bits room Q (N + k1) H q1 ft1 F1 w') (h6 : Cch Q G H F F1 w w') : UsW S g bits room Q N G q ft F w k a n (.returned (.tuple #[ptr b, .int .i64 0])) w' :=
  .inr (.inr (⟨k1, b, H, q1, ft1, F1, h1, h2, h3, h4, h5, h6, rfl⟩))
theorem UsW.el {S : ByteArray} {g bits room Q N : Nat} {G : Gc} {q : Gf} {ft : List (Int × Int)} {F : Nat → Prop} {w : World} {k a n : Int} {motive : ∀ (e : Ending) (w' : World), UsW S g bits room Q N G q ft F w k a n e w' → Prop}
    (bad : ∀ {w' : World} (h1 : (mayn bits k && withn bits a n) = false) (h2 : Kp (fun _ => False) w w'), motive (.returned (.tuple #[.pointer none, .int .i64 2])) w' (UsW.bad h1 h2))
    (fail : ∀ {w' : World} {z : Int} {k1 : Nat} {G1 : Gc} {q1 : Gf} {ft1 : List (Int × Int)} {F1 : Nat → Prop} (h1 : mayn bits k = true) (h2 : withn bits a n = true) (h3 : kget G k.toNat = none) (h4 : z ≠ 0) (h5 : Out bits k1 ⟨G, q, ft⟩ z ⟨G1, q1, ft1⟩) (h6 : k1 + mu G1 ≤ mu G + 2) (h7 : Cv S g bits room Q (N + k1) G1 q1 ft1 F1 w') (h8 : Cch Q G G1 F F1 w w'), motive (.returned (.tuple #[.pointer none, .int .i64 z])) w' (UsW.fail h1 h2 h3 h4 h5 h6 h7 h8))
    (ok : ∀ {w' : World} {k1 : Nat} {b : Nat} {H : Gc} {q1 : Gf} {ft1 : List (Int × Int)} {F1 : Nat → Prop} (h1 : mayn bits k = true) (h2 : withn bits a n = true) (h3 : UseG bits room w.heap.size k1 k.toNat G q ft H q1 ft1 b) (h4 : b ∈ H.L) (h5 : Cv S g bits room Q (N + k1) H q1 ft1 F1 w') (h6 : Cch Q G H F F1 w w'), motive (.returned (.tuple #[ptr b, .int .i64 0])) w' (UsW.ok h1 h2 h3 h4 h5 h6))
    {e : Ending} {w' : World} (h : UsW S g bits room Q N G q ft F w k a n e w') : motive e w' h := by
  rcases h with ⟨h1, h2, rfl⟩ | ⟨z, k1, G1, q1, ft1, F1, h1, h2, h3, h4, h5, h6, h7, h8, rfl⟩ | ⟨k1, b, H, q1, ft1, F1, h1, h2, h3, h4, h5, h6, rfl⟩
  · exact bad h1 h2
  · exact fail h1 h2 h3 h4 h5 h6 h7 h8
  · exact ok h1 h2 h3 h4 h5 h6
section
variable {S : ByteArray} {g bits room Q N : Nat} {G : Gc} {q : Gf} {ft : List (Int × Int)} {F : Nat → Prop} {w : World}
theorem use_w (h : Cv S g bits room Q N G q ft F w) (k a n : Int) (ha : a ≤ 9223372036854775807) (ht : G.t < 1000000000000) (hN : N + mu G + 2 ≤ 9000) :
    Calls Tryz.prog 62 #[ptr Q, .int .i64 k, .int .i64 a, .int .i64 n] w (UsW S g bits room Q N G q ft F w k a n) := by
  refine (use_any h k a n ha ht hN).mono ?_
  intro e w' hu
  unfold UsP at hu
  split at hu
  · rename_i hb
    rw [Bool.and_eq_true] at hb
    split at hu
    · rename_i b hg
      obtain ⟨lv, L, rfl, hp, hv, hc⟩ := hu
      exact .ok hb.1 hb.2 (.inl ⟨hg, rfl, rfl, rfl, lv, L, hp, rfl⟩) (hp.mem_iff.2 (h.kget_some hg).1) hv hc
    · rename_i hg
      obtain ⟨z, k1, G1, q1, ft1, F1, ⟨hz, rfl, ho, hd, hv, hc⟩ | ⟨rfl, hr, s, b, G2, i, lv, L, hs, hkn, hkp, hL, hi, rfl, hv, hc⟩⟩ := hu
      · exact .fail hb.1 hb.2 hg hz ho hd hv hc
      · exact .ok hb.1 hb.2 (.inr ⟨hg, G1, hr, s, G2, i, lv, L, hs, hi, hkn, hkp, hL, rfl⟩) (hL.mem_iff.2 List.mem_cons_self) hv hc
  · rename_i hb
    obtain ⟨rfl, hk⟩ := hu
    exact .bad (by simpa using hb) hk
/-- Read. -/
def RdR (S : ByteArray) (g bits room Q N : Nat) (G : Gc) (q : Gf) (ft : List (Int × Int)) (F : Nat → Prop) (w : World) (k a n : Int) (e : Ending) (w' : World) : Prop :=
  (((mayn bits k && withn bits a n) = false) ∧ (Kp (fun _ => False) w w') ∧ e = (.returned (.tuple #[.slice none 0 0, .int .i64 2]))) ∨
  (∃ z : Int, ∃ k1 : Nat, ∃ G1 : Gc, ∃ q1 : Gf, ∃ ft1 : List (Int × Int), ∃ F1 : Nat → Prop, (mayn bits k = true) ∧ (withn bits a n = true) ∧ (kget G k.toNat = none) ∧ (z ≠ 0) ∧ (Out bits k1 ⟨G, q, ft⟩ z ⟨G1, q1, ft1⟩) ∧ (k1 + mu G1 ≤ mu G + 2) ∧ (Cv S g bits room Q (N + k1) G1 q1 ft1 F1 w') ∧ (Cch Q G G1 F F1 w w') ∧ e = (.returned (.tuple #[.slice none 0 0, .int .i64 z]))) ∨
  (∃ k1 : Nat, ∃ b : Nat, ∃ i : Nat, ∃ zs : List Int, ∃ v : Value, ∃ H : Gc, ∃ q1 : Gf, ∃ ft1 : List (Int × Int), ∃ F1 : Nat → Prop, (mayn bits k = true) ∧ (withn bits a n = true) ∧ (UseG bits room w.heap.size k1 k.toNat G q ft H q1 ft1 b) ∧ (b ∈ H.L) ∧ (H.y b = some (i, zs)) ∧ (OwnI .u8 5 w' w.heap.size v ((zs.drop a.toNat).take n.toNat)) ∧ ((∀ j, v.ownBlock = some j → ¬ Fc Q H j ∧ ¬ F1 j)) ∧ (Cv S g bits room Q (N + k1) H q1 ft1 F1 w') ∧ (Cch Q G H F F1 w w') ∧ e = (.returned (.tuple #[v, .int .i64 0])))
theorem RdR.bad {S : ByteArray} {g bits room Q N : Nat} {G : Gc} {q : Gf} {ft : List (Int × Int)} {F : Nat → Prop} {w : World} {k a n : Int} {w' : World} (h1 : (mayn bits k && withn bits a n) = false) (h2 : Kp (fun _ => False) w w') : RdR S g bits room Q N G q ft F w k a n (.returned (.tuple #[.slice none 0 0, .int .i64 2])) w' :=
  .inl ⟨h1, h2, rfl⟩
theorem RdR.fail {S : ByteArray} {g bits room Q N : Nat} {G : Gc} {q : Gf} {ft : List (Int × Int)} {F : Nat → Prop} {w : World} {k a n : Int} {w' : World} {z : Int} {k1 : Nat} {G1 : Gc} {q1 : Gf} {ft1 : List (Int × Int)} {F1 : Nat → Prop} (h1 : mayn bits k = true) (h2 : withn bits a n = true) (h3 : kget G k.toNat = none) (h4 : z ≠ 0) (h5 : Out bits k1 ⟨G, q, ft⟩ z ⟨G1, q1, ft1⟩) (h6 : k1 + mu G1 ≤ mu G + 2) (h7 : Cv S g bits room Q (N + k1) G1 q1 ft1 F1 w') (h8 : Cch Q G G1 F F1 w w') : RdR S g bits room Q N G q ft F w k a n (.returned (.tuple #[.slice none 0 0, .int .i64 z])) w' :=
  .inr (.inl ⟨z, k1, G1, q1, ft1, F1, h1, h2, h3, h4, h5, h6, h7, h8, rfl⟩)
theorem RdR.ok {S : ByteArray} {g bits room Q N : Nat} {G : Gc} {q : Gf} {ft : List (Int × Int)} {F : Nat → Prop} {w : World} {k a n : Int} {w' : World} {k1 : Nat} {b : Nat} {i : Nat} {zs : List Int} {v : Value} {H : Gc} {q1 : Gf} {ft1 : List (Int × Int)} {F1 : Nat → Prop} (h1 : mayn bits k = true) (h2 : withn bits a n = true) (h3 : UseG bits room w.heap.size k1 k.toNat G q ft H q1 ft1 b) (h4 : b ∈ H.L) (h5 : H.y b = some (i, zs)) (h6 : OwnI .u8 5 w' w.heap.size v ((zs.drop a.toNat).take n.toNat)) (h7 : (∀ j, v.ownBlock = some j → ¬ Fc Q H j ∧ ¬ F1 j)) (h8 : Cv S g bits room Q (N + k1) H q1 ft1 F1 w') (h9 : Cch Q G H F F1 w w') : RdR S g bits room Q N G q ft F w k a n (.returned (.tuple #[v, .int .i64 0])) w' :=
  .inr (.inr (⟨k1, b, i, zs, v, H, q1, ft1, F1, h1, h2, h3, h4, h5, h6, h7, h8, h9, rfl⟩))
theorem RdR.el {S : ByteArray} {g bits room Q N : Nat} {G : Gc} {q : Gf} {ft : List (Int × Int)} {F : Nat → Prop} {w : World} {k a n : Int} {motive : ∀ (e : Ending) (w' : World), RdR S g bits room Q N G q ft F w k a n e w' → Prop}
    (bad : ∀ {w' : World} (h1 : (mayn bits k && withn bits a n) = false) (h2 : Kp (fun _ => False) w w'), motive (.returned (.tuple #[.slice none 0 0, .int .i64 2])) w' (RdR.bad h1 h2))
    (fail : ∀ {w' : World} {z : Int} {k1 : Nat} {G1 : Gc} {q1 : Gf} {ft1 : List (Int × Int)} {F1 : Nat → Prop} (h1 : mayn bits k = true) (h2 : withn bits a n = true) (h3 : kget G k.toNat = none) (h4 : z ≠ 0) (h5 : Out bits k1 ⟨G, q, ft⟩ z ⟨G1, q1, ft1⟩) (h6 : k1 + mu G1 ≤ mu G + 2) (h7 : Cv S g bits room Q (N + k1) G1 q1 ft1 F1 w') (h8 : Cch Q G G1 F F1 w w'), motive (.returned (.tuple #[.slice none 0 0, .int .i64 z])) w' (RdR.fail h1 h2 h3 h4 h5 h6 h7 h8))
    (ok : ∀ {w' : World} {k1 : Nat} {b : Nat} {i : Nat} {zs : List Int} {v : Value} {H : Gc} {q1 : Gf} {ft1 : List (Int × Int)} {F1 : Nat → Prop} (h1 : mayn bits k = true) (h2 : withn bits a n = true) (h3 : UseG bits room w.heap.size k1 k.toNat G q ft H q1 ft1 b) (h4 : b ∈ H.L) (h5 : H.y b = some (i, zs)) (h6 : OwnI .u8 5 w' w.heap.size v ((zs.drop a.toNat).take n.toNat)) (h7 : (∀ j, v.ownBlock = some j → ¬ Fc Q H j ∧ ¬ F1 j)) (h8 : Cv S g bits room Q (N + k1) H q1 ft1 F1 w') (h9 : Cch Q G H F F1 w w'), motive (.returned (.tuple #[v, .int .i64 0])) w' (RdR.ok h1 h2 h3 h4 h5 h6 h7 h8 h9))
    {e : Ending} {w' : World} (h : RdR S g bits room Q N G q ft F w k a n e w') : motive e w' h := by
  rcases h with ⟨h1, h2, rfl⟩ | ⟨z, k1, G1, q1, ft1, F1, h1, h2, h3, h4, h5, h6, h7, h8, rfl⟩ | ⟨k1, b, i, zs, v, H, q1, ft1, F1, h1, h2, h3, h4, h5, h6, h7, h8, h9, rfl⟩
  · exact bad h1 h2
  · exact fail h1 h2 h3 h4 h5 h6 h7 h8
  · exact ok h1 h2 h3 h4 h5 h6 h7 h8 h9
set_option maxRecDepth 100000 in
set_option maxHeartbeats 8000000 in
theorem read_any (h : Cv S g bits room Q N G q ft F w) (k a n : Int) (ha : a ≤ 9223372036854775807) (ht : G.t < 1000000000000) (hN : N + mu G + 2 ≤ 9000) :
    Calls Tryz.prog 28 #[ptr Q, .int .i64 k, .int .i64 a, .int .i64 n] w (RdR S g bits room Q N G q ft F w k a n) := by
  have HU := hid (use_w h k a n ha ht hN)
  clear h
  unfold ptr at HU
  unfold ptr
  go_enter Tryz.func28, Tryz.ntmps28
  go_wp2_with fail
  refine HU.out.mono ?_
  intro e w1 hu
  cases hu using UsW.el with
  | bad h1 h2 =>
    have H1 := hid h1
    clear HU
    go_wp2_with fail
    go_ret2
    exact .bad H1.out h2
  | fail h1 h2 h3 hz h4 h5 h6 h7 =>
    rename_i z k1 G1 q1 ft1 F1
    have hz2 : decide (z = 0) = false := by simpa using hz
    have H1 := hid h1
    have H2 := hid h2
    have H3 := hid h3
    have H4 := hid h4
    have H5 := hid h5
    have H6 := hid h6
    have H7 := hid h7
    clear h1 h2 h3 h4 h5 h6 h7 HU
    go_wp2_with fail
    all_goals
      go_ret2
      exact .fail H1.out H2.out H3.out hz H4.out H5.out H6.out H7.out
  | ok h1 h2 h3 h4 h5 h6 =>
    rename_i k1 b H q1 ft1 F1
    have hB := h5.cm.lb b h4
    have hpg := h5.cm.pg b hB
    obtain ⟨i, zs, hy, hbv, hrw⟩ : ∃ i zs, H.y b = some (i, zs) ∧ (H.c b).bv = .slice (some ⟨i, 0, none⟩) zs.length zs.length ∧ Rw .u8 5 w1 i zs := by
      rcases hpg.ys.shape with ⟨e, _⟩ | ⟨i, zs, e, e2, e3⟩
      · exact absurd e ((h5.iv.lk b).1 h4).2
      · exact ⟨i, zs, e, e2, e3⟩
    obtain ⟨s, hs⟩ := hpg.wt
    have y1 := St.cell hs 1
    simp [Pc.cs] at y1
    rw [hbv] at y1
    have hzl := h5.yl b hB i zs hy
    have hp := pow_le bits h5.bb
    have hwn := h2
    unfold withn at hwn
    rw [Bool.and_eq_true, Bool.and_eq_true] at hwn
    have w1' := of_decide_eq_true hwn.1
    have w2' := of_decide_eq_true hwn.2.1
    have w3' := of_decide_eq_true hwn.2.2
    obtain ⟨a', rfl⟩ : ∃ a' : Nat, a = (a' : Int) := ⟨a.toNat, by omega⟩
    obtain ⟨n', rfl⟩ : ∃ n' : Nat, n = (n' : Int) := ⟨n.toNat, by omega⟩
    have hle : a' + n' ≤ zs.length := by omega
    have hzb : zs.length ≤ 65536 := by omega
    have HLN : Hid (n' = ((zs.drop a').take n').length) := by show _ = _; simp; omega
    have HN4 : Hid (n' ≤ 10000000000) := by show _ ≤ _; omega
    have HSR : Hid (Src .u8 w1 (some ⟨i, a', none⟩) ((zs.drop a').take n')) := Src.mk (fun j hj => by
      have hj2 : j < n' := by rw [HLN.out]; exact hj
      rw [hrw.cell (a' + j) (by omega)]
      congr 2
      simp [List.getD, List.getElem?_take, hj2, List.getElem?_drop])
    have HS0 : Hid (zs.length ≤ a' → Src .u8 w1 (some ⟨i, 0, none⟩) ((zs.drop a').take n')) := fun hz => Src.mk (fun j hj => by
      have := HLN.out
      omega)
    have H1 := hid h1
    have H2 := hid h2
    have H3 := hid h3
    have H4 := hid h4
    have H5 := hid h5
    have H6 := hid h6
    have HY := hid hy
    have HRW := hid hrw
    clear h1 h2 h3 h4 h5 h6 HU hpg hs hrw hy hwn w1' w2' w3' hbv hzl hp ha
    unfold ptr
    go_wp2_with fail
    · have hz : zs.length ≤ a' := by omega
      have hB := hid (bclone_any ((zs.drop a').take n') ⟨i, 0, none⟩ n' 0 w1 HLN.out HN4.out (HS0.out hz))
      refine hB.out.mono ?_
      rintro _ w2 ⟨v, rfl, ho, hbl⟩
      have k2 : Kp (fun _ => False) w1 w2 := Kp.of_below hbl
      have HO := hid ho
      have K2 := hid k2
      clear ho hbl k2
      go_wp2_with fail
      go_ret2
      have hv2 := H5.out.kp0 K2.out
      refine .ok H1.out H2.out H3.out H4.out HY.out (i := i) (zs := zs) (v := v) ?_ (fun j e => ?_) hv2 (H6.out.kp0 K2.out)
      · rw [Int.toNat_natCast, Int.toNat_natCast]
        exact ownI_base HO.out H6.out.kp.size
      · have hj := ownI_ge HO.out e
        exact ⟨fun x => by have := H5.out.cm.lt x; omega, fun x => by have := H5.out.sw.lt x; omega⟩
    · have hB := hid (bclone_any ((zs.drop a').take n') ⟨i, a', none⟩ n' (zs.length - a') w1 HLN.out HN4.out HSR.out)
      refine hB.out.mono ?_
      rintro _ w2 ⟨v, rfl, ho, hbl⟩
      have k2 : Kp (fun _ => False) w1 w2 := Kp.of_below hbl
      have HO := hid ho
      have K2 := hid k2
      clear ho hbl k2
      go_wp2_with fail
      go_ret2
      have hv2 := H5.out.kp0 K2.out
      refine .ok H1.out H2.out H3.out H4.out HY.out (i := i) (zs := zs) (v := v) ?_ (fun j e => ?_) hv2 (H6.out.kp0 K2.out)
      · rw [Int.toNat_natCast, Int.toNat_natCast]
        exact ownI_base HO.out H6.out.kp.size
      · have hj := ownI_ge HO.out e
        exact ⟨fun x => by have := H5.out.cm.lt x; omega, fun x => by have := H5.out.sw.lt x; omega⟩
end
end Go.Proofs.YtnccklbnncaeoaaGreat
/- cache: Write. -/
namespace Go.Proofs.YtnccklbnncaeoaaGreat
open Go.RowKit
set_option linter.unusedVariables false
set_option linter.unusedSimpArgs false
/-- A page's bytes are written. -/
def gWr (G : Gc) (b i : Nat) (zs : List Int) (lv : Value) (L : List Nat) : Gc := { G with y := upd G.y b (some (i, zs)), c := upd G.c b { G.c b with di := true }, lv := lv, L := L }
section
variable {S : ByteArray} {g bits room Q N : Nat} {G : Gc} {q : Gf} {ft : List (Int × Int)} {F : Nat → Prop} {w : World}
theorem di_c (G : Gc) (b : Nat) (d : Bool) (a : Nat) : (upd G.c b { G.c b with di := d } a).n = (G.c a).n ∧ (upd G.c b { G.c b with di := d } a).pe = (G.c a).pe ∧ (upd G.c b { G.c b with di := d } a).tk = (G.c a).tk ∧ (upd G.c b { G.c b with di := d } a).wm = (G.c a).wm ∧ (upd G.c b { G.c b with di := d } a).rm = (G.c a).rm ∧ (upd G.c b { G.c b with di := d } a).di = if a = b then d else (G.c a).di := by
  unfold upd
  split
  · rename_i e; rw [e]; exact ⟨rfl, rfl, rfl, rfl, rfl, rfl⟩
  · exact ⟨rfl, rfl, rfl, rfl, rfl, rfl⟩
/-- Behind the copy: the flag and the line. -/
theorem wr_tail (h : Cv S g bits room Q N G q ft F w) (b i : Nat) (zs zs' : List Int) (hb : b ∈ G.L) (hy : G.y b = some (i, zs)) (hl : zs'.length = zs.length) {W : World} (hr : Rw .u8 5 W i zs') (hk : Kp (fun j => j = i) w W) :
    W.cell? ⟨b, 2, none⟩ = some (.bool (G.c b).di) ∧ W.frozen? ⟨b, 2, none⟩ = false ∧ (W.setCell ⟨b, 2, none⟩ (.bool true)).cell? ⟨Q, 5, none⟩ = some (ptr G.kl) ∧
    Calls Tryz.prog 63 #[ptr G.kl, ptr b] (W.setCell ⟨b, 2, none⟩ (.bool true)) fun e w' => e = .returned (.tuple #[]) ∧ ∃ lv L, L.Perm G.L ∧ Cv S g bits room Q N (gWr G b i zs' lv L) q ft F w' ∧ Cch Q G (gWr G b i zs' lv L) F F w w' := by
  have hB := h.cm.lb b hb
  have c1 : Cm S g bits room Q { G with y := upd G.y b (some (i, zs')) } W := h.cm.bytes hB hy hl hr hk
  obtain ⟨s, hs⟩ := (c1.pg b hB).wt
  obtain ⟨c2, k2⟩ := c1.setdi (b := b) hB true
  refine ⟨by have := St.cell hs 2; simpa [Pc.cs] using this, St.frozen hs 2, by have := c2.st.cell 5; simpa using this, ?_⟩
  clear hs
  generalize W.setCell ⟨b, 2, none⟩ (.bool true) = w2 at c2 k2 ⊢
  have hrr := h.rr
  have hlr := h.lr
  have hcc := di_c G b true
  have hfw : ∀ j, Fc Q { G with y := upd G.y b (some (i, zs')), c := upd G.c b { G.c b with di := true } } j → Fc Q G j := fun j hj =>
    fc_same (H := { G with y := upd G.y b (some (i, zs')), c := upd G.c b { G.c b with di := true } }) (G := G) rfl rfl rfl rfl rfl (fun a _ => ⟨(hcc a).2.2.2.1, (hcc a).2.2.2.2.1⟩) (fun a _ j us e => by
      change upd G.y b (some (i, zs')) a = some (j, us) at e
      unfold upd at e
      split at e
      · rename_i e2; cases e; exact ⟨zs, by rw [e2]; exact hy⟩
      · exact ⟨us, e⟩) j hj
  refine (moved_any c2 b hb G.c h.iv.hp (fun a ha => upd_other _ _ ha) (by show G.L.length < _; omega)).mono ?_
  rintro e w' ⟨rfl, lv, L, hL, hh, hc, hk3, hfc⟩
  have hFi : Fc Q G i := .inr (.inr (.inr (.inr (.inr ⟨b, hB, .inr (.inr (.inr ⟨zs, hy⟩))⟩))))
  have hFb : Fc Q G b := .inr (.inr (.inr (.inr (.inr ⟨b, hB, .inl rfl⟩))))
  have hkk : Kp (Fc Q G) w w' := ((hk.mono (G := Fc Q G) (fun j _ e => e ▸ hFi)).trans k2 (fun j _ e => e ▸ hFb)).trans hk3 (fun j _ e => hfw j e)
  have hsz := hk.size
  have hsz2 := k2.size
  have hff : ∀ j, Fc Q (gWr G b i zs' lv L) j → Fc Q G j ∨ w.heap.size ≤ j := fun j hj => by
    rcases hfc j hj with e | e
    · exact .inl (hfw j e)
    · exact .inr (by omega)
  refine ⟨rfl, lv, L, hL, ⟨hc, h.sw.kp hkk (fun j hj hf => h.ap j hf hj), fun j hj hf => ?_, ⟨h.iv.wk, h.iv.wr, h.iv.rk, h.iv.kb, fun a => ?_, fun a ha => h.iv.ll a (hL.mem_iff.1 ha), fun a ha he => h.iv.pk a ha (by rw [← (hcc a).2.1]; exact he), fun a ha hd => ?_, hh⟩, fun x a ha => ?_, fun a ha => ?_, h.pn, h.nn, h.tt, fun a ha => ?_, fun a ha => ?_, fun a ha j us e => ?_, ?_, h.bb, h.rr⟩, hkk.mono (fun j _ e => .inl e), hff, fun j hj => .inl hj⟩
  · rcases hff j hj with e | e
    · exact h.ap j e hf
    · have := h.sw.lt hf; omega
  · show a ∈ L ↔ a ∈ G.B ∧ upd G.y b (some (i, zs')) a ≠ none
    rw [hL.mem_iff, h.iv.lk a]
    unfold upd
    by_cases e : a = b
    · subst e
      simp [hy]
    · rw [if_neg e]
  · have hd2 : (upd G.c b { G.c b with di := true } a).di = true := hd
    rw [(hcc a).2.2.2.2.2] at hd2
    split at hd2
    · rename_i e; subst e; exact hL.mem_iff.2 hb
    · exact hL.mem_iff.2 (h.iv.dk a ha hd2)
  · show (upd G.c b { G.c b with di := true } a).di = true ∨ (upd G.c b { G.c b with di := true } a).pe = true
    rw [(hcc a).2.1, (hcc a).2.2.2.2.2]
    split
    · exact .inl rfl
    · exact h.op x a ha
  · show (upd G.c b { G.c b with di := true } a).pe = true
    rw [(hcc a).2.1]; exact h.pp a ha
  · show (upd G.c b { G.c b with di := true } a).tk ≤ G.t
    rw [(hcc a).2.2.1]; exact h.tk a ha
  · show (upd G.c b { G.c b with di := true } a).n < _
    rw [(hcc a).1]; exact h.nb a ha
  · change upd G.y b (some (i, zs')) a = some (j, us) at e
    unfold upd at e
    split at e
    · cases e; rw [hl]; exact h.yl b hB i zs hy
    · exact h.yl a ha j us e
  · show L.length ≤ room
    rw [hL.length_eq]; exact h.lr
/-- Write. -/
def WrR (S : ByteArray) (g bits room Q N : Nat) (G : Gc) (q : Gf) (ft : List (Int × Int)) (F : Nat → Prop) (w : World) (k a : Int) (xs : List Int) (e : Ending) (w' : World) : Prop :=
  (((mayn bits k && withn bits a xs.length) = false) ∧ (Kp (fun _ => False) w w') ∧ e = (.returned (.int .i64 2))) ∨
  (∃ z : Int, ∃ k1 : Nat, ∃ G1 : Gc, ∃ q1 : Gf, ∃ ft1 : List (Int × Int), ∃ F1 : Nat → Prop, (mayn bits k = true) ∧ (withn bits a xs.length = true) ∧ (kget G k.toNat = none) ∧ (z ≠ 0) ∧ (Out bits k1 ⟨G, q, ft⟩ z ⟨G1, q1, ft1⟩) ∧ (k1 + mu G1 ≤ mu G + 2) ∧ (Cv S g bits room Q (N + k1) G1 q1 ft1 F1 w') ∧ (Cch Q G G1 F F1 w w') ∧ e = (.returned (.int .i64 z))) ∨
  (∃ k1 : Nat, ∃ b : Nat, ∃ H : Gc, ∃ q1 : Gf, ∃ ft1 : List (Int × Int), ∃ F1 : Nat → Prop, (mayn bits k = true) ∧ (withn bits a xs.length = true) ∧ (UseG bits room w.heap.size k1 k.toNat G q ft H q1 ft1 b) ∧ (b ∈ H.L) ∧ (xs = []) ∧ (Cv S g bits room Q (N + k1) H q1 ft1 F1 w') ∧ (Cch Q G H F F1 w w') ∧ e = (.returned (.int .i64 0))) ∨
  (∃ k1 : Nat, ∃ b : Nat, ∃ i : Nat, ∃ zs : List Int, ∃ lv : Value, ∃ L : List Nat, ∃ H : Gc, ∃ q1 : Gf, ∃ ft1 : List (Int × Int), ∃ F1 : Nat → Prop, (mayn bits k = true) ∧ (withn bits a xs.length = true) ∧ (UseG bits room w.heap.size k1 k.toNat G q ft H q1 ft1 b) ∧ (b ∈ H.L) ∧ (H.y b = some (i, zs)) ∧ (xs ≠ []) ∧ (L.Perm H.L) ∧ (Cv S g bits room Q (N + k1) (gWr H b i (splice zs a.toNat xs) lv L) q1 ft1 F1 w') ∧ (Cch Q G (gWr H b i (splice zs a.toNat xs) lv L) F F1 w w') ∧ e = (.returned (.int .i64 0)))
theorem WrR.bad {S : ByteArray} {g bits room Q N : Nat} {G : Gc} {q : Gf} {ft : List (Int × Int)} {F : Nat → Prop} {w : World} {k a : Int} {xs : List Int} {w' : World} (h1 : (mayn bits k && withn bits a xs.length) = false) (h2 : Kp (fun _ => False) w w') : WrR S g bits room Q N G q ft F w k a xs (.returned (.int .i64 2)) w' :=
  .inl ⟨h1, h2, rfl⟩
theorem WrR.fail {S : ByteArray} {g bits room Q N : Nat} {G : Gc} {q : Gf} {ft : List (Int × Int)} {F : Nat → Prop} {w : World} {k a : Int} {xs : List Int} {w' : World} {z : Int} {k1 : Nat} {G1 : Gc} {q1 : Gf} {ft1 : List (Int × Int)} {F1 : Nat → Prop} (h1 : mayn bits k = true) (h2 : withn bits a xs.length = true) (h3 : kget G k.toNat = none) (h4 : z ≠ 0) (h5 : Out bits k1 ⟨G, q, ft⟩ z ⟨G1, q1, ft1⟩) (h6 : k1 + mu G1 ≤ mu G + 2) (h7 : Cv S g bits room Q (N + k1) G1 q1 ft1 F1 w') (h8 : Cch Q G G1 F F1 w w') : WrR S g bits room Q N G q ft F w k a xs (.returned (.int .i64 z)) w' :=
  .inr (.inl ⟨z, k1, G1, q1, ft1, F1, h1, h2, h3, h4, h5, h6, h7, h8, rfl⟩)
theorem WrR.nil {S : ByteArray} {g bits room Q N : Nat} {G : Gc} {q : Gf} {ft : List (Int × Int)} {F : Nat → Prop} {w : World} {k a : Int} {xs : List Int} {w' : World} {k1 : Nat} {b : Nat} {H : Gc} {q1 : Gf} {ft1 : List (Int × Int)} {F1 : Nat → Prop} (h1 : mayn bits k = true) (h2 : withn bits a xs.length = true) (h3 : UseG bits room w.heap.size k1 k.toNat G q ft H q1 ft1 b) (h4 : b ∈ H.L) (h5 : xs = []) (h6 : Cv S g bits room Q (N + k1) H q1 ft1 F1 w') (h7 : Cch Q G H F F1 w w') : WrR S g bits room Q N G q ft F w k a xs (.returned (.int .i64 0)) w' :=
  .inr (.inr (.inl ⟨k1, b, H, q1, ft1, F1, h1, h2, h3, h4, h5, h6, h7, rfl⟩))
theorem WrR.ok {S : ByteArray} {g bits room Q N : Nat} {G : Gc} {q : Gf} {ft : List (Int × Int)} {F : Nat → Prop} {w : World} {k a : Int} {xs : List Int} {w' : World} {k1 : Nat} {b : Nat} {i : Nat} {zs : List Int} {lv : Value} {L : List Nat} {H : Gc} {q1 : Gf} {ft1 : List (Int × Int)} {F1 : Nat → Prop} (h1 : mayn bits k = true) (h2 : withn bits a xs.length = true) (h3 : UseG bits room w.heap.size k1 k.toNat G q ft H q1 ft1 b) (h4 : b ∈ H.L) (h5 : H.y b = some (i, zs)) (h6 : xs ≠ []) (h7 : L.Perm H.L) (h8 : Cv S g bits room Q (N + k1) (gWr H b i (splice zs a.toNat xs) lv L) q1 ft1 F1 w') (h9 : Cch Q G (gWr H b i (splice zs a.toNat xs) lv L) F F1 w w') : WrR S g bits room Q N G q ft F w k a xs (.returned (.int .i64 0)) w' :=
  .inr (.inr (.inr (⟨k1, b, i, zs, lv, L, H, q1, ft1, F1, h1, h2, h3, h4, h5, h6, h7, h8, h9, rfl⟩)))
theorem WrR.el {S : ByteArray} {g bits room Q N : Nat} {G : Gc} {q : Gf} {ft : List (Int × Int)} {F : Nat → Prop} {w : World} {k a : Int} {xs : List Int} {motive : ∀ (e : Ending) (w' : World), WrR S g bits room Q N G q ft F w k a xs e w' → Prop}
    (bad : ∀ {w' : World} (h1 : (mayn bits k && withn bits a xs.length) = false) (h2 : Kp (fun _ => False) w w'), motive (.returned (.int .i64 2)) w' (WrR.bad h1 h2))
    (fail : ∀ {w' : World} {z : Int} {k1 : Nat} {G1 : Gc} {q1 : Gf} {ft1 : List (Int × Int)} {F1 : Nat → Prop} (h1 : mayn bits k = true) (h2 : withn bits a xs.length = true) (h3 : kget G k.toNat = none) (h4 : z ≠ 0) (h5 : Out bits k1 ⟨G, q, ft⟩ z ⟨G1, q1, ft1⟩) (h6 : k1 + mu G1 ≤ mu G + 2) (h7 : Cv S g bits room Q (N + k1) G1 q1 ft1 F1 w') (h8 : Cch Q G G1 F F1 w w'), motive (.returned (.int .i64 z)) w' (WrR.fail h1 h2 h3 h4 h5 h6 h7 h8))
    (nil : ∀ {w' : World} {k1 : Nat} {b : Nat} {H : Gc} {q1 : Gf} {ft1 : List (Int × Int)} {F1 : Nat → Prop} (h1 : mayn bits k = true) (h2 : withn bits a xs.length = true) (h3 : UseG bits room w.heap.size k1 k.toNat G q ft H q1 ft1 b) (h4 : b ∈ H.L) (h5 : xs = []) (h6 : Cv S g bits room Q (N + k1) H q1 ft1 F1 w') (h7 : Cch Q G H F F1 w w'), motive (.returned (.int .i64 0)) w' (WrR.nil h1 h2 h3 h4 h5 h6 h7))
    (ok : ∀ {w' : World} {k1 : Nat} {b : Nat} {i : Nat} {zs : List Int} {lv : Value} {L : List Nat} {H : Gc} {q1 : Gf} {ft1 : List (Int × Int)} {F1 : Nat → Prop} (h1 : mayn bits k = true) (h2 : withn bits a xs.length = true) (h3 : UseG bits room w.heap.size k1 k.toNat G q ft H q1 ft1 b) (h4 : b ∈ H.L) (h5 : H.y b = some (i, zs)) (h6 : xs ≠ []) (h7 : L.Perm H.L) (h8 : Cv S g bits room Q (N + k1) (gWr H b i (splice zs a.toNat xs) lv L) q1 ft1 F1 w') (h9 : Cch Q G (gWr H b i (splice zs a.toNat xs) lv L) F F1 w w'), motive (.returned (.int .i64 0)) w' (WrR.ok h1 h2 h3 h4 h5 h6 h7 h8 h9))
    {e : Ending} {w' : World} (h : WrR S g bits room Q N G q ft F w k a xs e w') : motive e w' h := by
  rcases h with ⟨h1, h2, rfl⟩ | ⟨z, k1, G1, q1, ft1, F1, h1, h2, h3, h4, h5, h6, h7, h8, rfl⟩ | ⟨k1, b, H, q1, ft1, F1, h1, h2, h3, h4, h5, h6, h7, rfl⟩ | ⟨k1, b, i, zs, lv, L, H, q1, ft1, F1, h1, h2, h3, h4, h5, h6, h7, h8, h9, rfl⟩
  · exact bad h1 h2
  · exact fail h1 h2 h3 h4 h5 h6 h7 h8
  · exact nil h1 h2 h3 h4 h5 h6 h7
  · exact ok h1 h2 h3 h4 h5 h6 h7 h8 h9
set_option maxRecDepth 100000 in
set_option maxHeartbeats 8000000 in
theorem cwrite_all (h : Cv S g bits room Q N G q ft F w) (k a : Int) (xs : List Int) (ao : Option Addr) (m cap : Nat) (hm : m = xs.length) (hm6 : m ≤ 4611686018427387904) (hS : Src .u8 w ao xs) (hdis : 0 < xs.length → ∀ r off, ao = some ⟨r, off, none⟩ → ¬ Fc Q G r ∧ ¬ F r) (ha : a ≤ 9223372036854775807) (ht : G.t < 1000000000000) (hN : N + mu G + 2 ≤ 9000) :
    Calls Tryz.prog 22 #[ptr Q, .int .i64 k, .int .i64 a, .slice ao m cap] w (WrR S g bits room Q N G q ft F w k a xs) := by
  have HU := hid (use_w h k a m ha ht hN)
  have HSR : Hid (∀ w1 H F1, Cch Q G H F F1 w w1 → Src .u8 w1 ao xs) := fun w1 H F1 hc => by
    by_cases hx0 : 0 < xs.length
    · exact hS.kp hc.kp (fun r off e => by
        have := hdis hx0 r off e
        exact fun hx => hx.elim this.1 this.2)
    · exact fun hx => absurd hx (by first | exact hx0 | (intro h0; exact hx0 (List.length_pos_iff.2 h0)))
  have HM := hid hm
  clear h hdis hS hm
  unfold ptr at HU
  unfold ptr
  go_enter Tryz.func22, Tryz.ntmps22
  go_wp2_with fail
  refine HU.out.mono ?_
  intro e w1 hu
  cases hu using UsW.el with
  | bad h1 h2 =>
    have H1 := hid h1
    clear HU
    go_wp2_with fail
    go_ret
    exact .bad (by rw [← HM.out]; exact H1.out) h2
  | fail h1 h2 h3 hz h4 h5 h6 h7 =>
    rename_i z k1 G1 q1 ft1 F1
    have hz2 : decide (z = 0) = false := by simpa using hz
    have H1 := hid h1
    have H2 := hid h2
    have H3 := hid h3
    have H4 := hid h4
    have H5 := hid h5
    have H6 := hid h6
    have H7 := hid h7
    clear h1 h2 h3 h4 h5 h6 h7 HU
    go_wp2_with fail
    all_goals
      go_ret
      exact .fail H1.out (by rw [← HM.out]; exact H2.out) H3.out hz H4.out H5.out H6.out H7.out
  | ok h1 h2 h3 h4 h5 h6 =>
    rename_i k1 b H q1 ft1 F1
    have hsrc := HSR.out w1 H F1 h6
    by_cases hm0 : m = 0
    · have hx : xs = [] := List.eq_nil_of_length_eq_zero (by rw [← HM.out]; exact hm0)
      have H1 := hid h1
      have H2 := hid h2
      have H3 := hid h3
      have H4 := hid h4
      have H5 := hid h5
      have H6 := hid h6
      have HX := hid hx
      have HM2 : Hid (m = xs.length) := HM.out
      clear h1 h2 h3 h4 h5 h6 HU hx hsrc HSR HM
      subst hm0
      unfold ptr
      go_wp2_with fail
      go_ret
      exact .nil H1.out (by rw [← HM2.out]; exact H2.out) H3.out H4.out HX.out H5.out H6.out
    · have hB := h5.cm.lb b h4
      have hpg := h5.cm.pg b hB
      obtain ⟨i, zs, hy, hbv, hrw⟩ : ∃ i zs, H.y b = some (i, zs) ∧ (H.c b).bv = .slice (some ⟨i, 0, none⟩) zs.length zs.length ∧ Rw .u8 5 w1 i zs := by
        rcases hpg.ys.shape with ⟨e, _⟩ | ⟨i, zs, e, e2, e3⟩
        · exact absurd e ((h5.iv.lk b).1 h4).2
        · exact ⟨i, zs, e, e2, e3⟩
      obtain ⟨s, hs⟩ := hpg.wt
      have y1 := St.cell hs 1
      simp [Pc.cs] at y1
      rw [hbv] at y1
      have hzl := h5.yl b hB i zs hy
      have hp := pow_le bits h5.bb
      have hwn := h2
      unfold withn at hwn
      rw [Bool.and_eq_true, Bool.and_eq_true] at hwn
      have w1' := of_decide_eq_true hwn.1
      have w3' := of_decide_eq_true hwn.2.2
      obtain ⟨a', rfl⟩ : ∃ a' : Nat, a = (a' : Int) := ⟨a.toNat, by omega⟩
      have hle : a' + m ≤ zs.length := by omega
      have hzb : zs.length ≤ 65536 := by omega
      have hne : ¬ zs.length ≤ a' := by omega
      have hsp : (splice zs a' xs).length = zs.length := by
        have := HM.out
        unfold splice
        simp
        omega
      have HLN : Hid (xs.length = Nat.min m (zs.length - a')) := by
        show xs.length = min m (zs.length - a')
        rw [← HM.out]; omega
      have HFT : Hid (a' + xs.length ≤ zs.length) := by show _ ≤ _; rw [← HM.out]; exact hle
      have HPOS : Hid (0 < xs.length → ∃ ad, ao = some ad ∧ ∀ j, j < xs.length → w1.cell? (ad.add j) = some (.int .u8 (xs.getD j 0))) := fun hx => by
        obtain ⟨r, off, e, hc⟩ := hsrc (by first | exact hx | (intro e; rw [e] at hx; cases hx))
        exact ⟨_, e, fun j hj => by rw [add_o]; exact hc j hj⟩
      have HTL : Hid (∀ W, Rw .u8 5 W i (splice zs a' xs) → Kp (fun j => j = i) w1 W → _) := fun W hr hk => wr_tail h5 b i zs (splice zs a' xs) h4 hy hsp hr hk
      have H1 := hid h1
      have H2 := hid h2
      have H3 := hid h3
      have H4 := hid h4
      have H5 := hid h5
      have H6 := hid h6
      have HY := hid hy
      have HRW := hid hrw
      have hd0 : decide (m = 0) = false := by simpa using hm0
      clear h1 h2 h3 h4 h5 h6 HU hpg hs hrw hy hwn w1' w3' hbv hzl hp ha hsrc HSR hsp
      unfold ptr at HTL
      unfold ptr
      go_wp2_with (first | (refine wpList_copy_rw rfl (.tmp 33) (.tmp 34) 47 47 rfl 5 Tryz.underlying47 info5s _ _ _ _ _ _ rfl rfl i a' 5 zs xs HRW.out HLN.out (fun hx => ⟨rfl, HPOS.out hx⟩) HFT.out ?_; intro w3 r3 g3; have k3 : Kp (fun j => j = i) w1 w3 := Kp.of_grown g3 (fun j e => by cases e; rfl); obtain ⟨y2, f2, z5, ht63⟩ := HTL.out w3 r3 k3; have HT := hid ht63; clear ht63 r3 g3 k3))
      refine HT.out.mono ?_
      rintro _ w4 ⟨rfl, lv, L, hL, hv, hc⟩
      go_wp2_with fail
      go_ret
      have hwn : withn bits (a' : Int) xs.length = true := by rw [← HM.out]; exact H2.out
      refine .ok (i := i) (zs := zs) (lv := lv) (L := L) H1.out hwn H3.out H4.out HY.out (fun e => ?_) hL (by rw [Int.toNat_natCast]; exact hv) (by rw [Int.toNat_natCast]; exact H6.out.trans hc)
      have := HM.out
      rw [e] at this
      exact hm0 (by simpa using this)
theorem cwrite_any (h : Cv S g bits room Q N G q ft F w) (k a : Int) (xs : List Int) (ao : Option Addr) (m cap : Nat) (hm : m = xs.length) (hm6 : m ≤ 4611686018427387904) (hS : Src .u8 w ao xs) (hdis : ∀ r off, ao = some ⟨r, off, none⟩ → ¬ Fc Q G r ∧ ¬ F r) (ha : a ≤ 9223372036854775807) (ht : G.t < 1000000000000) (hN : N + mu G + 2 ≤ 9000) :
    Calls Tryz.prog 22 #[ptr Q, .int .i64 k, .int .i64 a, .slice ao m cap] w (WrR S g bits room Q N G q ft F w k a xs) :=
  cwrite_all h k a xs ao m cap hm hm6 hS (fun _ => hdis) ha ht hN
end
end Go.Proofs.YtnccklbnncaeoaaGreat
/- cache: a new cache. -/
namespace Go.Proofs.YtnccklbnncaeoaaGreat
open Go.RowKit
set_option linter.unusedVariables false
set_option linter.unusedSimpArgs false
/-- What is known of a new cache. -/
def g0 (m : Nat) : Gc := { pm := m, kl := m + 1, lv := .slice none 0 0, pv := .slice none 0 0, c := fun _ => pc0 0 0 0, W := fun _ => [], R := fun _ => [], y := fun _ => none, B := [], K := [], L := [], P := [], t := 0, n1 := 0, n2 := 0, n3 := 0, n4 := 0 }
/-- A new cache in memory. -/
def wCache (w : World) (S : ByteArray) (g bits room : Nat) : World := ((w.alloc (.map #[] 0)).alloc (.cells #[.slice none 0 0] 110)).alloc (.cells #[ptr g, .string S, .int .i64 bits, .int .i64 room, .map (some w.heap.size), ptr (w.heap.size + 1), .slice none 0 0, .int .i64 0, .int .i64 0, .int .i64 0, .int .i64 0, .int .i64 0] 112)
theorem cache_kp (w : World) (S : ByteArray) (g bits room : Nat) : Kp (fun _ => False) w (wCache w S g bits room) := (((Kp.refl _ _).alloc _).alloc _).alloc _
theorem cache_fc {m i : Nat} (h : Fc (m + 2) (g0 m) i) : i = m ∨ i = m + 1 ∨ i = m + 2 := by
  rcases h with h | h | h | h | h | ⟨b, hb, _⟩
  · exact .inr (.inr h)
  · exact .inr (.inl h)
  · exact .inl h
  · cases h
  · cases h
  · cases hb
theorem cache_cm (w : World) (S : ByteArray) (g bits room : Nat) : Cm S g bits room (w.heap.size + 2) (g0 w.heap.size) (wCache w S g bits room) := by
  have e1 : (w.alloc (.map #[] 0)).heap.size = w.heap.size + 1 := by simp
  have e2 : ((w.alloc (.map #[] 0)).alloc (.cells #[.slice none 0 0] 110)).heap.size = w.heap.size + 2 := by simp
  have h1 := St.new 112 ((w.alloc (.map #[] 0)).alloc (.cells #[.slice none 0 0] 110)) #[ptr g, .string S, .int .i64 bits, .int .i64 room, .map (some w.heap.size), ptr (w.heap.size + 1), .slice none 0 0, .int .i64 0, .int .i64 0, .int .i64 0, .int .i64 0, .int .i64 0]
  rw [e2] at h1
  have h2 := St.new 110 (w.alloc (.map #[] 0)) #[.slice none 0 0]
  rw [e1] at h2
  refine ⟨h1, ⟨h2.kp ((Kp.refl (fun _ => False) _).alloc _) (fun h => h), ⟨rfl, .inl ⟨rfl, rfl⟩⟩, fun i hi => (by cases hi), fun b hb => (by cases hb)⟩, ⟨rfl, .inl ⟨rfl, rfl⟩⟩, (Mn.new _ w).kp (((Kp.refl (fun _ => False) _).alloc _).alloc _) (fun h => h), fun b hb => (by cases hb), fun i h => (by cases h), fun a ha => (by cases ha), fun a ha => (by cases ha), fun a ha => (by cases ha), fun a ha => (by cases ha), fun a ha => (by cases ha), fun a ha => by cases ha⟩
theorem cache_cv {S : ByteArray} {g bits room N : Nat} {q : Gf} {ft : List (Int × Int)} {F : Nat → Prop} {w : World} (hs : Sw S g N F q ft w) (hb : 9 ≤ bits ∧ bits ≤ 16) (hr : 1 ≤ room ∧ room ≤ 1024) : Cv S g bits room (w.heap.size + 2) N (g0 w.heap.size) q ft F (wCache w S g bits room) := by
  refine ⟨cache_cm w S g bits room, hs.kp0 (cache_kp w S g bits room), fun i hi hf => ?_, ⟨fun b a ha => (by cases ha), fun b a => ⟨fun h => (by cases h), fun h => (by cases h)⟩, Ranked.none (fun _ => rfl), fun b hb => (by cases hb), fun b => ⟨fun h => (by cases h), fun h => (by cases h.1)⟩, fun b hb => (by cases hb), fun b hb => (by cases hb), fun b hb => (by cases hb), fun k _ h2 _ => absurd h2 (Nat.not_lt_zero k)⟩, fun x a ha => (by cases ha), fun b hb => (by cases hb), List.nodup_nil, Nat.zero_le _, rfl, fun b hb => (by cases hb), fun b hb => (by cases hb), fun b hb => (by cases hb), Nat.zero_le _, hb, hr⟩
  have := hs.lt hf
  rcases cache_fc hi with e | e | e <;> omega
set_option maxRecDepth 100000 in
set_option maxHeartbeats 4000000 in
theorem new_good {S : ByteArray} {g bits room N : Nat} {q : Gf} {ft : List (Int × Int)} {F : Nat → Prop} {w : World} (hs : Sw S g N F q ft w) (hb : 9 ≤ bits ∧ bits ≤ 16) (hr : 1 ≤ room ∧ room ≤ 1024) :
    Calls Tryz.prog 15 #[ptr g, .string S, .int .i64 bits, .int .i64 room] w fun e w' => e = .returned (.tuple #[ptr (w.heap.size + 2), .int .i64 0]) ∧ w' = wCache w S g bits room := by
  have hmm := @run_makeMap Tryz.prog
  have HS := hid (size_w hs)
  clear hs
  unfold wCache
  unfold ptr at *
  go_enter Tryz.func15, Tryz.ntmps15
  go_wp2_with (first | (go_at_call 30; refine HS.out.mono ?_; rintro e w' ⟨rfl, h⟩; replace h := h.symm; subst h))
  go_ret2
  exact ⟨rfl, rfl⟩
end Go.Proofs.YtnccklbnncaeoaaGreat
/- cache: Counts. -/
namespace Go.Proofs.YtnccklbnncaeoaaGreat
open Go.RowKit
set_option linter.unusedVariables false
set_option linter.unusedSimpArgs false
theorem results_cell1 {P : Program} {fn : Func} {p : Tmp} {ty : TypeId} (h : fn.results = #[.cell p ty]) (tmps : Array Value) (w : World) (b : Nat) {v : Value} (hp : tmps.getD p undef = .pointer (some ⟨b, 0, none⟩)) (hl : (loadVar ty ⟨b, 0, none⟩).run P w = .ok v w) :
    (results fn tmps).run P w = .ok v w := by
  have hp' : tmps[p]?.getD undef = .pointer (some ⟨b, 0, none⟩) := by simpa using hp
  simp [results, h, hp', asAddr, hl]
theorem results_cell_tmp2 {P : Program} {fn : Func} {p u : Tmp} {ty : TypeId} (h : fn.results = #[.cell p ty, .tmp u]) (tmps : Array Value) (w : World) (b : Nat) {v x : Value} (hp : tmps.getD p undef = .pointer (some ⟨b, 0, none⟩)) (hu : tmps.getD u undef = x) (hl : (loadVar ty ⟨b, 0, none⟩).run P w = .ok v w) :
    (results fn tmps).run P w = .ok (.tuple #[v, x]) w := by
  have hp' : tmps[p]?.getD undef = .pointer (some ⟨b, 0, none⟩) := by simpa using hp
  have hu' : tmps[u]?.getD undef = x := by simpa using hu
  simp [results, h, hp', hu', asAddr, hl]
theorem Tryz.isz79 : (Tryz.prog.info? 79).map (·.size) = some 4 := by kernel_rfl
theorem Tryz.isz86 : (Tryz.prog.info? 86).map (·.size) = some 3 := by kernel_rfl
theorem load79 {w : World} {g : Nat} {a b c d : Value} (s : St 79 w g #[a, b, c, d]) : (loadVar 79 ⟨g, 0, none⟩).run Tryz.prog w = .ok (.agg #[a, b, c, d]) w :=
  run_loadVar_row w g 79 79 _ (0, 0) _ s Tryz.underlying79 rfl (by rw [Tryz.isz79]; rfl)
theorem load86 {w : World} {g : Nat} {a b c : Value} (s : St 86 w g #[a, b, c]) : (loadVar 86 ⟨g, 0, none⟩).run Tryz.prog w = .ok (.agg #[a, b, c]) w :=
  run_loadVar_row w g 86 86 _ (0, 0) _ s Tryz.underlying86 rfl (by rw [Tryz.isz86]; rfl)
section
variable {S : ByteArray} {g bits room Q N : Nat} {G : Gc} {q : Gf} {ft : List (Int × Int)} {F : Nat → Prop} {w : World}
set_option maxRecDepth 100000 in
set_option maxHeartbeats 4000000 in
theorem counts_any (h : Cv S g bits room Q N G q ft F w) :
    Calls Tryz.prog 34 #[ptr Q] w fun e w' => e = .returned (.agg #[.int .i64 G.n1, .int .i64 G.n2, .int .i64 G.n3, .int .i64 G.n4]) ∧ Kp (fun _ => False) w w' := by
  have HN : Hid (∀ U, Kp (fun _ => False) w U → Calls Tryz.prog 64 #[ptr Q] U fun e w' => e = .returned (.bool false) ∧ w' = U) := fun U k => (h.kp0 k).live
  have KA : Hid (Kp (fun _ => False) w (w.alloc (.cells #[.int .i64 0, .int .i64 0, .int .i64 0, .int .i64 0] 79))) := (Kp.refl _ _).alloc _
  have H1 := hid (h.kp0 KA.out)
  have SA : Hid (St 79 (w.alloc (.cells #[.int .i64 0, .int .i64 0, .int .i64 0, .int .i64 0] 79)) w.heap.size #[.int .i64 0, .int .i64 0, .int .i64 0, .int .i64 0]) := St.new 79 w _
  have z8 := H1.out.cm.st.cell 8
  have z9 := H1.out.cm.st.cell 9
  have z10 := H1.out.cm.st.cell 10
  have z11 := H1.out.cm.st.cell 11
  simp at z8 z9 z10 z11
  clear h
  unfold ptr at *
  go_enter Tryz.func34, Tryz.ntmps34
  go_wp2_with (first | (go_at_call 64; refine (HN.out _ KA.out).mono ?_; rintro e w' ⟨rfl, h⟩; replace h := h.symm; subst h))
  refine bodyPost_ret (results_cell1 Tryz.results34 _ _ _ rfl (load79 (St.new 79 w _))) rfl ?_
  exact ⟨rfl, (Kp.refl _ _).alloc _⟩
end
end Go.Proofs.YtnccklbnncaeoaaGreat
