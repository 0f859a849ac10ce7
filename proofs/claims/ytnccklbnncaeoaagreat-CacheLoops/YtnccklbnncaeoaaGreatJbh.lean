import Derived.Test.YtnccklbnncaeoaaGreatJbg
/- cache: Write. -/
namespace Go.Proofs.YtnccklbnncaeoaaGreat
open Go.RowKit
set_option linter.unusedVariables false
set_option linter.unusedSimpArgs false
/-- A page's bytes are written. -/
def gWr (G : Gc) (b i : Nat) (zs : List Int) (lv : Value) (L : List Nat) : Gc := { G with y := upd G.y b (some (i, zs)), c := upd G.c b { G.c b with di := true }, lv := lv, L := L }
section
variable {S : ByteArray} {g bits room Q N : Nat} {G : Gc} {q : Gf} {ft : List (Int × Int)} {F : Nat → Prop} {w : World}
theorem di_c (G : Gc) (b : Nat) (d : Bool) (a : Nat) : (upd G.c b { G.c b with di := d } a).n = (G.c a).n ∧ (upd G.c b { G.c b with di := d } a).pe = (G.c a).pe ∧ (upd G.c b { G.c b with di := d } a).tk = (G.c a).tk ∧ (upd G.c b { G.c b with di := d } a).wm = (G.c a).wm ∧ (upd G.c b { G.c b with di := d } a).rm = (G.c a).rm ∧ (upd G.c b { G.c b with di := d } a).di = if a = b then d else (G.c a).di := by
  unfold upd
  split
  · rename_i e; rw [e]; exact ⟨rfl, rfl, rfl, rfl, rfl, rfl⟩
  · exact ⟨rfl, rfl, rfl, rfl, rfl, rfl⟩
/-- Behind the copy: the flag and the line. -/
theorem wr_tail (h : Cv S g bits room Q N G q ft F w) (b i : Nat) (zs zs' : List Int) (hb : b ∈ G.L) (hy : G.y b = some (i, zs)) (hl : zs'.length = zs.length) {W : World} (hr : Rw .u8 5 W i zs') (hk : Kp (fun j => j = i) w W) :
    W.cell? ⟨b, 2, none⟩ = some (.bool (G.c b).di) ∧ W.frozen? ⟨b, 2, none⟩ = false ∧ (W.setCell ⟨b, 2, none⟩ (.bool true)).cell? ⟨Q, 5, none⟩ = some (ptr G.kl) ∧
    Calls Tryz.prog 63 #[ptr G.kl, ptr b] (W.setCell ⟨b, 2, none⟩ (.bool true)) fun e w' => e = .returned (.tuple #[]) ∧ ∃ lv L, L.Perm G.L ∧ Cv S g bits room Q N (gWr G b i zs' lv L) q ft F w' ∧ Cch Q G (gWr G b i zs' lv L) F F w w' := by
  have hB := h.cm.lb b hb
  have c1 : Cm S g bits room Q { G with y := upd G.y b (some (i, zs')) } W := h.cm.bytes hB hy hl hr hk
  obtain ⟨s, hs⟩ := (c1.pg b hB).wt
  obtain ⟨c2, k2⟩ := c1.setdi (b := b) hB true
  refine ⟨by have := St.cell hs 2; simpa [Pc.cs] using this, St.frozen hs 2, by have := c2.st.cell 5; simpa using this, ?_⟩
  clear hs
  generalize W.setCell ⟨b, 2, none⟩ (.bool true) = w2 at c2 k2 ⊢
  have hrr := h.rr
  have hlr := h.lr
  have hcc := di_c G b true
  have hfw : ∀ j, Fc Q { G with y := upd G.y b (some (i, zs')), c := upd G.c b { G.c b with di := true } } j → Fc Q G j := fun j hj =>
    fc_same (H := { G with y := upd G.y b (some (i, zs')), c := upd G.c b { G.c b with di := true } }) (G := G) rfl rfl rfl rfl rfl (fun a _ => ⟨(hcc a).2.2.2.1, (hcc a).2.2.2.2.1⟩) (fun a _ j us e => by
      change upd G.y b (some (i, zs')) a = some (j, us) at e
      unfold upd at e
      split at e
      · rename_i e2; cases e; exact ⟨zs, by rw [e2]; exact hy⟩
      · exact ⟨us, e⟩) j hj
  refine (moved_any c2 b hb G.c h.iv.hp (fun a ha => upd_other _ _ ha) (by show G.L.length < _; omega)).mono ?_
  rintro e w' ⟨rfl, lv, L, hL, hh, hc, hk3, hfc⟩
  have hFi : Fc Q G i := .inr (.inr (.inr (.inr (.inr ⟨b, hB, .inr (.inr (.inr ⟨zs, hy⟩))⟩))))
  have hFb : Fc Q G b := .inr (.inr (.inr (.inr (.inr ⟨b, hB, .inl rfl⟩))))
  have hkk : Kp (Fc Q G) w w' := ((hk.mono (G := Fc Q G) (fun j _ e => e ▸ hFi)).trans k2 (fun j _ e => e ▸ hFb)).trans hk3 (fun j _ e => hfw j e)
  have hsz := hk.size
  have hsz2 := k2.size
  have hff : ∀ j, Fc Q (gWr G b i zs' lv L) j → Fc Q G j ∨ w.heap.size ≤ j := fun j hj => by
    rcases hfc j hj with e | e
    · exact .inl (hfw j e)
    · exact .inr (by omega)
  refine ⟨rfl, lv, L, hL, ⟨hc, h.sw.kp hkk (fun j hj hf => h.ap j hf hj), fun j hj hf => ?_, ⟨h.iv.wk, h.iv.wr, h.iv.rk, h.iv.kb, fun a => ?_, fun a ha => h.iv.ll a (hL.mem_iff.1 ha), fun a ha he => h.iv.pk a ha (by rw [← (hcc a).2.1]; exact he), fun a ha hd => ?_, hh⟩, fun x a ha => ?_, fun a ha => ?_, h.pn, h.nn, h.tt, fun a ha => ?_, fun a ha => ?_, fun a ha j us e => ?_, ?_, h.bb, h.rr⟩, hkk.mono (fun j _ e => .inl e), hff, fun j hj => .inl hj⟩
  · rcases hff j hj with e | e
    · exact h.ap j e hf
    · have := h.sw.lt hf; omega
  · show a ∈ L ↔ a ∈ G.B ∧ upd G.y b (some (i, zs')) a ≠ none
    rw [hL.mem_iff, h.iv.lk a]
    unfold upd
    by_cases e : a = b
    · subst e
      simp [hy]
    · rw [if_neg e]
  · have hd2 : (upd G.c b { G.c b with di := true } a).di = true := hd
    rw [(hcc a).2.2.2.2.2] at hd2
    split at hd2
    · rename_i e; subst e; exact hL.mem_iff.2 hb
    · exact hL.mem_iff.2 (h.iv.dk a ha hd2)
  · show (upd G.c b { G.c b with di := true } a).di = true ∨ (upd G.c b { G.c b with di := true } a).pe = true
    rw [(hcc a).2.1, (hcc a).2.2.2.2.2]
    split
    · exact .inl rfl
    · exact h.op x a ha
  · show (upd G.c b { G.c b with di := true } a).pe = true
    rw [(hcc a).2.1]; exact h.pp a ha
  · show (upd G.c b { G.c b with di := true } a).tk ≤ G.t
    rw [(hcc a).2.2.1]; exact h.tk a ha
  · show (upd G.c b { G.c b with di := true } a).n < _
    rw [(hcc a).1]; exact h.nb a ha
  · change upd G.y b (some (i, zs')) a = some (j, us) at e
    unfold upd at e
    split at e
    · cases e; rw [hl]; exact h.yl b hB i zs hy
    · exact h.yl a ha j us e
  · show L.length ≤ room
    rw [hL.length_eq]; exact h.lr
/-- Write. -/
def WrR (S : ByteArray) (g bits room Q N : Nat) (G : Gc) (q : Gf) (ft : List (Int × Int)) (F : Nat → Prop) (w : World) (k a : Int) (xs : List Int) (e : Ending) (w' : World) : Prop :=
  (((mayn bits k && withn bits a xs.length) = false) ∧ (Kp (fun _ => False) w w') ∧ e = (.returned (.int .i64 2))) ∨
  (∃ z : Int, ∃ k1 : Nat, ∃ G1 : Gc, ∃ q1 : Gf, ∃ ft1 : List (Int × Int), ∃ F1 : Nat → Prop, (mayn bits k = true) ∧ (withn bits a xs.length = true) ∧ (kget G k.toNat = none) ∧ (z ≠ 0) ∧ (Out bits k1 ⟨G, q, ft⟩ z ⟨G1, q1, ft1⟩) ∧ (k1 + mu G1 ≤ mu G + 2) ∧ (Cv S g bits room Q (N + k1) G1 q1 ft1 F1 w') ∧ (Cch Q G G1 F F1 w w') ∧ e = (.returned (.int .i64 z))) ∨
  (∃ k1 : Nat, ∃ b : Nat, ∃ H : Gc, ∃ q1 : Gf, ∃ ft1 : List (Int × Int), ∃ F1 : Nat → Prop, (mayn bits k = true) ∧ (withn bits a xs.length = true) ∧ (UseG bits room w.heap.size k1 k.toNat G q ft H q1 ft1 b) ∧ (b ∈ H.L) ∧ (xs = []) ∧ (Cv S g bits room Q (N + k1) H q1 ft1 F1 w') ∧ (Cch Q G H F F1 w w') ∧ e = (.returned (.int .i64 0))) ∨
  (∃ k1 : Nat, ∃ b : Nat, ∃ i : Nat, ∃ zs : List Int, ∃ lv : Value, ∃ L : List Nat, ∃ H : Gc, ∃ q1 : Gf, ∃ ft1 : List (Int × Int), ∃ F1 : Nat → Prop, (mayn bits k = true) ∧ (withn bits a xs.length = true) ∧ (UseG bits room w.heap.size k1 k.toNat G q ft H q1 ft1 b) ∧ (b ∈ H.L) ∧ (H.y b = some (i, zs)) ∧ (xs ≠ []) ∧ (L.Perm H.L) ∧ (Cv S g bits room Q (N + k1) (gWr H b i (splice zs a.toNat xs) lv L) q1 ft1 F1 w') ∧ (Cch Q G (gWr H b i (splice zs a.toNat xs) lv L) F F1 w w') ∧ e = (.returned (.int .i64 0)))
theorem WrR.bad {S : ByteArray} {g bits room Q N : Nat} {G : Gc} {q : Gf} {ft : List (Int × Int)} {F : Nat → Prop} {w : World} {k a : Int} {xs : List Int} {w' : World} (h1 : (mayn bits k && withn bits a xs.length) = false) (h2 : Kp (fun _ => False) w w') : WrR S g bits room Q N G q ft F w k a xs (.returned (.int .i64 2)) w' :=
  .inl ⟨h1, h2, rfl⟩
theorem WrR.fail {S : ByteArray} {g bits room Q N : Nat} {G : Gc} {q : Gf} {ft : List (Int × Int)} {F : Nat → Prop} {w : World} {k a : Int} {xs : List Int} {w' : World} {z : Int} {k1 : Nat} {G1 : Gc} {q1 : Gf} {ft1 : List (Int × Int)} {F1 : Nat → Prop} (h1 : mayn bits k = true) (h2 : withn bits a xs.length = true) (h3 : kget G k.toNat = none) (h4 : z ≠ 0) (h5 : Out bits k1 ⟨G, q, ft⟩ z ⟨G1, q1, ft1⟩) (h6 : k1 + mu G1 ≤ mu G + 2) (h7 : Cv S g bits room Q (N + k1) G1 q1 ft1 F1 w') (h8 : Cch Q G G1 F F1 w w') : WrR S g bits room Q N G q ft F w k a xs (.returned (.int .i64 z)) w' :=
  .inr (.inl ⟨z, k1, G1, q1, ft1, F1, h1, h2, h3, h4, h5, h6, h7, h8, rfl⟩)
theorem WrR.nil {S : ByteArray} {g bits room Q N : Nat} {G : Gc} {q : Gf} {ft : List (Int × Int)} {F : Nat → Prop} {w : World} {k a : Int} {xs : List Int} {w' : World} {k1 : Nat} {b : Nat} {H : Gc} {q1 : Gf} {ft1 : List (Int × Int)} {F1 : Nat → Prop} (h1 : mayn bits k = true) (h2 : withn bits a xs.length = true) (h3 : UseG bits room w.heap.size k1 k.toNat G q ft H q1 ft1 b) (h4 : b ∈ H.L) (h5 : xs = []) (h6 : Cv S g bits room Q (N + k1) H q1 ft1 F1 w') (h7 : Cch Q G H F F1 w w') : WrR S g bits room Q N G q ft F w k a xs (.returned (.int .i64 0)) w' :=
  .inr (.inr (.inl ⟨k1, b, H, q1, ft1, F1, h1, h2, h3, h4, h5, h6, h7, rfl⟩))
theorem WrR.ok {S : ByteArray} {g bits room Q N : Nat} {G : Gc} {q : Gf} {ft : List (Int × Int)} {F : Nat → Prop} {w : World} {k a : Int} {xs : List Int} {w' : World} {k1 : Nat} {b : Nat} {i : Nat} {zs : List Int} {lv : Value} {L : List Nat} {H : Gc} {q1 : Gf} {ft1 : List (Int × Int)} {F1 : Nat → Prop} (h1 : mayn bits k = true) (h2 : withn bits a xs.length = true) (h3 : UseG bits room w.heap.size k1 k.toNat G q ft H q1 ft1 b) (h4 : b ∈ H.L) (h5 : H.y b = some (i, zs)) (h6 : xs ≠ []) (h7 : L.Perm H.L) (h8 : Cv S g bits room Q (N + k1) (gWr H b i (splice zs a.toNat xs) lv L) q1 ft1 F1 w') (h9 : Cch Q G (gWr H b i (splice zs a.toNat xs) lv L) F F1 w w') : WrR S g bits room Q N G q ft F w k a xs (.returned (.int .i64 0)) w' :=
  .inr (.inr (.inr (⟨k1, b, i, zs, lv, L, H, q1, ft1, F1, h1, h2, h3, h4, h5, h6, h7, h8, h9, rfl⟩)))
theorem WrR.el {S : ByteArray} {g bits room Q N : Nat} {G : Gc} {q : Gf} {ft : List (Int × Int)} {F : Nat → Prop} {w : World} {k a : Int} {xs : List Int} {motive : ∀ (e : Ending) (w' : World), WrR S g bits room Q N G q ft F w k a xs e w' → Prop}
    (bad : ∀ {w' : World} (h1 : (mayn bits k && withn bits a xs.length) = false) (h2 : Kp (fun _ => False) w w'), motive (.returned (.int .i64 2)) w' (WrR.bad h1 h2))
    (fail : ∀ {w' : World} {z : Int} {k1 : Nat} {G1 : Gc} {q1 : Gf} {ft1 : List (Int × Int)} {F1 : Nat → Prop} (h1 : mayn bits k = true) (h2 : withn bits a xs.length = true) (h3 : kget G k.toNat = none) (h4 : z ≠ 0) (h5 : Out bits k1 ⟨G, q, ft⟩ z ⟨G1, q1, ft1⟩) (h6 : k1 + mu G1 ≤ mu G + 2) (h7 : Cv S g bits room Q (N + k1) G1 q1 ft1 F1 w') (h8 : Cch Q G G1 F F1 w w'), motive (.returned (.int .i64 z)) w' (WrR.fail h1 h2 h3 h4 h5 h6 h7 h8))
    (nil : ∀ {w' : World} {k1 : Nat} {b : Nat} {H : Gc} {q1 : Gf} {ft1 : List (Int × Int)} {F1 : Nat → Prop} (h1 : mayn bits k = true) (h2 : withn bits a xs.length = true) (h3 : UseG bits room w.heap.size k1 k.toNat G q ft H q1 ft1 b) (h4 : b ∈ H.L) (h5 : xs = []) (h6 : Cv S g bits room Q (N + k1) H q1 ft1 F1 w') (h7 : Cch Q G H F F1 w w'), motive (.returned (.int .i64 0)) w' (WrR.nil h1 h2 h3 h4 h5 h6 h7))
    (ok : ∀ {w' : World} {k1 : Nat} {b : Nat} {i : Nat} {zs : List Int} {lv : Value} {L : List Nat} {H : Gc} {q1 : Gf} {ft1 : List (Int × Int)} {F1 : Nat → Prop} (h1 : mayn bits k = true) (h2 : withn bits a xs.length = true) (h3 : UseG bits room w.heap.size k1 k.toNat G q ft H q1 ft1 b) (h4 : b ∈ H.L) (h5 : H.y b = some (i, zs)) (h6 : xs ≠ []) (h7 : L.Perm H.L) (h8 : Cv S g bits room Q (N + k1) (gWr H b i (splice zs a.toNat xs) lv L) q1 ft1 F1 w') (h9 : Cch Q G (gWr H b i (splice zs a.toNat xs) lv L) F F1 w w'), motive (.returned (.int .i64 0)) w' (WrR.ok h1 h2 h3 h4 h5 h6 h7 h8 h9))
    {e : Ending} {w' : World} (h : WrR S g bits room Q N G q ft F w k a xs e w') : motive e w' h := by
  rcases h with ⟨h1, h2, rfl⟩ | ⟨z, k1, G1, q1, ft1, F1, h1, h2, h3, h4, h5, h6, h7, h8, rfl⟩ | ⟨k1, b, H, q1, ft1, F1, h1, h2, h3, h4, h5, h6, h7, rfl⟩ | ⟨k1, b, i, zs, lv, L, H, q1, ft1, F1, h1, h2, h3, h4, h5, h6, h7, h8, h9, rfl⟩
  · exact bad h1 h2
  · exact fail h1 h2 h3 h4 h5 h6 h7 h8
  · exact nil h1 h2 h3 h4 h5 h6 h7
  · exact ok h1 h2 h3 h4 h5 h6 h7 h8 h9
set_option maxRecDepth 100000 in
set_option maxHeartbeats 8000000 in
theorem cwrite_any (h : Cv S g bits room Q N G q ft F w) (k a : Int) (xs : List Int) (ao : Option Addr) (m cap : Nat) (hm : m = xs.length) (hm6 : m ≤ 4611686018427387904) (hS : Src .u8 w ao xs) (hdis : ∀ r off, ao = some ⟨r, off, none⟩ → ¬ Fc Q G r ∧ ¬ F r) (ha : a ≤ 9223372036854775807) (ht : G.t < 1000000000000) (hN : N + mu G + 2 ≤ 9000) :
    Calls Tryz.prog 22 #[ptr Q, .int .i64 k, .int .i64 a, .slice ao m cap] w (WrR S g bits room Q N G q ft F w k a xs) := by
  have HU := hid (use_w h k a m ha ht hN)
  have HSR : Hid (∀ w1 H F1, Cch Q G H F F1 w w1 → Src .u8 w1 ao xs) := fun w1 H F1 hc => hS.kp hc.kp (fun r off e => by
    have := hdis r off e
    exact fun hx => hx.elim this.1 this.2)
  have HM := hid hm
  clear h hdis hS hm
  unfold ptr at HU
  unfold ptr
  go_enter Tryz.func22, Tryz.ntmps22
  go_wp2_with fail
  refine HU.out.mono ?_
  intro e w1 hu
  cases hu using UsW.el with
  | bad h1 h2 =>
    have H1 := hid h1
    clear HU
    go_wp2_with fail
    go_ret
    exact .bad (by rw [← HM.out]; exact H1.out) h2
  | fail h1 h2 h3 hz h4 h5 h6 h7 =>
    rename_i z k1 G1 q1 ft1 F1
    have hz2 : decide (z = 0) = false := by simpa using hz
    have H1 := hid h1
    have H2 := hid h2
    have H3 := hid h3
    have H4 := hid h4
    have H5 := hid h5
    have H6 := hid h6
    have H7 := hid h7
    clear h1 h2 h3 h4 h5 h6 h7 HU
    go_wp2_with fail
    all_goals
      go_ret
      exact .fail H1.out (by rw [← HM.out]; exact H2.out) H3.out hz H4.out H5.out H6.out H7.out
  | ok h1 h2 h3 h4 h5 h6 =>
    rename_i k1 b H q1 ft1 F1
    have hsrc := HSR.out w1 H F1 h6
    by_cases hm0 : m = 0
    · have hx : xs = [] := List.eq_nil_of_length_eq_zero (by rw [← HM.out]; exact hm0)
      have H1 := hid h1
      have H2 := hid h2
      have H3 := hid h3
      have H4 := hid h4
      have H5 := hid h5
      have H6 := hid h6
      have HX := hid hx
      have HM2 : Hid (m = xs.length) := HM.out
      clear h1 h2 h3 h4 h5 h6 HU hx hsrc HSR HM
      subst hm0
      unfold ptr
      go_wp2_with fail
      go_ret
      exact .nil H1.out (by rw [← HM2.out]; exact H2.out) H3.out H4.out HX.out H5.out H6.out
    · have hB := h5.cm.lb b h4
      have hpg := h5.cm.pg b hB
      obtain ⟨i, zs, hy, hbv, hrw⟩ : ∃ i zs, H.y b = some (i, zs) ∧ (H.c b).bv = .slice (some ⟨i, 0, none⟩) zs.length zs.length ∧ Rw .u8 5 w1 i zs := by
        rcases hpg.ys.shape with ⟨e, _⟩ | ⟨i, zs, e, e2, e3⟩
        · exact absurd e ((h5.iv.lk b).1 h4).2
        · exact ⟨i, zs, e, e2, e3⟩
      obtain ⟨s, hs⟩ := hpg.wt
      have y1 := St.cell hs 1
      simp [Pc.cs] at y1
      rw [hbv] at y1
      have hzl := h5.yl b hB i zs hy
      have hp := pow_le bits h5.bb
      have hwn := h2
      unfold withn at hwn
      rw [Bool.and_eq_true, Bool.and_eq_true] at hwn
      have w1' := of_decide_eq_true hwn.1
      have w3' := of_decide_eq_true hwn.2.2
      obtain ⟨a', rfl⟩ : ∃ a' : Nat, a = (a' : Int) := ⟨a.toNat, by omega⟩
      have hle : a' + m ≤ zs.length := by omega
      have hzb : zs.length ≤ 65536 := by omega
      have hne : ¬ zs.length ≤ a' := by omega
      have hsp : (splice zs a' xs).length = zs.length := by
        have := HM.out
        unfold splice
        simp
        omega
      have HLN : Hid (xs.length = Nat.min m (zs.length - a')) := by
        show xs.length = min m (zs.length - a')
        rw [← HM.out]; omega
      have HFT : Hid (a' + xs.length ≤ zs.length) := by show _ ≤ _; rw [← HM.out]; exact hle
      have HPOS : Hid (0 < xs.length → ∃ ad, ao = some ad ∧ ∀ j, j < xs.length → w1.cell? (ad.add j) = some (.int .u8 (xs.getD j 0))) := fun hx => by
        obtain ⟨r, off, e, hc⟩ := hsrc (by first | exact hx | (intro e; rw [e] at hx; cases hx))
        exact ⟨_, e, fun j hj => by rw [add_o]; exact hc j hj⟩
      have HTL : Hid (∀ W, Rw .u8 5 W i (splice zs a' xs) → Kp (fun j => j = i) w1 W → _) := fun W hr hk => wr_tail h5 b i zs (splice zs a' xs) h4 hy hsp hr hk
      have H1 := hid h1
      have H2 := hid h2
      have H3 := hid h3
      have H4 := hid h4
      have H5 := hid h5
      have H6 := hid h6
      have HY := hid hy
      have HRW := hid hrw
      have hd0 : decide (m = 0) = false := by simpa using hm0
      clear h1 h2 h3 h4 h5 h6 HU hpg hs hrw hy hwn w1' w3' hbv hzl hp ha hsrc HSR hsp
      unfold ptr at HTL
      unfold ptr
      go_wp2_with (first | (refine wpList_copy_rw rfl (.tmp 33) (.tmp 34) 47 47 rfl 5 Tryz.underlying47 info5s _ _ _ _ _ _ rfl rfl i a' 5 zs xs HRW.out HLN.out (fun hx => ⟨rfl, HPOS.out hx⟩) HFT.out ?_; intro w3 r3 g3; have k3 : Kp (fun j => j = i) w1 w3 := Kp.of_grown g3 (fun j e => by cases e; rfl); obtain ⟨y2, f2, z5, ht63⟩ := HTL.out w3 r3 k3; have HT := hid ht63; clear ht63 r3 g3 k3))
      refine HT.out.mono ?_
      rintro _ w4 ⟨rfl, lv, L, hL, hv, hc⟩
      go_wp2_with fail
      go_ret
      have hwn : withn bits (a' : Int) xs.length = true := by rw [← HM.out]; exact H2.out
      refine .ok (i := i) (zs := zs) (lv := lv) (L := L) H1.out hwn H3.out H4.out HY.out (fun e => ?_) hL (by rw [Int.toNat_natCast]; exact hv) (by rw [Int.toNat_natCast]; exact H6.out.trans hc)
      have := HM.out
      rw [e] at this
      exact hm0 (by simpa using this)
end
end Go.Proofs.YtnccklbnncaeoaaGreat
/- cache: a new cache. -/
namespace Go.Proofs.YtnccklbnncaeoaaGreat
open Go.RowKit
set_option linter.unusedVariables false
set_option linter.unusedSimpArgs false
/-- What is known of a new cache. -/
def g0 (m : Nat) : Gc := { pm := m, kl := m + 1, lv := .slice none 0 0, pv := .slice none 0 0, c := fun _ => pc0 0 0 0, W := fun _ => [], R := fun _ => [], y := fun _ => none, B := [], K := [], L := [], P := [], t := 0, n1 := 0, n2 := 0, n3 := 0, n4 := 0 }
/-- A new cache in memory. -/
def wCache (w : World) (S : ByteArray) (g bits room : Nat) : World := ((w.alloc (.map #[] 0)).alloc (.cells #[.slice none 0 0] 110)).alloc (.cells #[ptr g, .string S, .int .i64 bits, .int .i64 room, .map (some w.heap.size), ptr (w.heap.size + 1), .slice none 0 0, .int .i64 0, .int .i64 0, .int .i64 0, .int .i64 0, .int .i64 0] 112)
theorem cache_kp (w : World) (S : ByteArray) (g bits room : Nat) : Kp (fun _ => False) w (wCache w S g bits room) := (((Kp.refl _ _).alloc _).alloc _).alloc _
theorem cache_fc {m i : Nat} (h : Fc (m + 2) (g0 m) i) : i = m ∨ i = m + 1 ∨ i = m + 2 := by
  rcases h with h | h | h | h | h | ⟨b, hb, _⟩
  · exact .inr (.inr h)
  · exact .inr (.inl h)
  · exact .inl h
  · cases h
  · cases h
  · cases hb
theorem cache_cm (w : World) (S : ByteArray) (g bits room : Nat) : Cm S g bits room (w.heap.size + 2) (g0 w.heap.size) (wCache w S g bits room) := by
  have e1 : (w.alloc (.map #[] 0)).heap.size = w.heap.size + 1 := by simp
  have e2 : ((w.alloc (.map #[] 0)).alloc (.cells #[.slice none 0 0] 110)).heap.size = w.heap.size + 2 := by simp
  have h1 := St.new 112 ((w.alloc (.map #[] 0)).alloc (.cells #[.slice none 0 0] 110)) #[ptr g, .string S, .int .i64 bits, .int .i64 room, .map (some w.heap.size), ptr (w.heap.size + 1), .slice none 0 0, .int .i64 0, .int .i64 0, .int .i64 0, .int .i64 0, .int .i64 0]
  rw [e2] at h1
  have h2 := St.new 110 (w.alloc (.map #[] 0)) #[.slice none 0 0]
  rw [e1] at h2
  refine ⟨h1, ⟨h2.kp ((Kp.refl (fun _ => False) _).alloc _) (fun h => h), ⟨rfl, .inl ⟨rfl, rfl⟩⟩, fun i hi => (by cases hi), fun b hb => (by cases hb)⟩, ⟨rfl, .inl ⟨rfl, rfl⟩⟩, (Mn.new _ w).kp (((Kp.refl (fun _ => False) _).alloc _).alloc _) (fun h => h), fun b hb => (by cases hb), fun i h => (by cases h), fun a ha => (by cases ha), fun a ha => (by cases ha), fun a ha => (by cases ha), fun a ha => (by cases ha), fun a ha => (by cases ha), fun a ha => by cases ha⟩
theorem cache_cv {S : ByteArray} {g bits room N : Nat} {q : Gf} {ft : List (Int × Int)} {F : Nat → Prop} {w : World} (hs : Sw S g N F q ft w) (hb : 9 ≤ bits ∧ bits ≤ 16) (hr : 1 ≤ room ∧ room ≤ 1024) : Cv S g bits room (w.heap.size + 2) N (g0 w.heap.size) q ft F (wCache w S g bits room) := by
  refine ⟨cache_cm w S g bits room, hs.kp0 (cache_kp w S g bits room), fun i hi hf => ?_, ⟨fun b a ha => (by cases ha), fun b a => ⟨fun h => (by cases h), fun h => (by cases h)⟩, Ranked.none (fun _ => rfl), fun b hb => (by cases hb), fun b => ⟨fun h => (by cases h), fun h => (by cases h.1)⟩, fun b hb => (by cases hb), fun b hb => (by cases hb), fun b hb => (by cases hb), fun k _ h2 _ => absurd h2 (Nat.not_lt_zero k)⟩, fun x a ha => (by cases ha), fun b hb => (by cases hb), List.nodup_nil, Nat.zero_le _, rfl, fun b hb => (by cases hb), fun b hb => (by cases hb), fun b hb => (by cases hb), Nat.zero_le _, hb, hr⟩
  have := hs.lt hf
  rcases cache_fc hi with e | e | e <;> omega
set_option maxRecDepth 100000 in
set_option maxHeartbeats 4000000 in
theorem new_good {S : ByteArray} {g bits room N : Nat} {q : Gf} {ft : List (Int × Int)} {F : Nat → Prop} {w : World} (hs : Sw S g N F q ft w) (hb : 9 ≤ bits ∧ bits ≤ 16) (hr : 1 ≤ room ∧ room ≤ 1024) :
    Calls Tryz.prog 15 #[ptr g, .string S, .int .i64 bits, .int .i64 room] w fun e w' => e = .returned (.tuple #[ptr (w.heap.size + 2), .int .i64 0]) ∧ w' = wCache w S g bits room := by
  have hmm := @run_makeMap Tryz.prog
  have HS := hid (size_w hs)
  clear hs
  unfold wCache
  unfold ptr at *
  go_enter Tryz.func15, Tryz.ntmps15
  go_wp2_with (first | (go_at_call 30; refine HS.out.mono ?_; rintro e w' ⟨rfl, h⟩; replace h := h.symm; subst h))
  go_ret2
  exact ⟨rfl, rfl⟩
end Go.Proofs.YtnccklbnncaeoaaGreat
/- cache: Counts. -/
namespace Go.Proofs.YtnccklbnncaeoaaGreat
open Go.RowKit
set_option linter.unusedVariables false
set_option linter.unusedSimpArgs false
theorem results_cell1 {P : Program} {fn : Func} {p : Tmp} {ty : TypeId} (h : fn.results = #[.cell p ty]) (tmps : Array Value) (w : World) (b : Nat) {v : Value} (hp : tmps.getD p undef = .pointer (some ⟨b, 0, none⟩)) (hl : (loadVar ty ⟨b, 0, none⟩).run P w = .ok v w) :
    (results fn tmps).run P w = .ok v w := by
  have hp' : tmps[p]?.getD undef = .pointer (some ⟨b, 0, none⟩) := by simpa using hp
  simp [results, h, hp', asAddr, hl]
theorem results_cell_tmp2 {P : Program} {fn : Func} {p u : Tmp} {ty : TypeId} (h : fn.results = #[.cell p ty, .tmp u]) (tmps : Array Value) (w : World) (b : Nat) {v x : Value} (hp : tmps.getD p undef = .pointer (some ⟨b, 0, none⟩)) (hu : tmps.getD u undef = x) (hl : (loadVar ty ⟨b, 0, none⟩).run P w = .ok v w) :
    (results fn tmps).run P w = .ok (.tuple #[v, x]) w := by
  have hp' : tmps[p]?.getD undef = .pointer (some ⟨b, 0, none⟩) := by simpa using hp
  have hu' : tmps[u]?.getD undef = x := by simpa using hu
  simp [results, h, hp', hu', asAddr, hl]
theorem Tryz.isz79 : (Tryz.prog.info? 79).map (·.size) = some 4 := by kernel_rfl
theorem Tryz.isz86 : (Tryz.prog.info? 86).map (·.size) = some 3 := by kernel_rfl
theorem load79 {w : World} {g : Nat} {a b c d : Value} (s : St 79 w g #[a, b, c, d]) : (loadVar 79 ⟨g, 0, none⟩).run Tryz.prog w = .ok (.agg #[a, b, c, d]) w :=
  run_loadVar_row w g 79 79 _ (0, 0) _ s Tryz.underlying79 rfl (by rw [Tryz.isz79]; rfl)
theorem load86 {w : World} {g : Nat} {a b c : Value} (s : St 86 w g #[a, b, c]) : (loadVar 86 ⟨g, 0, none⟩).run Tryz.prog w = .ok (.agg #[a, b, c]) w :=
  run_loadVar_row w g 86 86 _ (0, 0) _ s Tryz.underlying86 rfl (by rw [Tryz.isz86]; rfl)
section
variable {S : ByteArray} {g bits room Q N : Nat} {G : Gc} {q : Gf} {ft : List (Int × Int)} {F : Nat → Prop} {w : World}
set_option maxRecDepth 100000 in
set_option maxHeartbeats 4000000 in
theorem counts_any (h : Cv S g bits room Q N G q ft F w) :
    Calls Tryz.prog 34 #[ptr Q] w fun e w' => e = .returned (.agg #[.int .i64 G.n1, .int .i64 G.n2, .int .i64 G.n3, .int .i64 G.n4]) ∧ Kp (fun _ => False) w w' := by
  have HN : Hid (∀ U, Kp (fun _ => False) w U → Calls Tryz.prog 64 #[ptr Q] U fun e w' => e = .returned (.bool false) ∧ w' = U) := fun U k => (h.kp0 k).live
  have KA : Hid (Kp (fun _ => False) w (w.alloc (.cells #[.int .i64 0, .int .i64 0, .int .i64 0, .int .i64 0] 79))) := (Kp.refl _ _).alloc _
  have H1 := hid (h.kp0 KA.out)
  have SA : Hid (St 79 (w.alloc (.cells #[.int .i64 0, .int .i64 0, .int .i64 0, .int .i64 0] 79)) w.heap.size #[.int .i64 0, .int .i64 0, .int .i64 0, .int .i64 0]) := St.new 79 w _
  have z8 := H1.out.cm.st.cell 8
  have z9 := H1.out.cm.st.cell 9
  have z10 := H1.out.cm.st.cell 10
  have z11 := H1.out.cm.st.cell 11
  simp at z8 z9 z10 z11
  clear h
  unfold ptr at *
  go_enter Tryz.func34, Tryz.ntmps34
  go_wp2_with (first | (go_at_call 64; refine (HN.out _ KA.out).mono ?_; rintro e w' ⟨rfl, h⟩; replace h := h.symm; subst h))
  refine bodyPost_ret (results_cell1 Tryz.results34 _ _ _ rfl (load79 (St.new 79 w _))) rfl ?_
  exact ⟨rfl, (Kp.refl _ _).alloc _⟩
end
end Go.Proofs.YtnccklbnncaeoaaGreat
/- cache: waitForNone, Drop. -/
namespace Go.Proofs.YtnccklbnncaeoaaGreat
open Go.RowKit
set_option linter.unusedVariables false
set_option linter.unusedSimpArgs false
/-- Those of ds know no more that b waits for them. -/
def gT (G : Gc) (b : Nat) (ds : List Nat) : Gc := { G with R := fun a => if a ∈ ds then (G.R a).filter (fun x => decide (x ≠ b)) else G.R a }
theorem gT_nil (G : Gc) (b : Nat) : gT G b [] = G := by
  unfold gT
  simp
theorem gT_congr (G : Gc) (b : Nat) {ds es : List Nat} (h : ∀ x, x ∈ ds ↔ x ∈ es) : gT G b ds = gT G b es := by
  unfold gT
  simp only [h]
theorem gT_get {G : Gc} {b a : Nat} {ds : List Nat} (ha : a ∉ ds) : (gT G b ds).R a = G.R a := if_neg ha
theorem gT_snoc (G : Gc) (b : Nat) (ds : List Nat) (a : Nat) (ha : a ∉ ds) :
    { gT G b ds with R := upd (gT G b ds).R a (((gT G b ds).R a).filter (fun x => decide (x ≠ b))) } = gT G b (ds ++ [a]) := by
  have hR : upd (gT G b ds).R a (((gT G b ds).R a).filter (fun x => decide (x ≠ b))) = (gT G b (ds ++ [a])).R := by
    funext x
    unfold upd gT
    dsimp only
    by_cases hx : x = a
    · subst hx
      simp [ha]
    · simp [hx]
  rw [hR]
  rfl
/-- b waits for none any more. -/
def gWn (G : Gc) (b : Nat) : Gc := { gT G b (G.W b) with W := upd G.W b [] }
section
variable {S : ByteArray} {g bits room Q N : Nat} {G : Gc} {q : Gf} {ft : List (Int × Int)} {F : Nat → Prop} {w : World}
set_option maxHeartbeats 4000000 in
set_option maxRecDepth 100000 in
theorem wfn_any (h : Cm S g bits room Q G w) (b : Nat) (hb : b ∈ G.K) (hR : ∀ a ∈ G.W b, a ∈ G.K ∧ a ≠ b ∧ ∀ x ∈ G.R a, x ∈ G.K) :
    Calls Tryz.prog 85 #[ptr b] w fun e w' => e = .returned (.tuple #[]) ∧ Cm S g bits room Q (gWn G b) w' ∧ Kp (fun i => i = (G.c b).wm ∨ ∃ a ∈ G.W b, i = (G.c a).rm) w w' := by
  have hp := h.pg b (h.kb b hb)
  obtain ⟨s, hs⟩ := hp.wt
  obtain ⟨es, q, hm, hes⟩ := hp.ws
  have hrg := run_range_mp (P := Tryz.prog) Tryz.und106 hm
  have y7 := St.cell hs 6
  simp [Pc.cs] at y7
  have HS := hid h
  have HES := hid hes
  have HM := hid hm
  have HR0 := hid hR
  have HB := hid hb
  have hmlt := hm.lt
  clear h hp hs hes hm hR hb
  unfold ptr
  go_enter Tryz.func85, Tryz.ntmps85
  go_wp2_with fail
  have H0 : Hid (Mi (w.alloc (.mapIter (some (G.c b).wm) q #[] q)) w.heap.size (G.c b).wm q es []) := mi_new w (G.c b).wm q es
  have K0 : Hid (Kp (fun _ => False) w (w.alloc (.mapIter (some (G.c b).wm) q #[] q))) := (Kp.refl _ _).alloc _
  clear hrg y7
  generalize hr : w.heap.size = r at H0 ⊢
  generalize w.alloc (.mapIter (some (G.c b).wm) q #[] q) = W at H0 K0 ⊢
  have HR : Hid (w.heap.size = r) := hr
  clear hr
  go_loopw [3] (fun _ wr => ∃ ds, Mi wr r (G.c b).wm q es ds ∧ Cm S g bits room Q (gT G b (ds.map blk)) wr ∧ Kp (fun i => ∃ a ∈ G.W b, i = (G.c a).rm) w wr) (fun _ wr => es.length - itn wr r)
  case atStart =>
    refine ⟨[], H0.out, ?_, K0.out.mono (fun _ _ h => h.elim)⟩
    rw [List.map_nil, gT_nil]
    exact HS.out.kp0 K0.out
  case round =>
    clear H0 K0
    obtain ⟨ds, hmi, hcm, hkp⟩ := hrel
    have hbB := HS.out.kb b HB.out
    have hmap := blk_map HES.out
    have hRB : ∀ a ∈ G.W b, a ∈ G.B := fun a ha => HS.out.kb a (HR0.out a ha).1
    have hrm : r ≠ (G.c b).wm := by have := HR.out; omega
    have hnm : ¬ (∃ a ∈ G.W b, (G.c b).wm = (G.c a).rm) := by
      rintro ⟨a, ha, e⟩
      exact (HS.out.mi b hbB a (hRB a ha)).2.2 e
    have hm2 : Mp (Value.int .i64) wr (G.c b).wm es q := kp_mp HM.out hkp hnm
    have hin := hmi.itn
    have hle := hmi.le
    rcases hmi.next (P := Tryz.prog) hm2 hrm 0 with ⟨hp, hrun⟩ | ⟨e, w2, he, hne, hrun, hmi2, hk2, hent⟩
    · have hset : gT G b (ds.map blk) = gT G b (G.W b) := gT_congr G b (fun x => by rw [← hmap.1]; exact (hp.map blk).mem_iff)
      rw [hset] at hcm
      have hpb := hcm.pg b hbB
      obtain ⟨s2, hs2⟩ := hpb.wt
      have y7 := St.cell hs2 6
      simp [Pc.cs] at y7
      change wr.cell? _ = some (.map (some (G.c b).wm)) at y7
      obtain ⟨o', hcl, hcm1, hck⟩ := Mn.clear hpb.ws
      have HC : Hid (Cm S g bits room Q (gWn G b) (wr.putObj (G.c b).wm o')) := hcm.waits hbB hcm1 hck
      have HKC : Hid (Kp (fun i => i = (G.c b).wm) wr (wr.putObj (G.c b).wm o')) := hck
      have HKP := hid hkp
      change ∀ ty, (Builtin.clear_ #[106] ty #[.map (some (G.c b).wm)]).run Tryz.prog wr = _ at hcl
      clear hcm hpb hs2 hcm1 hck hkp hmi hm2 hp hset hmap
      go_wp2_with (first | (simp only [hcl]))
      go_end0
      exact ⟨rfl, HC.out, (HKP.out.mono (fun i _ h => .inr h)).trans HKC.out (fun i _ h => .inl h)⟩
    · obtain ⟨a, hae⟩ : ∃ a, blk e = a := ⟨_, rfl⟩
      have hea := hmap.2 e he
      rw [hae] at hea
      have haR : a ∈ G.W b := by rw [← hmap.1, ← hae]; exact List.mem_map_of_mem he
      obtain ⟨haK, hab, hWK⟩ := HR0.out a haR
      have haB := hRB a haR
      have had : a ∉ ds.map blk := by
        rw [← hae]
        exact blk_new HM.out.2 HES.out hmi.sub he hne
      have hcm2 : Cm S g bits room Q (gT G b (ds.map blk)) w2 := hcm.kp hk2 (fun i hi e => by
        have h1 := HS.out.lt (i := i) hi
        have h2 := HR.out
        subst e
        omega)
      have hcm3 := hcm2.kp0 (Kp.refl (fun _ => False) w2).drew
      obtain ⟨s1, ha1⟩ := (hcm2.pg a haB).wt
      obtain ⟨s2, hb1⟩ := (hcm2.pg b hbB).wt
      have ya := St.cell ha1 7
      have yb := St.cell hb1 0
      simp [Pc.cs] at ya yb
      change w2.cell? _ = some (.map (some (G.c a).rm)) at ya
      change w2.cell? _ = some (.int .i64 ((G.c b).n : Int)) at yb
      have hwa : Mn G.c w2.drew (G.c a).rm (G.R a) := by
        have := (hcm3.pg a haB).rs
        rw [gT_get had] at this
        exact this
      obtain ⟨o', hdl, hdm, hdk⟩ := hwa.del (G.c b).n
      have hfl : (G.R a).filter (fun x => decide ((G.c x).n ≠ (G.c b).n)) = ((gT G b (ds.map blk)).R a).filter (fun x => decide (x ≠ b)) := by
        rw [gT_get had]
        refine List.filter_congr fun x hx => ?_
        by_cases e1 : x = b
        · subst e1; simp
        · have : (G.c x).n ≠ (G.c b).n := fun e2 => e1 (HS.out.ks.nin x (hWK x hx) b HB.out e2)
          simp [e1, this]
      rw [hfl] at hdm
      have hc4 := hcm3.waiters haB hdm hdk
      rw [gT_snoc G b (ds.map blk) a had] at hc4
      have HC4 := hid hc4
      have HKP : Hid (Kp (fun i => ∃ a ∈ G.W b, i = (G.c a).rm) w (w2.drew.putObj (G.c a).rm o')) := by
        refine ((hkp.trans hk2 (fun i hi h => ?_)).trans (Kp.refl (fun _ => False) w2).drew (fun i _ h => h.elim)).trans hdk (fun i _ h => ⟨a, haR, h⟩)
        have := HR.out
        omega
      have hin2 := hmi2.itn
      rw [List.length_append, List.length_singleton] at hin2
      have hle2 := hmi2.le
      rw [List.length_append, List.length_singleton] at hle2
      have HMI : Hid (Mi (w2.drew.putObj (G.c a).rm o') r (G.c b).wm q es (ds ++ [e])) := (hmi2.kp (Kp.refl (fun _ => False) w2).drew (fun h => h)).kp hdk (fun e2 => by
        have h1 := (HS.out.pg a haB).rs.lt
        have h2 := HR.out
        omega)
      have HIN : Hid (itn wr r = ds.length) := hin
      have HAE := hid hae
      rw [hea.2] at hrun hent
      unfold ptr at hrun hent
      clear hcm hcm2 hcm3 hc4 hwa hdm hdk hfl ha1 hb1 hkp hmi hmi2 hk2 hm2 hin hin2 hmap hWK hae
      go_wp2
      go_region
      all_goals (try go_wp2_with (first | (simp only [hdl])))
      have hmi3 := HMI.out
      have h4 := hmi3.itn
      rw [List.length_append, List.length_singleton] at h4
      refine ⟨⟨ds ++ [e], hmi3, ?_, HKP.out⟩, by rw [HIN.out, h4]; omega⟩
      rw [List.map_append, List.map_singleton, HAE.out]
      exact HC4.out
theorem Cv.wn (h : Cv S g bits room Q N G q ft F w) (b : Nat) (hb : b ∈ G.K) {w' : World} (hc : Cm S g bits room Q (gWn G b) w') (hk : Kp (fun i => i = (G.c b).wm ∨ ∃ a ∈ G.W b, i = (G.c a).rm) w w') : Cv S g bits room Q N (gWn G b) q ft F w' ∧ Cch Q G (gWn G b) F F w w' := by
  have hW : ∀ x a, a ∈ (gWn G b).W x ↔ a ∈ G.W x ∧ x ≠ b := fun x a => by
    show a ∈ upd G.W b [] x ↔ _
    unfold upd
    by_cases e : x = b
    · simp [e]
    · simp [e]
  have hR : ∀ x a, x ∈ (gWn G b).R a ↔ x ∈ G.R a ∧ x ≠ b := fun x a => by
    show x ∈ (if a ∈ G.W b then (G.R a).filter (fun x => decide (x ≠ b)) else G.R a) ↔ _
    split
    · simp
    · rename_i hn
      constructor
      · intro hx
        refine ⟨hx, ?_⟩
        rintro rfl
        exact hn ((h.iv.wr x a).2 hx)
      · exact fun hx => hx.1
  have hkk : Kp (Fc Q G) w w' := hk.mono (fun i _ e => by
    rcases e with e | ⟨a, ha, e⟩
    · exact .inr (.inr (.inr (.inr (.inr ⟨b, h.iv.kb b hb, .inr (.inl e)⟩))))
    · exact .inr (.inr (.inr (.inr (.inr ⟨a, h.iv.kb a (h.iv.wk b a ha).2, .inr (.inr (.inl e))⟩)))))
  refine ⟨⟨hc, h.sw.kp hkk (fun i hi hf => h.ap i hf hi), h.ap, ⟨fun x a ha => h.iv.wk x a ((hW x a).1 ha).1, fun x a => ?_, h.iv.rk.sub (fun x a ha => ((hW x a).1 ha).1), h.iv.kb, h.iv.lk, h.iv.ll, h.iv.pk, h.iv.dk, h.iv.hp⟩, fun x a ha => h.op x a ((hW x a).1 ha).1, h.pp, h.pn, h.nn, h.tt, h.tk, h.nb, h.yl, h.lr, h.bb, h.rr⟩, hkk.mono (fun i _ e => .inl e), fun i hi => .inl hi, fun i hi => .inl hi⟩
  rw [hW x a, hR x a, h.iv.wr x a]
/-- Drop. -/
def DrP (S : ByteArray) (g bits room Q N : Nat) (G : Gc) (q : Gf) (ft : List (Int × Int)) (F : Nat → Prop) (w : World) (k : Int) (e : Ending) (w' : World) : Prop :=
  if mayn bits k = true then match kget G k.toNat with
    | some b => e = .returned (.int .i64 0) ∧ ∃ lv M, (b :: M).Perm G.L ∧ Cv S g bits room Q N (gLet (gWn G b) lv M b) q ft F w' ∧ Cch Q G (gLet (gWn G b) lv M b) F F w w'
    | none => e = .returned (.int .i64 7) ∧ w' = w
  else e = .returned (.int .i64 2) ∧ w' = w
set_option maxHeartbeats 4000000 in
theorem cdrop_any (h : Cv S g bits room Q N G q ft F w) (k : Int) :
    Calls Tryz.prog 38 #[ptr Q, .int .i64 k] w (DrP S g bits room Q N G q ft F w k) := by
  unfold DrP
  by_cases hk : mayn bits k = true
  · simp only [if_pos hk]
    obtain ⟨m, rfl⟩ : ∃ m : Nat, k = (m : Int) := by
      unfold mayn at hk
      simp at hk
      exact ⟨k.toNat, by omega⟩
    rw [Int.toNat_natCast]
    have HF := hid (find_any h m hk)
    cases hg : kget G m with
    | none =>
      rw [hg] at HF
      clear h
      unfold ptr at *
      go_enter Tryz.func38, Tryz.ntmps38
      go_wp2_with (first | (go_at_call 70; refine HF.out.mono ?_; rintro e w' ⟨rfl, h⟩; replace h := h.symm; subst h))
      go_ret
      exact ⟨rfl, rfl⟩
    | some b =>
      rw [hg] at HF
      obtain ⟨h1, h2, h3, h4⟩ := h.kget_some hg
      have HW := hid (wfn_any h.cm b h3 (fun a ha => ⟨(h.iv.wk b a ha).2, fun e => h.iv.rk.irr b (.one (e ▸ ha)), fun x hx => (h.iv.wk x a ((h.iv.wr x a).2 hx)).1⟩))
      have HL : Hid (∀ w1, Cm S g bits room Q (gWn G b) w1 → Kp (fun i => i = (G.c b).wm ∨ ∃ a ∈ G.W b, i = (G.c a).rm) w w1 → Calls Tryz.prog 86 #[ptr Q, ptr b] w1 fun e w' => e = .returned (.tuple #[]) ∧ ∃ lv M, (b :: M).Perm G.L ∧ Cv S g bits room Q N (gLet (gWn G b) lv M b) q ft F w' ∧ Cch Q G (gLet (gWn G b) lv M b) F F w w') := fun w1 hc hk => by
        obtain ⟨v1, c1⟩ := h.wn b h3 hc hk
        refine (letgo_cv v1 b h1).mono ?_
        rintro e w' ⟨rfl, lv, M, hp, hv, hc⟩
        exact ⟨rfl, lv, M, hp, hv, c1.trans hc⟩
      clear h
      unfold ptr at *
      go_enter Tryz.func38, Tryz.ntmps38
      go_wp2_with (first | (go_at_call 70; refine HF.out.mono ?_; rintro e w' ⟨rfl, h⟩; replace h := h.symm; subst h) | (go_at_call 85; refine HW.out.mono ?_; rintro _ w1 ⟨rfl, hc, hk⟩; have HL1 := hid (HL.out w1 hc hk); clear hc hk) | (go_at_call 86; refine HL1.out.mono ?_; rintro _ w2 ⟨rfl, H1⟩))
      go_ret
      exact ⟨rfl, H1⟩
  · have hk2 : mayn bits k = false := by simpa using hk
    have HF := hid (find_bad h k hk2)
    simp only [if_neg hk]
    clear h
    unfold ptr at *
    go_enter Tryz.func38, Tryz.ntmps38
    go_wp2_with (first | (go_at_call 70; refine HF.out.mono ?_; rintro e w' ⟨rfl, h⟩; replace h := h.symm; subst h))
    go_ret
    exact ⟨rfl, rfl⟩
end
end Go.Proofs.YtnccklbnncaeoaaGreat
/- cache: the search through those who wait for one another; plain mathematics. -/
namespace Go.Proofs.YtnccklbnncaeoaaGreat
open Go.RowKit
set_option linter.unusedVariables false
set_option linter.unusedSimpArgs false
/-- What a search from b leaves. -/
def Srch (W : Nat → List Nat) (o b : Nat) (sn : List Nat) (fo : Bool) (sn' : List Nat) (fo' : Bool) : Prop :=
  (fo' = true → fo = true ∨ Rch W b o) ∧ (fo' = false → fo = false ∧ (∀ x ∈ W b, x ≠ o ∧ x ∈ sn') ∧ ∀ y ∈ sn', y ∉ sn → ∀ x ∈ W y, x ≠ o ∧ x ∈ sn')
/-- And when those of D have come. -/
def SrchI (W : Nat → List Nat) (o b : Nat) (D sn : List Nat) (fo : Bool) (sn' : List Nat) (fo' : Bool) : Prop :=
  (fo' = true → fo = true ∨ Rch W b o) ∧ (fo' = false → fo = false ∧ (∀ x ∈ D, x ≠ o ∧ x ∈ sn') ∧ ∀ y ∈ sn', y ∉ sn → ∀ x ∈ W y, x ≠ o ∧ x ∈ sn')
theorem SrchI.start (W : Nat → List Nat) (o b : Nat) (sn : List Nat) (fo : Bool) : SrchI W o b [] sn fo sn fo :=
  ⟨.inl, fun h => ⟨h, fun x hx => by (cases hx), fun y hy hn => absurd hy hn⟩⟩
theorem SrchI.found {W : Nat → List Nat} {o b x : Nat} {D sn sn' : List Nat} {fo fo' : Bool} (h : SrchI W o b D sn fo sn' fo') (hx : x ∈ W b) (hf : fo' = true ∨ x = o) : Srch W o b sn fo sn' true := by
  refine ⟨fun _ => ?_, fun e => by cases e⟩
  rcases hf with e | e
  · exact h.1 e
  · exact .inr (.one (e ▸ hx))
theorem SrchI.again {W : Nat → List Nat} {o b x : Nat} {D sn sn' : List Nat} {fo : Bool} (h : SrchI W o b D sn fo sn' false) (hx : x ∈ sn') (hf : x ≠ o) : SrchI W o b (D ++ [x]) sn fo sn' false := by
  refine ⟨fun e => (by cases e), fun _ => ?_⟩
  obtain ⟨h1, h2, h3⟩ := h.2 rfl
  refine ⟨h1, fun y hy => ?_, h3⟩
  rcases List.mem_append.1 hy with hy | hy
  · exact h2 y hy
  · rw [List.mem_singleton.1 hy]; exact ⟨hf, hx⟩
theorem SrchI.step {W : Nat → List Nat} {o b x : Nat} {D sn sn1 sn2 : List Nat} {fo fo2 : Bool} (h : SrchI W o b D sn fo sn1 false) (hx : x ∈ W b) (hf : x ≠ o) (k : Srch W o x (x :: sn1) false sn2 fo2) (hs : ∀ y ∈ x :: sn1, y ∈ sn2) : SrchI W o b (D ++ [x]) sn fo sn2 fo2 := by
  obtain ⟨h1, h2, h3⟩ := h.2 rfl
  refine ⟨fun e => ?_, fun e => ?_⟩
  · rcases k.1 e with k1 | k1
    · cases k1
    · exact .inr (.step hx k1)
  · obtain ⟨_, k2, k3⟩ := k.2 e
    refine ⟨h1, fun y hy => ?_, fun y hy hn z hz => ?_⟩
    · rcases List.mem_append.1 hy with hy | hy
      · exact ⟨(h2 y hy).1, hs y (List.mem_cons_of_mem _ (h2 y hy).2)⟩
      · rw [List.mem_singleton.1 hy]
        exact ⟨hf, hs x List.mem_cons_self⟩
    · by_cases e1 : y ∈ x :: sn1
      · rcases List.mem_cons.1 e1 with rfl | e2
        · exact k2 z hz
        · have := h3 y e2 hn z hz
          exact ⟨this.1, hs z (List.mem_cons_of_mem _ this.2)⟩
      · exact k3 y hy e1 z hz
theorem SrchI.done {W : Nat → List Nat} {o b : Nat} {D sn sn' : List Nat} {fo fo' : Bool} (h : SrchI W o b D sn fo sn' fo') (hp : ∀ x ∈ W b, x ∈ D) : Srch W o b sn fo sn' fo' :=
  ⟨h.1, fun e => ⟨(h.2 e).1, fun x hx => (h.2 e).2.1 x (hp x hx), (h.2 e).2.2⟩⟩
theorem miss_le {K S T : List Nat} (h : ∀ x ∈ S, x ∈ T) : (K.filter (fun k => decide (k ∉ T))).length ≤ (K.filter (fun k => decide (k ∉ S))).length := by
  induction K with
  | nil => exact Nat.le_refl _
  | cons a l ih =>
    by_cases h1 : a ∉ T
    · have h2 : a ∉ S := fun e => h1 (h a e)
      rw [List.filter_cons_of_pos (by simpa using h1), List.filter_cons_of_pos (by simpa using h2)]
      simpa using ih
    · rw [List.filter_cons_of_neg (by simpa using h1)]
      by_cases h2 : a ∉ S
      · rw [List.filter_cons_of_pos (by simpa using h2), List.length_cons]; omega
      · rw [List.filter_cons_of_neg (by simpa using h2)]; exact ih
/-- Behind a search that began with nobody seen. -/
theorem Srch.rch {W : Nat → List Nat} {o b : Nat} {sn' : List Nat} {fo' : Bool} (h : Srch W o b [] false sn' fo') : fo' = true ↔ Rch W b o := by
  constructor
  · intro e
    rcases h.1 e with e1 | e1
    · cases e1
    · exact e1
  · intro hr
    cases e : fo' with
    | true => rfl
    | false =>
      obtain ⟨_, h2, h3⟩ := h.2 e
      exact absurd hr (dfs_none (S := fun x => x ∈ sn') h2 (fun y hy => h3 y hy (by simp)))
end Go.Proofs.YtnccklbnncaeoaaGreat
