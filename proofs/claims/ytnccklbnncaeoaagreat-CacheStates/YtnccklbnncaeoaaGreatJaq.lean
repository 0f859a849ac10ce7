import Derived.Test.YtnccklbnncaeoaaGreatJap
import Derived.Test.YtnccklbnncaeoaaGreatJad
import Derived.Sort.KeysCollected
import Derived.Maps.Range
import Derived.StringKeys
import Derived.Shelf.SlIterI.Sorted
import Derived.Shelf.SlIterI.Nil
import Derived.DataShut
import Derived.Shelf.SortM.Plain
import Derived.Shelf.SortM.SortNone
import Derived.Shelf.Lay
import Derived.Ground.GgzProg
import Derived.Ground.SlgmProg
/- cache: Write. -/
namespace Go.Proofs.YtnccklbnncaeoaaGreat
open Go.RowKit
set_option linter.unusedVariables false
set_option linter.unusedSimpArgs false
/-- A page's bytes are written. -/
def gWr (G : Gc) (b i : Nat) (zs : List Int) (lv : Value) (L : List Nat) : Gc := { G with y := upd G.y b (some (i, zs)), c := upd G.c b { G.c b with di := true }, lv := lv, L := L }
section
variable {S : ByteArray} {g bits room Q N : Nat} {G : Gc} {q : Gf} {ft : List (Int × Int)} {F : Nat → Prop} {w : World}
theorem di_c (G : Gc) (b : Nat) (d : Bool) (a : Nat) : (upd G.c b { G.c b with di := d } a).n = (G.c a).n ∧ (upd G.c b { G.c b with di := d } a).pe = (G.c a).pe ∧ (upd G.c b { G.c b with di := d } a).tk = (G.c a).tk ∧ (upd G.c b { G.c b with di := d } a).wm = (G.c a).wm ∧ (upd G.c b { G.c b with di := d } a).rm = (G.c a).rm ∧ (upd G.c b { G.c b with di := d } a).di = if a = b then d else (G.c a).di := by
  unfold upd
  split
  · rename_i e; rw [e]; exact ⟨rfl, rfl, rfl, rfl, rfl, rfl⟩
  · exact ⟨rfl, rfl, rfl, rfl, rfl, rfl⟩
/-- Behind the copy: the flag and the line. -/
theorem wr_tail (h : Cv S g bits room Q N G q ft F w) (b i : Nat) (zs zs' : List Int) (hb : b ∈ G.L) (hy : G.y b = some (i, zs)) (hl : zs'.length = zs.length) {W : World} (hr : Rw .u8 5 W i zs') (hk : Kp (fun j => j = i) w W) :
    W.cell? ⟨b, 2, none⟩ = some (.bool (G.c b).di) ∧ W.frozen? ⟨b, 2, none⟩ = false ∧ (W.setCell ⟨b, 2, none⟩ (.bool true)).cell? ⟨Q, 5, none⟩ = some (ptr G.kl) ∧
    Calls Tryz.prog 63 #[ptr G.kl, ptr b] (W.setCell ⟨b, 2, none⟩ (.bool true)) fun e w' => e = .returned (.tuple #[]) ∧ ∃ lv L, L.Perm G.L ∧ Cv S g bits room Q N (gWr G b i zs' lv L) q ft F w' ∧ Cch Q G (gWr G b i zs' lv L) F F w w' := by
  have hB := h.cm.lb b hb
  have c1 : Cm S g bits room Q { G with y := upd G.y b (some (i, zs')) } W := h.cm.bytes hB hy hl hr hk
  obtain ⟨s, hs⟩ := (c1.pg b hB).wt
  obtain ⟨c2, k2⟩ := c1.setdi (b := b) hB true
  refine ⟨by have := St.cell hs 2; simpa [Pc.cs] using this, St.frozen hs 2, by have := c2.st.cell 5; simpa using this, ?_⟩
  clear hs
  generalize W.setCell ⟨b, 2, none⟩ (.bool true) = w2 at c2 k2 ⊢
  have hrr := h.rr
  have hlr := h.lr
  have hcc := di_c G b true
  have hfw : ∀ j, Fc Q { G with y := upd G.y b (some (i, zs')), c := upd G.c b { G.c b with di := true } } j → Fc Q G j := fun j hj =>
    fc_same (H := { G with y := upd G.y b (some (i, zs')), c := upd G.c b { G.c b with di := true } }) (G := G) rfl rfl rfl rfl rfl (fun a _ => ⟨(hcc a).2.2.2.1, (hcc a).2.2.2.2.1⟩) (fun a _ j us e => by
      change upd G.y b (some (i, zs')) a = some (j, us) at e
      unfold upd at e
      split at e
      · rename_i e2; cases e; exact ⟨zs, by rw [e2]; exact hy⟩
      · exact ⟨us, e⟩) j hj
  refine (moved_any c2 b hb G.c h.iv.hp (fun a ha => upd_other _ _ ha) (by show G.L.length < _; omega)).mono ?_
  rintro e w' ⟨rfl, lv, L, hL, hh, hc, hk3, hfc⟩
  have hFi : Fc Q G i := .inr (.inr (.inr (.inr (.inr ⟨b, hB, .inr (.inr (.inr ⟨zs, hy⟩))⟩))))
  have hFb : Fc Q G b := .inr (.inr (.inr (.inr (.inr ⟨b, hB, .inl rfl⟩))))
  have hkk : Kp (Fc Q G) w w' := ((hk.mono (G := Fc Q G) (fun j _ e => e ▸ hFi)).trans k2 (fun j _ e => e ▸ hFb)).trans hk3 (fun j _ e => hfw j e)
  have hsz := hk.size
  have hsz2 := k2.size
  have hff : ∀ j, Fc Q (gWr G b i zs' lv L) j → Fc Q G j ∨ w.heap.size ≤ j := fun j hj => by
    rcases hfc j hj with e | e
    · exact .inl (hfw j e)
    · exact .inr (by omega)
  refine ⟨rfl, lv, L, hL, ⟨hc, h.sw.kp hkk (fun j hj hf => h.ap j hf hj), fun j hj hf => ?_, ⟨h.iv.wk, h.iv.wr, h.iv.rk, h.iv.kb, fun a => ?_, fun a ha => h.iv.ll a (hL.mem_iff.1 ha), fun a ha he => h.iv.pk a ha (by rw [← (hcc a).2.1]; exact he), fun a ha hd => ?_, hh⟩, fun x a ha => ?_, fun a ha => ?_, h.pn, h.nn, h.tt, fun a ha => ?_, fun a ha => ?_, fun a ha j us e => ?_, ?_, h.bb, h.rr⟩, hkk.mono (fun j _ e => .inl e), hff, fun j hj => .inl hj⟩
  · rcases hff j hj with e | e
    · exact h.ap j e hf
    · have := h.sw.lt hf; omega
  · show a ∈ L ↔ a ∈ G.B ∧ upd G.y b (some (i, zs')) a ≠ none
    rw [hL.mem_iff, h.iv.lk a]
    unfold upd
    by_cases e : a = b
    · subst e
      simp [hy]
    · rw [if_neg e]
  · have hd2 : (upd G.c b { G.c b with di := true } a).di = true := hd
    rw [(hcc a).2.2.2.2.2] at hd2
    split at hd2
    · rename_i e; subst e; exact hL.mem_iff.2 hb
    · exact hL.mem_iff.2 (h.iv.dk a ha hd2)
  · show (upd G.c b { G.c b with di := true } a).di = true ∨ (upd G.c b { G.c b with di := true } a).pe = true
    rw [(hcc a).2.1, (hcc a).2.2.2.2.2]
    split
    · exact .inl rfl
    · exact h.op x a ha
  · show (upd G.c b { G.c b with di := true } a).pe = true
    rw [(hcc a).2.1]; exact h.pp a ha
  · show (upd G.c b { G.c b with di := true } a).tk ≤ G.t
    rw [(hcc a).2.2.1]; exact h.tk a ha
  · show (upd G.c b { G.c b with di := true } a).n < _
    rw [(hcc a).1]; exact h.nb a ha
  · change upd G.y b (some (i, zs')) a = some (j, us) at e
    unfold upd at e
    split at e
    · cases e; rw [hl]; exact h.yl b hB i zs hy
    · exact h.yl a ha j us e
  · show L.length ≤ room
    rw [hL.length_eq]; exact h.lr
/-- Write. -/
def WrR (S : ByteArray) (g bits room Q N : Nat) (G : Gc) (q : Gf) (ft : List (Int × Int)) (F : Nat → Prop) (w : World) (k a : Int) (xs : List Int) (e : Ending) (w' : World) : Prop :=
  (((mayn bits k && withn bits a xs.length) = false) ∧ (Kp (fun _ => False) w w') ∧ e = (.returned (.int .i64 2))) ∨
  (∃ z : Int, ∃ k1 : Nat, ∃ G1 : Gc, ∃ q1 : Gf, ∃ ft1 : List (Int × Int), ∃ F1 : Nat → Prop, (mayn bits k = true) ∧ (withn bits a xs.length = true) ∧ (kget G k.toNat = none) ∧ (z ≠ 0) ∧ (Out bits k1 ⟨G, q, ft⟩ z ⟨G1, q1, ft1⟩) ∧ (k1 + mu G1 ≤ mu G + 2) ∧ (Cv S g bits room Q (N + k1) G1 q1 ft1 F1 w') ∧ (Cch Q G G1 F F1 w w') ∧ e = (.returned (.int .i64 z))) ∨
  (∃ k1 : Nat, ∃ b : Nat, ∃ H : Gc, ∃ q1 : Gf, ∃ ft1 : List (Int × Int), ∃ F1 : Nat → Prop, (mayn bits k = true) ∧ (withn bits a xs.length = true) ∧ (UseG bits room w.heap.size k1 k.toNat G q ft H q1 ft1 b) ∧ (b ∈ H.L) ∧ (xs = []) ∧ (Cv S g bits room Q (N + k1) H q1 ft1 F1 w') ∧ (Cch Q G H F F1 w w') ∧ e = (.returned (.int .i64 0))) ∨
  (∃ k1 : Nat, ∃ b : Nat, ∃ i : Nat, ∃ zs : List Int, ∃ lv : Value, ∃ L : List Nat, ∃ H : Gc, ∃ q1 : Gf, ∃ ft1 : List (Int × Int), ∃ F1 : Nat → Prop, (mayn bits k = true) ∧ (withn bits a xs.length = true) ∧ (UseG bits room w.heap.size k1 k.toNat G q ft H q1 ft1 b) ∧ (b ∈ H.L) ∧ (H.y b = some (i, zs)) ∧ (xs ≠ []) ∧ (L.Perm H.L) ∧ (Cv S g bits room Q (N + k1) (gWr H b i (splice zs a.toNat xs) lv L) q1 ft1 F1 w') ∧ (Cch Q G (gWr H b i (splice zs a.toNat xs) lv L) F F1 w w') ∧ e = (.returned (.int .i64 0)))
theorem WrR.bad {S : ByteArray} {g bits room Q N : Nat} {G : Gc} {q : Gf} {ft : List (Int × Int)} {F : Nat → Prop} {w : World} {k a : Int} {xs : List Int} {w' : World} (h1 : (mayn bits k && withn bits a xs.length) = false) (h2 : Kp (fun _ => False) w w') : WrR S g bits room Q N G q ft F w k a xs (.returned (.int .i64 2)) w' :=
  .inl ⟨h1, h2, rfl⟩
theorem WrR.fail {S : ByteArray} {g bits room Q N : Nat} {G : Gc} {q : Gf} {ft : List (Int × Int)} {F : Nat → Prop} {w : World} {k a : Int} {xs : List Int} {w' : World} {z : Int} {k1 : Nat} {G1 : Gc} {q1 : Gf} {ft1 : List (Int × Int)} {F1 : Nat → Prop} (h1 : mayn bits k = true) (h2 : withn bits a xs.length = true) (h3 : kget G k.toNat = none) (h4 : z ≠ 0) (h5 : Out bits k1 ⟨G, q, ft⟩ z ⟨G1, q1, ft1⟩) (h6 : k1 + mu G1 ≤ mu G + 2) (h7 : Cv S g bits room Q (N + k1) G1 q1 ft1 F1 w') (h8 : Cch Q G G1 F F1 w w') : WrR S g bits room Q N G q ft F w k a xs (.returned (.int .i64 z)) w' :=
  .inr (.inl ⟨z, k1, G1, q1, ft1, F1, h1, h2, h3, h4, h5, h6, h7, h8, rfl⟩)
theorem WrR.nil {S : ByteArray} {g bits room Q N : Nat} {G : Gc} {q : Gf} {ft : List (Int × Int)} {F : Nat → Prop} {w : World} {k a : Int} {xs : List Int} {w' : World} {k1 : Nat} {b : Nat} {H : Gc} {q1 : Gf} {ft1 : List (Int × Int)} {F1 : Nat → Prop} (h1 : mayn bits k = true) (h2 : withn bits a xs.length = true) (h3 : UseG bits room w.heap.size k1 k.toNat G q ft H q1 ft1 b) (h4 : b ∈ H.L) (h5 : xs = []) (h6 : Cv S g bits room Q (N + k1) H q1 ft1 F1 w') (h7 : Cch Q G H F F1 w w') : WrR S g bits room Q N G q ft F w k a xs (.returned (.int .i64 0)) w' :=
  .inr (.inr (.inl ⟨k1, b, H, q1, ft1, F1, h1, h2, h3, h4, h5, h6, h7, rfl⟩))
theorem WrR.ok {S : ByteArray} {g bits room Q N : Nat} {G : Gc} {q : Gf} {ft : List (Int × Int)} {F : Nat → Prop} {w : World} {k a : Int} {xs : List Int} {w' : World} {k1 : Nat} {b : Nat} {i : Nat} {zs : List Int} {lv : Value} {L : List Nat} {H : Gc} {q1 : Gf} {ft1 : List (Int × Int)} {F1 : Nat → Prop} (h1 : mayn bits k = true) (h2 : withn bits a xs.length = true) (h3 : UseG bits room w.heap.size k1 k.toNat G q ft H q1 ft1 b) (h4 : b ∈ H.L) (h5 : H.y b = some (i, zs)) (h6 : xs ≠ []) (h7 : L.Perm H.L) (h8 : Cv S g bits room Q (N + k1) (gWr H b i (splice zs a.toNat xs) lv L) q1 ft1 F1 w') (h9 : Cch Q G (gWr H b i (splice zs a.toNat xs) lv L) F F1 w w') : WrR S g bits room Q N G q ft F w k a xs (.returned (.int .i64 0)) w' :=
  .inr (.inr (.inr (⟨k1, b, i, zs, lv, L, H, q1, ft1, F1, h1, h2, h3, h4, h5, h6, h7, h8, h9, rfl⟩)))
theorem WrR.el {S : ByteArray} {g bits room Q N : Nat} {G : Gc} {q : Gf} {ft : List (Int × Int)} {F : Nat → Prop} {w : World} {k a : Int} {xs : List Int} {motive : ∀ (e : Ending) (w' : World), WrR S g bits room Q N G q ft F w k a xs e w' → Prop}
    (bad : ∀ {w' : World} (h1 : (mayn bits k && withn bits a xs.length) = false) (h2 : Kp (fun _ => False) w w'), motive (.returned (.int .i64 2)) w' (WrR.bad h1 h2))
    (fail : ∀ {w' : World} {z : Int} {k1 : Nat} {G1 : Gc} {q1 : Gf} {ft1 : List (Int × Int)} {F1 : Nat → Prop} (h1 : mayn bits k = true) (h2 : withn bits a xs.length = true) (h3 : kget G k.toNat = none) (h4 : z ≠ 0) (h5 : Out bits k1 ⟨G, q, ft⟩ z ⟨G1, q1, ft1⟩) (h6 : k1 + mu G1 ≤ mu G + 2) (h7 : Cv S g bits room Q (N + k1) G1 q1 ft1 F1 w') (h8 : Cch Q G G1 F F1 w w'), motive (.returned (.int .i64 z)) w' (WrR.fail h1 h2 h3 h4 h5 h6 h7 h8))
    (nil : ∀ {w' : World} {k1 : Nat} {b : Nat} {H : Gc} {q1 : Gf} {ft1 : List (Int × Int)} {F1 : Nat → Prop} (h1 : mayn bits k = true) (h2 : withn bits a xs.length = true) (h3 : UseG bits room w.heap.size k1 k.toNat G q ft H q1 ft1 b) (h4 : b ∈ H.L) (h5 : xs = []) (h6 : Cv S g bits room Q (N + k1) H q1 ft1 F1 w') (h7 : Cch Q G H F F1 w w'), motive (.returned (.int .i64 0)) w' (WrR.nil h1 h2 h3 h4 h5 h6 h7))
    (ok : ∀ {w' : World} {k1 : Nat} {b : Nat} {i : Nat} {zs : List Int} {lv : Value} {L : List Nat} {H : Gc} {q1 : Gf} {ft1 : List (Int × Int)} {F1 : Nat → Prop} (h1 : mayn bits k = true) (h2 : withn bits a xs.length = true) (h3 : UseG bits room w.heap.size k1 k.toNat G q ft H q1 ft1 b) (h4 : b ∈ H.L) (h5 : H.y b = some (i, zs)) (h6 : xs ≠ []) (h7 : L.Perm H.L) (h8 : Cv S g bits room Q (N + k1) (gWr H b i (splice zs a.toNat xs) lv L) q1 ft1 F1 w') (h9 : Cch Q G (gWr H b i (splice zs a.toNat xs) lv L) F F1 w w'), motive (.returned (.int .i64 0)) w' (WrR.ok h1 h2 h3 h4 h5 h6 h7 h8 h9))
    {e : Ending} {w' : World} (h : WrR S g bits room Q N G q ft F w k a xs e w') : motive e w' h := by
  rcases h with ⟨h1, h2, rfl⟩ | ⟨z, k1, G1, q1, ft1, F1, h1, h2, h3, h4, h5, h6, h7, h8, rfl⟩ | ⟨k1, b, H, q1, ft1, F1, h1, h2, h3, h4, h5, h6, h7, rfl⟩ | ⟨k1, b, i, zs, lv, L, H, q1, ft1, F1, h1, h2, h3, h4, h5, h6, h7, h8, h9, rfl⟩
  · exact bad h1 h2
  · exact fail h1 h2 h3 h4 h5 h6 h7 h8
  · exact nil h1 h2 h3 h4 h5 h6 h7
  · exact ok h1 h2 h3 h4 h5 h6 h7 h8 h9
set_option maxRecDepth 100000 in
set_option maxHeartbeats 8000000 in
theorem cwrite_any (h : Cv S g bits room Q N G q ft F w) (k a : Int) (xs : List Int) (ao : Option Addr) (m cap : Nat) (hm : m = xs.length) (hm6 : m ≤ 4611686018427387904) (hS : Src .u8 w ao xs) (hdis : ∀ r off, ao = some ⟨r, off, none⟩ → ¬ Fc Q G r ∧ ¬ F r) (ha : a ≤ 9223372036854775807) (ht : G.t < 1000000000000) (hN : N + mu G + 2 ≤ 9000) :
    Calls Tryz.prog 22 #[ptr Q, .int .i64 k, .int .i64 a, .slice ao m cap] w (WrR S g bits room Q N G q ft F w k a xs) := by
  have HU := hid (use_w h k a m ha ht hN)
  have HSR : Hid (∀ w1 H F1, Cch Q G H F F1 w w1 → Src .u8 w1 ao xs) := fun w1 H F1 hc => hS.kp hc.kp (fun r off e => by
    have := hdis r off e
    exact fun hx => hx.elim this.1 this.2)
  have HM := hid hm
  clear h hdis hS hm
  unfold ptr at HU
  unfold ptr
  go_enter Tryz.func22, Tryz.ntmps22
  go_wp2_with fail
  refine HU.out.mono ?_
  intro e w1 hu
  cases hu using UsW.el with
  | bad h1 h2 =>
    have H1 := hid h1
    clear HU
    go_wp2_with fail
    go_ret
    exact .bad (by rw [← HM.out]; exact H1.out) h2
  | fail h1 h2 h3 hz h4 h5 h6 h7 =>
    rename_i z k1 G1 q1 ft1 F1
    have hz2 : decide (z = 0) = false := by simpa using hz
    have H1 := hid h1
    have H2 := hid h2
    have H3 := hid h3
    have H4 := hid h4
    have H5 := hid h5
    have H6 := hid h6
    have H7 := hid h7
    clear h1 h2 h3 h4 h5 h6 h7 HU
    go_wp2_with fail
    all_goals
      go_ret
      exact .fail H1.out (by rw [← HM.out]; exact H2.out) H3.out hz H4.out H5.out H6.out H7.out
  | ok h1 h2 h3 h4 h5 h6 =>
    rename_i k1 b H q1 ft1 F1
    have hsrc := HSR.out w1 H F1 h6
    by_cases hm0 : m = 0
    · have hx : xs = [] := List.eq_nil_of_length_eq_zero (by rw [← HM.out]; exact hm0)
      have H1 := hid h1
      have H2 := hid h2
      have H3 := hid h3
      have H4 := hid h4
      have H5 := hid h5
      have H6 := hid h6
      have HX := hid hx
      have HM2 : Hid (m = xs.length) := HM.out
      clear h1 h2 h3 h4 h5 h6 HU hx hsrc HSR HM
      subst hm0
      unfold ptr
      go_wp2_with fail
      go_ret
      exact .nil H1.out (by rw [← HM2.out]; exact H2.out) H3.out H4.out HX.out H5.out H6.out
    · have hB := h5.cm.lb b h4
      have hpg := h5.cm.pg b hB
      obtain ⟨i, zs, hy, hbv, hrw⟩ : ∃ i zs, H.y b = some (i, zs) ∧ (H.c b).bv = .slice (some ⟨i, 0, none⟩) zs.length zs.length ∧ Rw .u8 5 w1 i zs := by
        rcases hpg.ys.shape with ⟨e, _⟩ | ⟨i, zs, e, e2, e3⟩
        · exact absurd e ((h5.iv.lk b).1 h4).2
        · exact ⟨i, zs, e, e2, e3⟩
      obtain ⟨s, hs⟩ := hpg.wt
      have y1 := St.cell hs 1
      simp [Pc.cs] at y1
      rw [hbv] at y1
      have hzl := h5.yl b hB i zs hy
      have hp := pow_le bits h5.bb
      have hwn := h2
      unfold withn at hwn
      rw [Bool.and_eq_true, Bool.and_eq_true] at hwn
      have w1' := of_decide_eq_true hwn.1
      have w3' := of_decide_eq_true hwn.2.2
      obtain ⟨a', rfl⟩ : ∃ a' : Nat, a = (a' : Int) := ⟨a.toNat, by omega⟩
      have hle : a' + m ≤ zs.length := by omega
      have hzb : zs.length ≤ 65536 := by omega
      have hne : ¬ zs.length ≤ a' := by omega
      have hsp : (splice zs a' xs).length = zs.length := by
        have := HM.out
        unfold splice
        simp
        omega
      have HLN : Hid (xs.length = Nat.min m (zs.length - a')) := by
        show xs.length = min m (zs.length - a')
        rw [← HM.out]; omega
      have HFT : Hid (a' + xs.length ≤ zs.length) := by show _ ≤ _; rw [← HM.out]; exact hle
      have HPOS : Hid (0 < xs.length → ∃ ad, ao = some ad ∧ ∀ j, j < xs.length → w1.cell? (ad.add j) = some (.int .u8 (xs.getD j 0))) := fun hx => by
        obtain ⟨r, off, e, hc⟩ := hsrc (by first | exact hx | (intro e; rw [e] at hx; cases hx))
        exact ⟨_, e, fun j hj => by rw [add_o]; exact hc j hj⟩
      have HTL : Hid (∀ W, Rw .u8 5 W i (splice zs a' xs) → Kp (fun j => j = i) w1 W → _) := fun W hr hk => wr_tail h5 b i zs (splice zs a' xs) h4 hy hsp hr hk
      have H1 := hid h1
      have H2 := hid h2
      have H3 := hid h3
      have H4 := hid h4
      have H5 := hid h5
      have H6 := hid h6
      have HY := hid hy
      have HRW := hid hrw
      have hd0 : decide (m = 0) = false := by simpa using hm0
      clear h1 h2 h3 h4 h5 h6 HU hpg hs hrw hy hwn w1' w3' hbv hzl hp ha hsrc HSR hsp
      unfold ptr at HTL
      unfold ptr
      go_wp2_with (first | (refine wpList_copy_rw rfl (.tmp 33) (.tmp 34) 47 47 rfl 5 Tryz.underlying47 info5s _ _ _ _ _ _ rfl rfl i a' 5 zs xs HRW.out HLN.out (fun hx => ⟨rfl, HPOS.out hx⟩) HFT.out ?_; intro w3 r3 g3; have k3 : Kp (fun j => j = i) w1 w3 := Kp.of_grown g3 (fun j e => by cases e; rfl); obtain ⟨y2, f2, z5, ht63⟩ := HTL.out w3 r3 k3; have HT := hid ht63; clear ht63 r3 g3 k3))
      refine HT.out.mono ?_
      rintro _ w4 ⟨rfl, lv, L, hL, hv, hc⟩
      go_wp2_with fail
      go_ret
      have hwn : withn bits (a' : Int) xs.length = true := by rw [← HM.out]; exact H2.out
      refine .ok (i := i) (zs := zs) (lv := lv) (L := L) H1.out hwn H3.out H4.out HY.out (fun e => ?_) hL (by rw [Int.toNat_natCast]; exact hv) (by rw [Int.toNat_natCast]; exact H6.out.trans hc)
      have := HM.out
      rw [e] at this
      exact hm0 (by simpa using this)
end
end Go.Proofs.YtnccklbnncaeoaaGreat
/- cache: a new cache. -/
namespace Go.Proofs.YtnccklbnncaeoaaGreat
open Go.RowKit
set_option linter.unusedVariables false
set_option linter.unusedSimpArgs false
/-- What is known of a new cache. -/
def g0 (m : Nat) : Gc := { pm := m, kl := m + 1, lv := .slice none 0 0, pv := .slice none 0 0, c := fun _ => pc0 0 0 0, W := fun _ => [], R := fun _ => [], y := fun _ => none, B := [], K := [], L := [], P := [], t := 0, n1 := 0, n2 := 0, n3 := 0, n4 := 0 }
/-- A new cache in memory. -/
def wCache (w : World) (S : ByteArray) (g bits room : Nat) : World := ((w.alloc (.map #[] 0)).alloc (.cells #[.slice none 0 0] 110)).alloc (.cells #[ptr g, .string S, .int .i64 bits, .int .i64 room, .map (some w.heap.size), ptr (w.heap.size + 1), .slice none 0 0, .int .i64 0, .int .i64 0, .int .i64 0, .int .i64 0, .int .i64 0] 112)
theorem cache_kp (w : World) (S : ByteArray) (g bits room : Nat) : Kp (fun _ => False) w (wCache w S g bits room) := (((Kp.refl _ _).alloc _).alloc _).alloc _
theorem cache_fc {m i : Nat} (h : Fc (m + 2) (g0 m) i) : i = m ∨ i = m + 1 ∨ i = m + 2 := by
  rcases h with h | h | h | h | h | ⟨b, hb, _⟩
  · exact .inr (.inr h)
  · exact .inr (.inl h)
  · exact .inl h
  · cases h
  · cases h
  · cases hb
theorem cache_cm (w : World) (S : ByteArray) (g bits room : Nat) : Cm S g bits room (w.heap.size + 2) (g0 w.heap.size) (wCache w S g bits room) := by
  have e1 : (w.alloc (.map #[] 0)).heap.size = w.heap.size + 1 := by simp
  have e2 : ((w.alloc (.map #[] 0)).alloc (.cells #[.slice none 0 0] 110)).heap.size = w.heap.size + 2 := by simp
  have h1 := St.new 112 ((w.alloc (.map #[] 0)).alloc (.cells #[.slice none 0 0] 110)) #[ptr g, .string S, .int .i64 bits, .int .i64 room, .map (some w.heap.size), ptr (w.heap.size + 1), .slice none 0 0, .int .i64 0, .int .i64 0, .int .i64 0, .int .i64 0, .int .i64 0]
  rw [e2] at h1
  have h2 := St.new 110 (w.alloc (.map #[] 0)) #[.slice none 0 0]
  rw [e1] at h2
  refine ⟨h1, ⟨h2.kp ((Kp.refl (fun _ => False) _).alloc _) (fun h => h), ⟨rfl, .inl ⟨rfl, rfl⟩⟩, fun i hi => (by cases hi), fun b hb => (by cases hb)⟩, ⟨rfl, .inl ⟨rfl, rfl⟩⟩, (Mn.new _ w).kp (((Kp.refl (fun _ => False) _).alloc _).alloc _) (fun h => h), fun b hb => (by cases hb), fun i h => (by cases h), fun a ha => (by cases ha), fun a ha => (by cases ha), fun a ha => (by cases ha), fun a ha => (by cases ha), fun a ha => (by cases ha), fun a ha => by cases ha⟩
theorem cache_cv {S : ByteArray} {g bits room N : Nat} {q : Gf} {ft : List (Int × Int)} {F : Nat → Prop} {w : World} (hs : Sw S g N F q ft w) (hb : 9 ≤ bits ∧ bits ≤ 16) (hr : 1 ≤ room ∧ room ≤ 1024) : Cv S g bits room (w.heap.size + 2) N (g0 w.heap.size) q ft F (wCache w S g bits room) := by
  refine ⟨cache_cm w S g bits room, hs.kp0 (cache_kp w S g bits room), fun i hi hf => ?_, ⟨fun b a ha => (by cases ha), fun b a => ⟨fun h => (by cases h), fun h => (by cases h)⟩, Ranked.none (fun _ => rfl), fun b hb => (by cases hb), fun b => ⟨fun h => (by cases h), fun h => (by cases h.1)⟩, fun b hb => (by cases hb), fun b hb => (by cases hb), fun b hb => (by cases hb), fun k _ h2 _ => absurd h2 (Nat.not_lt_zero k)⟩, fun x a ha => (by cases ha), fun b hb => (by cases hb), List.nodup_nil, Nat.zero_le _, rfl, fun b hb => (by cases hb), fun b hb => (by cases hb), fun b hb => (by cases hb), Nat.zero_le _, hb, hr⟩
  have := hs.lt hf
  rcases cache_fc hi with e | e | e <;> omega
set_option maxRecDepth 100000 in
set_option maxHeartbeats 4000000 in
theorem new_good {S : ByteArray} {g bits room N : Nat} {q : Gf} {ft : List (Int × Int)} {F : Nat → Prop} {w : World} (hs : Sw S g N F q ft w) (hb : 9 ≤ bits ∧ bits ≤ 16) (hr : 1 ≤ room ∧ room ≤ 1024) :
    Calls Tryz.prog 15 #[ptr g, .string S, .int .i64 bits, .int .i64 room] w fun e w' => e = .returned (.tuple #[ptr (w.heap.size + 2), .int .i64 0]) ∧ w' = wCache w S g bits room := by
  have hmm := @run_makeMap Tryz.prog
  have HS := hid (size_w hs)
  clear hs
  unfold wCache
  unfold ptr at *
  go_enter Tryz.func15, Tryz.ntmps15
  go_wp2_with (first | (go_at_call 30; refine HS.out.mono ?_; rintro e w' ⟨rfl, h⟩; replace h := h.symm; subst h))
  go_ret2
  exact ⟨rfl, rfl⟩
end Go.Proofs.YtnccklbnncaeoaaGreat
/- cache: Counts. -/
namespace Go.Proofs.YtnccklbnncaeoaaGreat
open Go.RowKit
set_option linter.unusedVariables false
set_option linter.unusedSimpArgs false
theorem results_cell1 {P : Program} {fn : Func} {p : Tmp} {ty : TypeId} (h : fn.results = #[.cell p ty]) (tmps : Array Value) (w : World) (b : Nat) {v : Value} (hp : tmps.getD p undef = .pointer (some ⟨b, 0, none⟩)) (hl : (loadVar ty ⟨b, 0, none⟩).run P w = .ok v w) :
    (results fn tmps).run P w = .ok v w := by
  have hp' : tmps[p]?.getD undef = .pointer (some ⟨b, 0, none⟩) := by simpa using hp
  simp [results, h, hp', asAddr, hl]
theorem results_cell_tmp2 {P : Program} {fn : Func} {p u : Tmp} {ty : TypeId} (h : fn.results = #[.cell p ty, .tmp u]) (tmps : Array Value) (w : World) (b : Nat) {v x : Value} (hp : tmps.getD p undef = .pointer (some ⟨b, 0, none⟩)) (hu : tmps.getD u undef = x) (hl : (loadVar ty ⟨b, 0, none⟩).run P w = .ok v w) :
    (results fn tmps).run P w = .ok (.tuple #[v, x]) w := by
  have hp' : tmps[p]?.getD undef = .pointer (some ⟨b, 0, none⟩) := by simpa using hp
  have hu' : tmps[u]?.getD undef = x := by simpa using hu
  simp [results, h, hp', hu', asAddr, hl]
theorem Tryz.isz79 : (Tryz.prog.info? 79).map (·.size) = some 4 := by kernel_rfl
theorem Tryz.isz86 : (Tryz.prog.info? 86).map (·.size) = some 3 := by kernel_rfl
theorem load79 {w : World} {g : Nat} {a b c d : Value} (s : St 79 w g #[a, b, c, d]) : (loadVar 79 ⟨g, 0, none⟩).run Tryz.prog w = .ok (.agg #[a, b, c, d]) w :=
  run_loadVar_row w g 79 79 _ (0, 0) _ s Tryz.underlying79 rfl (by rw [Tryz.isz79]; rfl)
theorem load86 {w : World} {g : Nat} {a b c : Value} (s : St 86 w g #[a, b, c]) : (loadVar 86 ⟨g, 0, none⟩).run Tryz.prog w = .ok (.agg #[a, b, c]) w :=
  run_loadVar_row w g 86 86 _ (0, 0) _ s Tryz.underlying86 rfl (by rw [Tryz.isz86]; rfl)
section
variable {S : ByteArray} {g bits room Q N : Nat} {G : Gc} {q : Gf} {ft : List (Int × Int)} {F : Nat → Prop} {w : World}
set_option maxRecDepth 100000 in
set_option maxHeartbeats 4000000 in
theorem counts_any (h : Cv S g bits room Q N G q ft F w) :
    Calls Tryz.prog 34 #[ptr Q] w fun e w' => e = .returned (.agg #[.int .i64 G.n1, .int .i64 G.n2, .int .i64 G.n3, .int .i64 G.n4]) ∧ Kp (fun _ => False) w w' := by
  have HN : Hid (∀ U, Kp (fun _ => False) w U → Calls Tryz.prog 64 #[ptr Q] U fun e w' => e = .returned (.bool false) ∧ w' = U) := fun U k => (h.kp0 k).live
  have KA : Hid (Kp (fun _ => False) w (w.alloc (.cells #[.int .i64 0, .int .i64 0, .int .i64 0, .int .i64 0] 79))) := (Kp.refl _ _).alloc _
  have H1 := hid (h.kp0 KA.out)
  have SA : Hid (St 79 (w.alloc (.cells #[.int .i64 0, .int .i64 0, .int .i64 0, .int .i64 0] 79)) w.heap.size #[.int .i64 0, .int .i64 0, .int .i64 0, .int .i64 0]) := St.new 79 w _
  have z8 := H1.out.cm.st.cell 8
  have z9 := H1.out.cm.st.cell 9
  have z10 := H1.out.cm.st.cell 10
  have z11 := H1.out.cm.st.cell 11
  simp at z8 z9 z10 z11
  clear h
  unfold ptr at *
  go_enter Tryz.func34, Tryz.ntmps34
  go_wp2_with (first | (go_at_call 64; refine (HN.out _ KA.out).mono ?_; rintro e w' ⟨rfl, h⟩; replace h := h.symm; subst h))
  refine bodyPost_ret (results_cell1 Tryz.results34 _ _ _ rfl (load79 (St.new 79 w _))) rfl ?_
  exact ⟨rfl, (Kp.refl _ _).alloc _⟩
end
end Go.Proofs.YtnccklbnncaeoaaGreat
/- A map of ours (Mp) as the library's owned map. -/
namespace Go.Proofs.YtnccklbnncaeoaaGreat
open Go.RowKit Go.Maps Go.Sort
open Go.WideElems (Fit rd rg)
open Go.ChangeMaps Go.MapKept Go.WideShapes Go.WideMaps

/-- Whatever lies in the map: it reads as nothing. -/
def anyR (_ : Value) : Option (DataW Unit × List MemPlace) := some (.nil, [])
theorem rg_ent (e : ByteArray × Value × Nat) (h : e.1.size ≤ 64) : Go.WideElems.rd Tryz.prog 9 anyR (ent Value.string e) = some (.string e.1.data.toList, .nil) := by
  unfold Go.WideElems.rd ent
  rw [keyOf_string_mk Tryz.underlying9 (by unfold maxLen; omega)]
  rfl
theorem mp_owns {w : World} {b c : Nat} {es : List (ByteArray × Value × Nat)} (h : Mp Value.string w b es c) (hk : ∀ e ∈ es, e.1.size ≤ 64) (hl : es.length ≤ 256) : ∃ D0, w.ownsMap Tryz.prog 9 anyR b es.length D0 ∧ (strKeys D0).Perm (es.map (fun e => e.1.data.toList)) ∧ Maps.size D0 = es.length := by
  refine ⟨_, ⟨(es.map (ent Value.string)).toArray, c, h.1, ⟨by simp; unfold maxLen; omega, ⟨?_, ?_, ?_⟩, ?_⟩, by simp, rfl⟩, ?_, ?_⟩
  · intro x hx
    simp only [List.mem_map] at hx
    obtain ⟨e, he, rfl⟩ := hx
    exact h.2.2.2 e he
  · have := h.2.2.1
    simpa [List.map_map, Function.comp_def, ent] using this
  · have := h.2.1
    have h2 : (es.map (fun e => Value.string e.1)).Nodup := by
      rw [show (es.map (fun e => Value.string e.1)) = (es.map (·.1)).map Value.string by simp [List.map_map, Function.comp_def]]
      exact List.Pairwise.map _ (fun a b hab e => hab (by cases e; rfl)) this
    simpa [List.map_map, Function.comp_def, ent] using h2
  · intro x hx
    simp only [List.mem_map] at hx
    obtain ⟨e, he, rfl⟩ := hx
    exact ⟨_, rg_ent e (hk e he)⟩
  · unfold strKeys
    refine ((sorted_perm _).map _).trans ?_
    rw [List.map_map]
    refine List.Perm.of_eq ?_
    rw [List.map_map]
    refine List.map_congr_left (fun e he => ?_)
    simp only [Function.comp]
    unfold Go.WideElems.rg
    rw [rg_ent e (hk e he)]
    rfl
  · unfold Maps.size
    have := (sorted_perm ((es.map (ent Value.string)).map (Go.WideElems.rg Tryz.prog 9 anyR))).length_eq
    simpa using this
end Go.Proofs.YtnccklbnncaeoaaGreat
/- cache: State: who is waited for, sorted. -/
namespace Go.Proofs.YtnccklbnncaeoaaGreat
open Go.RowKit Go.Maps Go.Sort Go.Shelf
open Go.WideElems (Fit rd rg)
open Go.ChangeMaps Go.MapKept Go.WideShapes Go.WideMaps
set_option linter.unusedVariables false
set_option linter.unusedSimpArgs false
shelf_lay_g SlLaysZI.n7 Ggz 7 at Tryz 84 as Tryz.keysA
shelf_lay_g SlLaysZI.n6 Ggz 6 at Tryz 83 as Tryz.sortedA
shelf_lay_g SlLaysM.n5 Slgm 5 at Tryz 81 as Tryz.sortA
theorem sortsA (m : Nat) : AnyZI.SortsIn Tryz.prog Tryz.sortedA_ren Fence.wide m :=
  ⟨fun blk off cap ss W hH hblk hsz => callsIn_wide.2 (AnyM.slices_Sort_int Tryz.sortA blk off cap ss W hH hblk hsz),
   fun p cap W => callsIn_wide.2 (AnyM.slices_Sort_int_none Tryz.sortA p cap W)⟩
theorem rgi_ent (e : Int × Value × Nat) (h : 0 ≤ e.1 ∧ e.1 < 1000000000) : Go.WideElems.rd Tryz.prog 2 anyR (ent (Value.int .i64) e) = some (.int .i64 e.1, .nil) := by
  have hw : (Lit.int .i64 e.1).wf = true := (Lit.wf_int_iff .i64 e.1).2 (by
    show (-9223372036854775808 : Int) ≤ e.1 ∧ e.1 ≤ 9223372036854775807
    omega)
  unfold Go.WideElems.rd ent
  have : keyOf Tryz.prog 2 (.int .i64 e.1) = some (.int .i64 e.1) := by
    rw [keyOf_int ky2.und]
    simp only [mapKey, ky2.und]
    rw [if_pos ⟨trivial, hw⟩]
  rw [this]
  rfl
theorem mpi_owns {w : World} {b c : Nat} {es : List (Int × Value × Nat)} (h : Mp (Value.int .i64) w b es c) (hk : ∀ e ∈ es, 0 ≤ e.1 ∧ e.1 < 1000000000) (hl : es.length ≤ 1000000) : ∃ D0, w.ownsMap Tryz.prog 2 anyR b es.length D0 ∧ (intKeys D0).Perm (es.map (fun e => e.1)) ∧ Maps.size D0 = es.length := by
  refine ⟨_, ⟨(es.map (ent (Value.int .i64))).toArray, c, h.1, ⟨by simp; unfold maxLen; omega, ⟨?_, ?_, ?_⟩, ?_⟩, by simp, rfl⟩, ?_, ?_⟩
  · intro x hx
    simp only [List.mem_map] at hx
    obtain ⟨e, he, rfl⟩ := hx
    exact h.2.2.2 e he
  · have := h.2.2.1
    simpa [List.map_map, Function.comp_def, ent] using this
  · have := h.2.1
    have h2 : (es.map (fun e => Value.int .i64 e.1)).Nodup := by
      rw [show (es.map (fun e => Value.int .i64 e.1)) = (es.map (·.1)).map (Value.int .i64) by simp [List.map_map, Function.comp_def]]
      exact List.Pairwise.map _ (fun a b hab e => hab (by cases e; rfl)) this
    simpa [List.map_map, Function.comp_def, ent] using h2
  · intro x hx
    simp only [List.mem_map] at hx
    obtain ⟨e, he, rfl⟩ := hx
    exact ⟨_, rgi_ent e (hk e he)⟩
  · unfold intKeys
    refine ((sorted_perm _).map _).trans ?_
    rw [List.map_map]
    refine List.Perm.of_eq ?_
    rw [List.map_map]
    refine List.map_congr_left (fun e he => ?_)
    simp only [Function.comp]
    unfold Go.WideElems.rg
    rw [rgi_ent e (hk e he)]
    rfl
  · unfold Maps.size
    have := (sorted_perm ((es.map (ent (Value.int .i64))).map (Go.WideElems.rg Tryz.prog 2 anyR))).length_eq
    simpa using this
/-- Numbers, sorted. -/
def sno (c : Nat → Pc) (L : List Nat) : List Int := (L.map (fun b => ((c b).n : Int))).mergeSort leI
set_option maxRecDepth 100000 in
set_option maxHeartbeats 2000000 in
/-- The keys of a map of pages, sorted. -/
theorem keysS_any (c : Nat → Pc) (w : World) (t m : Nat) (L : List Nat) (hm : Mn c w m L) (hs : w.cell? ⟨t, 0, none⟩ = some (.map (some m))) (ht : t < w.heap.size) (hL : L.length ≤ 1000000) (hn : ∀ b ∈ L, (c b).n < 1000000000) :
    Calls Tryz.prog 83 #[.func (.func 133) #[] #[.pointer (some ⟨t, 0, none⟩)]] w fun e w' => ∃ v, e = .returned v ∧ w'.ownsRow w.heap.size 2 1 v L.length ((sno c L).map (Value.int .i64)) ∧ (v = .slice none 0 0 ↔ L = []) ∧ Below w.heap.size w w' := by
  obtain ⟨es, q, h1, h2⟩ := hm
  have hk : es.map (fun e => e.1) = L.map (fun b => ((c b).n : Int)) := by
    have := congrArg (List.map (fun x : Int × Value => x.1)) h2
    simpa [List.map_map, Function.comp_def] using this
  have hlen : es.length = L.length := by have := congrArg List.length h2; simpa using this
  obtain ⟨D0, hown, hperm, hsize⟩ := mpi_owns h1 (fun e he => by
    have : e.1 ∈ es.map (fun e => e.1) := List.mem_map_of_mem he
    rw [hk] at this
    obtain ⟨b, hb, e2⟩ := List.mem_map.1 this
    have := hn b hb
    omega) (by omega)
  have hseq : SeqGives Fence.wide 2 Tryz.prog 133 #[.pointer (some ⟨t, 0, none⟩)] encZ (fun ss => ss.Perm (intKeys D0)) (Maps.size D0) w :=
    AnyZI.keys_gives (ρ := Tryz.keysA_ren) { Tryz.keysA with } Fence.wide _ trivial rfl (by omega) t m es.length D0 w ht hs hown
  have cS := AnyZI.sorted_in Tryz.sortedA Fence.wide 5 trivial trivial trivial trivial rfl (by omega) (sortsA _) (enters_of Tryz.func81 (by kernel_rfl) rfl) 133 #[.pointer (some ⟨t, 0, none⟩)] trivial (enters_of Tryz.func133 (by kernel_rfl) rfl) _ _ (by rw [hsize]; unfold maxLen; omega) (by rw [hsize]; omega) _ hseq
  change CallsIn _ _ Tryz.prog 83 _ _ _ at cS
  refine (callsIn_wide.1 cS).mono ?_
  rintro e w' ⟨v, ss, rfl, hS, hrow, hnil, hb⟩
  have h5 := hS.trans hperm
  rw [hk] at h5
  have hl : ss.length = L.length := by have := h5.length_eq; simpa using this
  have hms : ss.mergeSort (fun x y => decide (x ≤ y)) = sno c L := mergeSort_of_perm_i h5
  rw [hl, hms] at hrow
  refine ⟨v, rfl, hrow, ?_, hb⟩
  rw [hnil]
  constructor
  · rintro rfl; exact List.eq_nil_of_length_eq_zero (by simpa using hl.symm)
  · rintro rfl; exact List.eq_nil_of_length_eq_zero (by simpa using hl)
theorem keys_any (m : Nat) (w : World) : Calls Tryz.prog 84 #[.map (some m)] w fun e w' => e = .returned (.func (.func 133) #[] #[.pointer (some ⟨w.heap.size, 0, none⟩)]) ∧ w' = w.alloc (.cells #[.map (some m)] 106) :=
  callsIn_wide.1 (AnyZI.keys_in Tryz.keysA Fence.wide 5 trivial rfl (some m) w)
end Go.Proofs.YtnccklbnncaeoaaGreat
