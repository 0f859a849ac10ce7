import Derived.Test.YtnccklbnncaeoaaGreatJar
import Derived.Test.YtnccklbnncaeoaaGreatJaq
import Derived.Test.YtnccklbnncaeoaaGreatJal
import Derived.Test.YtnccklbnncaeoaaGreatJao
import Derived.Test.YtnccklbnncaeoaaGreatJai
import Derived.Sort.OwnSortedInts
import Derived.Laws.AppendOwnNone
/- cache: After. -/
namespace Go.Proofs.YtnccklbnncaeoaaGreat
open Go.RowKit
set_option linter.unusedVariables false
set_option linter.unusedSimpArgs false
/-- After. -/
def AfR (S : ByteArray) (g bits room Q N : Nat) (G : Gc) (q : Gf) (ft : List (Int × Int)) (F : Nat → Prop) (w : World) (p o : Int) (e : Ending) (w' : World) : Prop :=
  (((mayn bits p && mayn bits o) = false) ∧ (Kp (fun _ => False) w w') ∧ e = (.returned (.int .i64 2))) ∨
  ((mayn bits p = true) ∧ (mayn bits o = true) ∧ (p = o) ∧ (Kp (fun _ => False) w w') ∧ e = (.returned (.int .i64 240))) ∨
  ((mayn bits p = true) ∧ (mayn bits o = true) ∧ (p ≠ o) ∧ (nget G.c G.K o.toNat = none) ∧ (Kp (fun _ => False) w w') ∧ e = (.returned (.int .i64 0))) ∨
  (∃ a : Nat, ∃ b : Nat, (mayn bits p = true) ∧ (mayn bits o = true) ∧ (p ≠ o) ∧ (nget G.c G.K o.toNat = some b) ∧ (nget G.c G.K p.toNat = some a) ∧ (Rch G.W b a) ∧ (Kp (fun _ => False) w w') ∧ e = (.returned (.int .i64 240))) ∨
  (∃ b : Nat, (mayn bits p = true) ∧ (mayn bits o = true) ∧ (p ≠ o) ∧ (nget G.c G.K o.toNat = some b) ∧ ((∀ a, nget G.c G.K p.toNat = some a → ¬ Rch G.W b a)) ∧ (((G.c b).di || (G.c b).pe) = false) ∧ (Kp (fun _ => False) w w') ∧ e = (.returned (.int .i64 0))) ∨
  (∃ s : Nat, ∃ a : Nat, ∃ b : Nat, ∃ G2 : Gc, (mayn bits p = true) ∧ (mayn bits o = true) ∧ (p ≠ o) ∧ (nget G.c G.K o.toNat = some b) ∧ ((∀ a, nget G.c G.K p.toNat = some a → ¬ Rch G.W b a)) ∧ (((G.c b).di || (G.c b).pe) = true) ∧ (w.heap.size ≤ s) ∧ (KnG s G p.toNat a G2) ∧ (Cv S g bits room Q N (gAf G2 a b) q ft F w') ∧ (Cch Q G (gAf G2 a b) F F w w') ∧ e = (.returned (.int .i64 0)))
theorem AfR.arg {S : ByteArray} {g bits room Q N : Nat} {G : Gc} {q : Gf} {ft : List (Int × Int)} {F : Nat → Prop} {w : World} {p o : Int} {w' : World} (h1 : (mayn bits p && mayn bits o) = false) (h2 : Kp (fun _ => False) w w') : AfR S g bits room Q N G q ft F w p o (.returned (.int .i64 2)) w' :=
  .inl ⟨h1, h2, rfl⟩
theorem AfR.same {S : ByteArray} {g bits room Q N : Nat} {G : Gc} {q : Gf} {ft : List (Int × Int)} {F : Nat → Prop} {w : World} {p o : Int} {w' : World} (h1 : mayn bits p = true) (h2 : mayn bits o = true) (h3 : p = o) (h4 : Kp (fun _ => False) w w') : AfR S g bits room Q N G q ft F w p o (.returned (.int .i64 240)) w' :=
  .inr (.inl ⟨h1, h2, h3, h4, rfl⟩)
theorem AfR.nil {S : ByteArray} {g bits room Q N : Nat} {G : Gc} {q : Gf} {ft : List (Int × Int)} {F : Nat → Prop} {w : World} {p o : Int} {w' : World} (h1 : mayn bits p = true) (h2 : mayn bits o = true) (h3 : p ≠ o) (h4 : nget G.c G.K o.toNat = none) (h5 : Kp (fun _ => False) w w') : AfR S g bits room Q N G q ft F w p o (.returned (.int .i64 0)) w' :=
  .inr (.inr (.inl ⟨h1, h2, h3, h4, h5, rfl⟩))
theorem AfR.loop {S : ByteArray} {g bits room Q N : Nat} {G : Gc} {q : Gf} {ft : List (Int × Int)} {F : Nat → Prop} {w : World} {p o : Int} {w' : World} {a : Nat} {b : Nat} (h1 : mayn bits p = true) (h2 : mayn bits o = true) (h3 : p ≠ o) (h4 : nget G.c G.K o.toNat = some b) (h5 : nget G.c G.K p.toNat = some a) (h6 : Rch G.W b a) (h7 : Kp (fun _ => False) w w') : AfR S g bits room Q N G q ft F w p o (.returned (.int .i64 240)) w' :=
  .inr (.inr (.inr (.inl ⟨a, b, h1, h2, h3, h4, h5, h6, h7, rfl⟩)))
theorem AfR.idle {S : ByteArray} {g bits room Q N : Nat} {G : Gc} {q : Gf} {ft : List (Int × Int)} {F : Nat → Prop} {w : World} {p o : Int} {w' : World} {b : Nat} (h1 : mayn bits p = true) (h2 : mayn bits o = true) (h3 : p ≠ o) (h4 : nget G.c G.K o.toNat = some b) (h5 : (∀ a, nget G.c G.K p.toNat = some a → ¬ Rch G.W b a)) (h6 : ((G.c b).di || (G.c b).pe) = false) (h7 : Kp (fun _ => False) w w') : AfR S g bits room Q N G q ft F w p o (.returned (.int .i64 0)) w' :=
  .inr (.inr (.inr (.inr (.inl ⟨b, h1, h2, h3, h4, h5, h6, h7, rfl⟩))))
theorem AfR.ok {S : ByteArray} {g bits room Q N : Nat} {G : Gc} {q : Gf} {ft : List (Int × Int)} {F : Nat → Prop} {w : World} {p o : Int} {w' : World} {s : Nat} {a : Nat} {b : Nat} {G2 : Gc} (h1 : mayn bits p = true) (h2 : mayn bits o = true) (h3 : p ≠ o) (h4 : nget G.c G.K o.toNat = some b) (h5 : (∀ a, nget G.c G.K p.toNat = some a → ¬ Rch G.W b a)) (h6 : ((G.c b).di || (G.c b).pe) = true) (h7 : w.heap.size ≤ s) (h8 : KnG s G p.toNat a G2) (h9 : Cv S g bits room Q N (gAf G2 a b) q ft F w') (h10 : Cch Q G (gAf G2 a b) F F w w') : AfR S g bits room Q N G q ft F w p o (.returned (.int .i64 0)) w' :=
  .inr (.inr (.inr (.inr (.inr (⟨s, a, b, G2, h1, h2, h3, h4, h5, h6, h7, h8, h9, h10, rfl⟩)))))
theorem AfR.el {S : ByteArray} {g bits room Q N : Nat} {G : Gc} {q : Gf} {ft : List (Int × Int)} {F : Nat → Prop} {w : World} {p o : Int} {motive : ∀ (e : Ending) (w' : World), AfR S g bits room Q N G q ft F w p o e w' → Prop}
    (arg : ∀ {w' : World} (h1 : (mayn bits p && mayn bits o) = false) (h2 : Kp (fun _ => False) w w'), motive (.returned (.int .i64 2)) w' (AfR.arg h1 h2))
    (same : ∀ {w' : World} (h1 : mayn bits p = true) (h2 : mayn bits o = true) (h3 : p = o) (h4 : Kp (fun _ => False) w w'), motive (.returned (.int .i64 240)) w' (AfR.same h1 h2 h3 h4))
    (nil : ∀ {w' : World} (h1 : mayn bits p = true) (h2 : mayn bits o = true) (h3 : p ≠ o) (h4 : nget G.c G.K o.toNat = none) (h5 : Kp (fun _ => False) w w'), motive (.returned (.int .i64 0)) w' (AfR.nil h1 h2 h3 h4 h5))
    (loop : ∀ {w' : World} {a : Nat} {b : Nat} (h1 : mayn bits p = true) (h2 : mayn bits o = true) (h3 : p ≠ o) (h4 : nget G.c G.K o.toNat = some b) (h5 : nget G.c G.K p.toNat = some a) (h6 : Rch G.W b a) (h7 : Kp (fun _ => False) w w'), motive (.returned (.int .i64 240)) w' (AfR.loop h1 h2 h3 h4 h5 h6 h7))
    (idle : ∀ {w' : World} {b : Nat} (h1 : mayn bits p = true) (h2 : mayn bits o = true) (h3 : p ≠ o) (h4 : nget G.c G.K o.toNat = some b) (h5 : (∀ a, nget G.c G.K p.toNat = some a → ¬ Rch G.W b a)) (h6 : ((G.c b).di || (G.c b).pe) = false) (h7 : Kp (fun _ => False) w w'), motive (.returned (.int .i64 0)) w' (AfR.idle h1 h2 h3 h4 h5 h6 h7))
    (ok : ∀ {w' : World} {s : Nat} {a : Nat} {b : Nat} {G2 : Gc} (h1 : mayn bits p = true) (h2 : mayn bits o = true) (h3 : p ≠ o) (h4 : nget G.c G.K o.toNat = some b) (h5 : (∀ a, nget G.c G.K p.toNat = some a → ¬ Rch G.W b a)) (h6 : ((G.c b).di || (G.c b).pe) = true) (h7 : w.heap.size ≤ s) (h8 : KnG s G p.toNat a G2) (h9 : Cv S g bits room Q N (gAf G2 a b) q ft F w') (h10 : Cch Q G (gAf G2 a b) F F w w'), motive (.returned (.int .i64 0)) w' (AfR.ok h1 h2 h3 h4 h5 h6 h7 h8 h9 h10))
    {e : Ending} {w' : World} (h : AfR S g bits room Q N G q ft F w p o e w') : motive e w' h := by
  rcases h with ⟨h1, h2, rfl⟩ | ⟨h1, h2, h3, h4, rfl⟩ | ⟨h1, h2, h3, h4, h5, rfl⟩ | ⟨a, b, h1, h2, h3, h4, h5, h6, h7, rfl⟩ | ⟨b, h1, h2, h3, h4, h5, h6, h7, rfl⟩ | ⟨s, a, b, G2, h1, h2, h3, h4, h5, h6, h7, h8, h9, h10, rfl⟩
  · exact arg h1 h2
  · exact same h1 h2 h3 h4
  · exact nil h1 h2 h3 h4 h5
  · exact loop h1 h2 h3 h4 h5 h6 h7
  · exact idle h1 h2 h3 h4 h5 h6 h7
  · exact ok h1 h2 h3 h4 h5 h6 h7 h8 h9 h10
theorem gNew_W {G : Gc} {b k wm rm : Nat} (h : G.W b = []) : (gNew G b k wm rm).W = G.W := by
  show upd G.W b [] = G.W
  rw [← h]; exact upd_self _ _
section
variable {S : ByteArray} {g bits room Q N : Nat} {G G2 : Gc} {q : Gf} {ft : List (Int × Int)} {F : Nat → Prop} {w : World}
theorem kn_rch (h : Cv S g bits room Q N G q ft F w) {s k a b : Nat} (hs : w.heap.size ≤ s) (hg : KnG s G k a G2) (hb : b ∈ G.K) (hno : ∀ a', nget G.c G.K k = some a' → ¬ Rch G.W b a') : ¬ Rch G2.W b a ∧ b ∈ G2.K ∧ G2.c b = G.c b ∧ (∀ x y, y ∈ G2.W x → x ∈ G2.K ∧ y ∈ G2.K) := by
  rcases hg with ⟨hn, rfl⟩ | ⟨hn, wm, rm, h1, h2, h3, h4⟩
  · exact ⟨hno a hn, hb, rfl, fun x y hy => h.iv.wk x y hy⟩
  · have hlt : ∀ x ∈ G.B, x < w.heap.size := fun x hx => h.cm.lt (.inr (.inr (.inr (.inr (.inr ⟨x, hx, .inl rfl⟩)))))
    have haB : a ∉ G.B := fun e => by have := hlt a e; omega
    have hWa : G.W a = [] := by
      cases e : G.W a with
      | nil => rfl
      | cons y l => exact absurd (h.iv.kb a (h.iv.wk a y (by rw [e]; exact List.mem_cons_self)).1) haB
    have hW : G2.W = G.W := by rw [h4]; exact gNew_W (k := k) (wm := wm) (rm := rm) hWa
    rw [hW]
    refine ⟨fun hr => ?_, by rw [h4]; exact List.mem_append_left _ hb, ?_, fun x y hy => ?_⟩
    · obtain ⟨c, hc, _⟩ := hr.last
      exact haB (h.iv.kb a (h.iv.wk c a hc).2)
    · rw [h4]
      have : b ≠ a := fun e => haB (e ▸ h.iv.kb b hb)
      exact upd_other _ _ this
    · rw [h4]
      exact ⟨List.mem_append_left _ (h.iv.wk x y hy).1, List.mem_append_left _ (h.iv.wk x y hy).2⟩
/-- known, then waitFor. -/
theorem knw_any (h : Cv S g bits room Q N G q ft F w) (k b : Nat) (hk : k < 268435456 / 2 ^ bits) (hb : b ∈ G.K) (hne : (G.c b).n ≠ k) (hno : ∀ a', nget G.c G.K k = some a' → ¬ Rch G.W b a') (hu : ((G.c b).di || (G.c b).pe) = true) :
    Calls Tryz.prog 68 #[ptr Q, .int .i64 k] w fun e w' => ∃ a G2, e = .returned (ptr a) ∧ KnG w.heap.size G k a G2 ∧ Calls Tryz.prog 69 #[ptr a, ptr b] w' fun e w'' => e = .returned (.tuple #[]) ∧ Cv S g bits room Q N (gAf G2 a b) q ft F w'' ∧ Cch Q G (gAf G2 a b) F F w w'' := by
  refine (known_any h.cm h.iv.wb.1 h.iv.wb.2 k).mono ?_
  rintro e w1 ⟨a, G2, hg, rfl, hc, hkp⟩
  refine ⟨a, G2, rfl, hg, ?_⟩
  obtain ⟨v1, c1, haK, hna⟩ := h.kn hk (Nat.le_refl _) hg hc hkp
  obtain ⟨r1, r2, r3, r4⟩ := kn_rch h (Nat.le_refl _) hg hb hno
  have hba : b ≠ a := fun e => by
    subst e
    rw [r3] at hna
    exact hne hna
  refine (wait_any v1.cm a b (v1.iv.kb a haK) (v1.iv.kb b r2) (fun x hx e => v1.cm.ks.nin x (r4 a x hx).2 b r2 e) (fun x hx e => v1.cm.ks.nin x (r4 x b ((v1.iv.wr x b).2 hx)).1 a haK e)).mono ?_
  rintro e w2 ⟨rfl, hc2, hk2⟩
  obtain ⟨v2, c2⟩ := v1.af haK r2 hba r1 (by rw [r3]; exact hu) hc2 hk2
  exact ⟨rfl, v2, c1.trans c2⟩
theorem mayn_nat {bits : Nat} {k : Int} (h : mayn bits k = true) : ∃ m : Nat, k = (m : Int) ∧ m < 268435456 / 2 ^ bits := by
  unfold mayn at h
  rw [Bool.and_eq_true] at h
  have h1 := of_decide_eq_true h.1
  have h2 := of_decide_eq_true h.2
  exact ⟨k.toNat, by omega, by omega⟩
set_option maxHeartbeats 8000000 in
set_option maxRecDepth 100000 in
theorem after_any (h : Cv S g bits room Q N G q ft F w) (p o : Int) :
    Calls Tryz.prog 23 #[ptr Q, .int .i64 p, .int .i64 o] w (AfR S g bits room Q N G q ft F w p o) := by
  have HN := hid h.live
  have HMp := hid (h.maya p)
  have HMo := hid (h.maya o)
  have HH := hid h
  have z4 := h.cm.st.cell 4
  simp at z4
  by_cases hp : mayn bits p = true
  · rw [hp] at HMp
    by_cases ho : mayn bits o = true
    · rw [ho] at HMo
      obtain ⟨m, rfl, hm⟩ := mayn_nat hp
      obtain ⟨n, rfl, hn⟩ := mayn_nat ho
      by_cases hmn : m = n
      · subst hmn
        clear h
        unfold ptr at *
        go_enter Tryz.func23, Tryz.ntmps23
        go_wp2_with (first
          | (go_at_call 64; refine HN.out.mono ?_; rintro e w' ⟨rfl, h⟩; replace h := h.symm; subst h))
        refine HMp.out.mono ?_
        rintro e w' ⟨rfl, h⟩; replace h := h.symm; subst h
        go_wp2_with fail
        refine HMo.out.mono ?_
        rintro e w' ⟨rfl, h⟩; replace h := h.symm; subst h
        go_wp2_with fail
        go_ret
        exact .same hp ho rfl (Kp.refl _ _)
      · have hmn2 : decide ((m : Int) = (n : Int)) = false := by simp; omega
        have hmn3 : ¬ ((m : Int) = (n : Int)) := by omega
        cases hb : nget G.c G.K n with
        | none =>
          have hl := run_lookup_mn h.cm.ks n
          rw [nval_no hb] at hl
          clear h
          unfold ptr at *
          go_enter Tryz.func23, Tryz.ntmps23
          go_wp2_with (first
            | (go_at_call 64; refine HN.out.mono ?_; rintro e w' ⟨rfl, h⟩; replace h := h.symm; subst h))
          refine HMp.out.mono ?_
          rintro e w' ⟨rfl, h⟩; replace h := h.symm; subst h
          go_wp2_with fail
          refine HMo.out.mono ?_
          rintro e w' ⟨rfl, h⟩; replace h := h.symm; subst h
          go_wp2_with fail
          go_ret
          exact .nil hp ho hmn3 hb (Kp.refl _ _)
        | some b =>
          obtain ⟨hbK, hbn⟩ := nget_mem hb
          have hbB := h.iv.kb b hbK
          have hl := run_lookup_mn h.cm.ks n
          rw [nval_of hb] at hl
          have HU : Hid (∀ w1, Kp (fun _ => False) w w1 → Calls Tryz.prog 67 #[ptr b] w1 fun e w' => e = .returned (.bool ((G.c b).di || (G.c b).pe)) ∧ w' = w1) := fun w1 k1 => by
            obtain ⟨s, hs⟩ := ((h.cm.kp0 k1).pg b hbB).wt
            exact unsettled_any G.c w1 b s hs
          have HKW : Hid (∀ w1, Kp (fun _ => False) w w1 → (∀ a', nget G.c G.K m = some a' → ¬ Rch G.W b a') → ((G.c b).di || (G.c b).pe) = true → Calls Tryz.prog 68 #[ptr Q, .int .i64 m] w1 fun e w' => ∃ a G2, e = .returned (ptr a) ∧ KnG w1.heap.size G m a G2 ∧ Calls Tryz.prog 69 #[ptr a, ptr b] w' fun e w'' => e = .returned (.tuple #[]) ∧ Cv S g bits room Q N (gAf G2 a b) q ft F w'' ∧ Cch Q G (gAf G2 a b) F F w1 w'') := fun w1 k1 hno hu =>
            knw_any (h.kp0 k1) m b hm hbK (by omega) hno hu
          cases ha : nget G.c G.K m with
          | none =>
            have hl2 := run_lookup_mn h.cm.ks m
            rw [nval_no ha] at hl2
            have hno : ∀ a', nget G.c G.K m = some a' → ¬ Rch G.W b a' := fun a' e => by rw [ha] at e; cases e
            clear h
            unfold ptr at *
            go_enter Tryz.func23, Tryz.ntmps23
            go_wp2_with (first
              | (go_at_call 64; refine HN.out.mono ?_; rintro e w' ⟨rfl, h⟩; replace h := h.symm; subst h))
            refine HMp.out.mono ?_
            rintro e w' ⟨rfl, h⟩; replace h := h.symm; subst h
            go_wp2_with fail
            refine HMo.out.mono ?_
            rintro e w' ⟨rfl, h⟩; replace h := h.symm; subst h
            cases hu : ((G.c b).di || (G.c b).pe) with
            | false =>
              rw [hu] at HU
              have HU1 := hid (HU.out w (Kp.refl _ _))
              clear HU HKW
              go_wp2_with (first
                | (go_at_call 67; refine HU1.out.mono ?_; rintro e w' ⟨rfl, h⟩; replace h := h.symm; subst h))
              go_ret
              exact .idle hp ho hmn3 hb hno hu (Kp.refl _ _)
            | true =>
              rw [hu] at HU
              have HU1 := hid (HU.out w (Kp.refl _ _))
              have HK1 := hid (HKW.out w (Kp.refl _ _) hno hu)
              clear HU HKW
              go_wp2_with (first
                | (go_at_call 67; refine HU1.out.mono ?_; rintro e w' ⟨rfl, h⟩; replace h := h.symm; subst h)
                | (go_at_call 68; refine HK1.out.mono ?_; rintro _ w2 ⟨a, G2, rfl, hg, hw⟩; have HG := hid hg; have HW := hid hw; clear hg hw)
                | (go_at_call 69; refine HW.out.mono ?_; rintro _ w3 ⟨rfl, hv, hc⟩))
              go_ret
              exact .ok hp ho hmn3 hb hno hu (Nat.le_refl _) HG.out hv hc
          | some a =>
            obtain ⟨haK, han⟩ := nget_mem ha
            have hl2 := run_lookup_mn h.cm.ks m
            rw [nval_of ha] at hl2
            have HL := hid (leads_any h b a hbB (h.iv.kb a haK))
            clear h
            unfold ptr at *
            go_enter Tryz.func23, Tryz.ntmps23
            go_wp2_with (first
              | (go_at_call 64; refine HN.out.mono ?_; rintro e w' ⟨rfl, h⟩; replace h := h.symm; subst h))
            refine HMp.out.mono ?_
            rintro e w' ⟨rfl, h⟩; replace h := h.symm; subst h
            go_wp2_with fail
            refine HMo.out.mono ?_
            rintro e w' ⟨rfl, h⟩; replace h := h.symm; subst h
            go_wp2_with fail
            refine HL.out.mono ?_
            rintro _ w1 ⟨r, rfl, hr, k1⟩
            cases r with
            | true =>
              go_wp2_with fail
              go_ret
              exact .loop hp ho hmn3 hb ha (hr.1 (by first | rfl | trivial)) k1
            | false =>
              have hno : ∀ a', nget G.c G.K m = some a' → ¬ Rch G.W b a' := fun a' e hx => by
                rw [ha] at e
                cases e
                exact Bool.false_ne_true (hr.2 hx)
              have HK0 := hid k1
              cases hu : ((G.c b).di || (G.c b).pe) with
              | false =>
                rw [hu] at HU
                have HU1 := hid (HU.out w1 k1)
                clear HU HKW k1 hr
                go_wp2_with (first
                  | (go_at_call 67; refine HU1.out.mono ?_; rintro e w' ⟨rfl, h⟩; replace h := h.symm; subst h))
                go_ret
                exact .idle hp ho hmn3 hb hno hu HK0.out
              | true =>
                rw [hu] at HU
                have HU1 := hid (HU.out w1 k1)
                have HK1 := hid (HKW.out w1 k1 hno hu)
                clear HU HKW k1 hr
                go_wp2_with (first
                  | (go_at_call 67; refine HU1.out.mono ?_; rintro e w' ⟨rfl, h⟩; replace h := h.symm; subst h)
                  | (go_at_call 68; refine HK1.out.mono ?_; rintro _ w2 ⟨a2, G2, rfl, hg, hw⟩; have HG := hid hg; have HW := hid hw; clear hg hw)
                  | (go_at_call 69; refine HW.out.mono ?_; rintro _ w3 ⟨rfl, hv, hc⟩))
                go_ret
                exact .ok hp ho hmn3 hb hno hu HK0.out.size HG.out hv (Cch.pre HK0.out hc)
    · have ho2 : mayn bits o = false := by simpa using ho
      rw [ho2] at HMo
      clear h
      unfold ptr at *
      go_enter Tryz.func23, Tryz.ntmps23
      go_wp2_with (first
        | (go_at_call 64; refine HN.out.mono ?_; rintro e w' ⟨rfl, h⟩; replace h := h.symm; subst h))
      refine HMp.out.mono ?_
      rintro e w' ⟨rfl, h⟩; replace h := h.symm; subst h
      go_wp2_with fail
      refine HMo.out.mono ?_
      rintro e w' ⟨rfl, h⟩; replace h := h.symm; subst h
      go_wp2_with fail
      go_ret
      exact .arg (by rw [ho2]; simp) (Kp.refl _ _)
  · have hp2 : mayn bits p = false := by simpa using hp
    rw [hp2] at HMp
    clear h
    unfold ptr at *
    go_enter Tryz.func23, Tryz.ntmps23
    go_wp2_with (first
      | (go_at_call 64; refine HN.out.mono ?_; rintro e w' ⟨rfl, h⟩; replace h := h.symm; subst h)
      | (go_at_call 65; refine HMp.out.mono ?_; rintro e w' ⟨rfl, h⟩; replace h := h.symm; subst h))
    go_ret
    exact .arg (by rw [hp2]; simp) (Kp.refl _ _)
end
end Go.Proofs.YtnccklbnncaeoaaGreat
/- cache: State. -/
namespace Go.Proofs.YtnccklbnncaeoaaGreat
open Go.RowKit
set_option linter.unusedVariables false
set_option linter.unusedSimpArgs false
/-- State. -/
def StR (bits : Nat) (G : Gc) (w : World) (k : Int) (e : Ending) (w' : World) : Prop := Kp (fun _ => False) w w' ∧
  if mayn bits k = true then match nget G.c G.K k.toNat with
    | none => e = .returned (.tuple #[.agg #[.bool false, .bool false, .slice none 0 0], .int .i64 0])
    | some b => ∃ v, e = .returned (.tuple #[.agg #[.bool (G.c b).di, .bool (G.c b).pe, v], .int .i64 0]) ∧ w'.ownsRow w.heap.size 2 1 v (G.W b).length ((sno G.c (G.W b)).map (Value.int .i64)) ∧ (v = .slice none 0 0 ↔ G.W b = [])
  else e = .returned (.tuple #[.agg #[.bool false, .bool false, .slice none 0 0], .int .i64 2])
section
variable {S : ByteArray} {g bits room Q N : Nat} {G : Gc} {q : Gf} {ft : List (Int × Int)} {F : Nat → Prop} {w : World}
set_option maxHeartbeats 8000000 in
set_option maxRecDepth 100000 in
theorem state_any (h : Cv S g bits room Q N G q ft F w) (k : Int) :
    Calls Tryz.prog 35 #[ptr Q, .int .i64 k] w (StR bits G w k) := by
  have KA : Hid (Kp (fun _ => False) w (w.alloc (.cells #[.bool false, .bool false, .slice none 0 0] 86))) := (Kp.refl _ _).alloc _
  have h1 := h.kp0 KA.out
  have HN := hid h1.live
  have HM := hid (h1.maya k)
  have z4 := h1.cm.st.cell 4
  simp at z4
  unfold StR
  by_cases hk : mayn bits k = true
  · rw [hk] at HM
    simp only [if_pos hk]
    obtain ⟨m, rfl, hm⟩ := mayn_nat hk
    rw [Int.toNat_natCast]
    have hl := run_lookup_mn h1.cm.ks m
    cases hb : nget G.c G.K m with
    | none =>
      rw [nval_no hb] at hl
      clear h h1
      unfold ptr at *
      go_enter Tryz.func35, Tryz.ntmps35
      go_wp2_with (first
        | (go_at_call 64; refine HN.out.mono ?_; rintro e w' ⟨rfl, h⟩; replace h := h.symm; subst h)
        | (go_at_call 65; refine HM.out.mono ?_; rintro e w' ⟨rfl, h⟩; replace h := h.symm; subst h))
      refine bodyPost_ret (results_cell_tmp2 Tryz.results35 _ _ _ rfl rfl (load86 (St.new 86 w _))) rfl ?_
      exact ⟨KA.out, rfl⟩
    | some b =>
      rw [nval_of hb] at hl
      obtain ⟨hbK, hbn⟩ := nget_mem hb
      have hbB := h.iv.kb b hbK
      obtain ⟨s, hs⟩ := (h1.cm.pg b hbB).wt
      have y2 := St.cell hs 2
      have y3 := St.cell hs 3
      have y6 := St.cell hs 6
      simp [Pc.cs] at y2 y3 y6
      have HW := hid (h.cm.pg b hbB).ws
      have HL : Hid ((G.W b).length ≤ 1000000) := h.mlen (h.cm.pg b hbB).ws (fun a ha => h.wB ha)
      have HNB : Hid (∀ a ∈ G.W b, (G.c a).n < 1000000000) := fun a ha => by
        have h2 := h.nb a (h.wB ha)
        have h3 := Nat.div_le_self 268435456 (2 ^ bits)
        omega
      obtain ⟨z, hz⟩ : ∃ z, w.heap.size = z := ⟨_, rfl⟩
      have HZ := hid hz
      have SA : Hid (St 86 (w.alloc (.cells #[.bool false, .bool false, .slice none 0 0] 86)) z #[.bool false, .bool false, .slice none 0 0]) := by
        rw [← hz]; exact St.new 86 w _
      clear h h1 hs
      unfold ptr at *
      go_enter Tryz.func35, Tryz.ntmps35
      go_wp2_with (first
        | (go_at_call 64; refine HN.out.mono ?_; rintro e w' ⟨rfl, h⟩; replace h := h.symm; subst h)
        | (go_at_call 65; refine HM.out.mono ?_; rintro e w' ⟨rfl, h⟩; replace h := h.symm; subst h))
      clear hz HN HM hl z4
      generalize w.alloc (.cells #[.bool false, .bool false, .slice none 0 0] 86) = W1 at KA SA y2 y3 y6 ⊢
      have g0 : W1.drew.cell? ⟨b, 2, none⟩ = some (.bool (G.c b).di) ∧ W1.drew.cell? ⟨b, 3, none⟩ = some (.bool (G.c b).pe) ∧ W1.drew.cell? ⟨b, 6, none⟩ = some (.map (some (G.c b).wm)) := ⟨y2, y3, y6⟩
      refine wp_region_G (fun w' => w'.cell? ⟨b, 2, none⟩ = some (.bool (G.c b).di) ∧ w'.cell? ⟨b, 3, none⟩ = some (.bool (G.c b).pe) ∧ w'.cell? ⟨b, 6, none⟩ = some (.map (some (G.c b).wm))) [15, 16] hmix g0 (fun h0 => ?_)
      refine wpAnyG_takeW (i := 0) (v := .pointer (some ⟨b, 0, none⟩)) rfl (by kernel_rfl) (fun _ _ _ h => h) (Or.inl ⟨by rfl, fun w _ => by go_simp⟩) ?_
      refine wpAnyG_takeW (i := 1) (v := .pointer (some ⟨b, 0, none⟩)) rfl (by kernel_rfl) (fun _ _ _ h => h) (Or.inl ⟨by rfl, fun w _ => by go_simp⟩) ?_
      refine wpAnyG_takeW (i := 2) (v := .pointer (some ⟨b, 2, none⟩)) rfl (by kernel_rfl) (fun _ _ _ h => h) (Or.inl ⟨by rfl, fun w _ => by go_simp⟩) ?_
      refine wpAnyG_take (i := 3) (v := .bool (G.c b).di) rfl (by kernel_rfl) (fun _ _ _ h => h) (Or.inl ⟨by rfl, fun w hSw => by (obtain ⟨q2, q3, q6⟩ := hSw); go_simp⟩) h0 ?_
      refine wpAnyG_takeW (i := 4) (v := .pointer (some ⟨b, 0, none⟩)) rfl (by kernel_rfl) (fun _ _ _ h => h) (Or.inl ⟨by rfl, fun w _ => by go_simp⟩) ?_
      refine wpAnyG_takeW (i := 5) (v := .pointer (some ⟨b, 0, none⟩)) rfl (by kernel_rfl) (fun _ _ _ h => h) (Or.inl ⟨by rfl, fun w _ => by go_simp⟩) ?_
      refine wpAnyG_takeW (i := 6) (v := .pointer (some ⟨b, 3, none⟩)) rfl (by kernel_rfl) (fun _ _ _ h => h) (Or.inl ⟨by rfl, fun w _ => by go_simp⟩) ?_
      refine wpAnyG_take (i := 7) (v := .bool (G.c b).pe) rfl (by kernel_rfl) (fun _ _ _ h => h) (Or.inl ⟨by rfl, fun w hSw => by (obtain ⟨q2, q3, q6⟩ := hSw); go_simp⟩) h0 ?_
      refine wpAnyG_takeW (i := 8) (v := .pointer (some ⟨b, 0, none⟩)) rfl (by kernel_rfl) (fun _ _ _ h => h) (Or.inl ⟨by rfl, fun w _ => by go_simp⟩) ?_
      refine wpAnyG_takeW (i := 9) (v := .pointer (some ⟨b, 0, none⟩)) rfl (by kernel_rfl) (fun _ _ _ h => h) (Or.inl ⟨by rfl, fun w _ => by go_simp⟩) ?_
      refine wpAnyG_takeW (i := 10) (v := .pointer (some ⟨b, 6, none⟩)) rfl (by kernel_rfl) (fun _ _ _ h => h) (Or.inl ⟨by rfl, fun w _ => by go_simp⟩) ?_
      refine wpAnyG_take (i := 11) (v := .map (some (G.c b).wm)) rfl (by kernel_rfl) (fun _ _ _ h => h) (Or.inl ⟨by rfl, fun w hSw => by (obtain ⟨q2, q3, q6⟩ := hSw); go_simp⟩) h0 ?_
      refine wpAnyG_one (i := 12) (by kernel_rfl) rfl (fun K hK => ?_)
      go_simp
      refine (keys_any _ _).mono ?_
      rintro _ w3 ⟨rfl, hw3⟩
      have k3 : Kp (fun _ => False) W1.drew w3 := by rw [hw3]; exact (Kp.refl _ _).alloc _
      have t3 : St 106 w3 W1.drew.heap.size #[.map (some (G.c b).wm)] := by rw [hw3]; exact St.new 106 _ _
      have kd : Kp (fun _ => False) W1 W1.drew := (Kp.refl _ _).drew
      have KW3 : Hid (Kp (fun _ => False) w w3) := (KA.out.trans kd (fun _ _ h => h)).trans k3 (fun _ _ h => h)
      have g3 : w3.cell? ⟨b, 2, none⟩ = some (.bool (G.c b).di) ∧ w3.cell? ⟨b, 3, none⟩ = some (.bool (G.c b).pe) ∧ w3.cell? ⟨b, 6, none⟩ = some (.map (some (G.c b).wm)) := ⟨k3.cell g0.1, k3.cell g0.2.1, k3.cell g0.2.2⟩
      have HS3 := hid (keysS_any G.c w3 W1.drew.heap.size (G.c b).wm (G.W b) (HW.out.kp KW3.out (fun h => h)) (t3.cell 0) t3.lt HL.out HNB.out)
      have SA3 := hid (SA.out.kp (kd.trans k3 (fun _ _ h => h)) (fun h => h))
      clear hw3 k3 t3 kd SA
      go_wp2_with fail
      refine hK.out _ _ (fun _ _ => g3) ?_
      clear hK K h0
      refine wpAnyG_one (i := 13) (by kernel_rfl) rfl (fun K hK => ?_)
      go_simp
      refine HS3.out.mono ?_
      rintro _ w4 ⟨v, rfl, hrow, hnil, hbl⟩
      obtain ⟨ao, n0, cap, rfl⟩ : ∃ ao n0 cap, v = .slice ao n0 cap := by
        rcases hrow.2 with ⟨e, _⟩ | ⟨g', cap', cur, e, _⟩
        · exact ⟨_, _, _, e⟩
        · exact ⟨_, _, _, e⟩
      have k4 : Kp (fun _ => False) w3 w4 := Kp.of_below hbl
      have g4 : w4.cell? ⟨b, 2, none⟩ = some (.bool (G.c b).di) ∧ w4.cell? ⟨b, 3, none⟩ = some (.bool (G.c b).pe) ∧ w4.cell? ⟨b, 6, none⟩ = some (.map (some (G.c b).wm)) := ⟨k4.cell g3.1, k4.cell g3.2.1, k4.cell g3.2.2⟩
      have SA4 := hid (SA3.out.kp k4 (fun h => h))
      have KW4 : Hid (Kp (fun _ => False) w w4) := KW3.out.trans k4 (fun _ _ h => h)
      have HROW : Hid (w4.ownsRow w.heap.size 2 1 (.slice ao n0 cap) (G.W b).length ((sno G.c (G.W b)).map (Value.int .i64))) := ownsRow_base_a hrow KW3.out.size
      have HNIL := hid hnil
      have HBS : Hid (∀ i, (Value.slice ao n0 cap).ownBlock = some i → w3.heap.size ≤ i) := fun i e => by
        obtain ⟨cur, _, hr⟩ := ownb hrow e
        exact hr
      clear k4 hbl hrow hnil HS3
      go_wp2_with fail
      refine hK.out _ _ (fun _ _ => g4) ?_
      clear hK K
      refine wpAnyG_one (i := 14) (by kernel_rfl) rfl (fun K hK => ?_)
      go_simp
      refine hK.out _ _ (fun _ _ => g4) ?_
      clear hK K
      refine wpAnyG_one (i := 15) (by kernel_rfl) rfl (fun K hK => ?_)
      have c0 := SA4.out.cell 0
      have c1 := SA4.out.cell 1
      have c2 := SA4.out.cell 2
      have f0 := SA4.out.frozen 0
      have f1 := SA4.out.frozen 1
      have f2 := SA4.out.frozen 2
      simp at c0 c1 c2
      go_simp
      refine hK.out _ _ (fun h => absurd h (by decide)) ?_
      clear hK K
      refine wpAnyG_one (i := 16) (by kernel_rfl) rfl (fun K hK => ?_)
      go_simp
      refine hK.out _ _ (fun h => absurd h (by decide)) ?_
      clear hK K
      refine wpAnyG_done (by kernel_rfl) ?_ _
      go_wp2_with fail
      have SF : St 86 (((w4.setCell ⟨z, 0, none⟩ (.bool (G.c b).di)).setCell ⟨z, 1, none⟩ (.bool (G.c b).pe)).setCell ⟨z, 2, none⟩ (.slice ao n0 cap)) z #[.bool (G.c b).di, .bool (G.c b).pe, .slice ao n0 cap] := by
        have h2 := ((SA4.out.set 0 (.bool (G.c b).di)).set 1 (.bool (G.c b).pe)).set 2 (.slice ao n0 cap)
        simpa using h2
      have KF : Kp (fun i => i = z) w4 (((w4.setCell ⟨z, 0, none⟩ (.bool (G.c b).di)).setCell ⟨z, 1, none⟩ (.bool (G.c b).pe)).setCell ⟨z, 2, none⟩ (.slice ao n0 cap)) :=
        ((kp_setCell w4 z 0 _ (fun i => i = z) rfl).trans (kp_setCell _ z 1 _ (fun i => i = z) rfl) (fun _ _ h => h)).trans (kp_setCell _ z 2 _ (fun i => i = z) rfl) (fun _ _ h => h)
      have hzl := SA3.out.lt
      refine bodyPost_ret (results_cell_tmp2 Tryz.results35 _ _ _ rfl rfl (load86 SF)) rfl ?_
      refine ⟨KW4.out.trans KF (fun i hi e => by have := HZ.out; omega), _, rfl, own_kp HROW.out KF (fun i e e2 => by have := HBS.out i e; omega), HNIL.out⟩
  · have hk2 : mayn bits k = false := by simpa using hk
    rw [hk2] at HM
    simp only [if_neg hk]
    clear h h1
    unfold ptr at *
    go_enter Tryz.func35, Tryz.ntmps35
    go_wp2_with (first
      | (go_at_call 64; refine HN.out.mono ?_; rintro e w' ⟨rfl, h⟩; replace h := h.symm; subst h)
      | (go_at_call 65; refine HM.out.mono ?_; rintro e w' ⟨rfl, h⟩; replace h := h.symm; subst h))
    refine bodyPost_ret (results_cell_tmp2 Tryz.results35 _ _ _ rfl rfl (load86 (St.new 86 w _))) rfl ?_
    exact ⟨KA.out, rfl⟩
end
end Go.Proofs.YtnccklbnncaeoaaGreat
/- cache: Pages. -/
namespace Go.Proofs.YtnccklbnncaeoaaGreat
open Go.RowKit Go.Sort Go.Shelf
set_option linter.unusedVariables false
set_option linter.unusedSimpArgs false
theorem sort_i (w : World) (base : Nat) (v : Value) (xs : List Int) (h : w.ownsRow base 2 1 v xs.length (xs.map (Value.int .i64))) (hl : xs.length ≤ 1000000) :
    Calls Tryz.prog 81 #[v] w fun e w' => e = .returned (.tuple #[]) ∧ w'.ownsRow base 2 1 v xs.length ((xs.mergeSort leI).map (Value.int .i64)) ∧ Kp (fun i => v.ownBlock = some i) w w' := by
  rcases h.2 with ⟨rfl, hz⟩ | ⟨g, cap, cur, rfl, hb, hg, r1, r2, r3, r4⟩
  · have hx : xs = [] := List.eq_nil_of_length_eq_zero hz
    subst hx
    have hcon := AnyM.slices_Sort_int_none Tryz.sortA none 0 w
    change Calls Tryz.prog 81 _ _ _ at hcon
    refine hcon.mono ?_
    rintro e w' ⟨rfl, rfl⟩
    exact ⟨rfl, by simpa using h, Kp.refl _ _⟩
  · have hH : Holds (Value.int .i64) w g 0 xs.toArray := holds_of_blockI hg (by simpa using r4)
    have hcon := AnyM.slices_Sort_int Tryz.sortA g 0 cap xs w hH (Array.getElem?_eq_some_iff.1 hg).1 (by omega)
    change Calls Tryz.prog 81 _ _ _ at hcon
    refine hcon.mono ?_
    rintro e w' ⟨rfl, n, os, rfl⟩
    refine ⟨rfl, ownsRow_sortedI (by simp) hb hg r1 r2 r3, ?_⟩
    refine ⟨rfl, rfl, rfl, ?_, fun k hk hne => ?_⟩
    · simp [grow, putRow, mapBlock, Sort.ahead]
    · have hgk : g ≠ k := fun e => hne (by rw [e]; rfl)
      simp [grow, putRow, mapBlock, Sort.ahead, Array.getElem?_append, hk, Array.getElem_modify, hgk]
theorem ownI_row {w : World} {base : Nat} {v : Value} {xs : List Int} (h : OwnI .i64 2 w base v xs) : w.ownsRow base 2 1 v xs.length (xs.map (Value.int .i64)) := by
  rcases h with ⟨rfl, rfl⟩ | ⟨g, cap, tl, rfl, h1, h2, h3, h4⟩
  · exact ⟨rfl, .inl ⟨rfl, rfl⟩⟩
  · refine ⟨by simp, .inr ⟨g, cap, _, rfl, h1, h2, by simp at h3; omega, h4, ?_, ?_⟩⟩
    · simp at h3 ⊢
      omega
    · simp
theorem inf2 : (Tryz.prog.info? 2).map (fun i => (i.zero, i.size, i.bytes)) = some (some (.int .i64 0), 1, 8) := by kernel_rfl
set_option maxHeartbeats 2000000 in
theorem vals2_any (v : Value) (w : World) (hv : ∃ ao n cap, v = .slice ao n cap) : Calls Tryz.prog 82 #[v] w fun e w' => e = .returned (.func (.func 131) #[] #[.pointer (some ⟨w.heap.size, 0, none⟩)]) ∧ w' = w.alloc (.cells #[v] 84) := by
  obtain ⟨ao, n, cap, rfl⟩ := hv
  go_enter Tryz.func82, Tryz.ntmps82
  go_wp2
  go_ret
  exact ⟨rfl, rfl⟩
section
variable {S : ByteArray} {g bits room Q N : Nat} {G : Gc} {q : Gf} {ft : List (Int × Int)} {F : Nat → Prop} {w : World}
/-- What Pages answers. -/
def PgR (G : Gc) (w : World) (e : Ending) (w' : World) : Prop := Kp (fun _ => False) w w' ∧ ∃ t v, e = .returned (.func (.func 131) #[] #[.pointer (some ⟨t, 0, none⟩)]) ∧ w.heap.size ≤ t ∧ St 84 w' t #[v] ∧ w'.ownsRow w.heap.size 2 1 v G.L.length ((sno G.c G.L).map (Value.int .i64))
set_option maxHeartbeats 8000000 in
set_option maxRecDepth 100000 in
theorem pages_any (h : Cv S g bits room Q N G q ft F w) :
    Calls Tryz.prog 33 #[ptr Q] w (PgR G w) := by
  have HN := hid h.live
  have z5 := h.cm.st.cell 5
  simp at z5
  have z0 := h.cm.ln.st.cell 0
  simp at z0
  obtain ⟨ao, cap, hlv, hlm, hrow⟩ := prow h.cm.ln.own
  rw [hlv] at z0
  have HROW := hid hrow
  have HL : Hid (G.L.length ≤ 1024) := by have := h.lr; have := h.rr; show _ ≤ _; omega
  have HC := hid h.cm
  clear h hrow hlv hlm
  unfold ptr at *
  go_enter Tryz.func33, Tryz.ntmps33
  go_wp2_with (first
    | (go_at_call 64; refine HN.out.mono ?_; rintro e w' ⟨rfl, h⟩; replace h := h.symm; subst h))
  have hL2 : G.L.length ≤ 1024 := HL.out
  clear z5 z0 HN
  go_loopw [17, 3, 5] (fun vi vv _ wr => ∃ i : Nat, vi = .int .i64 i ∧ i ≤ G.L.length ∧ OwnI .i64 2 wr w.heap.size vv ((G.L.take i).map (fun b => ((G.c b).n : Int))) ∧ Kp (fun _ => False) w wr) (fun vi _ _ _ => G.L.length - (intOf vi).toNat)
  case atStart => exact ⟨0, rfl, Nat.zero_le _, .inl ⟨rfl, rfl⟩, Kp.refl _ _⟩
  case round =>
    obtain ⟨i, rfl, hi, hown, hkp⟩ := hrel
    by_cases hlt : i < G.L.length
    · have hlt' : (i : Int) < (G.L.length : Int) := by omega
      obtain ⟨r, rfl, hri⟩ := HROW.out i hlt
      replace hri := hkp.cell hri
      obtain ⟨b, hbe⟩ : ∃ b, G.L.getD i 0 = b := ⟨_, rfl⟩
      have hbL : b ∈ G.L := hbe ▸ gn_mem hlt
      have hts := take_snoc hlt
      rw [hbe] at hri hts
      obtain ⟨s, hs⟩ := ((HC.out.kp0 hkp).pg b (HC.out.lb b hbL)).wt
      have y0 := St.cell hs 0
      simp [Pc.cs] at y0
      have HTS := hid hts
      have KA : Hid (Kp (fun _ => False) wr (wr.alloc (.cells #[.int .i64 ((G.c b).n : Int)] 2))) := (Kp.refl _ _).alloc _
      have HSRC : Hid (Src .i64 (wr.alloc (.cells #[.int .i64 ((G.c b).n : Int)] 2)) (some ⟨wr.heap.size, 0, none⟩) [((G.c b).n : Int)]) := Src.mk (fun j hj => by
        have h1 := (St.new 2 wr #[.int .i64 ((G.c b).n : Int)]).cell j
        have hj0 : j = 0 := by simpa using hj
        subst hj0
        rw [Nat.zero_add, h1]
        simp)
      have HOWN : Hid (OwnI .i64 2 (wr.alloc (.cells #[.int .i64 ((G.c b).n : Int)] 2)) w.heap.size u3 ((G.L.take i).map (fun b => ((G.c b).n : Int)))) := hown.kp KA.out (fun _ _ h => h)
      have HLN : Hid (((G.L.take i).map (fun b => ((G.c b).n : Int))).length + [((G.c b).n : Int)].length ≤ 17592186044416) := by
        have := HL.out
        show _ ≤ _
        simp
        omega
      have HKP := hid hkp
      have HI : Hid (i < G.L.length) := hlt
      have HBS : Hid (w.heap.size ≤ (wr.alloc (.cells #[.int .i64 ((G.c b).n : Int)] 2)).heap.size) := Nat.le_trans hkp.size KA.out.size
      clear hown hkp hs hts
      go_wp2_with (first | (at_builtin; refine wpList_append_i (κ := .i64) 84 2 8 Tryz.underlying84 inf2 (by decide) rfl (.tmp 21) (.tmp 26) rfl w.heap.size u3 _ rfl HOWN.out (some ⟨wr.heap.size, 0, none⟩) 1 1 [((G.c b).n : Int)] rfl rfl (fun e => by cases e) HSRC.out HLN.out HBS.out ?_; intro v' w1 h1 h2 h3 h4))
      refine ⟨⟨i + 1, by simp, by have := HI.out; omega, ?_, ?_⟩, by have := HI.out; simp [intOf]; omega⟩
      · rw [← List.map_singleton (f := fun b => ((G.c b).n : Int)), ← List.map_append, HTS.out] at h1
        exact h1
      · exact (HKP.out.trans KA.out (fun _ _ h => h)).trans (Kp.of_grown h2 (F := fun j => u3.ownBlock = some j) (fun j e => e)) (fun j hj e => by
          have := (HOWN.out.lt j e).1
          omega)
    · obtain rfl : i = G.L.length := by omega
      rw [List.take_length] at hown
      have hlen : (G.L.map (fun b => ((G.c b).n : Int))).length ≤ 1000000 := by have := HL.out; simp; omega
      have hro := ownI_row hown
      have HS := hid (sort_i wr w.heap.size u3 _ hro hlen)
      have HSH : Hid (∃ ao n cap, u3 = .slice ao n cap) := by
        rcases hown with ⟨e, _⟩ | ⟨g', cap', tl, e, _⟩
        · exact ⟨_, _, _, e⟩
        · exact ⟨_, _, _, e⟩
      have HB : Hid (∀ j, u3.ownBlock = some j → w.heap.size ≤ j) := fun j e => (hown.lt j e).1
      have HKP := hid hkp
      clear hown hro hlen hkp
      go_wp2_with (first
        | (go_at_call 81; refine HS.out.mono ?_; rintro _ w2 ⟨rfl, hro2, hk2⟩)
        | (go_at_call 82; refine (vals2_any u3 w2 HSH.out).mono ?_; rintro _ w3 ⟨rfl, hw3⟩))
      go_ret
      have k2 : Kp (fun _ => False) w w2 := HKP.out.trans hk2 (fun j hj e => by have := HB.out j e; omega)
      have k3 : Kp (fun _ => False) w2 (w2.alloc (.cells #[u3] 84)) := (Kp.refl _ _).alloc _
      subst hw3
      refine ⟨k2.trans k3 (fun _ _ h => h), w2.heap.size, u3, rfl, k2.size, by first | exact St.new 84 w2 _ | (rw [hw3]; exact St.new 84 w2 _), ?_⟩
      rw [List.length_map] at hro2
      exact own_kp hro2 k3 (fun _ _ h => h)
end
end Go.Proofs.YtnccklbnncaeoaaGreat
/- cache: what the file holds, move by move; plain mathematics. -/
namespace Go.Proofs.YtnccklbnncaeoaaGreat
open Go.RowKit
set_option linter.unusedVariables false
set_option linter.unusedSimpArgs false
/-- What the file holds at a place. -/
def cont (q : Gf) (i : Nat) : Int := ovs q.L q.ps i
theorem gwr_at (p : Nat) (xs : List Int) (n a : Nat) (q : Gf) (hp : p ≤ a) (hn : a - p + n = xs.length) :
    (gwr p xs q (pcs a n)).sz = (if n = 0 then q.sz else max q.sz (a + n)) ∧ ∀ i, cont (gwr p xs q (pcs a n)) i = if a ≤ i ∧ i < a + n then xs.getD (i - p) 0 else cont q i := by
  induction n using Nat.strongRecOn generalizing a q with
  | ind n ih =>
    by_cases h0 : n = 0
    · subst h0
      refine ⟨by rw [if_pos rfl]; rfl, fun i => ?_⟩
      rw [if_neg (by omega)]
      rfl
    · have hc1 := cutl_pos (a := a) (n := n) (by omega)
      have hc2 := cutl_le a n
      rw [pcs_step a n (by omega)]
      obtain ⟨c, hc⟩ : ∃ c, cutl a n = c := ⟨_, rfl⟩
      rw [hc] at hc1 hc2 ⊢
      obtain ⟨h1, h2⟩ := ih (n - c) (by omega) (a + c) (gw1 p xs q (a, c)) (by omega) (by omega)
      have e : gwr p xs q ((a, c) :: pcs (a + c) (n - c)) = gwr p xs (gw1 p xs q (a, c)) (pcs (a + c) (n - c)) := rfl
      rw [e]
      refine ⟨?_, fun i => ?_⟩
      · rw [h1, if_neg h0]
        show (if n - c = 0 then max q.sz (a + c) else max (max q.sz (a + c)) (a + c + (n - c))) = _
        split <;> omega
      · rw [h2 i]
        have hw : cont (gw1 p xs q (a, c)) i = ov (ovs q.L q.ps) (a, wby p xs (a, c)) i := by
          show ovs q.L (q.ps ++ [(a, wby p xs (a, c))]) i = _
          rw [ovs_snoc]
        have hl : (wby p xs (a, c)).length = c := by
          unfold wby
          simp
          omega
        rw [hw]
        unfold ov
        dsimp only
        rw [hl]
        by_cases c1 : a + c ≤ i ∧ i < a + c + (n - c)
        · rw [if_pos c1, if_pos (by omega)]
        · rw [if_neg c1]
          by_cases c2 : a ≤ i ∧ i < a + c
          · rw [if_pos c2, if_pos (by omega)]
            unfold wby
            have h3 : i - a < c := by omega
            have h4 : a - p + (i - a) = i - p := by omega
            simp [List.getD, List.getElem?_take, h3, List.getElem?_drop, h4]
          · rw [if_neg c2, if_neg (by omega)]
            rfl
theorem gwr_all (p : Nat) (xs : List Int) (q : Gf) (hx : xs ≠ []) :
    (gwr p xs q (pcs p xs.length)).sz = max q.sz (p + xs.length) ∧ ∀ i, cont (gwr p xs q (pcs p xs.length)) i = if p ≤ i ∧ i < p + xs.length then xs.getD (i - p) 0 else cont q i := by
  obtain ⟨h1, h2⟩ := gwr_at p xs xs.length p q (Nat.le_refl _) (by omega)
  refine ⟨?_, h2⟩
  rw [h1, if_neg (fun e => hx (List.eq_nil_of_length_eq_zero e))]
theorem qwr_nil (q : Gf) (p : Nat) (zs : List Int) : qwr q [] p zs = gwr p zs q (pcs p zs.length) := by
  unfold qwr
  have : lft ((([] : List (Int × Int)).headD (0, 0)).1) ((([] : List (Int × Int)).headD (0, 0)).2) zs.length = zs.length := rfl
  rw [this, List.take_of_length_le (pcs_len _ _)]
theorem qfl_nil (q : Gf) : qfl q [] = ⟨q.sz, ovs q.L q.ps, []⟩ := by
  unfold qfl
  have : lft ((([] : List (Int × Int)).headD (0, 0)).1) ((([] : List (Int × Int)).headD (0, 0)).2) q.ps.length = q.ps.length := rfl
  rw [this]
  unfold gfl
  rw [List.take_of_length_le (Nat.le_refl _), List.drop_of_length_le (Nat.le_refl _)]
theorem cont_fl (q : Gf) (i : Nat) : cont (qfl q []) i = cont q i := by
  rw [qfl_nil]
  rfl
/-- What is beyond the file's end is nought. -/
def Zb (q : Gf) : Prop := ∀ i, q.sz ≤ i → cont q i = 0
theorem ldz_get {q : Gf} (hz : Zb q) (bits k j : Nat) (hj : j < 2 ^ bits) : (ldz q bits k).getD j 0 = cont q (k * 2 ^ bits + j) := by
  have hl : (rdz q (k * 2 ^ bits) (2 ^ bits)).length = min (2 ^ bits) (q.sz - k * 2 ^ bits) := by unfold rdz; simp
  unfold ldz
  rw [getD_splice _ _ _ _ (by rw [hl]; simp; omega)]
  by_cases h : j < q.sz - k * 2 ^ bits
  · rw [if_pos ⟨by omega, by rw [hl]; omega⟩]
    unfold rdz cont
    have h2 : j < min (2 ^ bits) (q.sz - k * 2 ^ bits) := by omega
    simp [List.getD, h2]
  · rw [if_neg (by rw [hl]; omega), hz _ (by omega)]
    simp [List.getD, hj]
/-- A page that is kept and not dirty is as the file. -/
def Cl (bits : Nat) (G : Gc) (q : Gf) : Prop := ∀ b ∈ G.L, (G.c b).di = false → ∀ i zs, G.y b = some (i, zs) → ∀ j, j < 2 ^ bits → zs.getD j 0 = cont q ((G.c b).n * 2 ^ bits + j)
/-- Does a place lie in page n? -/
def inP (bits n p : Nat) : Prop := n * 2 ^ bits ≤ p ∧ p < n * 2 ^ bits + 2 ^ bits
theorem inP_uniq {bits m n p : Nat} (h : inP bits m p) (k : inP bits n p) : m = n := by
  unfold inP at h k
  have hm : p / 2 ^ bits = m := by
    apply Nat.div_eq_of_lt_le
    · omega
    · rw [Nat.add_mul]; omega
  have hn : p / 2 ^ bits = n := by
    apply Nat.div_eq_of_lt_le
    · omega
    · rw [Nat.add_mul]; omega
  omega
theorem inP_off {bits n j : Nat} (hj : j < 2 ^ bits) : inP bits n (n * 2 ^ bits + j) := ⟨by omega, by omega⟩
structure Fcl (bits : Nat) (X Y : Xt) : Prop where
  zb : Zb Y.q
  cl : Cl bits Y.G Y.q
  eq : ∀ p, (∀ b ∈ X.G.L, ¬ inP bits (X.G.c b).n p) → cont Y.q p = cont X.q p
  sz : X.q.sz ≤ Y.q.sz
  szb : ∀ M, X.q.sz ≤ M → (∀ b ∈ X.G.L, ((X.G.c b).n + 1) * 2 ^ bits ≤ M) → Y.q.sz ≤ M
theorem rc_cl {bits n : Nat} {X Y : Xt} (h : Rc bits n X Y) (hf : X.ft = []) (hn : Nin X.G.c X.G.L) (hy : ∀ b ∈ X.G.L, ∀ i zs, X.G.y b = some (i, zs) → zs.length = 2 ^ bits) (hz : Zb X.q) (hc : Cl bits X.G X.q) : Fcl bits X Y := by
  induction h using Rc.ind with
  | refl => exact ⟨hz, hc, fun _ _ => rfl, Nat.le_refl _, fun M h _ => h⟩
  | step hr hm ih =>
    rename_i n X Y Z
    have hs := hr.stb
    have hft := hr.ftn hf
    have ih := ih hf hn hy hz hc
    have hL : ∀ b, b ∈ Y.G.L ↔ b ∈ X.G.L := fun b => hs.L.mem_iff
    cases hm using Mve.el with
    | fl hk k =>
      rename_i G'
      have hl := k.les
      rw [hft]
      refine ⟨fun i hi => ?_, fun b hb hd i zs e j hj => ?_, fun p hp => ?_, ?_, fun M h1 h2 => ?_⟩
      · show cont (qfl Y.q []) i = 0
        rw [cont_fl]
        exact ih.zb i (by have : (qfl Y.q []).sz ≤ i := hi; rw [qfl_nil] at this; exact this)
      · show zs.getD j 0 = cont (qfl Y.q []) ((G'.c b).n * 2 ^ bits + j)
        have hb' : b ∈ Y.G.L := by rw [← hl.L]; exact hb
        have hd' : (Y.G.c b).di = false := by rw [← (hl.c b).2.2.1]; exact hd
        have e' : Y.G.y b = some (i, zs) := by rw [← hl.y]; exact e
        rw [cont_fl, (hl.c b).1]
        exact ih.cl b hb' hd' i zs e' j hj
      · show cont (qfl Y.q []) p = _
        rw [cont_fl]; exact ih.eq p hp
      · show _ ≤ (qfl Y.q []).sz
        rw [qfl_nil]; exact ih.sz
      · show (qfl Y.q []).sz ≤ M
        rw [qfl_nil]; exact ih.szb M h1 h2
    | wr hk hbL hd hW hyb k =>
      rename_i G' b i zs
      rw [hft, qwr_nil]
      have hbX := (hL b).1 hbL
      have hyX : X.G.y b = some (i, zs) := by rw [← hs.y]; exact hyb
      have hzl := hy b hbX i zs hyX
      have hne : zs ≠ [] := fun e => by rw [e] at hzl; have := Nat.two_pow_pos bits; simp at hzl; omega
      obtain ⟨g1, g2⟩ := gwr_all ((Y.G.c b).n * 2 ^ bits) zs Y.q hne
      have hnb : (Y.G.c b).n = (X.G.c b).n := (hs.c b).1
      refine ⟨fun p hp => ?_, fun a ha hda j us e o ho => ?_, fun p hp => ?_, ?_, fun M h1 h2 => ?_⟩
      · change (gwr _ _ _ _).sz ≤ p at hp
        show cont (gwr _ _ _ _) p = 0
        rw [g1] at hp
        rw [g2, if_neg (by omega)]
        exact ih.zb p (by omega)
      · show us.getD o 0 = cont (gwr _ _ _ _) ((G'.c a).n * 2 ^ bits + o)
        have haY : a ∈ Y.G.L := k.L.mem_iff.1 ha
        have eY : Y.G.y a = some (j, us) := by rw [← k.y]; exact e
        rw [(k.stb.c a).1, g2]
        by_cases hab : a = b
        · subst hab
          rw [hyb] at eY
          cases eY
          rw [if_pos (by rw [hzl]; omega)]
          congr 1
          omega
        · have hda' : (Y.G.c a).di = false := by
            have := k.di a
            rw [if_neg hab] at this
            rw [← this]; exact hda
          have hno : ¬ ((Y.G.c b).n * 2 ^ bits ≤ (Y.G.c a).n * 2 ^ bits + o ∧ (Y.G.c a).n * 2 ^ bits + o < (Y.G.c b).n * 2 ^ bits + zs.length) := by
            rw [hzl]
            intro hx
            have h1 := inP_uniq (inP_off (n := (Y.G.c a).n) ho) (show inP bits (Y.G.c b).n _ from hx)
            refine hab (hn a ((hL a).1 haY) b hbX ?_)
            rw [← (hs.c a).1, ← hnb]; exact h1
          rw [if_neg hno]
          exact ih.cl a haY hda' j us eY o ho
      · show cont (gwr _ _ _ _) p = _
        rw [g2, if_neg (by
          rw [hzl, hnb]
          exact hp b hbX)]
        exact ih.eq p hp
      · show _ ≤ (gwr _ _ _ _).sz
        rw [g1]
        have := ih.sz
        omega
      · show (gwr _ _ _ _).sz ≤ M
        rw [g1]
        have h3 := ih.szb M h1 h2
        have h4 := h2 b hbX
        rw [hzl, hnb]
        rw [Nat.add_mul] at h4
        omega
end Go.Proofs.YtnccklbnncaeoaaGreat
/- New and Feed without fates. -/
namespace Go.Proofs.YtnccklbnncaeoaaGreat
open Go.RowKit

set_option maxRecDepth 100000 in
theorem index58_nil (f : Value) (w : World) : Calls Tryz.prog 138 #[.slice none 0 0, f] w fun e w' => e = .returned (.int .i64 (-1)) ∧ w = w' := by
  go_enter Tryz.func138, Tryz.ntmps138
  go_wp2
  go_loop [8] (fun i => i = .int .i64 0) (fun _ => 0)
  case atStart => rfl
  case round =>
    subst hrel
    go_wp2
    go_ret
    exact ⟨rfl, rfl⟩
set_option maxRecDepth 100000 in
theorem contains58_nil (f : Value) (w : World) : Calls Tryz.prog 92 #[.slice none 0 0, f] w fun e w' => e = .returned (.bool false) ∧ w = w' := by
  go_enter Tryz.func92, Tryz.ntmps92
  go_wp2_with (first | (go_at_call 138; refine (index58_nil _ _).mono ?_; rintro e w' ⟨rfl, rfl⟩))
  go_ret
  exact ⟨rfl, rfl⟩
set_option maxRecDepth 100000 in
set_option maxHeartbeats 1000000 in
theorem feed_none (g fm steps : Nat) (w : World) (hs : St 158 w g #[.map (some fm), .slice none 0 0, .int .i64 steps]) : Calls Tryz.prog 42 #[.pointer (some ⟨g, 0, none⟩), .slice none 0 0] w fun e w' => e = .returned (.int .i64 0) ∧ St 158 w' g #[.map (some fm), .slice none 0 0, .int .i64 steps] ∧ Kp (fun i => i = g) w w' := by
  have c0 : w.cell? ⟨g, 0, none⟩ = some (.map (some fm)) := hs.cell 0
  have c1 : w.cell? ⟨g, 1, none⟩ = some (.slice none 0 0) := hs.cell 1
  have f1 := hs.frozen 1
  have HS : Hid (St 158 w g #[.map (some fm), .slice none 0 0, .int .i64 steps]) := hs
  clear hs
  go_enter Tryz.func42, Tryz.ntmps42
  go_wp2_with (first | (go_at_call 78; refine (none_live _ _ _ c0).mono ?_; rintro e w' ⟨rfl, rfl⟩) | (go_at_call 92; refine (contains58_nil _ _).mono ?_; rintro e w' ⟨rfl, rfl⟩))
  go_ret
  have h := HS.out.set 1 (.slice none 0 0)
  exact ⟨rfl, h, kp_setCell _ _ _ _ _ rfl⟩
theorem sr_new (D : Nat → Prop) {w : World} {g fm : Nat} (hs : St 158 w g #[.map (some fm), .slice none 0 0, .int .i64 0]) (hm : Mp Value.string w fm [] 0) (hne : g ≠ fm) (hd : ∀ i, D i → i < w.heap.size) (hn : ∀ i, D i → i ≠ g ∧ i ≠ fm) : Sr D w g fm (.slice none 0 0) 0 [] [] [] 0 := by
  refine ⟨hs, hm, rfl, (fun f hf => by cases hf), (fun f hf => by cases hf), .inl ⟨rfl, rfl⟩, ?_, fun i hi h => ?_, hd, by omega, by simp⟩
  · simp [ownS, ownF, Value.ownBlock, hne]
  · rcases mem_ownS.1 h with h | h | h | ⟨f, hf, _⟩
    · exact (hn i hi).1 h
    · exact (hn i hi).2 h
    · cases h
    · cases hf
set_option maxRecDepth 100000 in
set_option maxHeartbeats 1000000 in
theorem new_none (w : World) : Calls Tryz.prog 39 #[.slice none 0 0] w fun e w' => e = .returned (.tuple #[.pointer (some ⟨w.heap.size + 1, 0, none⟩), .int .i64 0]) ∧ Sr (fun i => i < w.heap.size) w' (w.heap.size + 1) w.heap.size (.slice none 0 0) 0 [] [] [] 0 ∧ Kp (fun _ => False) w w' := by
  have hmm := @run_makeMap Tryz.prog
  have st := St.new 158 (w.alloc (.map #[] 0)) #[.map (some w.heap.size), .slice none 0 0, .int .i64 0]
  have m1 : Mp Value.string ((w.alloc (.map #[] 0)).alloc (.cells #[.map (some w.heap.size), .slice none 0 0, .int .i64 0] 158)) w.heap.size [] 0 := kp_mp (F := fun _ => False) (Mp.new Value.string w) ((Kp.refl _ _).alloc _) (fun h => h)
  have k1 : Kp (fun _ => False) w ((w.alloc (.map #[] 0)).alloc (.cells #[.map (some w.heap.size), .slice none 0 0, .int .i64 0] 158)) := ((Kp.refl _ _).alloc _).alloc _
  rw [World.size_alloc] at st
  go_enter Tryz.func39, Tryz.ntmps39
  go_wp2_with fail
  have h : Hid (St 158 ((w.alloc (.map #[] 0)).alloc (.cells #[.map (some w.heap.size), .slice none 0 0, .int .i64 0] 158)) (w.heap.size + 1) #[.map (some w.heap.size), .slice none 0 0, .int .i64 0]) := st
  have HM : Hid (Mp Value.string ((w.alloc (.map #[] 0)).alloc (.cells #[.map (some w.heap.size), .slice none 0 0, .int .i64 0] 158)) w.heap.size [] 0) := m1
  have HK : Hid (Kp (fun _ => False) w ((w.alloc (.map #[] 0)).alloc (.cells #[.map (some w.heap.size), .slice none 0 0, .int .i64 0] 158))) := k1
  clear st m1 k1 hmm
  generalize (w.alloc (.map #[] 0)).alloc (.cells #[.map (some w.heap.size), .slice none 0 0, .int .i64 0] 158) = W at h HM HK ⊢
  refine (feed_none (w.heap.size + 1) w.heap.size 0 W h.out).mono ?_
  rintro e w2 ⟨rfl, st2, k2⟩
  go_wp2
  go_ret2
  have k02 : Kp (fun _ => False) w w2 := HK.out.trans k2 (fun i hi h => by omega)
  refine ⟨rfl, sr_new _ st2 (kp_mp HM.out k2 (by omega)) (by omega) (fun i hi => Nat.lt_of_lt_of_le hi k02.size) (fun i hi => ⟨by omega, by omega⟩), k02⟩
end Go.Proofs.YtnccklbnncaeoaaGreat
