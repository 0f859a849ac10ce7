/- RegionsApart: the first loop. -/
import Derived.Test.YtopnfjgkgoeleaaZb
namespace Go.Proofs.Ytopnfjgkgoeleaa
open Go.RowKit
set_option linter.unusedVariables false
set_option linter.unusedSimpArgs false
/-- What the loop holds. -/
def LpI (w : World) (bo : Option Addr) (n cb : Nat) (nn st : Int) (T6 B T7 T8 : Nat) (a' : Act) (Z : World) : Prop :=
  ∃ (k : Nat) (ao : Option Addr) (c : Nat) (L : List Rn), k ≤ n ∧ (∃ f, a' = { tmps := eL bo n cb nn st T6 T7 T8 k f, defers := [] }) ∧ LI w T6 B T7 T8 ao c L (sumL L) Z ∧ L.length ≤ k
theorem eL_9 (bo : Option Addr) (n cb : Nat) (nn st : Int) (T6 T7 T8 k : Nat) (f : Nat → Value) : ({ tmps := eL bo n cb nn st T6 T7 T8 k f, defers := [] } : Act).tmps.getD 9 undef = .int .i64 (k : Int) := rfl
theorem lpI_of {w : World} {bo : Option Addr} {n cb : Nat} {nn st : Int} {T6 B T7 T8 : Nat} {a' : Act} {Z : World} {k : Nat} {ao : Option Addr} {c : Nat} {L : List Rn} (k0 : Nat) (hk0 : k = k0 + 1) (hk : k ≤ n) (ht : a'.tmps = eL bo n cb nn st T6 T7 T8 k (fun i => a'.tmps.getD i undef)) (hd : a'.defers = []) (h : LI w T6 B T7 T8 ao c L (sumL L) Z) (hl : L.length ≤ k) :
    LpI w bo n cb nn st T6 B T7 T8 a' Z ∧ n - (intOf (a'.tmps.getD 9 undef)).toNat < n - k0 := by
  obtain ⟨f, hf⟩ := act_of ht hd
  refine ⟨⟨k, ao, c, L, hk, ⟨f, hf⟩, h, hl⟩, ?_⟩
  rw [hf, eL_9]
  simp [intOf]
  omega
theorem sumL_ins (L : List Rn) (x : Rn) : sumL (ins L x) = sumL L + x.n := by
  rw [sumL_perm (ins_perm L x), sumL_cons]
  omega
set_option maxRecDepth 100000 in
set_option maxHeartbeats 8000000 in
theorem loop_wp (w X : World) (l : List Rn) (bo : Option Addr) (n cb : Nat) (nn st : Int) (T6 B T7 T8 : Nat) (A : Act) (ht : A.tmps = eL bo n cb nn st T6 T7 T8 0 (fun i => A.tmps.getD i undef)) (hd : A.defers = []) (hn : n = l.length) (hc : n ≤ cb) (hn2 : n ≤ 60) (hi6 : ∀ x ∈ l, x.i6) (hS : Srcr w bo l) (hli : LI w T6 B T7 T8 none 0 [] 0 X) :
    cL.wpIn Fence.wide 20 Try.prog (postN (fun a' Z => (∃ f', a' = { tmps := eA bo n cb nn st T6 T7 T8 f', defers := [] }) ∧ ∃ ao c L, LI w T6 B T7 T8 ao c L (sumL L) Z ∧ L.length ≤ 60)) A X := by
  obtain ⟨f, rfl⟩ := act_of ht hd
  have HS := hid hS
  have H6 := hid hi6
  have HN := hid hn
  have HL0 := hid hli
  clear hS hi6 hn ht hd hli
  refine wpIn_wide.2 ?_
  unfold cL eL
  generalize hQ : postN _ = QQ
  go_wp2_with fail
  refine wp_loop (LpI w bo n cb nn st T6 B T7 T8) (fun a' _ => n - (intOf (a'.tmps.getD 9 undef)).toNat) ⟨0, none, 0, [], Nat.zero_le _, ⟨f, rfl⟩, HL0.out, Nat.le_refl _⟩ ?_
  clear HL0
  rintro a' wr ⟨k, ao, c, L, hk, ⟨f', rfl⟩, hli, hlk⟩
  have hmu : n - (intOf (({ tmps := eL bo n cb nn st T6 T7 T8 k f', defers := [] } : Act).tmps.getD 9 undef)).toNat = n - k := by rw [eL_9]; simp [intOf]
  rw [hmu]
  clear hmu
  have HLI := hid hli
  have HLK := hid hlk
  clear hli hlk f
  unfold eL
  by_cases hlt : k < n
  · have hkl : k < l.length := by have := HN.out; omega
    obtain ⟨gb, off, rfl, hgb0, _, _, _⟩ := HS.out.at (i := k) hkl
    have HXC : Hid (∀ W, Below w.heap.size w W → W.cell? ⟨gb, off + k * 3, none⟩ = some (.int .i64 (l.getD k zRn).k) ∧ W.cell? ⟨gb, off + k * 3 + 1, none⟩ = some (.int .i64 (l.getD k zRn).a) ∧ W.cell? ⟨gb, off + k * 3 + 2, none⟩ = some (.int .i64 (l.getD k zRn).n)) := fun W hW => by
      obtain ⟨g2, o2, e2, _, y⟩ := (HS.out.below hW).at (i := k) hkl
      cases e2
      exact y
    have HX6 := hid (H6.out _ (gd_mem hkl))
    generalize l.getD k zRn = x at *
    have HRM := hid (fun W => rmay_any x W HX6.out)
    obtain ⟨x0, x1, x2⟩ := HXC.out _ HLI.out.bl
    have hki : (k : Int) < (n : Int) := by omega
    obtain ⟨xk, xa, xn⟩ := x
    cases hm : mayb ⟨xk, xa, xn⟩ with
    | false =>
      simp only [hm] at HRM
      go_wp2_with (first | (go_at_call 19; refine (HRM.out _).mono ?_; rintro e w1 ⟨rfl, b1⟩; have B1 := hid b1; clear b1 x0 x1 x2))
      exact lpI_of k rfl hlt (by kernel_rfl) rfl (HLI.out.same (Kp.of_below B1.out)) (by have := HLK.out; omega)
    | true =>
      have HMX : Hid (Mayr ⟨xk, xa, xn⟩) := (mayb_iff _).1 hm
      simp only [hm] at HRM
      have HGB : Hid (gb < w.heap.size) := hgb0
      clear hgb0
      have H11 : Hid (∀ (A : Act) (Y : World), A.tmps = eL (some ⟨gb, off, none⟩) n cb nn st T6 T7 T8 k (fun i => A.tmps.getD i undef) → A.defers = [] → LI w T6 B T7 T8 ao c L (sumL L) Y → c11.wp Try.prog (postN (fun a' Z => (∃ f', a' = { tmps := e11 (some ⟨gb, off, none⟩) n cb nn st T6 T7 T8 k (!okp L ⟨xk, xa, xn⟩) f', defers := [] }) ∧ LI w T6 B T7 T8 ao c L (sumL L) Z)) A Y) := fun A Y ht hd hY => by
        obtain ⟨f, rfl⟩ := act_of ht hd
        obtain ⟨y0, y1, y2⟩ := HXC.out _ hY.bl
        exact wp_mono (wpIn_wide.1 (c11_wp Y n cb nn st T6 T7 T8 B k gb off ao c L ⟨xk, xa, xn⟩ f hlt hn2 hY.s7 hY.rg (by have := HLK.out; omega) HMX.out (by have := HGB.out; have := hY.bl.size; omega) y1 y2)) (fun e a w' h => by
          cases e with
          | normal => exact ⟨h.1, hY.same (Kp.of_below h.2)⟩
          | _ => exact h.elim)
      have H12 : Hid (∀ (f : Nat → Value) (Y : World) (ob : Bool), LI w T6 B T7 T8 ao c L (sumL L) Y → c12.wp Try.prog (postN (fun a' Z => (∃ f', a' = { tmps := e12 (some ⟨gb, off, none⟩) n cb nn st T6 T7 T8 k ob ((puN L [⟨xk, xa, xn⟩] : Nat) : Int) (puE L [⟨xk, xa, xn⟩]) f', defers := [] }) ∧ ∃ ao' c', LI w T6 B T7 T8 ao' c' (puL L [⟨xk, xa, xn⟩]) (sumL L) Z)) { tmps := e11 (some ⟨gb, off, none⟩) n cb nn st T6 T7 T8 k ob f, defers := [] } Y) := fun f Y ob hY => by
        obtain ⟨y0, y1, y2⟩ := HXC.out _ hY.bl
        have hlo := hY.lo
        have hgb := HGB.out
        have hnr : ∀ i, i ≤ T8 → i ≠ B → ¬ (i = B ∨ Rmb ao L.length c i) := fun i hi hb x => x.elim hb (fun ⟨_, off, e⟩ => by have := hY.ha i off e; omega)
        exact wp_mono (wpIn_wide.1 (c12_wp Y n cb nn st T6 T7 T8 B k gb off ob ao c L ⟨xk, xa, xn⟩ f hlt hn2 hY.s7 hY.rg HX6.out (by have := hY.bl.size; omega) y0 y1 y2 (hnr _ hY.le.2.2 (Ne.symm hY.ne.2.1)) (hnr _ (by omega) (by omega)))) (fun e a w' h => by
          cases e with
          | normal => exact ⟨h.1, hY.chg h.2⟩
          | _ => exact h.elim)
      go_wp2_with (first | (go_at_call 19; refine (HRM.out _).mono ?_; rintro e w1 ⟨rfl, b1⟩; have L1 := hid (HLI.out.same (Kp.of_below b1)); clear b1 x0 x1 x2))
      refine wp_mono (H11.out _ w1 ?h1 rfl L1.out) ?_
      case h1 => kernel_rfl
      intro e a1 w2 hh
      cases e with
      | normal =>
        obtain ⟨⟨f1, rfl⟩, l2⟩ := hh
        have L2 := hid l2
        clear l2 L1 H11 HRM
        go_wp2_with fail
        refine wp_mono (H12.out f1 w2 _ L2.out) ?_
        intro e a2 w3 hh
        cases e with
        | normal =>
          obtain ⟨⟨f2, rfl⟩, ao', c', l3⟩ := hh
          have L3 := hid l3
          clear l3 L2 H12
          unfold e12
          cases hok : okp L ⟨xk, xa, xn⟩ with
          | true =>
            obtain ⟨e1, e2, e3, _, _⟩ := pu1_yes hok
            rw [e3] at L3
            rw [e1, e2]
            have HLEN : Hid ((ins L ⟨xk, xa, xn⟩).length = L.length + 1) := ins_len _ _
            have HSB := hid (sumL_bd L3.out.rg.srt)
            rw [sumL_ins] at HSB
            have HSB2 : Hid (0 ≤ sumL L ∧ sumL L ≤ 72057594037927936) := by
              have := HMX.out
              unfold Mayr at this
              have h2 := HSB.out
              have h3 := sumL_bd HLI.out.rg.srt
              exact h3
            have HSI : Hid (sumL (ins L ⟨xk, xa, xn⟩) = sumL L + xn) := sumL_ins _ _
            have H16 : Hid (∀ (A : Act), A.tmps = e12 (some ⟨gb, off, none⟩) n cb nn st T6 T7 T8 k false 1 0 (fun i => A.tmps.getD i undef) → A.defers = [] → c16.wp Try.prog (postN (fun a' Z => (∃ f', a' = { tmps := e12 (some ⟨gb, off, none⟩) n cb nn st T6 T7 T8 k false 1 0 f', defers := [] }) ∧ LI w T6 B T7 T8 ao' c' (ins L ⟨xk, xa, xn⟩) (sumL (ins L ⟨xk, xa, xn⟩)) Z)) A w3) := fun A ht hd => by
              obtain ⟨f, rfl⟩ := act_of ht hd
              obtain ⟨y0, y1, y2⟩ := HXC.out _ L3.out.bl
              exact wp_mono (wpIn_wide.1 (c16_wp w3 n cb nn st T6 T7 T8 k gb off false 1 0 (sumL L) ⟨xk, xa, xn⟩ f hlt hn2 L3.out.s8 HSB2.out HMX.out y2)) (fun e a w' h => by
                cases e with
                | normal => exact ⟨h.1, by rw [HSI.out]; exact L3.out.set8 h.2.1 h.2.2⟩
                | _ => exact h.elim)
            clear hok e1 e2 e3 HSB
            go_wp2_with (first | (go_at_call 22; refine (num_any _ _).mono ?_; rintro e w9 ⟨rfl, rfl⟩))
            refine wp_mono (H16.out _ ?h2 rfl) ?_
            case h2 => kernel_rfl
            intro e a3 w4 hh
            cases e with
            | normal =>
              obtain ⟨⟨f3, rfl⟩, l4⟩ := hh
              have L4 := hid l4
              clear l4
              unfold e12
              go_wp2_with fail
              exact lpI_of k rfl hlt (by kernel_rfl) rfl L4.out (by have := HLK.out; have := HLEN.out; omega)
            | _ => exact hh.elim
          | false =>
            obtain ⟨e1, e2, e3⟩ := pu1_no hok
            rw [e3] at L3
            rw [e1]
            generalize puE L [⟨xk, xa, xn⟩] = pe at e2 ⊢
            have hpe : decide (pe = 0) = false := by simpa using e2
            clear hok e1 e3
            go_wp2_with (first | (go_at_call 22; refine (num_any _ _).mono ?_; rintro e w9 ⟨rfl, rfl⟩))
            exact lpI_of k rfl hlt (by kernel_rfl) rfl L3.out (by have := HLK.out; omega)
        | _ => exact hh.elim
      | _ => exact hh.elim
  · have hki : ¬ (k : Int) < (n : Int) := by omega
    go_wp2_with fail
    subst hQ
    exact ⟨act_of (by kernel_rfl) rfl, ao, c, L, HLI.out, by have := HLK.out; omega⟩
end Go.Proofs.Ytopnfjgkgoeleaa
