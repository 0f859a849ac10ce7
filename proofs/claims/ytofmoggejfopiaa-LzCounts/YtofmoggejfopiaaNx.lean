/- Contract of the trail's next. -/
import Derived.Test.YtofmoggejfopiaaBase
import Derived.Deep.RegionHeld3
namespace Go.Proofs.Ytofmoggejfopiaa
open Go.RowKit

/-- The number that a cell holds. -/
def cellNat (w : World) (a : Addr) : Nat := match w.cell? a with
  | some v => (intOf v).toNat
  | none => 0
theorem cellNat_of {w : World} {a : Addr} {k : Nat} (h : w.cell? a = some (.int .i64 (k : Int))) : cellNat w a = k := by
  unfold cellNat; rw [h]; simp [intOf]
/-- The cells of a trail. -/
def trc (bs bv : Value) (p f s r : Nat) : Array Value := #[bs, bv, .int .i64 (p : Int), .int .i64 (f : Int), .int .i64 (s : Int), .int .i64 (r : Int)]
theorem LkV.le {w : World} {N : Nat} {bv : Value} {L : Nat → Nat} (h : LkV w N bv L) {q : Nat} (hq : q + 3 ≤ N) : L q ≤ 32768 := by
  rcases h with ⟨_, h⟩ | ⟨_, _, _, h⟩
  · rw [h]; omega
  · exact (h q hq).2
/-- What next leaves. -/
def NxP (b : Nat → Int) (L : Nat → Nat) (w : World) (g : Nat) (bs bv : Value) (p n r : Nat) (e : Ending) (w' : World) : Prop :=
  ∃ f' s' r' : Nat, St 89 w' g (trc bs bv p f' s' r') ∧ Kp (fun i => i = g) w w' ∧ ((e = .returned (.bool true) ∧ r < r' ∧ r' ≤ min p 32768 ∧ Sk b p n r r' ∧ Tr b p L n f' s' r') ∨ (e = .returned (.bool false) ∧ No b p n r))
set_option maxRecDepth 100000 in
set_option maxHeartbeats 2000000 in
theorem next_any (b : Nat → Int) (L : Nat → Nat) (g p n f s r N m c : Nat) (ao : Option Addr) (bv : Value) (w : World) (hN : N ≤ 1000000000) (hL : Lk b N L) (hv : LkV w N bv L) (hg : ∀ B, bv.ownBlock = some B → B ≠ g)
    (hs : St 89 w g (trc (.slice ao m c) bv p f s r)) (ht : Tr b p L n f s r) (hr : r ≤ p) (hn : p + n + 1 ≤ N) :
    Calls Try.prog 48 #[.pointer (some ⟨g, 0, none⟩), .int .i64 (n : Int)] w fun e w' => NxP b L w g (.slice ao m c) bv p n r e w' := by
  have c0 : w.cell? ⟨g, 0, none⟩ = some (.slice ao m c) := hs.cell 0
  have c1 : w.cell? ⟨g, 1, none⟩ = some bv := hs.cell 1
  have c2 : w.cell? ⟨g, 2, none⟩ = some (.int .i64 (p : Int)) := hs.cell 2
  have c3 : w.cell? ⟨g, 3, none⟩ = some (.int .i64 (f : Int)) := hs.cell 3
  have c5 : w.cell? ⟨g, 5, none⟩ = some (.int .i64 (r : Int)) := hs.cell 5
  have hf := ht.1
  have hs1 := ht.2.1
  obtain ⟨pf, hpf⟩ : ∃ x, x = p + f := ⟨_, rfl⟩
  obtain ⟨q, hq⟩ : ∃ x, x = pf - r := ⟨_, rfl⟩
  have a1 : IntKind.i64.wrap ((p : Int) + (f : Int)) = (pf : Int) := by rw [IntKind.wrap_i64]; omega
  have a2 : IntKind.i64.wrap ((pf : Int) - (r : Int)) = (q : Int) := by rw [IntKind.wrap_i64]; omega
  have hq3 : q + 3 ≤ N := by omega
  have hq2 : q = p + f - r := by omega
  have hLq := hv.le hq3
  have HT : Hid (Tr b p L n f s r) := ht
  have HS : Hid (St 89 w g (trc (.slice ao m c) bv p f s r)) := hs
  have HQ : Hid (q = p + f - r) := hq2
  have HV : Hid (LkV w N bv L) := hv
  have hlt := hs.lt
  clear hs ht hq2 hpf hq hv
  go_enter Try.func48, Try.ntmps48
  go_wp2_with fail
  go_region_held3 (fun w' => w'.cell? ⟨g, 0, none⟩ = some (.slice ao m c) ∧ w'.cell? ⟨g, 1, none⟩ = some bv ∧ w'.cell? ⟨g, 2, none⟩ = some (.int .i64 (p : Int)) ∧ w'.cell? ⟨g, 3, none⟩ = some (.int .i64 (f : Int)) ∧ w'.cell? ⟨g, 5, none⟩ = some (.int .i64 (r : Int))) (first | (exact ⟨c0, c1, c2, c3, c5⟩) | (exact ⟨d0, d1, d2, d3, d5⟩)) (first | (go_at_call 51; refine (link_any ao m c N bv L q _ hN (HV.out.kp (drewN_kp (fun _ => False) w 1) (fun _ _ x => x)) hq3).mono ?_; rintro e w1 ⟨rfl, b1⟩; have d0 := (b1.cell (p := ⟨g, 0, none⟩) hlt).trans c0; have d1 := (b1.cell (p := ⟨g, 1, none⟩) hlt).trans c1; have d2 := (b1.cell (p := ⟨g, 2, none⟩) hlt).trans c2; have d3 := (b1.cell (p := ⟨g, 3, none⟩) hlt).trans c3; have d5 := (b1.cell (p := ⟨g, 5, none⟩) hlt).trans c5))
  have b0 : Below w.heap.size w w1 := ⟨b1.os, b1.tape, b1.output, b1.size, b1.block⟩
  have HV1 : Hid (LkV w1 N bv L) := HV.out.below b0
  have HS1 : Hid (St 89 w1 g (trc (.slice ao m c) bv p f s r)) := HS.out.below b0 hlt
  have K1 : Hid (Kp (fun i => i = g) w w1) := Kp.of_below b0
  have hlt1 : g < w1.heap.size := HS1.out.lt
  have HF : Hid (∀ i, w1.frozen? ⟨g, i, none⟩ = false) := HS1.out.frozen
  clear b1 b0 c0 c1 c2 c3 c5 HS HV hlt d0 d1 d3 d2
  obtain ⟨x, hx⟩ : ∃ x, x = L q := ⟨_, rfl⟩
  rw [← hx] at hLq ⊢
  have HX : Hid (x = L (p + f - r)) := by show x = _; rw [hx, HQ.out]
  clear hx HQ
  by_cases hz : x = 0
  · subst hz
    go_wp2
    go_ret
    exact ⟨f, s, r, HS1.out, K1.out, .inr ⟨rfl, step_no hL HT.out hn HX.out.symm⟩⟩
  · have hx1 : ((x : Int) == 0) = false := beq_eq_false_iff_ne.2 (by omega)
    obtain ⟨r1, hr1⟩ : ∃ y, y = r + x := ⟨_, rfl⟩
    have a3 : IntKind.i64.wrap ((r : Int) + (x : Int)) = (r1 : Int) := by rw [IntKind.wrap_i64]; omega
    have HP := step_sk hL HT.out hn (by rw [← HX.out]; exact hz)
    rw [← HX.out, ← hr1] at HP
    have HP1 : Hid (Tr b p L n f s r1 ∧ Sk b p n r r1) := HP
    have hrr : r < r1 := by omega
    have hrb : r1 ≤ p + 32768 := by omega
    have hf5 := HF.out 5
    clear HP hr1
    go_wp2_with fail
    have K2 : Hid (Kp (fun i => i = g) w (w1.setCell ⟨g, 5, none⟩ (.int .i64 (r1 : Int)))) := K1.out.trans (kp_setCell _ _ _ _ (fun i => i = g) rfl) (fun _ _ e => e)
    have HS2 : Hid (St 89 (w1.setCell ⟨g, 5, none⟩ (.int .i64 (r1 : Int))) g (trc (.slice ao m c) bv p f s r1)) := by
      show St _ _ _ _
      have := HS1.out.set 5 (.int .i64 (r1 : Int))
      simpa [trc] using this
    have HV2 : Hid (LkV (w1.setCell ⟨g, 5, none⟩ (.int .i64 (r1 : Int))) N bv L) := HV1.out.kp (kp_setCell _ _ _ _ (fun i => i = g) rfl) hg
    go_loopw [6] (fun _ wr => ∃ f s r1 : Nat, St 89 wr g (trc (.slice ao m c) bv p f s r1) ∧ Kp (fun i => i = g) w wr ∧ LkV wr N bv L ∧ Tr b p L n f s r1 ∧ Sk b p n r r1 ∧ r < r1 ∧ r1 ≤ p + 32768) (fun _ wr => n - cellNat wr ⟨g, 4, none⟩)
    case atStart => exact ⟨f, s, r1, HS2.out, K2.out, HV2.out, HP1.out.1, HP1.out.2, hrr, hrb⟩
    case round =>
      clear K2 HS2 HV2 HP1 hrr hrb a3 hx1 HX hLq HF K1 HS1 HV1 d5 hf5 hlt1 a1 a2 hq3 hf hs1 HT
      obtain ⟨f, s, r1, hst, hk, hv, ht, hsk, hrr, hrb⟩ := hrel
      have c0 : wr.cell? ⟨g, 0, none⟩ = some (.slice ao m c) := hst.cell 0
      have c1 : wr.cell? ⟨g, 1, none⟩ = some bv := hst.cell 1
      have c2 : wr.cell? ⟨g, 2, none⟩ = some (.int .i64 (p : Int)) := hst.cell 2
      have c4 : wr.cell? ⟨g, 4, none⟩ = some (.int .i64 (s : Int)) := hst.cell 4
      have c5 : wr.cell? ⟨g, 5, none⟩ = some (.int .i64 (r1 : Int)) := hst.cell 5
      have hmeas := cellNat_of c4
      have hs1 := ht.2.1
      have hlt := hst.lt
      have HT : Hid (Tr b p L n f s r1) := ht
      have HS : Hid (St 89 wr g (trc (.slice ao m c) bv p f s r1)) := hst
      have HK : Hid (Kp (fun i => i = g) w wr) := hk
      have HV : Hid (LkV wr N bv L) := hv
      have HSK : Hid (Sk b p n r r1) := hsk
      have HM : Hid (cellNat wr ⟨g, 4, none⟩ = s) := hmeas
      have hn1 : IntKind.i64.wrap ((n : Int) - 1) = (n : Int) - 1 := by rw [IntKind.wrap_i64]; omega
      clear ht hst hk hv hsk hmeas
      by_cases hlt2 : s + 1 < n
      · have hlt3 : (s : Int) < (n : Int) - 1 := by omega
        obtain ⟨q, hq⟩ : ∃ x, x = p + s := ⟨_, rfl⟩
        have a1 : IntKind.i64.wrap ((p : Int) + (s : Int)) = (q : Int) := by rw [IntKind.wrap_i64]; omega
        have hq3 : q + 3 ≤ N := by omega
        have hLq := HV.out.le hq3
        have HQ : Hid (q = p + s) := hq
        clear hq
        go_wp2_with fail
        go_region_held3 (fun w' => w'.cell? ⟨g, 0, none⟩ = some (.slice ao m c) ∧ w'.cell? ⟨g, 1, none⟩ = some bv ∧ w'.cell? ⟨g, 2, none⟩ = some (.int .i64 (p : Int)) ∧ w'.cell? ⟨g, 4, none⟩ = some (.int .i64 (s : Int))) (first | (exact ⟨c0, c1, c2, c4⟩) | (exact ⟨d0, d1, d2, d4⟩)) (first | (go_at_call 51; refine (link_any ao m c N bv L q _ hN (HV.out.kp (drewN_kp (fun _ => False) wr 1) (fun _ _ x => x)) hq3).mono ?_; rintro e w1 ⟨rfl, b1⟩; have d0 := (b1.cell (p := ⟨g, 0, none⟩) hlt).trans c0; have d1 := (b1.cell (p := ⟨g, 1, none⟩) hlt).trans c1; have d2 := (b1.cell (p := ⟨g, 2, none⟩) hlt).trans c2; have d4 := (b1.cell (p := ⟨g, 4, none⟩) hlt).trans c4; have d5 := (b1.cell (p := ⟨g, 5, none⟩) hlt).trans c5))
        have b0 : Below wr.heap.size wr w1 := ⟨b1.os, b1.tape, b1.output, b1.size, b1.block⟩
        have HV1 : Hid (LkV w1 N bv L) := HV.out.below b0
        have HS1 : Hid (St 89 w1 g (trc (.slice ao m c) bv p f s r1)) := HS.out.below b0 hlt
        have K1 : Hid (Kp (fun i => i = g) w w1) := HK.out.trans (Kp.of_below b0) (fun _ _ e => e)
        have hlt1 : g < w1.heap.size := HS1.out.lt
        have HF : Hid (∀ i, w1.frozen? ⟨g, i, none⟩ = false) := HS1.out.frozen
        clear b1 b0 c0 c1 c2 c4 c5 HS HV hlt d0 d1 d2 HK
        obtain ⟨x, hx⟩ : ∃ x, x = L q := ⟨_, rfl⟩
        rw [← hx] at hLq ⊢
        have HX : Hid (x = L (p + s)) := by show x = _; rw [hx, HQ.out]
        have hf2 := HF.out 2
        have hf3 := HF.out 3
        have hf4 := HF.out 4
        have hf5 := HF.out 5
        have a4 : IntKind.i64.wrap ((s : Int) + 1) = ((s + 1 : Nat) : Int) := by rw [IntKind.wrap_i64]; omega
        have d3 : w1.cell? ⟨g, 3, none⟩ = some (.int .i64 (f : Int)) := HS1.out.cell 3
        clear hx HQ
        by_cases hz : x = 0
        · subst hz
          go_wp2
          go_ret
          exact ⟨f, s, r1, HS1.out, K1.out, .inr ⟨rfl, look_no hL hlt2 hn HX.out.symm⟩⟩
        · have hx1 : ((x : Int) == 0) = false := beq_eq_false_iff_ne.2 (by omega)
          by_cases hfar : r1 < x
          · have hP := look_far hL hlt2 hn hrr (by rw [← HX.out]; exact hfar)
            rw [← HX.out] at hP
            have HP : Hid (Tr b p L n s (s + 1) x ∧ Sk b p n r x) := hP
            clear hP
            go_wp2
            have hS : St 89 (((w1.setCell ⟨g, 3, none⟩ (.int .i64 (s : Int))).setCell ⟨g, 5, none⟩ (.int .i64 (x : Int))).setCell ⟨g, 4, none⟩ (.int .i64 ((s : Int) + 1))) g (trc (.slice ao m c) bv p s (s + 1) x) := by
              have := ((HS1.out.set 3 (.int .i64 (s : Int))).set 5 (.int .i64 (x : Int))).set 4 (.int .i64 ((s : Int) + 1))
              simpa [trc] using this
            have hK : Kp (fun i => i = g) w1 (((w1.setCell ⟨g, 3, none⟩ (.int .i64 (s : Int))).setCell ⟨g, 5, none⟩ (.int .i64 (x : Int))).setCell ⟨g, 4, none⟩ (.int .i64 ((s : Int) + 1))) :=
              ((kp_setCell _ _ _ _ (fun i => i = g) rfl).trans (kp_setCell _ _ _ _ (fun i => i = g) rfl) (fun _ _ e => e)).trans (kp_setCell _ _ _ _ (fun i => i = g) rfl) (fun _ _ e => e)
            refine ⟨⟨s, s + 1, x, hS, K1.out.trans hK (fun _ _ e => e), HV1.out.kp hK hg, HP.out.1, HP.out.2, by omega, by omega⟩, ?_⟩
            rw [cellNat_of (hS.cell 4), HM.out]
            omega
          · have HP : Hid (Tr b p L n f (s + 1) r1) := look_on HT.out hlt2
            have hfar' : (x : Int) ≤ (r1 : Int) := by omega
            go_wp2
            have hS : St 89 (w1.setCell ⟨g, 4, none⟩ (.int .i64 ((s : Int) + 1))) g (trc (.slice ao m c) bv p f (s + 1) r1) := by
              have := HS1.out.set 4 (.int .i64 ((s : Int) + 1))
              simpa [trc] using this
            have hK : Kp (fun i => i = g) w1 (w1.setCell ⟨g, 4, none⟩ (.int .i64 ((s : Int) + 1))) := kp_setCell _ _ _ _ (fun i => i = g) rfl
            refine ⟨⟨f, s + 1, r1, hS, K1.out.trans hK (fun _ _ e => e), HV1.out.kp hK hg, HP.out, HSK.out, hrr, hrb⟩, ?_⟩
            rw [cellNat_of (hS.cell 4), HM.out]
            omega
      · have hlt3 : (n : Int) - 1 ≤ (s : Int) := by omega
        by_cases hpw : (p : Int) ≤ 32768
        · go_wp2_with fail
          go_region_held3 (fun w' => w'.cell? ⟨g, 2, none⟩ = some (.int .i64 (p : Int)) ∧ w'.cell? ⟨g, 5, none⟩ = some (.int .i64 (r1 : Int))) (first | (exact ⟨c2, c5⟩)) (fail)
          go_wp2
          go_ret
          by_cases hfin : r1 ≤ min p 32768
          · exact ⟨f, s, r1, HS.out, HK.out.drew, .inl ⟨ret_bool (by simp; omega), hrr, hfin, HSK.out, HT.out⟩⟩
          · exact ⟨f, s, r1, HS.out, HK.out.drew, .inr ⟨ret_bool (by simp; omega), no_of_sk HSK.out hfin⟩⟩
        · go_wp2_with fail
          go_region_held3 (fun w' => w'.cell? ⟨g, 2, none⟩ = some (.int .i64 (p : Int)) ∧ w'.cell? ⟨g, 5, none⟩ = some (.int .i64 (r1 : Int))) (first | (exact ⟨c2, c5⟩)) (fail)
          go_wp2
          go_ret
          by_cases hfin : r1 ≤ min p 32768
          · exact ⟨f, s, r1, HS.out, HK.out.drew, .inl ⟨ret_bool (by simp; omega), hrr, hfin, HSK.out, HT.out⟩⟩
          · exact ⟨f, s, r1, HS.out, HK.out.drew, .inr ⟨ret_bool (by simp; omega), no_of_sk HSK.out hfin⟩⟩
end Go.Proofs.Ytofmoggejfopiaa
