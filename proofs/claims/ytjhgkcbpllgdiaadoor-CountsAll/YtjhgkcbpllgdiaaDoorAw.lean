/- CountsAll: a round of the range. -/
import Derived.Test.YtjhgkcbpllgdiaaDoorAx
namespace Go.Proofs.YtjhgkcbpllgdiaaDoor
open Go.RowKit Go.Shelf
attribute [local go_sem] Oper.semAt_some
set_option linter.unusedVariables false
def postB (S Sx : World → Prop) : Exit → Act → World → Prop
  | .normal, _, w => S w
  | .exit id, _, w => id = 6 ∧ Sx w
  | _, _, _ => False
theorem TI.next {X : World} {T21 T22 T23 T24 T25 M t p q : Nat} {s : Bool} {Y : World} {P Q : Int} {p1 q1 : Nat} (h : TI X T21 T22 T23 T24 T25 M t p q s Y) (eP : P = (p1 : Int)) (eQ : Q = (q1 : Int)) : TI X T21 T22 T23 T24 T25 M t p1 q1 s ((Y.setCell ⟨T23, 0, none⟩ (.int .i64 P)).setCell ⟨T24, 0, none⟩ (.int .i64 Q)) ∧ Kp (fun j => j = T23 ∨ j = T24) Y ((Y.setCell ⟨T23, 0, none⟩ (.int .i64 P)).setCell ⟨T24, 0, none⟩ (.int .i64 Q)) := by
  subst eP
  subst eQ
  have k1 := kp_setCell Y T23 0 (.int .i64 (p1 : Int)) (fun j => j = T23) rfl
  have k2 := kp_setCell (Y.setCell ⟨T23, 0, none⟩ (.int .i64 (p1 : Int))) T24 0 (.int .i64 (q1 : Int)) (fun j => j = T24) rfl
  have h1 := h.l3; have h2 := h.l4; have h3 := h.l5; have b1 := h.b1; have b2 := h.b2; have n1 := h.n1; have n2 := h.n2; have n3 := h.n3
  have a1 := (h.a.set 0 (.int .i64 (p1 : Int))).kp k2 (by omega)
  have d1 := (h.d.kp k1 (by omega)).set 0 (.int .i64 (q1 : Int))
  exact ⟨⟨kp_up (kp_up h.kp k1 (fun i e => by omega)) k2 (fun i e => by omega), (h.m.kp k1 (by omega)).kp k2 (by omega), (h.n.kp k1 (by omega)).kp k2 (by omega), by simpa using a1, by simpa using d1, (h.s.kp k1 (by omega)).kp k2 (by omega), h.l3, h.l4, h.l5, h.b1, h.b2, h.n1, h.n2, h.n3⟩, (k1.mono (fun i _ e => .inl e)).trans k2 (fun i _ e => .inr e)⟩
theorem TI.stop {X : World} {T21 T22 T23 T24 T25 M t p q : Nat} {s : Bool} {Y : World} (h : TI X T21 T22 T23 T24 T25 M t p q s Y) : TI X T21 T22 T23 T24 T25 M t p q true (Y.setCell ⟨T25, 0, none⟩ (.bool true)) := by
  have k1 := kp_setCell Y T25 0 (.bool true) (fun j => j = T25) rfl
  have h1 := h.l3; have h2 := h.l4; have h3 := h.l5; have b1 := h.b1; have b2 := h.b2; have n1 := h.n1; have n2 := h.n2; have n3 := h.n3
  have a1 := h.s.set 0 (.bool true)
  exact ⟨kp_up h.kp k1 (fun i e => by omega), h.m.kp k1 (by omega), h.n.kp k1 (by omega), h.a.kp k1 (by omega), h.d.kp k1 (by omega), by simpa using a1, h.l3, h.l4, h.l5, h.b1, h.b2, h.n1, h.n2, h.n3⟩
set_option maxRecDepth 100000 in
set_option maxHeartbeats 4000000 in
theorem body_wp (l' : Nat) (w X Y : World) (T2 T4 T5 T7 T21 T22 T23 T24 T25 : Nat) (vall : Value) (ao : Option Addr) (cap : Nat) (zs : List Int) (o : Nat) (lv : Int) (M t p q i : Nat) (f : Nat → Value)
    (hl : zs.length ≤ 600) (hz : Byt zs) (ho : o < 7) (hM : M = 8 * zs.length / 2 ^ o) (hb : Bs w X T2 T4 T5 T7 ao cap zs (o : Int) lv) (ti : TI X T21 T22 T23 T24 T25 M t p q false Y) (hp : p ≤ i) (hi : i < M) (hq : q ≤ 4800) (hgap : ∀ k, p ≤ k → k < i → ct zs (2 ^ o) k = 0) (hne : ct zs (2 ^ o) i ≠ 0) :
    cB.wpIn (Fence.wide.inRound l') 18 Tryd.prog (postB (fun Z => TI X T21 T22 T23 T24 T25 M t (i + 1) (q + 1) false Z ∧ Kp (fun j => j = T23 ∨ j = T24) Y Z) (fun Z => TI X T21 T22 T23 T24 T25 M t (i + 1) (q + 1) true Z ∧ Kp (fun j => j = T23 ∨ j = T24 ∨ j = T25) Y Z))
      { tmps := eB T2 T4 T5 T7 T21 T22 T23 T24 T25 vall i (ct zs (2 ^ o) i) f, defers := [] } Y := by
  have hMb : M ≤ 4800 := by rw [hM]; exact Nat.le_trans (Nat.div_le_self _ _) (by omega)
  have AT := hid (fun (Z : World) (h : Src .u8 Z ao zs) => rat_ct ao cap o i zs Z hl hz ho (by rw [← hM]; exact hi) h)
  have IN := hid (inner_wp l' w X Y T2 T4 T5 T7 T21 T22 T23 T24 T25 vall ao cap zs o lv M t p q i (ct zs (2 ^ o) i) f hl hz ho hM hb ti hp hi hgap)
  have BS := hid hb
  have hc0 : (ct zs (2 ^ o) i == 0) = false := beq_eq_false_iff_ne.2 hne
  clear hgap hb ti hM hne
  generalize ct zs (2 ^ o) i = C at *
  generalize 2 ^ o = W at *
  unfold cB
  gi_wp2_with fail
  refine wpIn_mono IN.out ?_
  intro e a' Z hh
  cases e with
  | exit id =>
    obtain ⟨rfl, ⟨f', rfl⟩, ti, kz⟩ := hh
    have TZ := hid ti
    have KZ := hid kz
    have BZ := hid (BS.out.same ti.kp)
    have c23 : Z.cell? ⟨T23, 0, none⟩ = some (.int .i64 (i : Int)) := ti.a.cell 0
    have f23 : Z.frozen? ⟨T23, 0, none⟩ = false := ti.a.frozen 0
    have c24 : Z.cell? ⟨T24, 0, none⟩ = some (.int .i64 (q : Int)) := ti.d.cell 0
    have c21 : Z.cell? ⟨T21, 0, none⟩ = some (.int .i64 (M : Int)) := ti.m.cell 0
    have c2 : Z.cell? ⟨T2, 0, none⟩ = some (.slice ao zs.length cap) := BZ.out.s2.cell 0
    have c5 : Z.cell? ⟨T5, 0, none⟩ = some (.int .i64 (o : Int)) := BZ.out.s5.cell 0
    have AX := hid (AT.out Z BZ.out.src)
    have d1 : decide ((M : Int) ≤ (i : Int)) = false := by simp; omega
    have d2 : decide (M ≤ i) = false := by simp; omega
    have N1 := hid ti.n1
    have nx := ti.next (p1 := i + 1) (q1 := q + 1) (P := (i : Int) + 1) (Q := (q : Int) + 1) (by omega) (by omega)
    have NX := hid nx
    have k1 := kp_setCell Z T23 0 (.int .i64 ((i : Int) + 1)) (fun j => j = T23) rfl
    have g24 : (Z.setCell ⟨T23, 0, none⟩ (.int .i64 ((i : Int) + 1))).cell? ⟨T24, 0, none⟩ = some (.int .i64 (q : Int)) := kp_cell k1 c24 (fun e => ti.n1 e.symm)
    have gf24 : (Z.setCell ⟨T23, 0, none⟩ (.int .i64 ((i : Int) + 1))).frozen? ⟨T24, 0, none⟩ = false := (ti.d.kp k1 (fun e => ti.n1 e.symm)).frozen 0
    have BX := BS.out.same nx.1.kp
    have h22 : ((Z.setCell ⟨T23, 0, none⟩ (.int .i64 ((i : Int) + 1))).setCell ⟨T24, 0, none⟩ (.int .i64 ((q : Int) + 1))).cell? ⟨T22, 0, none⟩ = some (.int .i64 (t : Int)) := nx.1.n.cell 0
    have h24 : ((Z.setCell ⟨T23, 0, none⟩ (.int .i64 ((i : Int) + 1))).setCell ⟨T24, 0, none⟩ (.int .i64 ((q : Int) + 1))).cell? ⟨T24, 0, none⟩ = some (.int .i64 ((q : Int) + 1)) := by have := nx.1.d.cell 0; simpa using this
    have h7 : ((Z.setCell ⟨T23, 0, none⟩ (.int .i64 ((i : Int) + 1))).setCell ⟨T24, 0, none⟩ (.int .i64 ((q : Int) + 1))).cell? ⟨T7, 0, none⟩ = some (.int .i64 lv) := BX.s7.cell 0
    have h25 : ((Z.setCell ⟨T23, 0, none⟩ (.int .i64 ((i : Int) + 1))).setCell ⟨T24, 0, none⟩ (.int .i64 ((q : Int) + 1))).cell? ⟨T25, 0, none⟩ = some (.bool false) := nx.1.s.cell 0
    have hf25 : ((Z.setCell ⟨T23, 0, none⟩ (.int .i64 ((i : Int) + 1))).setCell ⟨T24, 0, none⟩ (.int .i64 ((q : Int) + 1))).frozen? ⟨T25, 0, none⟩ = false := nx.1.s.frozen 0
    clear ti kz nx k1 BX
    unfold eB
    by_cases ht : t = 0
    · subst ht
      by_cases hq1 : (q : Int) + 1 = lv
      · have e1 : ((q : Int) + 1 == lv) = true := by simp [hq1]
        clear hq1
        gi_wp2_with fail
        refine ⟨trivial, ((callsIn_wide.2 AX.out).inRound l').mono ?_⟩
        rintro r wc ⟨rfl, rfl⟩
        gi_wp2_with fail
        exact ⟨rfl, NX.out.1.stop, ((KZ.out.mono (fun i _ e => .inl e)).trans NX.out.2 (fun i _ e => e.elim .inl (fun e => .inr (.inl e)))).trans (kp_setCell _ T25 0 _ (fun j => j = T23 ∨ j = T24 ∨ j = T25) (.inr (.inr rfl))) (fun _ _ x => x)⟩
      · have e1 : ((q : Int) + 1 == lv) = false := beq_eq_false_iff_ne.2 hq1
        clear hq1
        gi_wp2_with fail
        refine ⟨trivial, ((callsIn_wide.2 AX.out).inRound l').mono ?_⟩
        rintro r wc ⟨rfl, rfl⟩
        gi_wp2_with fail
        exact ⟨NX.out.1, (KZ.out.mono (fun i _ e => .inl e)).trans NX.out.2 (fun i _ e => e)⟩
    · have e1 : ((t : Int) == 0) = false := beq_eq_false_iff_ne.2 (by omega)
      have e2 : (t == 0) = false := beq_eq_false_iff_ne.2 ht
      clear ht
      gi_wp2_with fail
      refine ⟨trivial, ((callsIn_wide.2 AX.out).inRound l').mono ?_⟩
      rintro r wc ⟨rfl, rfl⟩
      gi_wp2_with fail
      exact ⟨NX.out.1, (KZ.out.mono (fun i _ e => .inl e)).trans NX.out.2 (fun i _ e => e)⟩
  | _ => exact hh.elim
end Go.Proofs.YtjhgkcbpllgdiaaDoor
