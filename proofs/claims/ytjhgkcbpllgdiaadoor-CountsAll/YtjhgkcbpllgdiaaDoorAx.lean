/- CountsAll: the loop inside a round of the range. -/
import Derived.Test.YtjhgkcbpllgdiaaDoorAy
namespace Go.Proofs.YtjhgkcbpllgdiaaDoor
open Go.RowKit Go.Shelf
attribute [local go_sem] Oper.semAt_some
set_option linter.unusedVariables false
def postE (j : Nat) (S : Act → World → Prop) : Exit → Act → World → Prop
  | .exit id, a, w => id = j ∧ S a w
  | _, _, _ => False
set_option maxRecDepth 100000 in
set_option maxHeartbeats 4000000 in
theorem inner_wp (l' : Nat) (w X Y : World) (T2 T4 T5 T7 T21 T22 T23 T24 T25 : Nat) (vall : Value) (ao : Option Addr) (cap : Nat) (zs : List Int) (o : Nat) (lv : Int) (M t p q i : Nat) (x : Int) (f : Nat → Value)
    (hl : zs.length ≤ 600) (hz : Byt zs) (ho : o < 7) (hM : M = 8 * zs.length / 2 ^ o) (hb : Bs w X T2 T4 T5 T7 ao cap zs (o : Int) lv) (ti : TI X T21 T22 T23 T24 T25 M t p q false Y) (hp : p ≤ i) (hi : i < M) (hgap : ∀ k, p ≤ k → k < i → ct zs (2 ^ o) k = 0) :
    cI.wpIn (Fence.wide.inRound l') 18 Tryd.prog (postE 8 (fun a' Z => (∃ f', a' = { tmps := eB T2 T4 T5 T7 T21 T22 T23 T24 T25 vall i x f', defers := [] }) ∧ TI X T21 T22 T23 T24 T25 M t i q false Z ∧ Kp (fun j => j = T23) Y Z))
      { tmps := eB T2 T4 T5 T7 T21 T22 T23 T24 T25 vall i x f, defers := [] } Y := by
  have hMb : M ≤ 4800 := by rw [hM]; exact Nat.le_trans (Nat.div_le_self _ _) (by omega)
  have AT := hid (fun (k : Nat) (hk : k < M) (Z : World) (h : Src .u8 Z ao zs) => rat_ct ao cap o k zs Z hl hz ho (by rw [← hM]; exact hk) h)
  have GP := hid hgap
  have BS := hid hb
  have TY := hid ti
  have L3 : Hid (X.heap.size ≤ T23) := ti.l3
  clear hgap hb ti hM
  generalize 2 ^ o = W at *
  unfold cI eB
  generalize hQ : postE 8 _ = QQ
  gi_wp2_with fail
  gi_loopw [147] (fun _ wr => ∃ k : Nat, p ≤ k ∧ k ≤ i ∧ St 3 wr T23 #[.int .i64 (k : Int)] ∧ Kp (fun j => j = T23) Y wr) (fun _ wr => i - cvn wr T23)
  case atStart => exact ⟨p, Nat.le_refl _, hp, TY.out.a, Kp.refl _ _⟩
  case round =>
    obtain ⟨k, hk1, hk2, hA, kx⟩ := hrel
    have TK := hid (TY.out.setA kx hA)
    have BK := hid (BS.out.same TK.out.kp)
    have HA := hid hA
    have KX := hid kx
    have c23 : wr.cell? ⟨T23, 0, none⟩ = some (.int .i64 (k : Int)) := hA.cell 0
    have f23 : wr.frozen? ⟨T23, 0, none⟩ = false := hA.frozen 0
    have l23 : T23 < wr.heap.size := hA.lt
    have c21 : wr.cell? ⟨T21, 0, none⟩ = some (.int .i64 (M : Int)) := TK.out.m.cell 0
    have c2 : wr.cell? ⟨T2, 0, none⟩ = some (.slice ao zs.length cap) := BK.out.s2.cell 0
    have c5 : wr.cell? ⟨T5, 0, none⟩ = some (.int .i64 (o : Int)) := BK.out.s5.cell 0
    clear hA kx
    by_cases hlt : k < i
    · have d1 : (k : Int) < (i : Int) := by omega
      have d2 : (k : Int) < (M : Int) := by omega
      have e1 : decide (k < i) = true := by simpa using hlt
      have e2 : decide (k < M) = true := by simp; omega
      have AX := hid (AT.out k (by omega) wr BK.out.src)
      rw [GP.out k hk1 hlt] at AX
      gi_wp2_with fail
      refine ⟨trivial, ((callsIn_wide.2 AX.out).inRound l').mono ?_⟩
      rintro r wc ⟨rfl, rfl⟩
      gi_wp2_with fail
      have SA1 : St 3 (wr.setCell ⟨T23, 0, none⟩ (.int .i64 ((k : Int) + 1))) T23 #[.int .i64 ((k + 1 : Nat) : Int)] := by
        have h := HA.out.set 0 (.int .i64 ((k : Int) + 1))
        simpa using h
      refine ⟨⟨k + 1, by omega, hlt, SA1, KX.out.trans (kp_setCell wr T23 0 _ (fun j => j = T23) rfl) (fun _ _ x => x)⟩, ?_⟩
      rw [cvn_of SA1, cvn_of HA.out]
      omega
    · obtain rfl : k = i := by omega
      have d1 : ¬ (k : Int) < (k : Int) := by omega
      have e1 : decide (k < k) = false := by simp
      clear hlt
      gi_wp2_with fail
      refine ⟨trivial, ?_⟩
      gi_wp2_with fail
      subst hQ
      exact ⟨rfl, act_of (by kernel_rfl) rfl, TK.out, KX.out⟩
end Go.Proofs.YtjhgkcbpllgdiaaDoor
