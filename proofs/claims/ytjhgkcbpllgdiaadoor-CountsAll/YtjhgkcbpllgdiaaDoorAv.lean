/- CountsAll: the loop behind the range. -/
import Derived.Test.YtjhgkcbpllgdiaaDoorAw
namespace Go.Proofs.YtjhgkcbpllgdiaaDoor
open Go.RowKit Go.Shelf
attribute [local go_sem] Oper.semAt_some
set_option linter.unusedVariables false
/-- An order that may be, where there are counts. -/
def Oo (o : Int) (zs : List Int) (W M : Nat) : Prop := 0 < M → ∃ k : Nat, o = (k : Int) ∧ k < 7 ∧ W = 2 ^ k ∧ M = 8 * zs.length / 2 ^ k
theorem Oo.at {o : Int} {zs : List Int} {W M : Nat} (h : Oo o zs W M) (ao : Option Addr) (cap k : Nat) (X : World) (hl : zs.length ≤ 600) (hz : Byt zs) (hk : k < M) (hs : Src .u8 X ao zs) : Calls Tryd.prog 15 #[.slice ao zs.length cap, .int .i64 o, .int .i64 (k : Int)] X fun e w' => e = .returned (.int .u64 (ct zs W k)) ∧ X = w' := by
  obtain ⟨j, rfl, h7, rfl, rfl⟩ := h (by omega)
  exact rat_ct ao cap j k zs X hl hz h7 hk hs
theorem Oo.le {o : Int} {zs : List Int} {W M : Nat} (h : Oo o zs W M) (hl : zs.length ≤ 600) : M ≤ 4800 := by
  by_cases h0 : 0 < M
  · obtain ⟨j, _, _, _, e⟩ := h h0
    rw [e]
    exact Nat.le_trans (Nat.div_le_self _ _) (by omega)
  · omega
set_option maxRecDepth 100000 in
set_option maxHeartbeats 4000000 in
theorem trail_wp (w X Y : World) (T2 T4 T5 T7 T21 T22 T23 T24 T25 : Nat) (vall : Value) (ao : Option Addr) (cap : Nat) (zs : List Int) (o lv : Int) (W M t p q : Nat) (s : Bool) (ds : List Deferred) (f : Nat → Value)
    (hl : zs.length ≤ 600) (hz : Byt zs) (hO : Oo o zs W M) (hb : Bs w X T2 T4 T5 T7 ao cap zs o lv) (ti : TI X T21 T22 T23 T24 T25 M t p q s Y) (hp : p ≤ M) (hgap : s = false → ∀ k, p ≤ k → k < M → ct zs W k = 0) :
    cL.wpIn Fence.wide 20 Tryd.prog (postE 10 (fun a' Z => (∃ f', a' = { tmps := eR T2 T4 T5 T7 T21 T22 T23 T24 T25 vall f', defers := ds }) ∧ (∃ p', TI X T21 T22 T23 T24 T25 M t p' q s Z) ∧ Kp (fun j => j = T23) Y Z))
      { tmps := eR T2 T4 T5 T7 T21 T22 T23 T24 T25 vall f, defers := ds } Y := by
  have hMb := hO.le hl
  have AT := hid (fun (k : Nat) (hk : k < M) (Z : World) (h : Src .u8 Z ao zs) => hO.at ao cap k Z hl hz hk h)
  have GP := hid hgap
  have BS := hid hb
  have TY := hid ti
  clear hgap hb ti hO
  unfold cL eR
  generalize hQ : postE 10 _ = QQ
  gi_wp2_with fail
  gi_loopw [195] (fun _ wr => ∃ k : Nat, p ≤ k ∧ k ≤ M ∧ St 3 wr T23 #[.int .i64 (k : Int)] ∧ Kp (fun j => j = T23) Y wr) (fun _ wr => M - cvn wr T23)
  case atStart => exact ⟨p, Nat.le_refl _, hp, TY.out.a, Kp.refl _ _⟩
  case round =>
    obtain ⟨k, hk1, hk2, hA, kx⟩ := hrel
    have TK := hid (TY.out.setA kx hA)
    have BK := hid (BS.out.same TK.out.kp)
    have HA := hid hA
    have KX := hid kx
    have c23 : wr.cell? ⟨T23, 0, none⟩ = some (.int .i64 (k : Int)) := hA.cell 0
    have f23 : wr.frozen? ⟨T23, 0, none⟩ = false := hA.frozen 0
    have l23 : T23 < wr.heap.size := hA.lt
    have c21 : wr.cell? ⟨T21, 0, none⟩ = some (.int .i64 (M : Int)) := TK.out.m.cell 0
    have c25 : wr.cell? ⟨T25, 0, none⟩ = some (.bool s) := TK.out.s.cell 0
    have c2 : wr.cell? ⟨T2, 0, none⟩ = some (.slice ao zs.length cap) := BK.out.s2.cell 0
    have c5 : wr.cell? ⟨T5, 0, none⟩ = some (.int .i64 o) := BK.out.s5.cell 0
    clear hA kx
    by_cases hlt : k < M
    · have d2 : (k : Int) < (M : Int) := by omega
      have e2 : decide (k < M) = true := by simpa using hlt
      cases s with
      | true =>
        gi_wp2_with fail
        subst hQ
        exact ⟨rfl, act_of (by kernel_rfl) rfl, ⟨k, TK.out⟩, KX.out⟩
      | false =>
        have AX := hid (AT.out k hlt wr BK.out.src)
        rw [GP.out rfl k hk1 hlt] at AX
        gi_wp2_with fail
        refine ⟨trivial, (callsIn_wide.2 AX.out).mono ?_⟩
        rintro r wc ⟨rfl, rfl⟩
        gi_wp2_with fail
        have SA1 : St 3 (wr.setCell ⟨T23, 0, none⟩ (.int .i64 ((k : Int) + 1))) T23 #[.int .i64 ((k + 1 : Nat) : Int)] := by
          have h := HA.out.set 0 (.int .i64 ((k : Int) + 1))
          simpa using h
        refine ⟨⟨k + 1, by omega, hlt, SA1, KX.out.trans (kp_setCell wr T23 0 _ (fun j => j = T23) rfl) (fun _ _ x => x)⟩, ?_⟩
        rw [cvn_of SA1, cvn_of HA.out]
        omega
    · obtain rfl : k = M := by omega
      have d1 : ¬ (k : Int) < (k : Int) := by omega
      have e1 : decide (k < k) = false := by simp
      clear hlt
      gi_wp2_with fail
      subst hQ
      exact ⟨rfl, act_of (by kernel_rfl) rfl, ⟨k, TK.out⟩, KX.out⟩
end Go.Proofs.YtjhgkcbpllgdiaaDoor
