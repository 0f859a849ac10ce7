/- container/heap's Init, Pop and Push over a pile; least. -/
import Derived.Test.YthpocbpleffdpaaHt
namespace Go.Proofs.Ythpocbpleffdpaa
open Go.RowKit

set_option maxHeartbeats 4000000 in
set_option maxRecDepth 100000 in
theorem init_any (c : Nat → Nat) (w : World) (base B : Nat) (v f : Value) (L : List Nat) (h : Pil c w base B v (fvo f) L) (hL : L.length < 4611686018427387904) :
    Calls Try.prog 87 #[.iface 112 (ptr B)] w fun e w' => e = .returned (.tuple #[]) ∧ ∃ L', L'.Perm L ∧ Pil c w' base B v (fvo f) L' ∧ Hx (kf c L') 0 L.length ∧ Kp (fun k => v.ownBlock = some k) w w' := by
  have mN := find_len B
  have HN : Hid (Calls Try.prog 73 #[ptr B] w fun e w' => e = .returned (.int .i64 L.length) ∧ w = w') := (len_any c w base B v (fvo f) L h).mono (fun _ _ h => ⟨h.1, h.2.symm⟩)
  go_enter Try.func87, Try.ntmps87
  go_wp2_with (first | (go_at_call 73; refine HN.out.mono ?_; rintro _ _ ⟨rfl, rfl⟩))
  clear HN
  go_loopw [3] (fun vj wr => ∃ (k : Nat) (L' : List Nat), vj = .int .i64 ((k : Int) - 1) ∧ k ≤ L.length ∧ Hid (L'.Perm L ∧ Pil c wr base B v (fvo f) L' ∧ Hx (kf c L') k L.length ∧ Kp (fun k => v.ownBlock = some k) w wr)) (fun vj _ => (intOf vj + 1).toNat)
  case atStart => exact ⟨L.length / 2, L, by go_num, by omega, List.Perm.refl _, h, Hx.last _ (Nat.le_refl _), Kp.refl _ _⟩
  case round =>
    obtain ⟨k, L', rfl, hk, HH⟩ := hrel
    have hl := HH.out.1.length_eq
    cases k with
    | zero =>
      go_wp2
      go_end0
      exact ⟨rfl, L', HH.out.1, HH.out.2.1, HH.out.2.2.1, HH.out.2.2.2⟩
    | succ k =>
      have HD := hid (down_any c wr base B v f L' HH.out.2.1 k k L.length (by omega) (by omega) (by omega) (Hd.init HH.out.2.2.1))
      go_wp2_with (first | (go_at_call 92; refine HD.out.mono ?_; rintro _ w3 ⟨⟨b, rfl⟩, L3, M3, P3, X3, K3⟩))
      exact ⟨⟨k, L3, rfl, by omega, M3.perm.trans HH.out.1, P3, X3, HH.out.2.2.2.trans K3 (fun _ _ h => h)⟩, by simp [intOf]⟩
end Go.Proofs.Ythpocbpleffdpaa
