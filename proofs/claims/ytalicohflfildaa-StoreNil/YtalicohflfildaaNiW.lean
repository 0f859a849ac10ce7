/- StoreNil: the walk. -/
import Derived.Test.YtalicohflfildaaNo
import Derived.Test.YtalicohflfildaaKn
namespace Go.Proofs.Ytalicohflfildaa
open Go.RowKit

set_option maxRecDepth 100000 in
set_option maxHeartbeats 2000000 in
theorem walk (s : ByteArray) (n : Int) (ao : Option Addr) (m cap : Nat) (w : World) :
    Calls Try.prog 5 #[.string s, .int .i64 n, .slice ao m cap] w fun e w' => e = .returned (.bool true) ∧ Kp (fun _ => False) w w' := by
  go_enter Try.func5, Try.ntmps5
  go_wp2_with fail
  refine (nothing_any _ s n ao m cap w (.inl rfl)).mono ?_
  rintro e w1 ⟨rfl, k1⟩
  have K1 : Hid (Kp (fun _ => False) w w1) := k1
  clear k1
  go_wp2_with fail
  have st := St.new 54 w1 #[.map none, .slice none 0 0, .int .i64 0]
  have k2 : Kp (fun _ => False) w1 (w1.alloc (.cells #[.map none, .slice none 0 0, .int .i64 0] 54)) := (Kp.refl _ _).alloc _
  generalize w1.alloc (.cells #[.map none, .slice none 0 0, .int .i64 0] 54) = W2 at st k2 ⊢
  refine (nothing_any _ s n ao m cap W2 (.inr ⟨w1.heap.size, rfl, st.cell 0⟩)).mono ?_
  rintro e w3 ⟨rfl, k3⟩
  have K3 : Hid (Kp (fun _ => False) w w3) := (K1.out.trans k2 (fun _ _ h => h)).trans k3 (fun _ _ h => h)
  clear st k2 k3 K1
  go_wp2_with fail
  have st := St.new 54 w3 #[.map none, .slice none 0 0, .int .i64 0]
  have k2 : Kp (fun _ => False) w3 (w3.alloc (.cells #[.map none, .slice none 0 0, .int .i64 0] 54)) := (Kp.refl _ _).alloc _
  generalize w3.alloc (.cells #[.map none, .slice none 0 0, .int .i64 0] 54) = W4 at st k2 ⊢
  refine (same_nos _ _ W4 (.inl rfl) (.inr ⟨w3.heap.size, rfl, st.cell 0⟩)).mono ?_
  rintro e w5 ⟨rfl, h⟩
  replace h := h.symm
  subst h
  have K4 : Hid (Kp (fun _ => False) w W4) := K3.out.trans k2 (fun _ _ h => h)
  clear st k2 K3
  go_wp2_with fail
  refine (known_any W4).mono ?_
  rintro e w6 ⟨rfl, k6⟩
  have K6 : Hid (Kp (fun _ => False) w w6) := K4.out.trans k6 (fun _ _ h => h)
  clear k6 K4
  go_wp2
  go_ret
  exact ⟨rfl, K6.out⟩
end Go.Proofs.Ytalicohflfildaa
