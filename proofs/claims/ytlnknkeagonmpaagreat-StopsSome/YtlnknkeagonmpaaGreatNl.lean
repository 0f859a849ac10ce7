/- A nil store and a zero one, asked. -/
import Derived.Test.YtlnknkeagonmpaaGreatNw
namespace Go.Proofs.YtlnknkeagonmpaaGreat
open Go.RowKit

set_option maxRecDepth 100000 in
set_option maxHeartbeats 1000000 in
theorem flush_err (s : ByteArray) (v : Value) (e0 : Int) (w : World) (hf : Calls Tryz.prog 37 #[v, .string s] w fun e w' => e = .returned (.tuple #[.pointer none, .int .i64 e0]) ∧ w' = w) (he : e0 ≠ 0) :
    Calls Tryz.prog 26 #[v, .string s] w fun e w' => e = .returned (.int .i64 e0) ∧ w' = w := by
  have HF : Hid (Calls Tryz.prog 37 #[v, .string s] w fun e w' => e = .returned (.tuple #[.pointer none, .int .i64 e0]) ∧ w' = w) := hf
  clear hf
  go_enter Tryz.func26, Tryz.ntmps26
  go_wp2_with (first | (go_at_call 37; refine HF.out.mono ?_; rintro e w' ⟨rfl, h⟩; replace h := h.symm; subst h))
  go_ret
  exact ⟨rfl, rfl⟩
set_option maxRecDepth 100000 in
set_option maxHeartbeats 1000000 in
theorem write_err (s : ByteArray) (v : Value) (at0 : Int) (b : Value) (ao : Option Addr) (nl cap : Nat) (hbv : b = .slice ao nl cap) (e0 : Int) (w : World) (hf : ∀ w1, Kp (fun _ => False) w w1 → Calls Tryz.prog 37 #[v, .string s] w1 fun e w' => e = .returned (.tuple #[.pointer none, .int .i64 e0]) ∧ w' = w1) (he : e0 ≠ 0) :
    Calls Tryz.prog 12 #[v, .string s, .int .i64 at0, b] w fun e w' => e = .returned (.int .i64 e0) ∧ Kp (fun _ => False) w w' := by
  subst hbv
  have HF : Hid (∀ w1, Kp (fun _ => False) w w1 → Calls Tryz.prog 37 #[v, .string s] w1 fun e w' => e = .returned (.tuple #[.pointer none, .int .i64 e0]) ∧ w' = w1) := hf
  have k2 : Kp (fun _ => False) w ((w.alloc (.cells #[.int .i64 at0] 2)).alloc (.cells #[.slice ao nl cap] 39)) := ((Kp.refl _ _).alloc _).alloc _
  have HK : Hid (Kp (fun _ => False) w ((w.alloc (.cells #[.int .i64 at0] 2)).alloc (.cells #[.slice ao nl cap] 39))) := k2
  clear hf k2
  go_enter Tryz.func12, Tryz.ntmps12
  go_wp2_with (first | (go_at_call 37; refine (HF.out _ HK.out).mono ?_; rintro e w' ⟨rfl, h⟩; replace h := h.symm; subst h))
  go_ret
  exact ⟨rfl, HK.out.alloc _⟩
set_option maxRecDepth 100000 in
set_option maxHeartbeats 1000000 in
theorem feed_nos (v : Value) (p : Value) (w : World) (h : Nos w v) :
    Calls Tryz.prog 50 #[v, p] w fun e w' => e = .returned (.int .i64 1) ∧ w' = w := by
  have H : Hid (Nos w v) := h
  clear h
  go_enter Tryz.func50, Tryz.ntmps50
  go_wp2_with (first | (go_at_call 57; refine (none_nos _ _ H.out).mono ?_; rintro e w' ⟨rfl, h⟩; replace h := h.symm; subst h))
  go_ret
  exact ⟨rfl, rfl⟩
set_option maxRecDepth 100000 in
set_option maxHeartbeats 1000000 in
theorem pending_nos (v : Value) (w : World) (h : Nos w v) :
    Calls Tryz.prog 43 #[v] w fun e w' => e = .returned (.int .i64 0) ∧ w' = w := by
  have H : Hid (Nos w v) := h
  clear h
  go_enter Tryz.func43, Tryz.ntmps43
  go_wp2_with (first | (go_at_call 57; refine (none_nos _ _ H.out).mono ?_; rintro e w' ⟨rfl, h⟩; replace h := h.symm; subst h))
  go_ret
  exact ⟨rfl, rfl⟩
set_option maxRecDepth 100000 in
set_option maxHeartbeats 1000000 in
theorem same_nos (v u : Value) (w : World) (h : Nos w v) (h2 : Nos w u) : Calls Tryz.prog 71 #[v, u] w fun e w' => e = .returned (.bool true) ∧ w' = w := by
  have H : Hid (Nos w v) := h
  have H2 : Hid (Nos w u) := h2
  clear h h2
  have hu := none_nos u w H2.out
  have hv := none_nos v w H.out
  go_enter Tryz.func71, Tryz.ntmps71
  go_wp2_with fail
  refine hv.mono ?_
  rintro e w' ⟨rfl, h⟩
  replace h := h.symm
  subst h
  go_wp2_with fail
  refine hv.mono ?_
  rintro e w' ⟨rfl, h⟩
  replace h := h.symm
  subst h
  go_wp2_with fail
  refine hu.mono ?_
  rintro e w' ⟨rfl, h⟩
  replace h := h.symm
  subst h
  go_wp2_with fail
  go_ret
  exact ⟨rfl, rfl⟩
set_option maxRecDepth 100000 in
set_option maxHeartbeats 1000000 in
theorem same_nl (v : Value) (g m : Nat) (w : World) (h : Nos w v) (hc : w.cell? ⟨g, 0, none⟩ = some (.map (some m))) : Calls Tryz.prog 71 #[v, .pointer (some ⟨g, 0, none⟩)] w fun e w' => e = .returned (.bool false) ∧ w' = w := by
  have H : Hid (Nos w v) := h
  have HC : Hid (w.cell? ⟨g, 0, none⟩ = some (.map (some m))) := hc
  clear h hc
  have hu := none_live g m w HC.out
  have hv := none_nos v w H.out
  go_enter Tryz.func71, Tryz.ntmps71
  go_wp2_with fail
  refine hv.mono ?_
  rintro e w' ⟨rfl, h⟩
  replace h := h.symm
  subst h
  go_wp2_with fail
  refine hv.mono ?_
  rintro e w' ⟨rfl, h⟩
  replace h := h.symm
  subst h
  go_wp2_with fail
  refine hu.mono ?_
  rintro e w' ⟨rfl, h⟩
  replace h := h.symm
  subst h
  go_wp2_with fail
  go_ret
  exact ⟨rfl, rfl⟩
set_option maxRecDepth 100000 in
set_option maxHeartbeats 1000000 in
theorem same_ln (v : Value) (g m : Nat) (w : World) (h : Nos w v) (hc : w.cell? ⟨g, 0, none⟩ = some (.map (some m))) : Calls Tryz.prog 71 #[.pointer (some ⟨g, 0, none⟩), v] w fun e w' => e = .returned (.bool false) ∧ w' = w := by
  have H : Hid (Nos w v) := h
  have HC : Hid (w.cell? ⟨g, 0, none⟩ = some (.map (some m))) := hc
  clear h hc
  have hu := none_live g m w HC.out
  have hv := none_nos v w H.out
  go_enter Tryz.func71, Tryz.ntmps71
  go_wp2_with fail
  refine hu.mono ?_
  rintro e w' ⟨rfl, h⟩
  replace h := h.symm
  subst h
  go_wp2_with fail
  refine hv.mono ?_
  rintro e w' ⟨rfl, h⟩
  replace h := h.symm
  subst h
  go_wp2_with fail
  refine hu.mono ?_
  rintro e w' ⟨rfl, h⟩
  replace h := h.symm
  subst h
  go_wp2_with fail
  go_ret
  exact ⟨rfl, rfl⟩
end Go.Proofs.YtlnknkeagonmpaaGreat
