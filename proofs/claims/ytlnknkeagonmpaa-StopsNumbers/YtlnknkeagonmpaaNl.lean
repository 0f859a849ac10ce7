/- A nil store and a zero one, asked. -/
import Derived.Test.YtlnknkeagonmpaaNw
namespace Go.Proofs.Ytlnknkeagonmpaa
open Go.RowKit

set_option maxRecDepth 100000 in
set_option maxHeartbeats 1000000 in
theorem flush_err (s : ByteArray) (v : Value) (e0 : Int) (w : World) (hf : Calls Try.prog 34 #[v, .string s] w fun e w' => e = .returned (.tuple #[.pointer none, .int .i64 e0]) ∧ w' = w) (he : e0 ≠ 0) :
    Calls Try.prog 20 #[v, .string s] w fun e w' => e = .returned (.int .i64 e0) ∧ w' = w := by
  have HF : Hid (Calls Try.prog 34 #[v, .string s] w fun e w' => e = .returned (.tuple #[.pointer none, .int .i64 e0]) ∧ w' = w) := hf
  clear hf
  go_enter Try.func20, Try.ntmps20
  go_wp2_with (first | (go_at_call 34; refine HF.out.mono ?_; rintro e w' ⟨rfl, h⟩; replace h := h.symm; subst h))
  go_ret
  exact ⟨rfl, rfl⟩
set_option maxRecDepth 100000 in
set_option maxHeartbeats 1000000 in
theorem write_err (s : ByteArray) (v : Value) (at0 : Int) (b : Value) (ao : Option Addr) (nl cap : Nat) (hbv : b = .slice ao nl cap) (e0 : Int) (w : World) (hf : ∀ w1, Kp (fun _ => False) w w1 → Calls Try.prog 34 #[v, .string s] w1 fun e w' => e = .returned (.tuple #[.pointer none, .int .i64 e0]) ∧ w' = w1) (he : e0 ≠ 0) :
    Calls Try.prog 18 #[v, .string s, .int .i64 at0, b] w fun e w' => e = .returned (.int .i64 e0) ∧ Kp (fun _ => False) w w' := by
  subst hbv
  have HF : Hid (∀ w1, Kp (fun _ => False) w w1 → Calls Try.prog 34 #[v, .string s] w1 fun e w' => e = .returned (.tuple #[.pointer none, .int .i64 e0]) ∧ w' = w1) := hf
  have k2 : Kp (fun _ => False) w ((w.alloc (.cells #[.int .i64 at0] 2)).alloc (.cells #[.slice ao nl cap] 41)) := ((Kp.refl _ _).alloc _).alloc _
  have HK : Hid (Kp (fun _ => False) w ((w.alloc (.cells #[.int .i64 at0] 2)).alloc (.cells #[.slice ao nl cap] 41))) := k2
  clear hf k2
  go_enter Try.func18, Try.ntmps18
  go_wp2_with (first | (go_at_call 34; refine (HF.out _ HK.out).mono ?_; rintro e w' ⟨rfl, h⟩; replace h := h.symm; subst h))
  go_ret
  exact ⟨rfl, HK.out.alloc _⟩
set_option maxRecDepth 100000 in
set_option maxHeartbeats 1000000 in
theorem feed_nos (v : Value) (p : Value) (w : World) (h : Nos w v) :
    Calls Try.prog 27 #[v, p] w fun e w' => e = .returned (.int .i64 1) ∧ w' = w := by
  have H : Hid (Nos w v) := h
  clear h
  go_enter Try.func27, Try.ntmps27
  go_wp2_with (first | (go_at_call 42; refine (none_nos _ _ H.out).mono ?_; rintro e w' ⟨rfl, h⟩; replace h := h.symm; subst h))
  go_ret
  exact ⟨rfl, rfl⟩
set_option maxRecDepth 100000 in
set_option maxHeartbeats 1000000 in
theorem pending_nos (v : Value) (w : World) (h : Nos w v) :
    Calls Try.prog 23 #[v] w fun e w' => e = .returned (.int .i64 0) ∧ w' = w := by
  have H : Hid (Nos w v) := h
  clear h
  go_enter Try.func23, Try.ntmps23
  go_wp2_with (first | (go_at_call 42; refine (none_nos _ _ H.out).mono ?_; rintro e w' ⟨rfl, h⟩; replace h := h.symm; subst h))
  go_ret
  exact ⟨rfl, rfl⟩
set_option maxRecDepth 100000 in
set_option maxHeartbeats 1000000 in
theorem same_nos (v u : Value) (w : World) (h : Nos w v) (h2 : Nos w u) : Calls Try.prog 41 #[v, u] w fun e w' => e = .returned (.bool true) ∧ w' = w := by
  have H : Hid (Nos w v) := h
  have H2 : Hid (Nos w u) := h2
  clear h h2
  have hu := none_nos u w H2.out
  have hv := none_nos v w H.out
  go_enter Try.func41, Try.ntmps41
  go_wp2_with fail
  refine hv.mono ?_
  rintro e w' ⟨rfl, h⟩
  replace h := h.symm
  subst h
  go_wp2_with fail
  refine hv.mono ?_
  rintro e w' ⟨rfl, h⟩
  replace h := h.symm
  subst h
  go_wp2_with fail
  refine hu.mono ?_
  rintro e w' ⟨rfl, h⟩
  replace h := h.symm
  subst h
  go_wp2_with fail
  go_ret
  exact ⟨rfl, rfl⟩
set_option maxRecDepth 100000 in
set_option maxHeartbeats 1000000 in
theorem same_nl (v : Value) (g m : Nat) (w : World) (h : Nos w v) (hc : w.cell? ⟨g, 0, none⟩ = some (.map (some m))) : Calls Try.prog 41 #[v, .pointer (some ⟨g, 0, none⟩)] w fun e w' => e = .returned (.bool false) ∧ w' = w := by
  have H : Hid (Nos w v) := h
  have HC : Hid (w.cell? ⟨g, 0, none⟩ = some (.map (some m))) := hc
  clear h hc
  have hu := none_live g m w HC.out
  have hv := none_nos v w H.out
  go_enter Try.func41, Try.ntmps41
  go_wp2_with fail
  refine hv.mono ?_
  rintro e w' ⟨rfl, h⟩
  replace h := h.symm
  subst h
  go_wp2_with fail
  refine hv.mono ?_
  rintro e w' ⟨rfl, h⟩
  replace h := h.symm
  subst h
  go_wp2_with fail
  refine hu.mono ?_
  rintro e w' ⟨rfl, h⟩
  replace h := h.symm
  subst h
  go_wp2_with fail
  go_ret
  exact ⟨rfl, rfl⟩
set_option maxRecDepth 100000 in
set_option maxHeartbeats 1000000 in
theorem same_ln (v : Value) (g m : Nat) (w : World) (h : Nos w v) (hc : w.cell? ⟨g, 0, none⟩ = some (.map (some m))) : Calls Try.prog 41 #[.pointer (some ⟨g, 0, none⟩), v] w fun e w' => e = .returned (.bool false) ∧ w' = w := by
  have H : Hid (Nos w v) := h
  have HC : Hid (w.cell? ⟨g, 0, none⟩ = some (.map (some m))) := hc
  clear h hc
  have hu := none_live g m w HC.out
  have hv := none_nos v w H.out
  go_enter Try.func41, Try.ntmps41
  go_wp2_with fail
  refine hu.mono ?_
  rintro e w' ⟨rfl, h⟩
  replace h := h.symm
  subst h
  go_wp2_with fail
  refine hv.mono ?_
  rintro e w' ⟨rfl, h⟩
  replace h := h.symm
  subst h
  go_wp2_with fail
  refine hu.mono ?_
  rintro e w' ⟨rfl, h⟩
  replace h := h.symm
  subst h
  go_wp2_with fail
  go_ret
  exact ⟨rfl, rfl⟩
end Go.Proofs.Ytlnknkeagonmpaa
