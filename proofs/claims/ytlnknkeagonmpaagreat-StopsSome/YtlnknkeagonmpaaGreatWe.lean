/- Write, of a file that is there: what it refuses. -/
import Derived.Test.YtlnknkeagonmpaaGreatCr
namespace Go.Proofs.YtlnknkeagonmpaaGreat
open Go.RowKit

set_option maxRecDepth 100000 in
set_option maxHeartbeats 2000000 in
theorem write_rng (s : ByteArray) (v : Value) (fb : Nat) (at0 : Int) (ao : Option Addr) (nl cap : Nat) (w : World) (hf : ∀ w1, Kp (fun _ => False) w w1 → Calls Tryz.prog 37 #[v, .string s] w1 fun e w' => e = .returned (.tuple #[.pointer (some ⟨fb, 0, none⟩), .int .i64 0]) ∧ w' = w1) (h0 : at0 < 0) :
    Calls Tryz.prog 12 #[v, .string s, .int .i64 at0, .slice ao nl cap] w fun e w' => e = .returned (.int .i64 4) ∧ Kp (fun _ => False) w w' := by
  have HF : Hid (∀ w1, Kp (fun _ => False) w w1 → Calls Tryz.prog 37 #[v, .string s] w1 fun e w' => e = .returned (.tuple #[.pointer (some ⟨fb, 0, none⟩), .int .i64 0]) ∧ w' = w1) := hf
  have HK : Hid (Kp (fun _ => False) w ((w.alloc (.cells #[.int .i64 at0] 2)).alloc (.cells #[.slice ao nl cap] 39))) := ((Kp.refl _ _).alloc _).alloc _
  have c6 : (((w.alloc (.cells #[.int .i64 at0] 2)).alloc (.cells #[.slice ao nl cap] 39)).alloc (.cells #[.pointer (some ⟨fb, 0, none⟩)] 83)).cell? ⟨w.heap.size, 0, none⟩ = some (.int .i64 at0) := ((St.new 2 w #[.int .i64 at0]).kp (F := fun _ => False) (((Kp.refl _ _).alloc _).alloc _) (fun h => h)).cell 0
  clear hf
  go_enter Tryz.func12, Tryz.ntmps12
  go_wp2_with (first | (go_at_call 37; refine (HF.out _ HK.out).mono ?_; rintro e w' ⟨rfl, h⟩; replace h := h.symm; subst h))
  go_ret
  exact ⟨rfl, HK.out.alloc _⟩
set_option maxRecDepth 100000 in
set_option maxHeartbeats 2000000 in
theorem write_full (s : ByteArray) (v : Value) (fb : Nat) (at0 : Int) (ao : Option Addr) (nl cap : Nat) (w : World) (hf : ∀ w1, Kp (fun _ => False) w w1 → Calls Tryz.prog 37 #[v, .string s] w1 fun e w' => e = .returned (.tuple #[.pointer (some ⟨fb, 0, none⟩), .int .i64 0]) ∧ w' = w1) (h0 : 0 ≤ at0) (h2 : at0 ≤ 9223372036854775807) (h1 : 268435456 - at0 < (nl : Int)) :
    Calls Tryz.prog 12 #[v, .string s, .int .i64 at0, .slice ao nl cap] w fun e w' => e = .returned (.int .i64 6) ∧ Kp (fun _ => False) w w' := by
  have HF : Hid (∀ w1, Kp (fun _ => False) w w1 → Calls Tryz.prog 37 #[v, .string s] w1 fun e w' => e = .returned (.tuple #[.pointer (some ⟨fb, 0, none⟩), .int .i64 0]) ∧ w' = w1) := hf
  have HK : Hid (Kp (fun _ => False) w ((w.alloc (.cells #[.int .i64 at0] 2)).alloc (.cells #[.slice ao nl cap] 39))) := ((Kp.refl _ _).alloc _).alloc _
  have c6 : (((w.alloc (.cells #[.int .i64 at0] 2)).alloc (.cells #[.slice ao nl cap] 39)).alloc (.cells #[.pointer (some ⟨fb, 0, none⟩)] 83)).cell? ⟨w.heap.size, 0, none⟩ = some (.int .i64 at0) := ((St.new 2 w #[.int .i64 at0]).kp (F := fun _ => False) (((Kp.refl _ _).alloc _).alloc _) (fun h => h)).cell 0
  have c7 : (((w.alloc (.cells #[.int .i64 at0] 2)).alloc (.cells #[.slice ao nl cap] 39)).alloc (.cells #[.pointer (some ⟨fb, 0, none⟩)] 83)).cell? ⟨w.heap.size + 1, 0, none⟩ = some (.slice ao nl cap) := by
    have := ((St.new 39 (w.alloc (.cells #[.int .i64 at0] 2)) #[.slice ao nl cap]).kp (F := fun _ => False) ((Kp.refl _ _).alloc (.cells #[.pointer (some ⟨fb, 0, none⟩)] 83)) (fun h => h)).cell 0
    rwa [World.size_alloc] at this
  have hn : ¬ at0 < 0 := by omega
  clear hf
  go_enter Tryz.func12, Tryz.ntmps12
  go_wp2_with (first | (go_at_call 37; refine (HF.out _ HK.out).mono ?_; rintro e w' ⟨rfl, h⟩; replace h := h.symm; subst h))
  go_ret
  exact ⟨rfl, HK.out.alloc _⟩
end Go.Proofs.YtlnknkeagonmpaaGreat
