/- Contract of the statements' own nothing(): of a nil reader, and of a zero one; it makes memory and turns none that was there. -/
import Derived.Test.YtfeokjbmobmabaaRdI
import Derived.Test.YtfeokjbmobmabaaRefT
namespace Go.Proofs.Ytfeokjbmobmabaa
open Go.RowKit

theorem zero_reader (w : World) : Rd (w.alloc (.cells #[.slice none 0 0, .int .i64 0, .int .u64 0, .int .i64 0] 80)) w.heap.size none 0 [] 0 := by
  refine ⟨0, 0, rfl, Nat.le_refl _, by omega, by simp, fun z hz => by simp at hz, ?_, Src.nil _ _, Nat.le_refl _, fun _ => rfl, fun b off e => by cases e⟩
  have s : St 80 (w.alloc (.cells #[.slice none 0 0, .int .i64 0, .int .u64 0, .int .i64 0] 80)) w.heap.size _ := heap_alloc_new w _
  simpa [und] using s
theorem z_take (g : Nat) (w : World) (h : Rd w g none 0 [] 0) : Calls Try.prog 32 #[.pointer (some ⟨g, 0, none⟩), .int .i64 1] w fun e w' => e = .returned (.tuple #[.int .u64 0, .int .i64 120]) ∧ Rd w' g none 0 [] 0 ∧ Kp (fun i => i = g) w w' := take_short g none 0 [] 0 1 w (by omega) h (by simp)
theorem z_left (g : Nat) (w : World) (h : Rd w g none 0 [] 0) : Calls Try.prog 26 #[.pointer (some ⟨g, 0, none⟩)] w fun e w' => e = .returned (.int .i64 0) ∧ Ok' w w' := left_k g none 0 [] 0 w h
theorem z_align (g : Nat) (w : World) (h : Rd w g none 0 [] 0) : Calls Try.prog 33 #[.pointer (some ⟨g, 0, none⟩)] w fun e w' => e = .returned (.int .i64 0) ∧ Kp (fun i => i = g) w w' := by
  refine (alignR_any g none 0 [] 0 w h).mono ?_
  rintro e w' ⟨rfl, _, k⟩
  exact ⟨rfl, k⟩

set_option maxRecDepth 100000 in
set_option maxHeartbeats 2000000 in
theorem nothing_any (w : World) : Calls Try.prog 29 #[] w fun e w' => e = .returned (.bool true) ∧ Ok' w w' := by
  go_enter Try.func29, Try.ntmps29
  go_wp2_with fail
  refine (take_nil 99 _).mono ?_
  rintro e w' ⟨rfl, rfl⟩
  go_wp2_with fail
  refine (peek_nil 99 _).mono ?_
  rintro e w' ⟨rfl, rfl⟩
  go_wp2_with fail
  refine (rawR_nil (-1) _).mono ?_
  rintro e w' ⟨rfl, rfl⟩
  have hz := zero_reader w
  go_wp2_with fail
  refine (z_take _ _ hz).mono ?_
  rintro e w1 ⟨rfl, h1, k1⟩
  have k1' : Ok' w w1 := ((Kp.refl (fun _ => False) w).alloc _).trans k1 (fun i hi e => by omega)
  clear hz k1
  go_wp2_with (go_at_call 16; refine (num_any _ _).mono ?_; rintro e w' ⟨rfl, rfl⟩)
  refine (skip_nil (-1) _).mono ?_
  rintro e w' ⟨rfl, rfl⟩
  go_wp2_with (go_at_call 16; refine (num_any _ _).mono ?_; rintro e w' ⟨rfl, rfl⟩)
  refine (alignR_nil _).mono ?_
  rintro e w' ⟨rfl, rfl⟩
  go_wp2_with (go_at_call 16; refine (num_any _ _).mono ?_; rintro e w' ⟨rfl, rfl⟩)
  refine (at_nil _).mono ?_
  rintro e w' ⟨rfl, rfl⟩
  go_wp2_with fail
  refine (left_nil _).mono ?_
  rintro e w' ⟨rfl, rfl⟩
  go_wp2_with fail
  refine (copyR_nil _).mono ?_
  rintro e w' ⟨rfl, rfl⟩
  go_wp2_with (go_at_call 16; refine (num_any _ _).mono ?_; rintro e w' ⟨rfl, rfl⟩)
  refine (z_left _ _ h1).mono ?_
  rintro e w2 ⟨rfl, k2⟩
  have h2 := h1.ok k2
  have k2' : Ok' w w2 := k1'.trans k2 (fun _ _ x => x)
  clear h1 k1' k2
  go_wp2_with fail
  refine (z_align _ _ h2).mono ?_
  rintro e w3 ⟨rfl, k3⟩
  have k3' : Ok' w w3 := k2'.trans k3 (fun i hi e => by omega)
  go_wp2_with (go_at_call 16; refine (num_any _ _).mono ?_; rintro e w' ⟨rfl, rfl⟩)
  go_ret
  exact ⟨rfl, k3'⟩

end Go.Proofs.Ytfeokjbmobmabaa
