/- Contracts of the writer's calls: Put, Code, Align, Raw, Len, Bytes, Copy, NewWriter; what each answers, and what it leaves. -/
import Derived.Test.YtfeokjbmobmabaaWr
import Derived.Deep.QuietTactic
import Derived.BigQuiet
namespace Go.Proofs.Ytfeokjbmobmabaa
open Go.RowKit

/-- x is a number of n bits, and n is one that may be. -/
def Fits (x : Nat) (n : Int) : Prop := 0 ≤ n ∧ n ≤ 57 ∧ x < 2 ^ n.toNat

theorem shr_zero (x n : Nat) (h : x < 2 ^ n) : (x : Int) / 2 ^ n = 0 := by
  have : ((2 ^ n : Nat) : Int) = 2 ^ n := Int.natCast_pow 2 n
  exact Int.ediv_eq_zero_of_lt (by omega) (by omega)
theorem shr_pos (x n : Nat) (h : 2 ^ n ≤ x) : ((x : Int) / 2 ^ n != 0) = true := by
  have e : ((2 ^ n : Nat) : Int) = 2 ^ n := Int.natCast_pow 2 n
  have hp : 0 < 2 ^ n := Nat.pow_pos (by omega)
  have h1 : ((x : Int) / 2 ^ n) = ((x / 2 ^ n : Nat) : Int) := by rw [← e]; exact (Int.natCast_ediv _ _).symm
  have h2 : 0 < x / 2 ^ n := Nat.div_pos h hp
  rw [h1]
  simp only [bne_iff_ne, ne_eq]
  omega

set_option maxHeartbeats 400000 in
theorem refused_ok (g x n : Nat) (w : World) (hn : n ≤ 57) (hx : x < 2 ^ n) :
    Calls Try.prog 40 #[.pointer (some ⟨g, 0, none⟩), .int .u64 x, .int .i64 n] w fun e w' => e = .returned (.int .i64 0) ∧ w = w' := by
  have hd : decide (0 ≤ (n : Int) ∧ (n : Int) ≤ 57) = true := by simp; omega
  have hz := shr_zero x n hx
  have hz1 : ((x : Int) / 2 ^ n != 0) = false := by rw [hz]; rfl
  clear hz
  go_enter Try.func40, Try.ntmps40
  go_wp2_with (go_at_call 46; refine (wide_any _ _).mono ?_; rintro e w' ⟨rfl, rfl⟩; rw [hd])
  go_ret
  exact ⟨rfl, rfl⟩
set_option maxHeartbeats 400000 in
theorem refused_bad (g x : Nat) (n : Int) (w : World) (hf : ¬ Fits x n) :
    Calls Try.prog 40 #[.pointer (some ⟨g, 0, none⟩), .int .u64 x, .int .i64 n] w fun e w' => e = .returned (.int .i64 2) ∧ w = w' := by
  by_cases hw : 0 ≤ n ∧ n ≤ 57
  · obtain ⟨m, rfl⟩ := Int.eq_ofNat_of_zero_le hw.1
    have hd : decide (0 ≤ (m : Int) ∧ (m : Int) ≤ 57) = true := by simp; omega
    have hx : 2 ^ m ≤ x := by
      unfold Fits at hf
      rw [Int.toNat_natCast] at hf
      omega
    have hz := shr_pos x m hx
    clear hf
    go_enter Try.func40, Try.ntmps40
    go_wp2_with (go_at_call 46; refine (wide_any _ _).mono ?_; rintro e w' ⟨rfl, rfl⟩; rw [hd])
    go_ret
    exact ⟨rfl, rfl⟩
  · have hd : decide (0 ≤ n ∧ n ≤ 57) = false := by simpa using hw
    clear hf hw
    go_enter Try.func40, Try.ntmps40
    go_wp2_with (go_at_call 46; refine (wide_any _ _).mono ?_; rintro e w' ⟨rfl, rfl⟩; rw [hd])
    go_ret
    exact ⟨rfl, rfl⟩
set_option maxHeartbeats 400000 in
theorem refused_nil (x : Nat) (n : Int) (w : World) :
    Calls Try.prog 40 #[.pointer none, .int .u64 x, .int .i64 n] w fun e w' => e = .returned (.int .i64 1) ∧ w = w' := by
  go_enter Try.func40, Try.ntmps40
  go_wp2
  go_ret
  exact ⟨rfl, rfl⟩

/-- What a call leaves that puts something: the writer, told anew, and all else as it was. -/
def Put' (w w' : World) (g : Nat) (sl : Value) (N v : Nat) : Prop :=
  ∃ sl', Wr w' g sl' N v ∧ Kp (fun i => i = g ∨ sl.ownBlock = some i) w w' ∧ ∀ b, sl'.ownBlock = some b → sl.ownBlock = some b ∨ w.heap.size ≤ b
theorem Put'.refl {w : World} {g : Nat} {sl : Value} {N v : Nat} (h : Wr w g sl N v) : Put' w w g sl N v := ⟨sl, h, Kp.refl _ _, fun _ hb => .inl hb⟩

set_option maxHeartbeats 400000 in
theorem put_ok (g : Nat) (sl : Value) (x n N v : Nat) (w : World) (hN : N ≤ 1000000000) (hn : n ≤ 57) (hx : x < 2 ^ n) (h : Wr w g sl N v) :
    Calls Try.prog 17 #[.pointer (some ⟨g, 0, none⟩), .int .u64 x, .int .i64 n] w fun e w' => e = .returned (.int .i64 0) ∧ Put' w w' g sl (N + n) (v + x * 2 ^ N) := by
  go_enter Try.func17, Try.ntmps17
  go_wp2_with (first | (go_at_call 40; refine (refused_ok g x n _ hn hx).mono ?_; rintro e w' ⟨rfl, rfl⟩) | (go_at_call 41; refine (put_walk g sl x n N v _ hN hn hx h).mono ?_; rintro e w' ⟨rfl, hp⟩))
  go_ret
  exact ⟨rfl, hp⟩
set_option maxHeartbeats 400000 in
theorem put_bad (g x : Nat) (n : Int) (w : World) (hf : ¬ Fits x n) :
    Calls Try.prog 17 #[.pointer (some ⟨g, 0, none⟩), .int .u64 x, .int .i64 n] w fun e w' => e = .returned (.int .i64 2) ∧ w = w' := by
  go_enter Try.func17, Try.ntmps17
  go_wp2_with (go_at_call 40; refine (refused_bad g x n _ hf).mono ?_; rintro e w' ⟨rfl, rfl⟩)
  go_ret
  exact ⟨rfl, rfl⟩
set_option maxHeartbeats 400000 in
theorem put_nil (x : Nat) (n : Int) (w : World) :
    Calls Try.prog 17 #[.pointer none, .int .u64 x, .int .i64 n] w fun e w' => e = .returned (.int .i64 1) ∧ w = w' := by
  go_enter Try.func17, Try.ntmps17
  go_wp2_with (go_at_call 40; refine (refused_nil x n _).mono ?_; rintro e w' ⟨rfl, rfl⟩)
  go_ret
  exact ⟨rfl, rfl⟩
set_option maxHeartbeats 400000 in
theorem code_ok (g : Nat) (sl : Value) (x n N v : Nat) (w : World) (hN : N ≤ 1000000000) (hn : n ≤ 57) (hx : x < 2 ^ n) (h : Wr w g sl N v) :
    Calls Try.prog 18 #[.pointer (some ⟨g, 0, none⟩), .int .u64 x, .int .i64 n] w fun e w' => e = .returned (.int .i64 0) ∧ Put' w w' g sl (N + n) (v + turn x n * 2 ^ N) := by
  have hx64 : x < 18446744073709551616 := Nat.lt_of_lt_of_le hx (Nat.pow_le_pow_right (n := 2) (j := 64) (by omega) (by omega))
  have hmin : min n 64 = n := by omega
  go_enter Try.func18, Try.ntmps18
  go_wp2_with (first | (go_at_call 40; refine (refused_ok g x n _ hn hx).mono ?_; rintro e w' ⟨rfl, rfl⟩) | (go_at_call 30; refine (turned_any x n _ hx64).mono ?_; rintro e w' ⟨rfl, rfl⟩; rw [Int.toNat_natCast, hmin]) | (go_at_call 41; refine (put_walk g sl (turn x n) n N v _ hN hn (turn_lt x n) h).mono ?_; rintro e w' ⟨rfl, hp⟩))
  go_ret
  exact ⟨rfl, hp⟩
set_option maxHeartbeats 400000 in
theorem code_bad (g x : Nat) (n : Int) (w : World) (hf : ¬ Fits x n) :
    Calls Try.prog 18 #[.pointer (some ⟨g, 0, none⟩), .int .u64 x, .int .i64 n] w fun e w' => e = .returned (.int .i64 2) ∧ w = w' := by
  go_enter Try.func18, Try.ntmps18
  go_wp2_with (go_at_call 40; refine (refused_bad g x n _ hf).mono ?_; rintro e w' ⟨rfl, rfl⟩)
  go_ret
  exact ⟨rfl, rfl⟩
set_option maxHeartbeats 400000 in
theorem code_nil (x : Nat) (n : Int) (w : World) :
    Calls Try.prog 18 #[.pointer none, .int .u64 x, .int .i64 n] w fun e w' => e = .returned (.int .i64 1) ∧ w = w' := by
  go_enter Try.func18, Try.ntmps18
  go_wp2_with (go_at_call 40; refine (refused_nil x n _).mono ?_; rintro e w' ⟨rfl, rfl⟩)
  go_ret
  exact ⟨rfl, rfl⟩

end Go.Proofs.Ytfeokjbmobmabaa
