/- Contracts of bits.Turned and of the library's Reverse64, of wide, num and same: what each answers; nothing in memory turns. -/
import Derived.Test.YtfeokjbmobmabaaOwnI
namespace Go.Proofs.Ytfeokjbmobmabaa
open Go.RowKit

theorem shr_int (x s : Nat) (c : Int) (hc : c = ((2 ^ s : Nat) : Int)) : (x : Int) / c = ((x >>> s : Nat) : Int) := by
  rw [hc, Nat.shiftRight_eq_div_pow]; exact (Int.natCast_ediv x (2 ^ s)).symm
/-- One exchange of neighbours, as the walk spells it. -/
theorem sw_int (s m x : Nat) (c d : Int) (hx : x < 18446744073709551616) (hm : m <<< s < 18446744073709551616) (hc : c = ((2 ^ s : Nat) : Int)) (hd : d = (m : Int)) :
    bits .or .u64 (bits .and .u64 ((x : Int) / c) d) (IntKind.u64.wrap (bits .and .u64 (x : Int) d * c)) = ((sw s m x : Nat) : Int) := by
  have hp : 0 < 2 ^ s := Nat.pow_pos (by omega)
  have hm0 : m < 18446744073709551616 := by
    rw [Nat.shiftLeft_eq] at hm
    exact Nat.lt_of_le_of_lt (Nat.le_mul_of_pos_right _ hp) hm
  have h1 : x >>> s < 18446744073709551616 := by rw [Nat.shiftRight_eq_div_pow]; exact Nat.lt_of_le_of_lt (Nat.div_le_self _ _) hx
  have h2 : (x &&& m) <<< s < 18446744073709551616 := by
    rw [Nat.shiftLeft_eq] at hm ⊢
    exact Nat.lt_of_le_of_lt (Nat.mul_le_mul_right _ Nat.and_le_right) hm
  have h3 : x >>> s &&& m < 18446744073709551616 := Nat.lt_of_le_of_lt Nat.and_le_right hm0
  subst hd
  rw [shr_int x s c hc, u64_and_nat _ _ h1 hm0, u64_and_nat _ _ hx hm0, hc, ← Int.natCast_mul, ← Nat.shiftLeft_eq]
  unfold sw
  generalize (x &&& m) <<< s = q at h2 ⊢
  rw [IntKind.wrap_u64, Int.emod_eq_of_lt (by omega) (by omega), u64_or_nat _ _ h3 h2]
theorem end_int (y : Nat) (hy : y < 18446744073709551616) : bits .or .u64 ((y : Int) / 4294967296) (IntKind.u64.wrap ((y : Int) * 4294967296)) = ((y >>> 32 ||| (y * 2 ^ 32 % 2 ^ 64) : Nat) : Int) := by
  have h1 : y >>> 32 < 18446744073709551616 := by rw [Nat.shiftRight_eq_div_pow]; exact Nat.lt_of_le_of_lt (Nat.div_le_self _ _) hy
  have h2 : y * 2 ^ 32 % 2 ^ 64 < 18446744073709551616 := Nat.mod_lt _ (by decide)
  rw [shr_int y 32 _ (by decide), IntKind.wrap_u64, show ((y : Int) * 4294967296) % 18446744073709551616 = ((y * 2 ^ 32 % 2 ^ 64 : Nat) : Int) by omega, u64_or_nat _ _ h1 h2]

def revb (x : Nat) : Nat :=
  let y := sw 16 281470681808895 (sw 8 71777214294589695 x)
  (y >>> 32) ||| (y * 2 ^ 32 % 2 ^ 64)
theorem rev_revb (x : Nat) : rev x = revb (sw 4 1085102592571150095 (sw 2 3689348814741910323 (sw 1 6148914691236517205 x))) := rfl

set_option maxHeartbeats 400000 in
theorem revb_any (x : Nat) (w : World) (hx : x < 18446744073709551616) :
    Calls Try.prog 51 #[.int .u64 x] w fun e w' => e = .returned (.int .u64 (revb x)) ∧ w = w' := by
  have e1 := sw_int 8 71777214294589695 x 256 71777214294589695 hx (by decide) (by decide) rfl
  have e2 := sw_int 16 281470681808895 (sw 8 71777214294589695 x) 65536 281470681808895 (sw_lt _ _ _ (by decide)) (by decide) (by decide) rfl
  have e3 := end_int (sw 16 281470681808895 (sw 8 71777214294589695 x)) (sw_lt _ _ _ (by decide))
  go_enter Try.func51, Try.ntmps51
  go_wp2
  go_ret
  exact ⟨rfl, rfl⟩

set_option maxHeartbeats 400000 in
theorem rev_any (x : Nat) (w : World) (hx : x < 18446744073709551616) :
    Calls Try.prog 48 #[.int .u64 x] w fun e w' => e = .returned (.int .u64 (rev x)) ∧ w = w' := by
  have e1 := sw_int 1 6148914691236517205 x 2 6148914691236517205 hx (by decide) (by decide) rfl
  have e2 := sw_int 2 3689348814741910323 (sw 1 6148914691236517205 x) 4 3689348814741910323 (sw_lt _ _ _ (by decide)) (by decide) (by decide) rfl
  have e3 := sw_int 4 1085102592571150095 (sw 2 3689348814741910323 (sw 1 6148914691236517205 x)) 16 1085102592571150095 (sw_lt _ _ _ (by decide)) (by decide) (by decide) rfl
  go_enter Try.func48, Try.ntmps48
  go_wp2_with fail
  refine (revb_any _ _ (sw_lt _ _ _ (by decide))).mono ?_
  rintro e w' ⟨rfl, rfl⟩
  clear e1 e2 e3
  go_wp2
  go_ret
  exact ⟨rfl, rfl⟩

theorem turn_int (x m : Nat) (h : m ≤ 64) : ((rev x : Nat) : Int) / 2 ^ (64 - m) = ((turn x m : Nat) : Int) := by
  rw [← rev_turn x m h, Int.natCast_ediv, Int.natCast_pow]; rfl
set_option maxHeartbeats 400000 in
theorem turned_any (x : Nat) (n : Int) (w : World) (hx : x < 18446744073709551616) :
    Calls Try.prog 30 #[.int .u64 x, .int .i64 n] w fun e w' => e = .returned (.int .u64 (turn x (min n.toNat 64))) ∧ w = w' := by
  by_cases h0 : n < 0
  · have e : ((rev x : Nat) : Int) / 18446744073709551616 = ((turn x (min n.toNat 64) : Nat) : Int) := by
      have := rev_lt x
      rw [show min n.toNat 64 = 0 by omega]
      simp only [turn]
      omega
    go_enter Try.func30, Try.ntmps30
    go_wp2_with (go_at_call 48; refine (rev_any x _ hx).mono ?_; rintro e w' ⟨rfl, rfl⟩)
    go_ret
    exact ⟨rfl, rfl⟩
  · obtain ⟨m, rfl⟩ := Int.eq_ofNat_of_zero_le (show 0 ≤ n by omega)
    rw [Int.toNat_natCast]
    by_cases h1 : 64 < m
    · have e : Hid (((rev x : Nat) : Int) = ((turn x (min m 64) : Nat) : Int)) := by
        show _ = _
        rw [show min m 64 = 64 by omega, ← rev_turn x 64 (by omega)]; simp
      go_enter Try.func30, Try.ntmps30
      go_wp2_with (go_at_call 48; refine (rev_any x _ hx).mono ?_; rintro e w' ⟨rfl, rfl⟩)
      go_ret
      exact ⟨ret_int e.out, rfl⟩
    · have e := turn_int x m (by omega)
      rw [show min m 64 = m by omega]
      go_enter Try.func30, Try.ntmps30
      go_wp2_with (go_at_call 48; refine (rev_any x _ hx).mono ?_; rintro e w' ⟨rfl, rfl⟩)
      go_ret
      exact ⟨rfl, rfl⟩

set_option maxHeartbeats 400000 in
theorem wide_any (n : Int) (w : World) : Calls Try.prog 46 #[.int .i64 n] w fun e w' => e = .returned (.bool (decide (0 ≤ n ∧ n ≤ 57))) ∧ w = w' := by
  by_cases h : 0 ≤ n
  · go_enter Try.func46, Try.ntmps46
    go_wp2
    go_ret
    exact ⟨ret_bool (by simp [h]), rfl⟩
  · go_enter Try.func46, Try.ntmps46
    go_wp2
    go_ret
    exact ⟨ret_bool (by simp; omega), rfl⟩

set_option maxHeartbeats 400000 in
theorem same_any (ao bo : Option Addr) (c d : Nat) (xs ys : List Int) (w : World) (hx : Src w ao xs) (hy : Src w bo ys) :
    Calls Try.prog 13 #[.slice ao xs.length c, .slice bo ys.length d] w fun e w' => e = .returned (.bool ((strOfNums xs).toList == (strOfNums ys).toList)) ∧ w = w' := by
  have c1 := cv (c := c) rfl hx
  have c2 := cv (c := d) rfl hy
  go_enter Try.func13, Try.ntmps13
  go_wp2
  go_ret
  exact ⟨rfl, rfl⟩
/-- The same bytes are told to be the same. -/
theorem same_eq (ao bo : Option Addr) (c d n : Nat) (xs : List Int) (w : World) (hn : xs.length = n) (hx : Src w ao xs) (hy : Src w bo xs) :
    Calls Try.prog 13 #[.slice ao n c, .slice bo n d] w fun e w' => e = .returned (.bool true) ∧ w = w' := by
  subst hn
  refine (same_any ao bo c d xs xs w hx hy).mono ?_
  rintro e w' ⟨rfl, rfl⟩
  exact ⟨ret_bool (by simp), rfl⟩

theorem Src.hp {w : World} {ao : Option Addr} {xs : List Int} (h : Src w ao xs) : Hid (0 < xs.length → ∃ ad, ao = some ad ∧ ∀ j, j < xs.length → w.cell? (ad.add j) = some (.int .u8 (xs.getD j 0))) := by
  intro hp
  obtain ⟨b, off, e, hc⟩ := h hp
  exact ⟨_, e, fun j hj => by rw [add_o]; exact hc j hj⟩
set_option maxHeartbeats 400000 in
/-- kept: a copy, in memory of its own. -/
theorem kept_any (ao : Option Addr) (c : Nat) (xs : List Int) (w : World) (hl : xs.length ≤ 140737488355328) (hx : Src w ao xs) :
    Calls Try.prog 36 #[.slice ao xs.length c] w fun e w' => e = .returned (.slice (some ⟨w.heap.size, 0, none⟩) xs.length xs.length) ∧ Rw 5 w' w.heap.size xs ∧ Below w.heap.size w w' := by
  have HM : Hid (xs.length = Nat.min xs.length xs.length) := (Nat.min_self _).symm
  have HF : Hid (0 + xs.length ≤ (List.replicate xs.length (0 : Int)).length) := by show _ ≤ _; simp
  have HSP : Hid (splice (List.replicate xs.length (0 : Int)) 0 xs = xs) := by show _ = _; simp [splice]
  go_enter Try.func36, Try.ntmps36
  go_wp2_with (first | (at_make; refine wpList_make_rw rfl (.tmp 5) (.tmp 5) rfl xs.length rfl rfl hl ?_; intro w1 r1 b1; have HP := (hx.below b1).hp) | (refine wpList_copy_rw rfl (.tmp 7) (.tmp 8) 26 26 rfl 5 Try.underlying26 info5 _ _ _ _ _ _ rfl rfl w.heap.size 0 5 _ xs r1 HM.out (fun h => ⟨rfl, HP.out h⟩) HF.out ?_; intro w2 r2 g2; rw [HSP.out] at r2))
  go_ret
  exact ⟨rfl, r2, b1.trans (below_of_grown g2 _ b1.size (by intro k hk; cases hk; exact Nat.le_refl _))⟩

theorem num_any (n : Int) (w : World) : Calls Try.prog 16 #[.int .i64 n] w fun e w' => e = .returned (.int .i64 n) ∧ w = w' := by
  go_enter Try.func16, Try.ntmps16
  go_wp2
  go_ret
  exact ⟨rfl, rfl⟩

end Go.Proofs.Ytfeokjbmobmabaa
