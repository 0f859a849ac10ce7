/- Contracts of the reference's Wide, Bytes and Of: may a number be put; the bytes of bits; the bits of bytes. -/
import Derived.Test.YtfeokjbmobmabaaRefB
import Derived.Test.YtfeokjbmobmabaaWrF
import Derived.Test.YtfeokjbmobmabaaRdH
namespace Go.Proofs.Ytfeokjbmobmabaa
open Go.RowKit

set_option maxHeartbeats 400000 in
theorem wideR_ok (x n : Nat) (w : World) (hn : n ≤ 57) (hx : x < 2 ^ n) : Calls Try.prog 37 #[.int .u64 x, .int .i64 n] w fun e w' => e = .returned (.bool true) ∧ w = w' := by
  have hz : ((x : Int) / 2 ^ n == 0) = true := by rw [shr_zero x n hx]; rfl
  go_enter Try.func37, Try.ntmps37
  go_wp2
  go_ret
  exact ⟨rfl, rfl⟩
set_option maxHeartbeats 400000 in
theorem wideR_bad (x : Nat) (n : Int) (w : World) (hf : ¬ Fits x n) : Calls Try.prog 37 #[.int .u64 x, .int .i64 n] w fun e w' => e = .returned (.bool false) ∧ w = w' := by
  by_cases h0 : 0 ≤ n
  · obtain ⟨m, rfl⟩ := Int.eq_ofNat_of_zero_le h0
    by_cases h1 : m ≤ 57
    · have hx : 2 ^ m ≤ x := by
        unfold Fits at hf
        rw [Int.toNat_natCast] at hf
        omega
      have hz : ((x : Int) / 2 ^ m == 0) = false := by
        have := shr_pos x m hx
        simpa using this
      clear hf
      go_enter Try.func37, Try.ntmps37
      go_wp2
      go_ret
      exact ⟨rfl, rfl⟩
    · have h2 : ¬ ((m : Int) ≤ 57) := by omega
      have hd : decide ((m : Int) ≤ 57) = false := by simp; omega
      clear hf
      go_enter Try.func37, Try.ntmps37
      go_wp2
      go_ret
      exact ⟨rfl, rfl⟩
  · have hd : decide (0 ≤ n) = false := by simpa using h0
    clear hf
    go_enter Try.func37, Try.ntmps37
    go_wp2
    go_ret
    exact ⟨rfl, rfl⟩

theorem byte_of (v N k c : Nat) (hv : v < 2 ^ N) (hk : 8 * k < N) (hc : c = min 8 (N - 8 * k)) : v / 2 ^ (8 * k) % 2 ^ c = v / 256 ^ k % 256 := by
  rw [pow_256]
  by_cases h : 8 ≤ N - 8 * k
  · obtain rfl : c = 8 := by omega
    rfl
  · obtain rfl : c = N - 8 * k := by omega
    have h1 : v / 2 ^ (8 * k) < 2 ^ (N - 8 * k) := by
      rw [Nat.div_lt_iff_lt_mul (Nat.pow_pos (by omega)), ← Nat.pow_add, show N - 8 * k + 8 * k = N by omega]; exact hv
    have h2 : 2 ^ (N - 8 * k) ≤ 256 := Nat.pow_le_pow_right (n := 2) (j := 8) (by omega) (by omega)
    rw [Nat.mod_eq_of_lt h1, Nat.mod_eq_of_lt (by omega)]

set_option maxHeartbeats 1000000 in
theorem rbytes_some (b off cap N v : Nat) (w : World) (hN : N ≤ 1000000000) (hv : v < 2 ^ N) (hcap : N ≤ cap) (hsrc : Src w (some ⟨b, off, none⟩) (dig 2 v N)) :
    Calls Try.prog 15 #[.slice (some ⟨b, off, none⟩) N cap] w fun e w' => ∃ u, e = .returned u ∧ OwnI w' w.heap.size u (dig 256 v ((N + 7) / 8)) ∧ Below w.heap.size w w' := by
  go_enter Try.func15, Try.ntmps15
  go_wp2
  go_loopw [3, 4] (fun bv iv wr => ∃ k : Nat, k ≤ (N + 7) / 8 ∧ iv = .int .i64 ((8 * k : Nat) : Int) ∧ OwnI wr w.heap.size bv (dig 256 v k) ∧ Below w.heap.size w wr) (fun _ i _ => N + 8 - (intOf i).toNat)
  case atStart => exact ⟨0, Nat.zero_le _, rfl, OwnI.nil _ _, Below.refl _ _⟩
  case round =>
    obtain ⟨k, hk, rfl, ho, hb⟩ := hrel
    obtain ⟨t, ht⟩ : ∃ t, t = 8 * k := ⟨_, rfl⟩
    rw [← ht]
    by_cases hlt : t < N
    · obtain ⟨c, hc⟩ : ∃ c, c = min 8 (N - t) := ⟨_, rfl⟩
      have hbv := byte_of v N k c hv (by omega) (by omega)
      have hseg : Src wr (some ⟨b, off + t, none⟩) (dig 2 (v / 2 ^ t) c) := by
        have h1 := ((hsrc.below hb).drop t).take c
        rw [dig_drop 2 v N t (by omega), dig_take 2 _ _ _ (by omega)] at h1
        exact h1
      have hund : und 2 (dig 2 (v / 2 ^ t) c) = v / 256 ^ k % 256 := by rw [und_dig, ht]; exact hbv
      obtain ⟨Z, hZ⟩ : ∃ Z, Z = v / 256 ^ k % 256 := ⟨_, rfl⟩
      have hZ256 : Z < 256 := by omega
      have HC : Hid (∀ cc, Calls Try.prog 39 #[.slice (some ⟨b, off + t, none⟩) c cc] wr fun e w' => e = .returned (.int .u64 Z) ∧ wr = w') := by
        intro cc
        have := number_any (some ⟨b, off + t, none⟩) cc (dig 2 (v / 2 ^ t) c) wr (by rw [dig_length]; omega) (dig_bit _ _) hseg
        rw [hund, dig_length, ← hZ] at this
        exact this
      have hcap1 : ¬ cap = t := by omega
      have HD : Hid (dig 256 v (k + 1) = dig 256 v k ++ [(Z : Int)]) := by show _ = _; rw [dig_snoc, hZ]
      have HL : Hid ((dig 256 v k).length + ([(Z : Int)] : List Int).length ≤ 140737488355328) := by show _ ≤ _; rw [dig_length]; simp; omega
      have hwz : IntKind.u8.wrap (Z : Int) = (Z : Int) := by rw [IntKind.wrap_u8']; omega
      have HK : Hid (t = 8 * k ∧ c = min 8 (N - t)) := ⟨ht, hc⟩
      clear hbv hseg hund hZ hc ht
      by_cases h8 : t + 8 ≤ N
      · have hmin : ¬ ((N : Int) < (t : Int) + 8) := by omega
        obtain rfl : c = 8 := by have := HK.out; omega
        have hsub : t + 8 - t = 8 := by omega
        go_wp2_with (first | (go_at_call 39; refine (HC.out _).mono ?_; rintro e w' ⟨rfl, rfl⟩) | (at_builtin; refine wpList_append_i rfl (.tmp 11) (.tmp 22) rfl w.heap.size u3 (dig 256 v k) rfl (ho.alloc _) _ _ _ [(Z : Int)] rfl rfl (fun e => by cases e) (Rw.new 5 wr [(Z : Int)]).src HL.out (Nat.le_trans hb.size (by simp)) ?_; intro v2 w2 o2 g2 n2 b2))
        go_roundw
        case rel => exact ⟨k + 1, by have := HK.out; omega, by have := HK.out; rw [this.1]; go_num, by rw [HD.out]; exact o2, (hb.alloc hb.size _).trans b2⟩
        case measure => simp [intOf]; omega
      · have hmin : (N : Int) < (t : Int) + 8 := by omega
        have hsub : N - t = c := by have := HK.out; omega
        go_wp2_with (first | (go_at_call 39; refine (HC.out _).mono ?_; rintro e w' ⟨rfl, rfl⟩) | (at_builtin; refine wpList_append_i rfl (.tmp 11) (.tmp 22) rfl w.heap.size u3 (dig 256 v k) rfl (ho.alloc _) _ _ _ [(Z : Int)] rfl rfl (fun e => by cases e) (Rw.new 5 wr [(Z : Int)]).src HL.out (Nat.le_trans hb.size (by simp)) ?_; intro v2 w2 o2 g2 n2 b2))
        go_roundw
        case rel => exact ⟨k + 1, by have := HK.out; omega, by have := HK.out; rw [this.1]; go_num, by rw [HD.out]; exact o2, (hb.alloc hb.size _).trans b2⟩
        case measure => simp [intOf]; omega
    · have hkk : k = (N + 7) / 8 := by omega
      have HKK : Hid (k = (N + 7) / 8) := hkk
      clear hkk ht hk
      go_wp2
      go_ret
      exact ⟨_, rfl, by rw [← HKK.out]; exact ho, hb⟩

end Go.Proofs.Ytfeokjbmobmabaa
