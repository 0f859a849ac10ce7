/- Contracts of the reference's Bits, Number and Turned: a number's bits, the number of bits, bits in the other order. -/
import Derived.Test.YtfeokjbmobmabaaWorks
namespace Go.Proofs.Ytfeokjbmobmabaa
open Go.RowKit

/-- All are bits. -/
def Bit (l : List Int) : Prop := ∀ z ∈ l, 0 ≤ z ∧ z < ((2 : Nat) : Int)
theorem dig_bit (x n : Nat) : Bit (dig 2 x n) := dig_range 2 x n (by omega)
theorem Bit.take {l : List Int} (h : Bit l) (n : Nat) : Bit (l.take n) := fun z hz => h z (List.mem_of_mem_take hz)
theorem Bit.drop {l : List Int} (h : Bit l) (n : Nat) : Bit (l.drop n) := fun z hz => h z (List.mem_of_mem_drop hz)
theorem Bit.get {l : List Int} (h : Bit l) (i : Nat) : 0 ≤ l.getD i 0 ∧ l.getD i 0 ≤ 1 := by
  by_cases hi : i < l.length
  · rw [getD_lt _ _ _ hi]; have := h _ (List.getElem_mem hi); omega
  · rw [getD_ge _ _ _ (by omega)]; omega
theorem und_drop (l : List Int) (j : Nat) (hj : j < l.length) : und 2 (l.drop j) = (l.getD j 0).toNat + 2 * und 2 (l.drop (j + 1)) := by
  rw [List.drop_eq_getElem_cons hj, getD_lt _ _ _ hj, und]
theorem und_64 (l : List Int) (h : Bit l) (hl : l.length ≤ 64) : und 2 l < 18446744073709551616 :=
  Nat.lt_of_lt_of_le (und_lt 2 l h) (Nat.pow_le_pow_right (n := 2) (j := 64) (by omega) hl)

set_option maxHeartbeats 400000 in
theorem number_any (ao : Option Addr) (c : Nat) (l : List Int) (w : World) (hl : l.length ≤ 64) (hb : Bit l) (hsrc : Src w ao l) :
    Calls Try.prog 39 #[.slice ao l.length c] w fun e w' => e = .returned (.int .u64 (und 2 l)) ∧ w = w' := by
  go_enter Try.func39, Try.ntmps39
  go_wp2
  go_loop [3, 4] (fun x i => ∃ k : Nat, k ≤ l.length ∧ i = .int .i64 ((k : Int) - 1) ∧ x = .int .u64 (und 2 (l.drop k))) (fun _ i => (intOf i + 1).toNat)
  case atStart => exact ⟨l.length, Nat.le_refl _, rfl, by rw [List.drop_of_length_le (Nat.le_refl _)]; rfl⟩
  case round =>
    obtain ⟨k, hk, rfl, rfl⟩ := hrel
    by_cases hk0 : k = 0
    · subst hk0
      go_wp2
      go_ret
      exact ⟨rfl, rfl⟩
    · obtain ⟨j, rfl⟩ : ∃ j, k = j + 1 := ⟨k - 1, by omega⟩
      obtain ⟨b, off, rfl, hc⟩ := hsrc (by omega)
      have hcell := hc j (by omega)
      have hg := hb.get j
      obtain ⟨z, hz⟩ : ∃ z : Nat, (z : Int) = l.getD j 0 := ⟨(l.getD j 0).toNat, by omega⟩
      rw [← hz] at hcell
      have hs := und_drop l j (by omega)
      have h64 := und_64 (l.drop j) (hb.drop j) (by simp; omega)
      obtain ⟨X, hX⟩ : ∃ X, X = und 2 (l.drop (j + 1)) := ⟨_, rfl⟩
      rw [← hX] at hs ⊢
      have hz2 : z ≤ 1 := by omega
      have hsum : z + 2 * X < 18446744073709551616 := by omega
      have HS : Hid (und 2 (l.drop j) = 2 * X + z) := by show _ = _; omega
      have hwz : IntKind.u64.wrap (z : Int) = (z : Int) := by rw [IntKind.wrap_u64]; omega
      clear hs h64 hX hz hg hc
      go_wp2
      go_round
      case rel => exact ⟨j, by omega, by go_num, by rw [HS.out]; go_num⟩
      case measure => simp [intOf]

set_option maxHeartbeats 400000 in
theorem bits_any (x n : Nat) (w : World) (hx : x < 18446744073709551616) (hn : n ≤ 1000000) :
    Calls Try.prog 38 #[.int .u64 x, .int .i64 n] w fun e w' => ∃ v, e = .returned v ∧ OwnI w' w.heap.size v (dig 2 x n) ∧ Below w.heap.size w w' := by
  go_enter Try.func38, Try.ntmps38
  go_wp2
  go_loopw [0, 5, 6] (fun xv lv iv wr => ∃ k : Nat, k ≤ n ∧ iv = .int .i64 k ∧ xv = .int .u64 ((x / 2 ^ k : Nat) : Int) ∧ OwnI wr w.heap.size lv (dig 2 x k) ∧ Below w.heap.size w wr) (fun _ _ i _ => n - (intOf i).toNat)
  case atStart => exact ⟨0, Nat.zero_le _, rfl, by simp, OwnI.nil _ _, Below.refl _ _⟩
  case round =>
    obtain ⟨k, hk, rfl, rfl, ho, hb⟩ := hrel
    have hx2 : x / 2 ^ k < 18446744073709551616 := Nat.lt_of_le_of_lt (Nat.div_le_self _ _) hx
    have HX : Hid (((x / 2 ^ (k + 1) : Nat) : Int) = ((x / 2 ^ k : Nat) : Int) / 2) := by show _ = _; rw [Nat.pow_succ, ← Nat.div_div_eq_div_mul]; omega
    have HD : Hid (dig 2 x (k + 1) = dig 2 x k ++ [((x / 2 ^ k % 2 : Nat) : Int)]) := dig_snoc _ _ _
    obtain ⟨X, hX⟩ : ∃ X, X = x / 2 ^ k := ⟨_, rfl⟩
    rw [← hX] at hx2 HX HD ⊢
    clear hX
    by_cases hkn : k < n
    · have HL : Hid ((dig 2 x k).length + ([(X : Int) % 2] : List Int).length ≤ 140737488355328) := by show _ ≤ _; rw [dig_length]; simp; omega
      have HX2 : Hid (((X % 2 : Nat) : Int) = (X : Int) % 2) := by show _ = _; omega
      go_wp2_with (at_builtin; refine wpList_append_i rfl (.tmp 12) (.tmp 16) rfl w.heap.size u5 (dig 2 x k) rfl (ho.alloc _) _ _ _ [(X : Int) % 2] rfl rfl (fun e => by cases e) (Rw.new 5 wr [(X : Int) % 2]).src HL.out (Nat.le_trans hb.size (by simp)) ?_; intro v2 w2 o2 g2 n2 b2)
      go_roundw
      case rel => exact ⟨k + 1, by omega, by go_num, by rw [HX.out], by rw [HD.out, HX2.out]; exact o2, (hb.alloc hb.size _).trans b2⟩
      case measure => simp [intOf]; omega
    · obtain rfl : k = n := by omega
      go_wp2
      go_ret
      exact ⟨_, rfl, ho, hb⟩
theorem rev_take (x n k : Nat) (h : k < n) : (dig 2 x n).reverse.take (n - k) = (dig 2 x n).reverse.take (n - (k + 1)) ++ [(dig 2 x n).getD k 0] := by
  have hl : (dig 2 x n).reverse.length = n := by rw [List.length_reverse, dig_length]
  obtain ⟨m, hm⟩ : ∃ m, n - k = m + 1 := ⟨n - k - 1, by omega⟩
  rw [hm, show n - (k + 1) = m by omega, List.take_add_one, List.getElem?_reverse (by rw [dig_length]; omega), dig_length, show n - 1 - m = k by omega]
  simp [List.getD, List.getElem?_eq_getElem (show k < (dig 2 x n).length by rw [dig_length]; omega)]

/-- Bits, its answer written out. -/
theorem bits_form (x n : Nat) (w : World) (hx : x < 18446744073709551616) (hn : n ≤ 1000000) :
    Calls Try.prog 38 #[.int .u64 x, .int .i64 n] w fun e w' => ∃ ao cap, e = .returned (.slice ao n cap) ∧ Src w' ao (dig 2 x n) ∧ (ao = none → cap = 0) ∧ (∀ b off, ao = some ⟨b, off, none⟩ → w.heap.size ≤ b) ∧ Below w.heap.size w w' := by
  refine (bits_any x n w hx hn).mono ?_
  rintro e w' ⟨v, rfl, o, b⟩
  have hlt := o.lt
  obtain ⟨ao, cap, rfl, hnil⟩ := o.slice
  rw [dig_length] at o hlt ⊢
  refine ⟨ao, cap, rfl, o.src.1, hnil, fun b' off e => ?_, b⟩
  rcases o with ⟨h, _⟩ | ⟨g, c2, tl, h, hg, _⟩
  · injection h with h1 h2 h3; rw [e] at h1; cases h1
  · injection h with h1 h2 h3; rw [e] at h1; cases h1; exact hg

set_option maxHeartbeats 1000000 in
theorem rturned_mid (x n : Nat) (w : World) (hx : x < 18446744073709551616) (hn : n ≤ 64) (h0 : 0 < n) :
    Calls Try.prog 31 #[.int .u64 x, .int .i64 n] w fun e w' => e = .returned (.int .u64 (turn x n)) ∧ Below w.heap.size w w' := by
  go_enter Try.func31, Try.ntmps31
  go_wp2_with fail
  refine (bits_form x n _ hx (by omega)).mono ?_
  rintro e w1 ⟨ao, cap, rfl, hsrc, hnil, hao, b1⟩
  clear hnil
  go_wp2_with fail
  go_loopw [6, 7] (fun tv iv wr => ∃ k : Nat, k ≤ n ∧ iv = .int .i64 ((k : Int) - 1) ∧ OwnI wr w1.heap.size tv ((dig 2 x n).reverse.take (n - k)) ∧ Below w1.heap.size w1 wr) (fun _ i _ => (intOf i + 1).toNat)
  case atStart => exact ⟨n, Nat.le_refl _, rfl, by simpa using OwnI.nil _ _, Below.refl _ _⟩
  case round =>
    obtain ⟨k, hk, rfl, ho, hb⟩ := hrel
    by_cases hk0 : k = 0
    · subst hk0
      obtain ⟨ao2, cap2, rfl, hnil2⟩ := ho.slice
      obtain ⟨hs2, _⟩ := ho.src
      have hl2 : ((dig 2 x n).reverse.take (n - 0)).length = n := by simp [dig_length]
      have HU : Hid (und 2 ((dig 2 x n).reverse.take (n - 0)) = turn x n) := by
        show _ = _
        rw [Nat.sub_zero, List.take_of_length_le (by rw [List.length_reverse, dig_length]; exact Nat.le_refl _), turn_und]
      have HC := number_any ao2 cap2 ((dig 2 x n).reverse.take (n - 0)) wr (by rw [hl2]; omega) (fun z hz => dig_bit x n z (List.mem_reverse.1 (List.mem_of_mem_take hz))) hs2
      rw [HU.out] at HC
      rw [hl2] at HC ⊢
      clear hs2 hl2 ho hnil2 hsrc
      go_wp2_with (go_at_call 39; refine HC.mono ?_; rintro e w' ⟨rfl, rfl⟩)
      go_ret
      exact ⟨rfl, b1.trans (hb.mono b1.size)⟩
    · obtain ⟨j, rfl⟩ : ∃ j, k = j + 1 := ⟨k - 1, by omega⟩
      have hsr := hsrc.below hb
      obtain ⟨b, off, rfl, hc⟩ := hsr (by rw [dig_length]; omega)
      have hcell := hc j (by rw [dig_length]; omega)
      have HR : Hid ((dig 2 x n).reverse.take (n - j) = (dig 2 x n).reverse.take (n - (j + 1)) ++ [(dig 2 x n).getD j 0]) := rev_take x n j (by omega)
      have HL : Hid (((dig 2 x n).reverse.take (n - (j + 1))).length + ([(dig 2 x n).getD j 0] : List Int).length ≤ 140737488355328) := by show _ ≤ _; simp [dig_length]; omega
      obtain ⟨z, hz⟩ : ∃ z, z = (dig 2 x n).getD j 0 := ⟨_, rfl⟩
      rw [← hz] at hcell HR HL
      obtain ⟨T, hT⟩ : ∃ T, T = (dig 2 x n).reverse.take (n - (j + 1)) := ⟨_, rfl⟩
      rw [← hT] at HR HL ho
      clear hc hz hsr hT
      go_wp2_with (at_builtin; refine wpList_append_i rfl (.tmp 20) (.tmp 25) rfl w1.heap.size u6 T rfl (ho.alloc _) _ _ _ [z] rfl rfl (fun e => by cases e) (Rw.new 5 wr [z]).src HL.out (Nat.le_trans hb.size (by simp)) ?_; intro v2 w2 o2 g2 n2 b2)
      go_roundw
      case rel => exact ⟨j, by omega, by go_num, by rw [HR.out]; exact o2, (hb.alloc hb.size _).trans b2⟩
      case measure => simp [intOf]

set_option maxHeartbeats 1000000 in
theorem rturned_low (x : Nat) (n : Int) (w : World) (hx : x < 18446744073709551616) (hn : n ≤ 0) :
    Calls Try.prog 31 #[.int .u64 x, .int .i64 n] w fun e w' => e = .returned (.int .u64 (turn x 0)) ∧ Below w.heap.size w w' := by
  go_enter Try.func31, Try.ntmps31
  go_wp2_with fail
  refine (bits_form x 0 _ hx (by omega)).mono ?_
  rintro e w1 ⟨ao, cap, rfl, hsrc, hnil, hao, b1⟩
  clear hnil
  go_wp2_with fail
  go_loopw [6, 7] (fun tv iv wr => ∃ k : Nat, k ≤ 0 ∧ iv = .int .i64 ((k : Int) - 1) ∧ OwnI wr w1.heap.size tv ((dig 2 x 0).reverse.take (0 - k)) ∧ Below w1.heap.size w1 wr) (fun _ i _ => (intOf i + 1).toNat)
  case atStart => exact ⟨0, Nat.le_refl _, rfl, by simpa using OwnI.nil _ _, Below.refl _ _⟩
  case round =>
    obtain ⟨k, hk, rfl, ho, hb⟩ := hrel
    by_cases hk0 : k = 0
    · subst hk0
      obtain ⟨ao2, cap2, rfl, hnil2⟩ := ho.slice
      obtain ⟨hs2, _⟩ := ho.src
      have hl2 : ((dig 2 x 0).reverse.take (0 - 0)).length = 0 := by simp
      have HU : Hid (und 2 ((dig 2 x 0).reverse.take (0 - 0)) = turn x 0) := by
        show _ = _
        rw [Nat.sub_zero, List.take_of_length_le (by rw [List.length_reverse, dig_length]; exact Nat.le_refl _), turn_und]
      have HC := number_any ao2 cap2 ((dig 2 x 0).reverse.take (0 - 0)) wr (by rw [hl2]; omega) (fun z hz => dig_bit x 0 z (List.mem_reverse.1 (List.mem_of_mem_take hz))) hs2
      rw [HU.out] at HC
      rw [hl2] at HC ⊢
      clear hs2 hl2 ho hnil2 hsrc
      go_wp2_with (go_at_call 39; refine HC.mono ?_; rintro e w' ⟨rfl, rfl⟩)
      go_ret
      exact ⟨rfl, b1.trans (hb.mono b1.size)⟩
    · omega

set_option maxHeartbeats 1000000 in
theorem rturned_high (x : Nat) (n : Int) (w : World) (hx : x < 18446744073709551616) (hn : 64 < n) :
    Calls Try.prog 31 #[.int .u64 x, .int .i64 n] w fun e w' => e = .returned (.int .u64 (turn x 64)) ∧ Below w.heap.size w w' := by
  go_enter Try.func31, Try.ntmps31
  go_wp2_with fail
  refine (bits_form x 64 _ hx (by omega)).mono ?_
  rintro e w1 ⟨ao, cap, rfl, hsrc, hnil, hao, b1⟩
  clear hnil
  go_wp2_with fail
  go_loopw [6, 7] (fun tv iv wr => ∃ k : Nat, k ≤ 64 ∧ iv = .int .i64 ((k : Int) - 1) ∧ OwnI wr w1.heap.size tv ((dig 2 x 64).reverse.take (64 - k)) ∧ Below w1.heap.size w1 wr) (fun _ i _ => (intOf i + 1).toNat)
  case atStart => exact ⟨64, Nat.le_refl _, rfl, by simpa using OwnI.nil _ _, Below.refl _ _⟩
  case round =>
    obtain ⟨k, hk, rfl, ho, hb⟩ := hrel
    by_cases hk0 : k = 0
    · subst hk0
      obtain ⟨ao2, cap2, rfl, hnil2⟩ := ho.slice
      obtain ⟨hs2, _⟩ := ho.src
      have hl2 : ((dig 2 x 64).reverse.take (64 - 0)).length = 64 := by simp [dig_length]
      have HU : Hid (und 2 ((dig 2 x 64).reverse.take (64 - 0)) = turn x 64) := by
        show _ = _
        rw [Nat.sub_zero, List.take_of_length_le (by rw [List.length_reverse, dig_length]; exact Nat.le_refl _), turn_und]
      have HC := number_any ao2 cap2 ((dig 2 x 64).reverse.take (64 - 0)) wr (by rw [hl2]; omega) (fun z hz => dig_bit x 64 z (List.mem_reverse.1 (List.mem_of_mem_take hz))) hs2
      rw [HU.out] at HC
      rw [hl2] at HC ⊢
      clear hs2 hl2 ho hnil2 hsrc
      go_wp2_with (go_at_call 39; refine HC.mono ?_; rintro e w' ⟨rfl, rfl⟩)
      go_ret
      exact ⟨rfl, b1.trans (hb.mono b1.size)⟩
    · obtain ⟨j, rfl⟩ : ∃ j, k = j + 1 := ⟨k - 1, by omega⟩
      have hsr := hsrc.below hb
      obtain ⟨b, off, rfl, hc⟩ := hsr (by rw [dig_length]; omega)
      have hcell := hc j (by rw [dig_length]; omega)
      have HR : Hid ((dig 2 x 64).reverse.take (64 - j) = (dig 2 x 64).reverse.take (64 - (j + 1)) ++ [(dig 2 x 64).getD j 0]) := rev_take x 64 j (by omega)
      have HL : Hid (((dig 2 x 64).reverse.take (64 - (j + 1))).length + ([(dig 2 x 64).getD j 0] : List Int).length ≤ 140737488355328) := by show _ ≤ _; simp [dig_length]; omega
      obtain ⟨z, hz⟩ : ∃ z, z = (dig 2 x 64).getD j 0 := ⟨_, rfl⟩
      rw [← hz] at hcell HR HL
      obtain ⟨T, hT⟩ : ∃ T, T = (dig 2 x 64).reverse.take (64 - (j + 1)) := ⟨_, rfl⟩
      rw [← hT] at HR HL ho
      clear hc hz hsr hT
      go_wp2_with (at_builtin; refine wpList_append_i rfl (.tmp 20) (.tmp 25) rfl w1.heap.size u6 T rfl (ho.alloc _) _ _ _ [z] rfl rfl (fun e => by cases e) (Rw.new 5 wr [z]).src HL.out (Nat.le_trans hb.size (by simp)) ?_; intro v2 w2 o2 g2 n2 b2)
      go_roundw
      case rel => exact ⟨j, by omega, by go_num, by rw [HR.out]; exact o2, (hb.alloc hb.size _).trans b2⟩
      case measure => simp [intOf]

/-- The reference's Turned, of any count. -/
theorem rturned_any (x : Nat) (n : Int) (w : World) (hx : x < 18446744073709551616) :
    Calls Try.prog 31 #[.int .u64 x, .int .i64 n] w fun e w' => e = .returned (.int .u64 (turn x (min n.toNat 64))) ∧ Below w.heap.size w w' := by
  by_cases h0 : n ≤ 0
  · rw [show min n.toNat 64 = 0 by omega]; exact rturned_low x n w hx h0
  · by_cases h1 : 64 < n
    · rw [show min n.toNat 64 = 64 by omega]; exact rturned_high x n w hx h1
    · obtain ⟨m, rfl⟩ := Int.eq_ofNat_of_zero_le (show 0 ≤ n by omega)
      rw [Int.toNat_natCast, show min m 64 = m by omega]
      exact rturned_mid x m w hx (by omega) (by omega)
end Go.Proofs.Ytfeokjbmobmabaa
