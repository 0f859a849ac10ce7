/- Contracts of the reference's Of, and of its Bytes for whatever bits. -/
import Derived.Test.YthpocbpleffdpaaBzWorks
import Derived.Test.YthpocbpleffdpaaXbX
namespace Go.Proofs.Ythpocbpleffdpaa.Bz
open Go.RowKit

/-- All are bits. -/
def Bit (l : List Int) : Prop := ∀ z ∈ l, 0 ≤ z ∧ z < ((2 : Nat) : Int)
theorem dig_bit (x n : Nat) : Bit (dig 2 x n) := dig_range 2 x n (by omega)
theorem Bit.take {l : List Int} (h : Bit l) (n : Nat) : Bit (l.take n) := fun z hz => h z (List.mem_of_mem_take hz)
theorem Bit.drop {l : List Int} (h : Bit l) (n : Nat) : Bit (l.drop n) := fun z hz => h z (List.mem_of_mem_drop hz)
theorem Bit.get {l : List Int} (h : Bit l) (i : Nat) : 0 ≤ l.getD i 0 ∧ l.getD i 0 ≤ 1 := by
  by_cases hi : i < l.length
  · rw [getD_lt _ _ _ hi]; have := h _ (List.getElem_mem hi); omega
  · rw [getD_ge _ _ _ (by omega)]; omega
theorem und_drop (l : List Int) (j : Nat) (hj : j < l.length) : und 2 (l.drop j) = (l.getD j 0).toNat + 2 * und 2 (l.drop (j + 1)) := by
  rw [List.drop_eq_getElem_cons hj, getD_lt _ _ _ hj, und]
theorem und_64 (l : List Int) (h : Bit l) (hl : l.length ≤ 64) : und 2 l < 18446744073709551616 :=
  Nat.lt_of_lt_of_le (und_lt 2 l h) (Nat.pow_le_pow_right (n := 2) (j := 64) (by omega) hl)

set_option maxHeartbeats 400000 in
theorem number_any (ao : Option Addr) (c : Nat) (l : List Int) (w : World) (hl : l.length ≤ 64) (hb : Bit l) (hsrc : Src w ao l) :
    Calls Try.prog 63 #[.slice ao l.length c] w fun e w' => e = .returned (.int .u64 (und 2 l)) ∧ w = w' := by
  go_enter Try.func63, Try.ntmps63
  go_wp2
  go_loop [3, 4] (fun x i => ∃ k : Nat, k ≤ l.length ∧ i = .int .i64 ((k : Int) - 1) ∧ x = .int .u64 (und 2 (l.drop k))) (fun _ i => (intOf i + 1).toNat)
  case atStart => exact ⟨l.length, Nat.le_refl _, rfl, by rw [List.drop_of_length_le (Nat.le_refl _)]; rfl⟩
  case round =>
    obtain ⟨k, hk, rfl, rfl⟩ := hrel
    by_cases hk0 : k = 0
    · subst hk0
      go_wp2
      go_ret
      exact ⟨rfl, rfl⟩
    · obtain ⟨j, rfl⟩ : ∃ j, k = j + 1 := ⟨k - 1, by omega⟩
      obtain ⟨b, off, rfl, hc⟩ := hsrc (by omega)
      have hcell := hc j (by omega)
      have hg := hb.get j
      obtain ⟨z, hz⟩ : ∃ z : Nat, (z : Int) = l.getD j 0 := ⟨(l.getD j 0).toNat, by omega⟩
      rw [← hz] at hcell
      have hs := und_drop l j (by omega)
      have h64 := und_64 (l.drop j) (hb.drop j) (by simp; omega)
      obtain ⟨X, hX⟩ : ∃ X, X = und 2 (l.drop (j + 1)) := ⟨_, rfl⟩
      rw [← hX] at hs ⊢
      have hz2 : z ≤ 1 := by omega
      have hsum : z + 2 * X < 18446744073709551616 := by omega
      have HS : Hid (und 2 (l.drop j) = 2 * X + z) := by show _ = _; omega
      have hwz : IntKind.u64.wrap (z : Int) = (z : Int) := by rw [IntKind.wrap_u64]; omega
      clear hs h64 hX hz hg hc
      go_wp2
      go_round
      case rel => exact ⟨j, by omega, by go_num, by rw [HS.out]; go_num⟩
      case measure => simp [intOf]

set_option maxHeartbeats 400000 in
theorem bits_any (x n : Nat) (w : World) (hx : x < 18446744073709551616) (hn : n ≤ 1000000) :
    Calls Try.prog 61 #[.int .u64 x, .int .i64 n] w fun e w' => ∃ v, e = .returned v ∧ OwnI w' w.heap.size v (dig 2 x n) ∧ Below w.heap.size w w' := by
  go_enter Try.func61, Try.ntmps61
  go_wp2
  go_loopw [0, 5, 6] (fun xv lv iv wr => ∃ k : Nat, k ≤ n ∧ iv = .int .i64 k ∧ xv = .int .u64 ((x / 2 ^ k : Nat) : Int) ∧ OwnI wr w.heap.size lv (dig 2 x k) ∧ Below w.heap.size w wr) (fun _ _ i _ => n - (intOf i).toNat)
  case atStart => exact ⟨0, Nat.zero_le _, rfl, by simp, OwnI.nil _ _, Below.refl _ _⟩
  case round =>
    obtain ⟨k, hk, rfl, rfl, ho, hb⟩ := hrel
    have hx2 : x / 2 ^ k < 18446744073709551616 := Nat.lt_of_le_of_lt (Nat.div_le_self _ _) hx
    have HX : Hid (((x / 2 ^ (k + 1) : Nat) : Int) = ((x / 2 ^ k : Nat) : Int) / 2) := by show _ = _; rw [Nat.pow_succ, ← Nat.div_div_eq_div_mul]; omega
    have HD : Hid (dig 2 x (k + 1) = dig 2 x k ++ [((x / 2 ^ k % 2 : Nat) : Int)]) := dig_snoc _ _ _
    obtain ⟨X, hX⟩ : ∃ X, X = x / 2 ^ k := ⟨_, rfl⟩
    rw [← hX] at hx2 HX HD ⊢
    clear hX
    by_cases hkn : k < n
    · have HL : Hid ((dig 2 x k).length + ([(X : Int) % 2] : List Int).length ≤ 140737488355328) := by show _ ≤ _; rw [dig_length]; simp; omega
      have HX2 : Hid (((X % 2 : Nat) : Int) = (X : Int) % 2) := by show _ = _; omega
      go_wp2_with (at_builtin; refine wpList_append_i rfl (.tmp 12) (.tmp 16) rfl w.heap.size u5 (dig 2 x k) rfl (ho.alloc _) _ _ _ [(X : Int) % 2] rfl rfl (fun e => by cases e) (Rw.new 5 wr [(X : Int) % 2]).src HL.out (Nat.le_trans hb.size (by simp)) ?_; intro v2 w2 o2 g2 n2 b2)
      go_roundw
      case rel => exact ⟨k + 1, by omega, by go_num, by rw [HX.out], by rw [HD.out, HX2.out]; exact o2, (hb.alloc hb.size _).trans b2⟩
      case measure => simp [intOf]; omega
    · obtain rfl : k = n := by omega
      go_wp2
      go_ret
      exact ⟨_, rfl, ho, hb⟩
theorem rev_take (x n k : Nat) (h : k < n) : (dig 2 x n).reverse.take (n - k) = (dig 2 x n).reverse.take (n - (k + 1)) ++ [(dig 2 x n).getD k 0] := by
  have hl : (dig 2 x n).reverse.length = n := by rw [List.length_reverse, dig_length]
  obtain ⟨m, hm⟩ : ∃ m, n - k = m + 1 := ⟨n - k - 1, by omega⟩
  rw [hm, show n - (k + 1) = m by omega, List.take_add_one, List.getElem?_reverse (by rw [dig_length]; omega), dig_length, show n - 1 - m = k by omega]
  simp [List.getD, List.getElem?_eq_getElem (show k < (dig 2 x n).length by rw [dig_length]; omega)]

/-- Bits, its answer written out. -/
theorem bits_form (x n : Nat) (w : World) (hx : x < 18446744073709551616) (hn : n ≤ 1000000) :
    Calls Try.prog 61 #[.int .u64 x, .int .i64 n] w fun e w' => ∃ ao cap, e = .returned (.slice ao n cap) ∧ Src w' ao (dig 2 x n) ∧ (ao = none → cap = 0) ∧ (∀ b off, ao = some ⟨b, off, none⟩ → w.heap.size ≤ b) ∧ Below w.heap.size w w' := by
  refine (bits_any x n w hx hn).mono ?_
  rintro e w' ⟨v, rfl, o, b⟩
  have hlt := o.lt
  obtain ⟨ao, cap, rfl, hnil⟩ := o.slice
  rw [dig_length] at o hlt ⊢
  refine ⟨ao, cap, rfl, o.src.1, hnil, fun b' off e => ?_, b⟩
  rcases o with ⟨h, _⟩ | ⟨g, c2, tl, h, hg, _⟩
  · injection h with h1 h2 h3; rw [e] at h1; cases h1
  · injection h with h1 h2 h3; rw [e] at h1; cases h1; exact hg

set_option maxHeartbeats 1000000 in
theorem rturned_mid (x n : Nat) (w : World) (hx : x < 18446744073709551616) (hn : n ≤ 64) (h0 : 0 < n) :
    Calls Try.prog 62 #[.int .u64 x, .int .i64 n] w fun e w' => e = .returned (.int .u64 (turn x n)) ∧ Below w.heap.size w w' := by
  go_enter Try.func62, Try.ntmps62
  go_wp2_with fail
  refine (bits_form x n _ hx (by omega)).mono ?_
  rintro e w1 ⟨ao, cap, rfl, hsrc, hnil, hao, b1⟩
  clear hnil
  go_wp2_with fail
  go_loopw [6, 7] (fun tv iv wr => ∃ k : Nat, k ≤ n ∧ iv = .int .i64 ((k : Int) - 1) ∧ OwnI wr w1.heap.size tv ((dig 2 x n).reverse.take (n - k)) ∧ Below w1.heap.size w1 wr) (fun _ i _ => (intOf i + 1).toNat)
  case atStart => exact ⟨n, Nat.le_refl _, rfl, by simpa using OwnI.nil _ _, Below.refl _ _⟩
  case round =>
    obtain ⟨k, hk, rfl, ho, hb⟩ := hrel
    by_cases hk0 : k = 0
    · subst hk0
      obtain ⟨ao2, cap2, rfl, hnil2⟩ := ho.slice
      obtain ⟨hs2, _⟩ := ho.src
      have hl2 : ((dig 2 x n).reverse.take (n - 0)).length = n := by simp [dig_length]
      have HU : Hid (und 2 ((dig 2 x n).reverse.take (n - 0)) = turn x n) := by
        show _ = _
        rw [Nat.sub_zero, List.take_of_length_le (by rw [List.length_reverse, dig_length]; exact Nat.le_refl _), turn_und]
      have HC := number_any ao2 cap2 ((dig 2 x n).reverse.take (n - 0)) wr (by rw [hl2]; omega) (fun z hz => dig_bit x n z (List.mem_reverse.1 (List.mem_of_mem_take hz))) hs2
      rw [HU.out] at HC
      rw [hl2] at HC ⊢
      clear hs2 hl2 ho hnil2 hsrc
      go_wp2_with (go_at_call 63; refine HC.mono ?_; rintro e w' ⟨rfl, rfl⟩)
      go_ret
      exact ⟨rfl, b1.trans (hb.mono b1.size)⟩
    · obtain ⟨j, rfl⟩ : ∃ j, k = j + 1 := ⟨k - 1, by omega⟩
      have hsr := hsrc.below hb
      obtain ⟨b, off, rfl, hc⟩ := hsr (by rw [dig_length]; omega)
      have hcell := hc j (by rw [dig_length]; omega)
      have HR : Hid ((dig 2 x n).reverse.take (n - j) = (dig 2 x n).reverse.take (n - (j + 1)) ++ [(dig 2 x n).getD j 0]) := rev_take x n j (by omega)
      have HL : Hid (((dig 2 x n).reverse.take (n - (j + 1))).length + ([(dig 2 x n).getD j 0] : List Int).length ≤ 140737488355328) := by show _ ≤ _; simp [dig_length]; omega
      obtain ⟨z, hz⟩ : ∃ z, z = (dig 2 x n).getD j 0 := ⟨_, rfl⟩
      rw [← hz] at hcell HR HL
      obtain ⟨T, hT⟩ : ∃ T, T = (dig 2 x n).reverse.take (n - (j + 1)) := ⟨_, rfl⟩
      rw [← hT] at HR HL ho
      clear hc hz hsr hT
      go_wp2_with (at_builtin; refine wpList_append_i rfl (.tmp 20) (.tmp 25) rfl w1.heap.size u6 T rfl (ho.alloc _) _ _ _ [z] rfl rfl (fun e => by cases e) (Rw.new 5 wr [z]).src HL.out (Nat.le_trans hb.size (by simp)) ?_; intro v2 w2 o2 g2 n2 b2)
      go_roundw
      case rel => exact ⟨j, by omega, by go_num, by rw [HR.out]; exact o2, (hb.alloc hb.size _).trans b2⟩
      case measure => simp [intOf]

set_option maxHeartbeats 1000000 in
theorem rturned_low (x : Nat) (n : Int) (w : World) (hx : x < 18446744073709551616) (hn : n ≤ 0) :
    Calls Try.prog 62 #[.int .u64 x, .int .i64 n] w fun e w' => e = .returned (.int .u64 (turn x 0)) ∧ Below w.heap.size w w' := by
  go_enter Try.func62, Try.ntmps62
  go_wp2_with fail
  refine (bits_form x 0 _ hx (by omega)).mono ?_
  rintro e w1 ⟨ao, cap, rfl, hsrc, hnil, hao, b1⟩
  clear hnil
  go_wp2_with fail
  go_loopw [6, 7] (fun tv iv wr => ∃ k : Nat, k ≤ 0 ∧ iv = .int .i64 ((k : Int) - 1) ∧ OwnI wr w1.heap.size tv ((dig 2 x 0).reverse.take (0 - k)) ∧ Below w1.heap.size w1 wr) (fun _ i _ => (intOf i + 1).toNat)
  case atStart => exact ⟨0, Nat.le_refl _, rfl, by simpa using OwnI.nil _ _, Below.refl _ _⟩
  case round =>
    obtain ⟨k, hk, rfl, ho, hb⟩ := hrel
    by_cases hk0 : k = 0
    · subst hk0
      obtain ⟨ao2, cap2, rfl, hnil2⟩ := ho.slice
      obtain ⟨hs2, _⟩ := ho.src
      have hl2 : ((dig 2 x 0).reverse.take (0 - 0)).length = 0 := by simp
      have HU : Hid (und 2 ((dig 2 x 0).reverse.take (0 - 0)) = turn x 0) := by
        show _ = _
        rw [Nat.sub_zero, List.take_of_length_le (by rw [List.length_reverse, dig_length]; exact Nat.le_refl _), turn_und]
      have HC := number_any ao2 cap2 ((dig 2 x 0).reverse.take (0 - 0)) wr (by rw [hl2]; omega) (fun z hz => dig_bit x 0 z (List.mem_reverse.1 (List.mem_of_mem_take hz))) hs2
      rw [HU.out] at HC
      rw [hl2] at HC ⊢
      clear hs2 hl2 ho hnil2 hsrc
      go_wp2_with (go_at_call 63; refine HC.mono ?_; rintro e w' ⟨rfl, rfl⟩)
      go_ret
      exact ⟨rfl, b1.trans (hb.mono b1.size)⟩
    · omega

set_option maxHeartbeats 1000000 in
theorem rturned_high (x : Nat) (n : Int) (w : World) (hx : x < 18446744073709551616) (hn : 64 < n) :
    Calls Try.prog 62 #[.int .u64 x, .int .i64 n] w fun e w' => e = .returned (.int .u64 (turn x 64)) ∧ Below w.heap.size w w' := by
  go_enter Try.func62, Try.ntmps62
  go_wp2_with fail
  refine (bits_form x 64 _ hx (by omega)).mono ?_
  rintro e w1 ⟨ao, cap, rfl, hsrc, hnil, hao, b1⟩
  clear hnil
  go_wp2_with fail
  go_loopw [6, 7] (fun tv iv wr => ∃ k : Nat, k ≤ 64 ∧ iv = .int .i64 ((k : Int) - 1) ∧ OwnI wr w1.heap.size tv ((dig 2 x 64).reverse.take (64 - k)) ∧ Below w1.heap.size w1 wr) (fun _ i _ => (intOf i + 1).toNat)
  case atStart => exact ⟨64, Nat.le_refl _, rfl, by simpa using OwnI.nil _ _, Below.refl _ _⟩
  case round =>
    obtain ⟨k, hk, rfl, ho, hb⟩ := hrel
    by_cases hk0 : k = 0
    · subst hk0
      obtain ⟨ao2, cap2, rfl, hnil2⟩ := ho.slice
      obtain ⟨hs2, _⟩ := ho.src
      have hl2 : ((dig 2 x 64).reverse.take (64 - 0)).length = 64 := by simp [dig_length]
      have HU : Hid (und 2 ((dig 2 x 64).reverse.take (64 - 0)) = turn x 64) := by
        show _ = _
        rw [Nat.sub_zero, List.take_of_length_le (by rw [List.length_reverse, dig_length]; exact Nat.le_refl _), turn_und]
      have HC := number_any ao2 cap2 ((dig 2 x 64).reverse.take (64 - 0)) wr (by rw [hl2]; omega) (fun z hz => dig_bit x 64 z (List.mem_reverse.1 (List.mem_of_mem_take hz))) hs2
      rw [HU.out] at HC
      rw [hl2] at HC ⊢
      clear hs2 hl2 ho hnil2 hsrc
      go_wp2_with (go_at_call 63; refine HC.mono ?_; rintro e w' ⟨rfl, rfl⟩)
      go_ret
      exact ⟨rfl, b1.trans (hb.mono b1.size)⟩
    · obtain ⟨j, rfl⟩ : ∃ j, k = j + 1 := ⟨k - 1, by omega⟩
      have hsr := hsrc.below hb
      obtain ⟨b, off, rfl, hc⟩ := hsr (by rw [dig_length]; omega)
      have hcell := hc j (by rw [dig_length]; omega)
      have HR : Hid ((dig 2 x 64).reverse.take (64 - j) = (dig 2 x 64).reverse.take (64 - (j + 1)) ++ [(dig 2 x 64).getD j 0]) := rev_take x 64 j (by omega)
      have HL : Hid (((dig 2 x 64).reverse.take (64 - (j + 1))).length + ([(dig 2 x 64).getD j 0] : List Int).length ≤ 140737488355328) := by show _ ≤ _; simp [dig_length]; omega
      obtain ⟨z, hz⟩ : ∃ z, z = (dig 2 x 64).getD j 0 := ⟨_, rfl⟩
      rw [← hz] at hcell HR HL
      obtain ⟨T, hT⟩ : ∃ T, T = (dig 2 x 64).reverse.take (64 - (j + 1)) := ⟨_, rfl⟩
      rw [← hT] at HR HL ho
      clear hc hz hsr hT
      go_wp2_with (at_builtin; refine wpList_append_i rfl (.tmp 20) (.tmp 25) rfl w1.heap.size u6 T rfl (ho.alloc _) _ _ _ [z] rfl rfl (fun e => by cases e) (Rw.new 5 wr [z]).src HL.out (Nat.le_trans hb.size (by simp)) ?_; intro v2 w2 o2 g2 n2 b2)
      go_roundw
      case rel => exact ⟨j, by omega, by go_num, by rw [HR.out]; exact o2, (hb.alloc hb.size _).trans b2⟩
      case measure => simp [intOf]

/-- The reference's Turned, of any count. -/
theorem rturned_any (x : Nat) (n : Int) (w : World) (hx : x < 18446744073709551616) :
    Calls Try.prog 62 #[.int .u64 x, .int .i64 n] w fun e w' => e = .returned (.int .u64 (turn x (min n.toNat 64))) ∧ Below w.heap.size w w' := by
  by_cases h0 : n ≤ 0
  · rw [show min n.toNat 64 = 0 by omega]; exact rturned_low x n w hx h0
  · by_cases h1 : 64 < n
    · rw [show min n.toNat 64 = 64 by omega]; exact rturned_high x n w hx h1
    · obtain ⟨m, rfl⟩ := Int.eq_ofNat_of_zero_le (show 0 ≤ n by omega)
      rw [Int.toNat_natCast, show min m 64 = m by omega]
      exact rturned_mid x m w hx (by omega) (by omega)
end Go.Proofs.Ythpocbpleffdpaa.Bz

namespace Go.Proofs.Ythpocbpleffdpaa.Bz
open Go.RowKit

theorem byte_of (v N k c : Nat) (hv : v < 2 ^ N) (hk : 8 * k < N) (hc : c = min 8 (N - 8 * k)) : v / 2 ^ (8 * k) % 2 ^ c = v / 256 ^ k % 256 := by
  rw [pow_256]
  by_cases h : 8 ≤ N - 8 * k
  · obtain rfl : c = 8 := by omega
    rfl
  · obtain rfl : c = N - 8 * k := by omega
    have h1 : v / 2 ^ (8 * k) < 2 ^ (N - 8 * k) := by
      rw [Nat.div_lt_iff_lt_mul (Nat.pow_pos (by omega)), ← Nat.pow_add, show N - 8 * k + 8 * k = N by omega]; exact hv
    have h2 : 2 ^ (N - 8 * k) ≤ 256 := Nat.pow_le_pow_right (n := 2) (j := 8) (by omega) (by omega)
    rw [Nat.mod_eq_of_lt h1, Nat.mod_eq_of_lt (by omega)]

set_option maxHeartbeats 1000000 in
theorem rbytes_some (b off cap N v : Nat) (w : World) (hN : N ≤ 1000000000) (hv : v < 2 ^ N) (hcap : N ≤ cap) (hsrc : Src w (some ⟨b, off, none⟩) (dig 2 v N)) :
    Calls Try.prog 37 #[.slice (some ⟨b, off, none⟩) N cap] w fun e w' => ∃ u, e = .returned u ∧ OwnI w' w.heap.size u (dig 256 v ((N + 7) / 8)) ∧ Below w.heap.size w w' := by
  go_enter Try.func37, Try.ntmps37
  go_wp2
  go_loopw [3, 4] (fun bv iv wr => ∃ k : Nat, k ≤ (N + 7) / 8 ∧ iv = .int .i64 ((8 * k : Nat) : Int) ∧ OwnI wr w.heap.size bv (dig 256 v k) ∧ Below w.heap.size w wr) (fun _ i _ => N + 8 - (intOf i).toNat)
  case atStart => exact ⟨0, Nat.zero_le _, rfl, OwnI.nil _ _, Below.refl _ _⟩
  case round =>
    obtain ⟨k, hk, rfl, ho, hb⟩ := hrel
    obtain ⟨t, ht⟩ : ∃ t, t = 8 * k := ⟨_, rfl⟩
    rw [← ht]
    by_cases hlt : t < N
    · obtain ⟨c, hc⟩ : ∃ c, c = min 8 (N - t) := ⟨_, rfl⟩
      have hbv := byte_of v N k c hv (by omega) (by omega)
      have hseg : Src wr (some ⟨b, off + t, none⟩) (dig 2 (v / 2 ^ t) c) := by
        have h1 := ((hsrc.below hb).drop t).take c
        rw [dig_drop 2 v N t (by omega), dig_take 2 _ _ _ (by omega)] at h1
        exact h1
      have hund : und 2 (dig 2 (v / 2 ^ t) c) = v / 256 ^ k % 256 := by rw [und_dig, ht]; exact hbv
      obtain ⟨Z, hZ⟩ : ∃ Z, Z = v / 256 ^ k % 256 := ⟨_, rfl⟩
      have hZ256 : Z < 256 := by omega
      have HC : Hid (∀ cc, Calls Try.prog 63 #[.slice (some ⟨b, off + t, none⟩) c cc] wr fun e w' => e = .returned (.int .u64 Z) ∧ wr = w') := by
        intro cc
        have := number_any (some ⟨b, off + t, none⟩) cc (dig 2 (v / 2 ^ t) c) wr (by rw [dig_length]; omega) (dig_bit _ _) hseg
        rw [hund, dig_length, ← hZ] at this
        exact this
      have hcap1 : ¬ cap = t := by omega
      have HD : Hid (dig 256 v (k + 1) = dig 256 v k ++ [(Z : Int)]) := by show _ = _; rw [dig_snoc, hZ]
      have HL : Hid ((dig 256 v k).length + ([(Z : Int)] : List Int).length ≤ 140737488355328) := by show _ ≤ _; rw [dig_length]; simp; omega
      have hwz : IntKind.u8.wrap (Z : Int) = (Z : Int) := by rw [IntKind.wrap_u8']; omega
      have HK : Hid (t = 8 * k ∧ c = min 8 (N - t)) := ⟨ht, hc⟩
      clear hbv hseg hund hZ hc ht
      by_cases h8 : t + 8 ≤ N
      · have hmin : ¬ ((N : Int) < (t : Int) + 8) := by omega
        obtain rfl : c = 8 := by have := HK.out; omega
        have hsub : t + 8 - t = 8 := by omega
        go_wp2_with (first | (go_at_call 63; refine (HC.out _).mono ?_; rintro e w' ⟨rfl, rfl⟩) | (at_builtin; refine wpList_append_i rfl (.tmp 11) (.tmp 22) rfl w.heap.size u3 (dig 256 v k) rfl (ho.alloc _) _ _ _ [(Z : Int)] rfl rfl (fun e => by cases e) (Rw.new 5 wr [(Z : Int)]).src HL.out (Nat.le_trans hb.size (by simp)) ?_; intro v2 w2 o2 g2 n2 b2))
        go_roundw
        case rel => exact ⟨k + 1, by have := HK.out; omega, by have := HK.out; rw [this.1]; go_num, by rw [HD.out]; exact o2, (hb.alloc hb.size _).trans b2⟩
        case measure => simp [intOf]; omega
      · have hmin : (N : Int) < (t : Int) + 8 := by omega
        have hsub : N - t = c := by have := HK.out; omega
        go_wp2_with (first | (go_at_call 63; refine (HC.out _).mono ?_; rintro e w' ⟨rfl, rfl⟩) | (at_builtin; refine wpList_append_i rfl (.tmp 11) (.tmp 22) rfl w.heap.size u3 (dig 256 v k) rfl (ho.alloc _) _ _ _ [(Z : Int)] rfl rfl (fun e => by cases e) (Rw.new 5 wr [(Z : Int)]).src HL.out (Nat.le_trans hb.size (by simp)) ?_; intro v2 w2 o2 g2 n2 b2))
        go_roundw
        case rel => exact ⟨k + 1, by have := HK.out; omega, by have := HK.out; rw [this.1]; go_num, by rw [HD.out]; exact o2, (hb.alloc hb.size _).trans b2⟩
        case measure => simp [intOf]; omega
    · have hkk : k = (N + 7) / 8 := by omega
      have HKK : Hid (k = (N + 7) / 8) := hkk
      clear hkk ht hk
      go_wp2
      go_ret
      exact ⟨_, rfl, by rw [← HKK.out]; exact ho, hb⟩

end Go.Proofs.Ythpocbpleffdpaa.Bz

namespace Go.Proofs.Ythpocbpleffdpaa.Bz
open Go.RowKit

set_option maxHeartbeats 400000 in
theorem rbytes_none (ao : Option Addr) (cap : Nat) (w : World) :
    Calls Try.prog 37 #[.slice ao 0 cap] w fun e w' => ∃ u, e = .returned u ∧ OwnI w' w.heap.size u [] ∧ Below w.heap.size w w' := by
  go_enter Try.func37, Try.ntmps37
  go_wp2
  refine wp_loop_rounds 1 ?_
  rw [rounds_succ]
  go_wp2
  go_ret
  exact ⟨_, rfl, OwnI.nil _ _, Below.refl _ _⟩
theorem rbytes_any (ao : Option Addr) (cap N v : Nat) (w : World) (hN : N ≤ 1000000000) (hv : v < 2 ^ N) (hcap : N ≤ cap) (hsrc : Src w ao (dig 2 v N)) :
    Calls Try.prog 37 #[.slice ao N cap] w fun e w' => ∃ u, e = .returned u ∧ OwnI w' w.heap.size u (dig 256 v ((N + 7) / 8)) ∧ Below w.heap.size w w' := by
  by_cases h0 : N = 0
  · subst h0
    exact rbytes_none ao cap w
  · obtain ⟨b, off, rfl, hc⟩ := hsrc (by rw [dig_length]; omega)
    exact rbytes_some b off cap N v w hN hv hcap (Src.mk hc)

theorem wpList_make_cap {w : World} {ops : Array Oper} {rest : List Oper} {o : Oper} {a : Act} {Q : Exit → Act → World → Prop} (hgd : o.guard = none) (l c : Operand) (ho : o.op = Op.makeSlice 50 l c)
    (n : Nat) (z : Int) (hz : z = (n : Int)) (hl : a.eval l = .int .i64 0) (hc : a.eval c = .int .i64 z) (hn : n ≤ 140737488355328)
    (h : ∀ w', OwnI w' w.heap.size (.slice (some ⟨w.heap.size, 0, none⟩) 0 n) [] → Below w.heap.size w w' → wpList Try.prog ops Q rest (a.put o.dst (.slice (some ⟨w.heap.size, 0, none⟩) 0 n)) w') : wpList Try.prog ops Q (o :: rest) a w := by
  subst hz
  obtain ⟨i0, hi, hz0, hz1, hz2⟩ := info_parts Try.info5
  refine wpList_plain hgd fun K hK => ?_
  have hr := run_make (P := Try.prog) w 50 5 i0 (.int .u8 0) Try.underlying50 hi hz0 .i64 .i64 0 n (by omega) (by omega) (by rw [hz2]; omega) (by omega)
  rw [hz1, Int.toNat_natCast, Nat.mul_one, show (Value.int IntKind.u8 0).cells = #[.int .u8 0] from rfl, made_cells] at hr
  unfold Oper.wp
  simp only [execOp, ho, hl, hc, hr, Sem.run_bind, Sem.run_pure, Result.andThen_ok]
  exact hK _ _ (h _ (.inr ⟨w.heap.size, n, List.replicate n 0, rfl, Nat.le_refl _, Rw.new 5 w _, by simp, by unfold maxLen; omega⟩) ((Below.refl _ _).alloc (Nat.le_refl _) _))

theorem of_step (B : List Int) (hb : Byt B) (k : Nat) (hk : k < B.length) : dig 2 (und 256 B) (8 * (k + 1)) = dig 2 (und 256 B) (8 * k) ++ dig 2 (B.getD k 0).toNat 8 := by
  rw [Nat.mul_add, dig_add, und_get B hb k hk, Int.toNat_natCast]
  congr 1
  rw [show (256 : Nat) = 2 ^ 8 from rfl, dig_mod 2 _ 8 8 (Nat.le_refl _)]

set_option maxHeartbeats 1000000 in
theorem rof_any (ao : Option Addr) (cap : Nat) (B : List Int) (w : World) (hl : B.length ≤ 1000000) (hb : Byt B) (hsrc : Src w ao B) :
    Calls Try.prog 64 #[.slice ao B.length cap] w fun e w' => ∃ g c, e = .returned (.slice (some ⟨g, 0, none⟩) (8 * B.length) c) ∧ OwnI w' w.heap.size (.slice (some ⟨g, 0, none⟩) (8 * B.length) c) (dig 2 (und 256 B) (8 * B.length)) ∧ Below w.heap.size w w' := by
  obtain ⟨n8, hn8⟩ : ∃ n8, n8 = 8 * B.length := ⟨_, rfl⟩
  have hm : (8 : Int) * (B.length : Int) = (n8 : Int) := by omega
  have hn8b : n8 ≤ 140737488355328 := by omega
  have HN8 : Hid (n8 = 8 * B.length) := hn8
  clear hn8
  go_enter Try.func64, Try.ntmps64
  go_wp2_with (at_make; refine wpList_make_cap rfl _ _ rfl n8 _ (by omega) rfl rfl hn8b ?_; intro w1 o1 b1)
  go_loopw [3, 4] (fun lv iv wr => ∃ k : Nat, k ≤ B.length ∧ iv = .int .i64 k ∧ OwnI wr w.heap.size lv (dig 2 (und 256 B) (8 * k)) ∧ Below w.heap.size w wr ∧ ∃ g c, lv = .slice (some ⟨g, 0, none⟩) (8 * k) c) (fun _ i _ => B.length - (intOf i).toNat)
  case atStart => exact ⟨0, Nat.zero_le _, rfl, o1, b1, _, _, rfl⟩
  case round =>
    clear o1 hm
    obtain ⟨k, hk, rfl, ho, hbl, gg, cc, rfl⟩ := hrel
    by_cases hlt : k < B.length
    · obtain ⟨b, off, rfl, hc⟩ := (hsrc.below hbl) (by omega)
      have hcell := hc k hlt
      have hg := hb.get k
      obtain ⟨z, hz⟩ : ∃ z : Nat, (z : Int) = B.getD k 0 := ⟨(B.getD k 0).toNat, by omega⟩
      have hst := of_step B hb k hlt
      rw [← hz] at hcell hst
      rw [Int.toNat_natCast] at hst
      have hz2 : z < 256 := by omega
      have hwz : IntKind.u64.wrap (z : Int) = (z : Int) := by rw [IntKind.wrap_u64]; omega
      have HST : Hid (dig 2 (und 256 B) (8 * (k + 1)) = dig 2 (und 256 B) (8 * k) ++ dig 2 z 8) := hst
      have HL : Hid ((dig 2 (und 256 B) (8 * k)).length + (dig 2 z 8).length ≤ 140737488355328) := by show _ ≤ _; rw [dig_length, dig_length]; omega
      have BF : Hid (∀ w', Calls Try.prog 61 #[.int .u64 z, .int .i64 8] w' fun e w'' => ∃ ao cap, e = .returned (.slice ao 8 cap) ∧ Src w'' ao (dig 2 z 8) ∧ (ao = none → cap = 0) ∧ (∀ b off, ao = some ⟨b, off, none⟩ → w'.heap.size ≤ b) ∧ Below w'.heap.size w' w'') := fun w' => bits_form z 8 w' (by omega) (by omega)
      have HD8 : Hid ((dig 2 z 8).length = 8) := dig_length _ _ _
      clear hz hg hst hc
      go_wp2_with fail
      refine (BF.out _).mono ?_
      rintro e w2 ⟨a2, c2, rfl, s2, n2, _, b2⟩
      have o2 := ho.below (b2.mono (Nat.le_refl _))
      have HNIL : Hid (a2 = none → c2 = 0) := n2
      clear n2
      go_wp2_with (at_builtin; refine wpList_append_i rfl (.tmp 15) (.tmp 21) rfl w.heap.size (.slice (some ⟨gg, 0, none⟩) (8 * k) cc) (dig 2 (und 256 B) (8 * k)) rfl o2 _ _ _ (dig 2 z 8) rfl HD8.out HNIL.out s2 HL.out (Nat.le_trans hbl.size b2.size) ?_; intro v3 w3 o3 g3 n3 b3)
      go_roundw
      case rel =>
        rw [← HST.out] at o3
        obtain ⟨g4, c4, tl4, e4, _⟩ := o3.some (by rw [dig_length]; omega)
        rw [dig_length] at e4
        exact ⟨k + 1, by omega, by go_num, o3, (hbl.trans (b2.mono hbl.size)).trans b3, g4, c4, e4⟩
      case measure => simp [intOf]; omega
    · obtain rfl : k = B.length := by omega
      go_wp2
      go_ret
      exact ⟨_, _, rfl, ho, hbl⟩

end Go.Proofs.Ythpocbpleffdpaa.Bz
