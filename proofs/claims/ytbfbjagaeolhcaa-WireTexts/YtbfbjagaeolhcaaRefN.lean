/- Contracts of the reference's Get and Set: the document's answers, in the words of chapter 1. -/
import Derived.Test.YtbfbjagaeolhcaaOwn
namespace Go.Proofs.Ytbfbjagaeolhcaa
open Go.RowKit

theorem inE_beq {len : Nat} {at_ n : Int} (h : inE len at_ n = 0) : (inE len at_ n == 0) = true := by simp [h]

set_option maxHeartbeats 400000 in
theorem rget_arg (ao : Option Addr) (len cap : Nat) (at_ n : Int) (w : World) (h : n < 1 ∨ 8 < n) :
    Calls Try.prog 8 #[.slice ao len cap, .int .i64 at_, .int .i64 n] w fun e w' => e = .returned (.tuple #[.int .u64 0, .int .i64 2]) ∧ w = w' := by
  by_cases h1 : n < 1
  · go_enter Try.func8, Try.ntmps8
    go_wp2
    go_ret2
    exact ⟨rfl, rfl⟩
  · have h2 : 8 < n := by omega
    clear h
    go_enter Try.func8, Try.ntmps8
    go_wp2
    go_ret2
    exact ⟨rfl, rfl⟩

set_option maxHeartbeats 400000 in
theorem rget_range (ao : Option Addr) (len cap : Nat) (at_ n : Int) (w : World) (hl : len ≤ 9223372036854775807) (h1 : 1 ≤ n) (h8 : n ≤ 8) (he : (inE len at_ n == 0) = false) :
    Calls Try.prog 8 #[.slice ao len cap, .int .i64 at_, .int .i64 n] w fun e w' => e = .returned (.tuple #[.int .u64 0, .int .i64 4]) ∧ w = w' := by
  go_enter Try.func8, Try.ntmps8
  go_wp2_with (go_at_call 18; refine (lies_any _ _ _ _ _ _ hl (by omega) (by omega)).mono ?_; rintro e w' ⟨rfl, rfl⟩)
  go_ret2
  exact ⟨rfl, rfl⟩

theorem value_seg (g off cap : Nat) (zs : List Int) (a n : Nat) (w : World) (hb : Byt zs) (hn : n ≤ 8) (hf : a + n ≤ zs.length)
    (hc : ∀ i, i < zs.length → w.cell? ⟨g, off + i, none⟩ = some (.int .u8 (zs.getD i 0))) :
    Calls Try.prog 19 #[.slice (some ⟨g, off + a, none⟩) n cap] w fun e w' => e = .returned (.int .u64 (val ((zs.drop a).take n))) ∧ w = w' := by
  have hl : ((zs.drop a).take n).length = n := by simp; omega
  have h := value_any g (off + a) cap ((zs.drop a).take n) w ((hb.drop _).take _) (by omega) (by
    intro i hi
    rw [hl] at hi
    rw [Nat.add_assoc, hc (a + i) (by omega)]
    simp [List.getD, hi, List.getElem?_drop])
  rw [hl] at h
  exact h

set_option maxHeartbeats 400000 in
theorem rget_ok (g off cap : Nat) (zs : List Int) (a n : Nat) (w : World) (hl : zs.length ≤ 9223372036854775807) (hb : Byt zs) (h1 : 1 ≤ n) (h8 : n ≤ 8) (hf : a + n ≤ zs.length) (hcap : zs.length ≤ cap)
    (hc : ∀ i, i < zs.length → w.cell? ⟨g, off + i, none⟩ = some (.int .u8 (zs.getD i 0))) :
    Calls Try.prog 8 #[.slice (some ⟨g, off, none⟩) zs.length cap, .int .i64 a, .int .i64 n] w fun e w' => e = .returned (.tuple #[.int .u64 (val ((zs.drop a).take n)), .int .i64 0]) ∧ w = w' := by
  have hbq : (inE zs.length (a : Int) (n : Int) == 0) = true := inE_beq (inE_mk (by omega) (by omega))
  have hca : ¬ cap = a := by omega
  have hv : Hid (∀ c, Calls Try.prog 19 #[.slice (some ⟨g, off + a, none⟩) n c] w fun e w' => e = .returned (.int .u64 (val ((zs.drop a).take n))) ∧ w = w') := fun c => value_seg g off c zs a n w hb h8 hf hc
  clear hc hb
  go_enter Try.func8, Try.ntmps8
  go_wp2_with (first | (go_at_call 18; refine (lies_any _ _ _ _ _ _ hl (by omega) (by omega)).mono ?_; rintro e w' ⟨rfl, rfl⟩) | (go_at_call 19; refine (hv.out _).mono ?_; rintro e w' ⟨rfl, rfl⟩))
  go_ret2
  exact ⟨rfl, rfl⟩

/-- The reference's Get, whatever came in. -/
theorem rget_any (ao : Option Addr) (cap : Nat) (zs : List Int) (at_ n : Int) (w : World) (hl : zs.length ≤ 9223372036854775807) (hb : Byt zs) (hcap : zs.length ≤ cap) (hsrc : Src w ao zs) :
    Calls Try.prog 8 #[.slice ao zs.length cap, .int .i64 at_, .int .i64 n] w fun e w' => e = .returned (.tuple #[.int .u64 (getV zs at_ n), .int .i64 (numE zs.length at_ n)]) ∧ w = w' := by
  by_cases h : n < 1 ∨ 8 < n
  · have e : numE zs.length at_ n = 2 := by unfold numE; rw [if_pos h]
    have e2 : getV zs at_ n = 0 := by unfold getV; rw [if_neg (by rw [e]; omega)]
    rw [e, e2]
    exact rget_arg _ _ _ _ _ _ h
  · have e0 : numE zs.length at_ n = inE zs.length at_ n := by unfold numE; rw [if_neg h]
    by_cases he : inE zs.length at_ n = 0
    · have e2 : getV zs at_ n = val ((zs.drop at_.toNat).take n.toNat) := by unfold getV; rw [if_pos (by rw [e0]; exact he)]
      obtain ⟨k1, k2⟩ := inE_ok he
      obtain ⟨b, off, rfl, hc⟩ := hsrc (by omega)
      rw [e2, e0, he]
      obtain ⟨a, rfl⟩ := Int.eq_ofNat_of_zero_le k1
      obtain ⟨m, rfl⟩ := Int.eq_ofNat_of_zero_le (show 0 ≤ n by omega)
      rw [Int.toNat_natCast, Int.toNat_natCast]
      exact rget_ok b off cap zs a m w hl hb (by omega) (by omega) (by omega) hcap hc
    · have e4 : inE zs.length at_ n = 4 := by
        unfold inE at he ⊢
        split at he
        · rw [if_pos (by assumption)]
        · exact absurd rfl he
      have e2 : getV zs at_ n = 0 := by unfold getV; rw [if_neg (by rw [e0]; exact he)]
      rw [e2, e0, e4]
      exact rget_range _ _ _ _ _ _ hl (by omega) (by omega) (by simpa using he)

set_option maxHeartbeats 400000 in
theorem rset_arg (ao : Option Addr) (len cap : Nat) (at_ n x : Int) (w : World) (h : n < 1 ∨ 8 < n) :
    Calls Try.prog 9 #[.slice ao len cap, .int .i64 at_, .int .i64 n, .int .u64 x] w fun e w' => e = .returned (.tuple #[.slice ao len cap, .int .i64 2]) ∧ w = w' := by
  by_cases h1 : n < 1
  · go_enter Try.func9, Try.ntmps9
    go_wp2
    go_ret2
    exact ⟨rfl, rfl⟩
  · have h2 : 8 < n := by omega
    clear h
    go_enter Try.func9, Try.ntmps9
    go_wp2
    go_ret2
    exact ⟨rfl, rfl⟩

set_option maxHeartbeats 400000 in
theorem rset_range (ao : Option Addr) (len cap : Nat) (at_ n x : Int) (w : World) (hl : len ≤ 9223372036854775807) (h1 : 1 ≤ n) (h8 : n ≤ 8) (he : (inE len at_ n == 0) = false) :
    Calls Try.prog 9 #[.slice ao len cap, .int .i64 at_, .int .i64 n, .int .u64 x] w fun e w' => e = .returned (.tuple #[.slice ao len cap, .int .i64 4]) ∧ w = w' := by
  go_enter Try.func9, Try.ntmps9
  go_wp2_with (go_at_call 18; refine (lies_any _ _ _ _ _ _ hl (by omega) (by omega)).mono ?_; rintro e w' ⟨rfl, rfl⟩)
  go_ret2
  exact ⟨rfl, rfl⟩

/-- Number, its answer written out. -/
theorem number_own (x : Int) (n : Nat) (w : World) (hx0 : 0 ≤ x) (hx1 : x < 18446744073709551616) (h1 : 1 ≤ n) (hn : n ≤ 8) :
    Calls Try.prog 20 #[.int .u64 x, .int .i64 n] w fun e w' => ∃ g c, e = .returned (.slice (some ⟨g, 0, none⟩) n c) ∧ Src w' (some ⟨g, 0, none⟩) (num x n) ∧ Below w.heap.size w w' := by
  refine (number_ref x n w hx0 hx1 hn).mono ?_
  rintro e w' ⟨v, rfl, hown, hb⟩
  have hlen := num_length x n
  rcases hown.2 with ⟨rfl, h0⟩ | ⟨g, cap, cur, rfl, _⟩
  · omega
  · refine ⟨g, cap, rfl, Src.mk fun i hi => ?_, hb⟩
    have hc := World.ownsRow.cells hown (g := g) rfl i (.int .u8 ((num x n).getD i 0)) (by simp [List.getD, hi])
    rw [Nat.zero_add, ← add_z]
    exact hc

theorem value_num (g c : Nat) (x : Int) (n : Nat) (w : World) (hn : n ≤ 8) (hs : Src w (some ⟨g, 0, none⟩) (num x n)) :
    Calls Try.prog 19 #[.slice (some ⟨g, 0, none⟩) n c] w fun e w' => e = .returned (.int .u64 (val (num x n))) ∧ w = w' := by
  have h := value_any g 0 c (num x n) w (num_byt x n) (by rw [num_length]; exact hn) hs.at
  rw [num_length] at h
  exact h

set_option maxHeartbeats 400000 in
theorem rset_long (ao : Option Addr) (len cap : Nat) (a n : Nat) (x : Int) (w : World) (hl : len ≤ 9223372036854775807) (hx0 : 0 ≤ x) (hx1 : x < 18446744073709551616) (h1 : 1 ≤ n) (h8 : n ≤ 8) (hf : a + n ≤ len) (hx : ¬ x < 256 ^ n) :
    Calls Try.prog 9 #[.slice ao len cap, .int .i64 a, .int .i64 n, .int .u64 x] w fun e w' => e = .returned (.tuple #[.slice ao len cap, .int .i64 3]) ∧ Below w.heap.size w w' := by
  have hbq : (inE len (a : Int) (n : Int) == 0) = true := inE_beq (inE_mk (by omega) (by omega))
  have hvx : (val (num x n) != x) = true := by
    rw [val_num]
    have hp : (0 : Int) < 256 ^ n := Int.pow_pos (by omega)
    have := Int.emod_lt_of_pos x hp
    simp; omega
  go_enter Try.func9, Try.ntmps9
  go_wp2_with (first | (go_at_call 18; refine (lies_any _ _ _ _ _ _ hl (by omega) (by omega)).mono ?_; rintro e w' ⟨rfl, rfl⟩) | (go_at_call 20; refine (number_own x n _ hx0 hx1 h1 h8).mono ?_; rintro e w1 ⟨g1, c1, rfl, s1, b1⟩) | (go_at_call 19; refine (value_num g1 c1 x n _ h8 s1).mono ?_; rintro e w' ⟨rfl, rfl⟩))
  go_ret2
  exact ⟨rfl, b1⟩

end Go.Proofs.Ytbfbjagaeolhcaa
