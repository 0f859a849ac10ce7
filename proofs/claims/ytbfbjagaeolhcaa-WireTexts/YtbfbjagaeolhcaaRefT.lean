/- Contract of the reference's Text: the text of a field, or the error, in the words of chapter 1. -/
import Derived.Test.YtbfbjagaeolhcaaRefN
namespace Go.Proofs.Ytbfbjagaeolhcaa
open Go.RowKit

set_option maxHeartbeats 400000 in
theorem rtext_err (ao : Option Addr) (len cap : Nat) (at_ n : Int) (w : World) (hl : len ≤ 9223372036854775807) (he : (txtE len at_ n != 0) = true) :
    Calls Try.prog 12 #[.slice ao len cap, .int .i64 at_, .int .i64 n] w fun e w' => e = .returned (.tuple #[.string ByteArray.empty, .int .i64 (txtE len at_ n)]) ∧ w = w' := by
  go_enter Try.func12, Try.ntmps12
  go_wp2_with (go_at_call 23; refine (field_any _ _ _ _ _ _ hl).mono ?_; rintro e w' ⟨rfl, rfl⟩)
  go_ret2
  exact ⟨rfl, rfl⟩

theorem value4 (g off cap : Nat) (zs : List Int) (a N : Nat) (w : World) (hb : Byt zs) (hf : a + 4 ≤ zs.length) (hc : ∀ i, i < zs.length → w.cell? ⟨g, off + i, none⟩ = some (.int .u8 (zs.getD i 0))) (hN : txtN zs a = N) :
    Calls Try.prog 19 #[.slice (some ⟨g, off + a, none⟩) 4 cap] w fun e w' => e = .returned (.int .u64 N) ∧ w = w' := by
  rw [← hN]
  exact value_seg g off cap zs a 4 w hb (by omega) hf hc

set_option maxHeartbeats 400000 in
theorem rtext_bad (g off cap : Nat) (zs : List Int) (a m N : Nat) (w : World) (hl : zs.length ≤ 9223372036854775807) (hb : Byt zs)
    (hc : ∀ i, i < zs.length → w.cell? ⟨g, off + i, none⟩ = some (.int .u8 (zs.getD i 0))) (hm : m ≤ 1048576) (hf : a + 4 + m ≤ zs.length) (h3 : zs.length ≤ cap) (hN : txtN zs a = N) (hlt : m < N) :
    Calls Try.prog 12 #[.slice (some ⟨g, off, none⟩) zs.length cap, .int .i64 a, .int .i64 m] w fun e w' => e = .returned (.tuple #[.string ByteArray.empty, .int .i64 110]) ∧ w = w' := by
  have HE : Hid (txtE zs.length (a : Int) (m : Int) = 0) := by show _ = _; unfold txtE; rw [if_neg (by omega)]; exact inE_mk (by omega) (by omega)
  have hw : IntKind.u64.wrap (m : Int) = (m : Int) := by rw [IntKind.wrap_u64]; omega
  have hca : ¬ cap = a := by omega
  have HV : Hid (∀ c, Calls Try.prog 19 #[.slice (some ⟨g, off + a, none⟩) 4 c] w fun e w' => e = .returned (.int .u64 N) ∧ w = w') := fun c => value4 g off c zs a N w hb (by omega) hc hN
  clear hc hN hb
  go_enter Try.func12, Try.ntmps12
  go_wp2_with (first | (go_at_call 23; refine (field_any _ _ _ _ _ _ hl).mono ?_; rintro e w' ⟨rfl, rfl⟩; rw [HE.out]) | (go_at_call 19; refine (HV.out _).mono ?_; rintro e w' ⟨rfl, rfl⟩))
  go_ret2
  exact ⟨rfl, rfl⟩

set_option maxHeartbeats 1000000 in
theorem rtext_scan (g off cap : Nat) (zs : List Int) (a m N : Nat) (w : World) (hl : zs.length ≤ 9223372036854775807) (hb : Byt zs)
    (hc : ∀ i, i < zs.length → w.cell? ⟨g, off + i, none⟩ = some (.int .u8 (zs.getD i 0))) (hm : m ≤ 1048576) (hf : a + 4 + m ≤ zs.length) (h3 : zs.length ≤ cap) (hN : txtN zs a = N) (hle : N ≤ m) :
    Calls Try.prog 12 #[.slice (some ⟨g, off, none⟩) zs.length cap, .int .i64 a, .int .i64 m] w fun e w' =>
      ((nouB ((zs.drop (a + 4 + N)).take (m - N)) = true → e = .returned (.tuple #[.string (strOfNums ((zs.drop (a + 4)).take N)), .int .i64 0])) ∧
       (nouB ((zs.drop (a + 4 + N)).take (m - N)) = false → e = .returned (.tuple #[.string ByteArray.empty, .int .i64 110]))) ∧ w = w' := by
  have HE : Hid (txtE zs.length (a : Int) (m : Int) = 0) := by show _ = _; unfold txtE; rw [if_neg (by omega)]; exact inE_mk (by omega) (by omega)
  have hw : IntKind.u64.wrap (m : Int) = (m : Int) := by rw [IntKind.wrap_u64]; omega
  have hw2 : IntKind.i64.wrap (N : Int) = (N : Int) := by rw [IntKind.wrap_i64]; omega
  have hca : ¬ cap = a := by omega
  have HV : Hid (∀ c, Calls Try.prog 19 #[.slice (some ⟨g, off + a, none⟩) 4 c] w fun e w' => e = .returned (.int .u64 N) ∧ w = w') := fun c => value4 g off c zs a N w hb (by omega) hc hN
  have HC : Hid (∀ i, i < zs.length → w.cell? ⟨g, off + i, none⟩ = some (.int .u8 (zs.getD i 0))) := hc
  obtain ⟨xs, hxs⟩ : ∃ xs, xs = (zs.drop (a + 4)).take N := ⟨_, rfl⟩
  have HXL : Hid (xs.length = N) := by show _ = _; rw [hxs]; simp; omega
  have HXC : Hid (∀ i, i < N → w.cell? ⟨g, off + (a + 4) + i, none⟩ = some (.int .u8 (xs.getD i 0))) := by
    intro i hi
    rw [Nat.add_assoc, hc (a + 4 + i) (by omega), hxs]
    simp [List.getD, hi, List.getElem?_drop]
  rw [← hxs]
  have hd : decide (m < N) = false := by simp; omega
  clear hc hN hb hxs
  by_cases hcap : cap = a + 4
  · subst hcap
    have hN0 : N ≤ 0 := by omega
    have hcv : ∀ c, (convert 22 9 (.slice (some ⟨g, off, none⟩) N c)).run Try.prog w = .ok (.string (strOfNums xs)) w := fun c =>
      run_convert_rw w 22 9 5 Try.underlying22 Try.underlying5 Try.underlying9 _ N c xs HXL.out (fun h => absurd h (by omega))
    go_enter Try.func12, Try.ntmps12
    go_wp2_with (first | (go_at_call 23; refine (field_any _ _ _ _ _ _ hl).mono ?_; rintro e w' ⟨rfl, rfl⟩; rw [HE.out]) | (go_at_call 19; refine (HV.out _).mono ?_; rintro e w' ⟨rfl, rfl⟩))
    go_loop [10] (fun i => ∃ j : Nat, j ≤ m - N ∧ i = .int .i64 ((a + 4 + N + j : Nat) : Int) ∧ nouB ((zs.drop (a + 4 + N)).take j) = true) (fun i => a + 4 + m - (intOf i).toNat)
    case atStart => exact ⟨0, Nat.zero_le _, by go_num, rfl⟩
    case round =>
      obtain ⟨j, hj, rfl, hz⟩ := hrel
      by_cases hju : j < m - N
      · omega
      · obtain rfl : j = m - N := by omega
        have HZ : Hid (nouB ((zs.drop (a + 4 + N)).take (m - N)) = true) := hz
        clear hz
        have hq1 : a + 4 + N + (m - N) = a + 4 + m := by omega
        rw [hq1]
        clear hq1
        go_wp2
        go_ret2
        exact ⟨⟨fun _ => rfl, fun h => by rw [HZ.out] at h; cases h⟩, rfl⟩
  · have hcv : ∀ c, (convert 22 9 (.slice (some ⟨g, off + (a + 4), none⟩) N c)).run Try.prog w = .ok (.string (strOfNums xs)) w := fun c =>
      run_convert_rw w 22 9 5 Try.underlying22 Try.underlying5 Try.underlying9 _ N c xs HXL.out (fun _ => ⟨g, off + (a + 4), rfl, HXC.out⟩)
    go_enter Try.func12, Try.ntmps12
    go_wp2_with (first | (go_at_call 23; refine (field_any _ _ _ _ _ _ hl).mono ?_; rintro e w' ⟨rfl, rfl⟩; rw [HE.out]) | (go_at_call 19; refine (HV.out _).mono ?_; rintro e w' ⟨rfl, rfl⟩))
    go_loop [10] (fun i => ∃ j : Nat, j ≤ m - N ∧ i = .int .i64 ((a + 4 + N + j : Nat) : Int) ∧ nouB ((zs.drop (a + 4 + N)).take j) = true) (fun i => a + 4 + m - (intOf i).toNat)
    case atStart => exact ⟨0, Nat.zero_le _, by go_num, rfl⟩
    case round =>
      obtain ⟨j, hj, rfl, hz⟩ := hrel
      by_cases hju : j < m - N
      · have hcell := HC.out (a + 4 + N + j) (by omega)
        obtain ⟨s1, s2⟩ := nouB_step zs (a + 4 + N) j (m - N) (by omega) hju hz
        obtain ⟨z, hz0⟩ : ∃ z, z = zs.getD (a + 4 + N + j) 0 := ⟨_, rfl⟩
        rw [← hz0] at hcell s1 s2
        have S1 : Hid ((z == 0) = true → nouB ((zs.drop (a + 4 + N)).take (j + 1)) = true) := s1
        have S2 : Hid ((z == 0) = false → nouB ((zs.drop (a + 4 + N)).take (m - N)) = false) := s2
        clear hz s1 s2 hz0
        obtain ⟨q, hq⟩ : ∃ q, q = a + 4 + N + j := ⟨_, rfl⟩
        rw [← hq] at hcell ⊢
        have hq1 : a + 4 + N + j ≤ q := by omega
        have hq2 : q ≤ a + 4 + N + j := by omega
        clear hq
        by_cases h0 : z = 0
        · subst h0
          go_wp2
          go_round
          case rel => exact ⟨j + 1, by omega, by go_num, S1.out rfl⟩
          case measure => simp [intOf]; omega
        · have hb : (z != 0) = true := by simpa using h0
          go_wp2
          go_ret2
          have hf2 := S2.out (by simpa using h0)
          exact ⟨⟨fun h => absurd h (by rw [hf2]; simp), fun _ => rfl⟩, rfl⟩
      · obtain rfl : j = m - N := by omega
        have HZ : Hid (nouB ((zs.drop (a + 4 + N)).take (m - N)) = true) := hz
        clear hz
        have hq1 : a + 4 + N + (m - N) = a + 4 + m := by omega
        rw [hq1]
        clear hq1
        go_wp2
        go_ret2
        exact ⟨⟨fun _ => rfl, fun h => by rw [HZ.out] at h; cases h⟩, rfl⟩

/-- The reference's Text, whatever came in. -/
theorem rtext_any (ao : Option Addr) (cap : Nat) (zs : List Int) (at_ most : Int) (w : World) (hl : zs.length ≤ 9223372036854775807) (hb : Byt zs) (h3 : zs.length ≤ cap) (hsrc : Src w ao zs) :
    Calls Try.prog 12 #[.slice ao zs.length cap, .int .i64 at_, .int .i64 most] w fun e w' =>
      e = .returned (.tuple #[.string (strOfNums (txtS zs at_ most)), .int .i64 (txtC zs at_ most)]) ∧ w = w' := by
  by_cases he : txtE zs.length at_ most = 0
  · obtain ⟨h0, h1, h2, hf⟩ := txtE_ok he
    obtain ⟨g, off, rfl, hc⟩ := hsrc (by omega)
    obtain ⟨a, rfl⟩ := Int.eq_ofNat_of_zero_le h2
    obtain ⟨m, rfl⟩ := Int.eq_ofNat_of_zero_le h0
    have hbd := txtN_bound zs a hb
    obtain ⟨N, hN⟩ := Int.eq_ofNat_of_zero_le hbd.1
    by_cases hlt : m < N
    · have e : txtC zs (a : Int) (m : Int) = 110 := by unfold txtC; rw [if_pos he, Int.toNat_natCast, hN, if_pos (by omega)]
      have e2 : txtS zs (a : Int) (m : Int) = [] := by unfold txtS; rw [if_neg (by rw [e]; omega)]
      rw [e, e2]
      exact rtext_bad g off cap zs a m N w hl hb hc (by omega) (by omega) h3 hN hlt
    · refine (rtext_scan g off cap zs a m N w hl hb hc (by omega) (by omega) h3 hN (by omega)).mono ?_
      rintro e w' ⟨⟨h4, h5⟩, rfl⟩
      refine ⟨?_, rfl⟩
      by_cases hn : nouB ((zs.drop (a + 4 + N)).take (m - N)) = true
      · have e : txtC zs (a : Int) (m : Int) = 0 := by unfold txtC; rw [if_pos he, Int.toNat_natCast, hN, if_neg (by omega), Int.toNat_natCast, Int.toNat_natCast, if_pos hn]
        have e2 : txtS zs (a : Int) (m : Int) = (zs.drop (a + 4)).take N := by unfold txtS; rw [if_pos e, Int.toNat_natCast, hN, Int.toNat_natCast]
        rw [e, e2]
        exact h4 hn
      · have e : txtC zs (a : Int) (m : Int) = 110 := by unfold txtC; rw [if_pos he, Int.toNat_natCast, hN, if_neg (by omega), Int.toNat_natCast, Int.toNat_natCast, if_neg hn]
        have e2 : txtS zs (a : Int) (m : Int) = [] := by unfold txtS; rw [if_neg (by rw [e]; omega)]
        rw [e, e2]
        exact h5 (by simpa using hn)
  · have e : txtC zs at_ most = txtE zs.length at_ most := by unfold txtC; rw [if_neg he]
    have e2 : txtS zs at_ most = [] := by unfold txtS; rw [if_neg (by rw [e]; exact he)]
    rw [e, e2]
    exact rtext_err _ _ _ _ _ _ hl (by simpa using he)

end Go.Proofs.Ytbfbjagaeolhcaa
