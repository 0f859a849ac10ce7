/- Contract of wire.Text: the text of a field, or the error; nothing in memory turns. -/
import Derived.Test.YtejdmnhdjeogaaaNoughts
namespace Go.Proofs.Ytejdmnhdjeogaaa
open Go.RowKit

/-- The length that a field at a place says. -/
def txtN (zs : List Int) (a : Nat) : Int := val ((zs.drop a).take 4)
/-- The error of a text's field. -/
def txtC (zs : List Int) (at_ most : Int) : Int :=
  if txtE zs.length at_ most = 0 then
    (if most < txtN zs at_.toNat then 110 else if nouB ((zs.drop (at_.toNat + 4 + (txtN zs at_.toNat).toNat)).take (most.toNat - (txtN zs at_.toNat).toNat)) then 0 else 110)
  else txtE zs.length at_ most
/-- The text of a field. -/
def txtS (zs : List Int) (at_ most : Int) : List Int := if txtC zs at_ most = 0 then (zs.drop (at_.toNat + 4)).take (txtN zs at_.toNat).toNat else []

theorem txtN_bound (zs : List Int) (a : Nat) (h : Byt zs) : 0 ≤ txtN zs a ∧ txtN zs a < 4294967296 := by
  have hb := val_bound _ ((h.drop a).take 4)
  have hp := pow256_le (show ((zs.drop a).take 4).length ≤ 4 by simp; omega)
  have e : (256 : Int) ^ 4 = 4294967296 := by decide
  unfold txtN
  omega

theorem ret_str {s t : ByteArray} {k : IntKind} {c d : Int} (h : s = t) (h' : c = d) : Ending.returned (.tuple #[.string s, .int k c]) = .returned (.tuple #[.string t, .int k d]) := by rw [h, h']

set_option maxHeartbeats 400000 in
theorem text_err (ao : Option Addr) (len cap : Nat) (at_ n : Int) (w : World) (hl : len ≤ 9223372036854775807) (he : (txtE len at_ n != 0) = true) :
    Calls Try.prog 43 #[.slice ao len cap, .int .i64 at_, .int .i64 n] w fun e w' => e = .returned (.tuple #[.string ByteArray.empty, .int .i64 (txtE len at_ n)]) ∧ w = w' := by
  go_enter Try.func43, Try.ntmps43
  go_wp2_with (go_at_call 53; refine (text_any _ _ _ _ _ _ hl).mono ?_; rintro e w' ⟨rfl, rfl⟩)
  go_ret2
  exact ⟨rfl, rfl⟩

theorem get4 (g off cap : Nat) (zs : List Int) (a N : Nat) (w : World) (hl : zs.length ≤ 9223372036854775807) (hb : Byt zs)
    (hc : ∀ i, i < zs.length → w.cell? ⟨g, off + i, none⟩ = some (.int .u8 (zs.getD i 0))) (hf : a + 4 ≤ zs.length) (hN : txtN zs a = N) :
    Calls Try.prog 42 #[.slice (some ⟨g, off, none⟩) zs.length cap, .int .i64 a, .int .i64 4] w fun e w' =>
      e = .returned (.tuple #[.int .u64 N, .int .i64 0]) ∧ w = w' := by
  rw [← hN]
  exact get_ok g off cap zs a 4 w hl hb hc (numE_mk (by omega) (by omega) (by omega) (by omega))

theorem noughts_at (g off cap : Nat) (zs : List Int) (a N m : Nat) (w : World) (hl : zs.length ≤ 9223372036854775807)
    (hc : ∀ i, i < zs.length → w.cell? ⟨g, off + i, none⟩ = some (.int .u8 (zs.getD i 0))) (h1 : N ≤ m) (h2 : a + 4 + m ≤ zs.length) (h3 : zs.length ≤ cap) :
    Calls Try.prog 41 #[.slice (some ⟨g, off, none⟩) zs.length cap, .int .i64 ((a : Int) + 4 + (N : Int)), .int .i64 ((a : Int) + 4 + (m : Int))] w fun e w' =>
      e = .returned (.tuple #[.bool (nouB ((zs.drop (a + 4 + N)).take (m - N))), .int .i64 0]) ∧ w = w' := by
  have h := noughts_ok g off cap zs (a + 4 + N) (a + 4 + m) w hl hc (by omega) h2 h3
  rw [show a + 4 + m - (a + 4 + N) = m - N by omega] at h
  exact h

set_option maxHeartbeats 400000 in
theorem text_bad (g off cap : Nat) (zs : List Int) (a m N : Nat) (w : World) (hl : zs.length ≤ 9223372036854775807) (hb : Byt zs)
    (hc : ∀ i, i < zs.length → w.cell? ⟨g, off + i, none⟩ = some (.int .u8 (zs.getD i 0))) (hm : m ≤ 1048576) (hf : a + 4 + m ≤ zs.length) (hN : txtN zs a = N) (hlt : m < N) :
    Calls Try.prog 43 #[.slice (some ⟨g, off, none⟩) zs.length cap, .int .i64 a, .int .i64 m] w fun e w' => e = .returned (.tuple #[.string ByteArray.empty, .int .i64 110]) ∧ w = w' := by
  have HE : Hid (txtE zs.length (a : Int) (m : Int) = 0) := by show _ = _; unfold txtE; rw [if_neg (by omega)]; exact inE_mk (by omega) (by omega)
  have hbN := txtN_bound zs a hb
  have hw : IntKind.u64.wrap (m : Int) = (m : Int) := by rw [IntKind.wrap_u64]; omega
  have HG := fun w' (hc' : ∀ i, i < zs.length → w'.cell? ⟨g, off + i, none⟩ = some (.int .u8 (zs.getD i 0))) => get4 g off cap zs a N w' hl hb hc' (by omega) hN
  have HC : Hid (∀ i, i < zs.length → w.cell? ⟨g, off + i, none⟩ = some (.int .u8 (zs.getD i 0))) := hc
  have HGG : Hid (Calls Try.prog 42 #[.slice (some ⟨g, off, none⟩) zs.length cap, .int .i64 a, .int .i64 4] w fun e w' => e = .returned (.tuple #[.int .u64 N, .int .i64 0]) ∧ w = w') := HG w hc
  clear hbN hc HG hN hb
  go_enter Try.func43, Try.ntmps43
  go_wp2_with (first | (go_at_call 53; refine (text_any _ _ _ _ _ _ hl).mono ?_; rintro e w' ⟨rfl, rfl⟩; rw [HE.out]) | (go_at_call 42; refine HGG.out.mono ?_; rintro e w' ⟨rfl, rfl⟩))
  go_ret2
  exact ⟨rfl, rfl⟩

set_option maxHeartbeats 400000 in
theorem text_dirty (g off cap : Nat) (zs : List Int) (a m N : Nat) (w : World) (hl : zs.length ≤ 9223372036854775807) (hb : Byt zs)
    (hc : ∀ i, i < zs.length → w.cell? ⟨g, off + i, none⟩ = some (.int .u8 (zs.getD i 0))) (hm : m ≤ 1048576) (hf : a + 4 + m ≤ zs.length) (h3 : zs.length ≤ cap) (hN : txtN zs a = N) (hle : N ≤ m)
    (hn : nouB ((zs.drop (a + 4 + N)).take (m - N)) = false) :
    Calls Try.prog 43 #[.slice (some ⟨g, off, none⟩) zs.length cap, .int .i64 a, .int .i64 m] w fun e w' => e = .returned (.tuple #[.string ByteArray.empty, .int .i64 110]) ∧ w = w' := by
  have HE : Hid (txtE zs.length (a : Int) (m : Int) = 0) := by show _ = _; unfold txtE; rw [if_neg (by omega)]; exact inE_mk (by omega) (by omega)
  have hw : IntKind.u64.wrap (m : Int) = (m : Int) := by rw [IntKind.wrap_u64]; omega
  have hw2 : IntKind.i64.wrap (N : Int) = (N : Int) := by rw [IntKind.wrap_i64]; omega
  have HGG : Hid (Calls Try.prog 42 #[.slice (some ⟨g, off, none⟩) zs.length cap, .int .i64 a, .int .i64 4] w fun e w' => e = .returned (.tuple #[.int .u64 N, .int .i64 0]) ∧ w = w') := get4 g off cap zs a N w hl hb hc (by omega) hN
  have HNN : Hid (Calls Try.prog 41 #[.slice (some ⟨g, off, none⟩) zs.length cap, .int .i64 ((a : Int) + 4 + (N : Int)), .int .i64 ((a : Int) + 4 + (m : Int))] w fun e w' => e = .returned (.tuple #[.bool false, .int .i64 0]) ∧ w = w') := by
    have := noughts_at g off cap zs a N m w hl hc hle hf h3
    rw [hn] at this
    exact this
  clear hn hc hN hb
  go_enter Try.func43, Try.ntmps43
  go_wp2_with (first | (go_at_call 53; refine (text_any _ _ _ _ _ _ hl).mono ?_; rintro e w' ⟨rfl, rfl⟩; rw [HE.out]) | (go_at_call 42; refine HGG.out.mono ?_; rintro e w' ⟨rfl, rfl⟩) | (go_at_call 41; refine HNN.out.mono ?_; rintro e w' ⟨rfl, rfl⟩))
  go_ret2
  exact ⟨rfl, rfl⟩

set_option maxHeartbeats 400000 in
theorem text_good (g off cap : Nat) (zs : List Int) (a m N : Nat) (w : World) (hl : zs.length ≤ 9223372036854775807) (hb : Byt zs)
    (hc : ∀ i, i < zs.length → w.cell? ⟨g, off + i, none⟩ = some (.int .u8 (zs.getD i 0))) (hm : m ≤ 1048576) (hf : a + 4 + m ≤ zs.length) (h3 : zs.length ≤ cap) (hN : txtN zs a = N) (hle : N ≤ m)
    (hn : nouB ((zs.drop (a + 4 + N)).take (m - N)) = true) :
    Calls Try.prog 43 #[.slice (some ⟨g, off, none⟩) zs.length cap, .int .i64 a, .int .i64 m] w fun e w' => e = .returned (.tuple #[.string (strOfNums ((zs.drop (a + 4)).take N)), .int .i64 0]) ∧ w = w' := by
  have HE : Hid (txtE zs.length (a : Int) (m : Int) = 0) := by show _ = _; unfold txtE; rw [if_neg (by omega)]; exact inE_mk (by omega) (by omega)
  have hw : IntKind.u64.wrap (m : Int) = (m : Int) := by rw [IntKind.wrap_u64]; omega
  have hw2 : IntKind.i64.wrap (N : Int) = (N : Int) := by rw [IntKind.wrap_i64]; omega
  have HGG : Hid (Calls Try.prog 42 #[.slice (some ⟨g, off, none⟩) zs.length cap, .int .i64 a, .int .i64 4] w fun e w' => e = .returned (.tuple #[.int .u64 N, .int .i64 0]) ∧ w = w') := get4 g off cap zs a N w hl hb hc (by omega) hN
  have HNN : Hid (Calls Try.prog 41 #[.slice (some ⟨g, off, none⟩) zs.length cap, .int .i64 ((a : Int) + 4 + (N : Int)), .int .i64 ((a : Int) + 4 + (m : Int))] w fun e w' => e = .returned (.tuple #[.bool true, .int .i64 0]) ∧ w = w') := by
    have := noughts_at g off cap zs a N m w hl hc hle hf h3
    rw [hn] at this
    exact this
  obtain ⟨xs, hxs⟩ : ∃ xs, xs = (zs.drop (a + 4)).take N := ⟨_, rfl⟩
  have HXL : Hid (xs.length = N) := by show _ = _; rw [hxs]; simp; omega
  have HXC : Hid (∀ i, i < N → w.cell? ⟨g, off + (a + 4) + i, none⟩ = some (.int .u8 (xs.getD i 0))) := by
    intro i hi
    rw [Nat.add_assoc, hc (a + 4 + i) (by omega), hxs]
    simp [List.getD, hi, List.getElem?_drop]
  rw [← hxs]
  clear hn hc hN hb hxs
  by_cases hcap : cap = a + 4
  · subst hcap
    have hN0 : N ≤ 0 := by omega
    have hcv : ∀ c, (convert 26 9 (.slice (some ⟨g, off, none⟩) N c)).run Try.prog w = .ok (.string (strOfNums xs)) w := fun c =>
      run_convert_rw w 26 9 5 Try.underlying26 Try.underlying5 Try.underlying9 _ N c xs HXL.out (fun h => absurd h (by omega))
    go_enter Try.func43, Try.ntmps43
    go_wp2_with (first | (go_at_call 53; refine (text_any _ _ _ _ _ _ hl).mono ?_; rintro e w' ⟨rfl, rfl⟩; rw [HE.out]) | (go_at_call 42; refine HGG.out.mono ?_; rintro e w' ⟨rfl, rfl⟩) | (go_at_call 41; refine HNN.out.mono ?_; rintro e w' ⟨rfl, rfl⟩))
    go_ret2
    exact ⟨rfl, rfl⟩
  · have hcv : ∀ c, (convert 26 9 (.slice (some ⟨g, off + (a + 4), none⟩) N c)).run Try.prog w = .ok (.string (strOfNums xs)) w := fun c =>
      run_convert_rw w 26 9 5 Try.underlying26 Try.underlying5 Try.underlying9 _ N c xs HXL.out (fun _ => ⟨g, off + (a + 4), rfl, HXC.out⟩)
    go_enter Try.func43, Try.ntmps43
    go_wp2_with (first | (go_at_call 53; refine (text_any _ _ _ _ _ _ hl).mono ?_; rintro e w' ⟨rfl, rfl⟩; rw [HE.out]) | (go_at_call 42; refine HGG.out.mono ?_; rintro e w' ⟨rfl, rfl⟩) | (go_at_call 41; refine HNN.out.mono ?_; rintro e w' ⟨rfl, rfl⟩))
    go_ret2
    exact ⟨rfl, rfl⟩

/-- Text, whatever the place and the width. -/
theorem textW_any (g off cap : Nat) (zs : List Int) (at_ most : Int) (w : World) (hl : zs.length ≤ 9223372036854775807) (hb : Byt zs)
    (hc : ∀ i, i < zs.length → w.cell? ⟨g, off + i, none⟩ = some (.int .u8 (zs.getD i 0))) (h3 : zs.length ≤ cap) :
    Calls Try.prog 43 #[.slice (some ⟨g, off, none⟩) zs.length cap, .int .i64 at_, .int .i64 most] w fun e w' =>
      e = .returned (.tuple #[.string (strOfNums (txtS zs at_ most)), .int .i64 (txtC zs at_ most)]) ∧ w = w' := by
  by_cases he : txtE zs.length at_ most = 0
  · obtain ⟨h0, h1, h2, hf⟩ := txtE_ok he
    obtain ⟨a, rfl⟩ := Int.eq_ofNat_of_zero_le h2
    obtain ⟨m, rfl⟩ := Int.eq_ofNat_of_zero_le h0
    have hbd := txtN_bound zs a hb
    obtain ⟨N, hN⟩ := Int.eq_ofNat_of_zero_le hbd.1
    by_cases hlt : m < N
    · have e : txtC zs (a : Int) (m : Int) = 110 := by unfold txtC; rw [if_pos he, Int.toNat_natCast, hN, if_pos (by omega)]
      have e2 : txtS zs (a : Int) (m : Int) = [] := by unfold txtS; rw [if_neg (by rw [e]; omega)]
      rw [e, e2]
      exact text_bad g off cap zs a m N w hl hb hc (by omega) (by omega) hN hlt
    · by_cases hn : nouB ((zs.drop (a + 4 + N)).take (m - N)) = true
      · have e : txtC zs (a : Int) (m : Int) = 0 := by unfold txtC; rw [if_pos he, Int.toNat_natCast, hN, if_neg (by omega), Int.toNat_natCast, Int.toNat_natCast, if_pos hn]
        have e2 : txtS zs (a : Int) (m : Int) = (zs.drop (a + 4)).take N := by unfold txtS; rw [if_pos e, Int.toNat_natCast, hN, Int.toNat_natCast]
        rw [e, e2]
        exact text_good g off cap zs a m N w hl hb hc (by omega) (by omega) h3 hN (by omega) hn
      · have e : txtC zs (a : Int) (m : Int) = 110 := by unfold txtC; rw [if_pos he, Int.toNat_natCast, hN, if_neg (by omega), Int.toNat_natCast, Int.toNat_natCast, if_neg hn]
        have e2 : txtS zs (a : Int) (m : Int) = [] := by unfold txtS; rw [if_neg (by rw [e]; omega)]
        rw [e, e2]
        exact text_dirty g off cap zs a m N w hl hb hc (by omega) (by omega) h3 hN (by omega) (by simpa using hn)
  · have e : txtC zs at_ most = txtE zs.length at_ most := by unfold txtC; rw [if_neg he]
    have e2 : txtS zs at_ most = [] := by unfold txtS; rw [if_neg (by rw [e]; exact he)]
    rw [e, e2]
    exact text_err _ _ _ _ _ _ hl (by simpa using he)

end Go.Proofs.Ytejdmnhdjeogaaa
