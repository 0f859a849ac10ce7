/- Contract of wire.SetText: the text is written into its field of a row, noughts and all, or the error is told; nothing else of the row, and no other block, turns. -/
import Derived.Test.YtejdmnhdjeogaaaText
import Derived.Test.YtejdmnhdjeogaaaLaws2
namespace Go.Proofs.Ytejdmnhdjeogaaa
open Go.RowKit

theorem splice_splice {α : Type} (zs X Y : List α) (a : Nat) (h : a + X.length + Y.length ≤ zs.length) : splice (splice zs a X) (a + X.length) Y = splice zs a (X ++ Y) := by
  unfold splice
  have e1 : (zs.take a).length = a := by simp; omega
  have e2 : (zs.take a ++ (X ++ zs.drop (a + X.length))).take (a + X.length) = zs.take a ++ X := by
    rw [← List.append_assoc, List.take_append_of_le_length (by simp; omega), List.take_of_length_le (by simp; omega)]
  have e3 : (zs.take a ++ (X ++ zs.drop (a + X.length))).drop (a + X.length + Y.length) = zs.drop (a + (X ++ Y).length) := by
    rw [← List.append_assoc, List.drop_append, List.drop_eq_nil_of_le (by simp; omega), List.nil_append, List.drop_drop]
    congr 1
    simp; omega
  rw [e2, e3]
  simp

def stxE (len : Nat) (at_ most : Int) (k : Nat) : Int := if txtE len at_ most = 0 then (if most < k then 3 else 0) else txtE len at_ most
/-- A field's bytes. -/
def fld (m : Nat) (sb : List Int) : List Int := num sb.length 4 ++ sb ++ List.replicate (m - sb.length) 0
def stxR (zs : List Int) (at_ most : Int) (sb : List Int) : List Int := if stxE zs.length at_ most sb.length = 0 then splice zs at_.toNat (fld most.toNat sb) else zs

theorem info5z : ∃ i, Try.prog.info? 5 = some i ∧ i.zero = some (.int .u8 0) := by
  have h : (Try.prog.info? 5).map (·.zero) = some (some (.int .u8 0)) := by kernel_rfl
  cases e : Try.prog.info? 5 with
  | none => rw [e] at h; simp at h
  | some i => rw [e] at h; exact ⟨i, rfl, by simpa using h⟩

set_option maxHeartbeats 400000 in
theorem stext_err (ao : Option Addr) (len cap : Nat) (at_ n : Int) (s : ByteArray) (w : World) (hl : len ≤ 9223372036854775807) (he : (txtE len at_ n != 0) = true) :
    Calls Try.prog 38 #[.slice ao len cap, .int .i64 at_, .int .i64 n, .string s] w fun e w' => e = .returned (.int .i64 (txtE len at_ n)) ∧ w = w' := by
  go_enter Try.func38, Try.ntmps38
  go_wp2_with (go_at_call 53; refine (text_any _ _ _ _ _ _ hl).mono ?_; rintro e w' ⟨rfl, rfl⟩)
  go_ret
  exact ⟨rfl, rfl⟩

set_option maxHeartbeats 400000 in
theorem stext_long (ao : Option Addr) (len cap : Nat) (at_ : Int) (m : Nat) (s : ByteArray) (w : World) (hl : len ≤ 9223372036854775807) (he : txtE len at_ m = 0) (hk : m < s.size) :
    Calls Try.prog 38 #[.slice ao len cap, .int .i64 at_, .int .i64 m, .string s] w fun e w' => e = .returned (.int .i64 3) ∧ w = w' := by
  have HE : Hid (txtE len at_ (m : Int) = 0) := he
  clear he
  go_enter Try.func38, Try.ntmps38
  go_wp2_with (go_at_call 53; refine (text_any _ _ _ _ _ _ hl).mono ?_; rintro e w' ⟨rfl, rfl⟩; rw [HE.out])
  go_ret
  exact ⟨rfl, rfl⟩

theorem set4 (g cap : Nat) (zs tl : List Int) (a k : Nat) (w : World) (hl : zs.length ≤ 9223372036854775807) (hk : k ≤ 1048576)
    (hf : a + 4 ≤ zs.length) (hcap : zs.length ≤ cap) (hrow : Rw 5 w g (zs ++ tl)) :
    Calls Try.prog 37 #[.slice (some ⟨g, 0, none⟩) zs.length cap, .int .i64 a, .int .i64 4, .int .u64 k] w fun e w' =>
      e = .returned (.int .i64 0) ∧ Rw 5 w' g (splice zs a (num k 4) ++ tl) ∧ w.grownBy w' (some g) :=
  set_ok g cap zs tl a 4 k w hl (by omega) (by omega) (by omega) (by omega) hf hcap (decide_eq_true (by show (k : Int) < 256 ^ 4; have e : (256 : Int) ^ 4 = 4294967296 := by decide
                                                                                                        omega)) hrow

set_option maxHeartbeats 400000 in
theorem stext_less (g cap : Nat) (zs tl : List Int) (a m k : Nat) (s : ByteArray) (w : World) (hl : zs.length ≤ 9223372036854775807) (hm : m ≤ 1048576)
    (hf : a + 4 + m ≤ zs.length) (hcap : zs.length ≤ cap) (hrow : Rw 5 w g (zs ++ tl)) (hs : s.size = k) (hk : k < m) :
    Calls Try.prog 38 #[.slice (some ⟨g, 0, none⟩) zs.length cap, .int .i64 a, .int .i64 m, .string s] w fun e w' =>
      e = .returned (.int .i64 0) ∧ Rw 5 w' g (splice (splice (splice zs a (num k 4) ++ tl) (a + 4) (byts s)) (a + 4 + k) (List.replicate (m - k) 0)) ∧ w.grownBy w' (some g) := by
  have HE : Hid (txtE zs.length (a : Int) (m : Int) = 0) := by show _ = _; unfold txtE; rw [if_neg (by omega)]; exact inE_mk (by omega) (by omega)
  have hw : IntKind.u64.wrap (k : Int) = (k : Int) := by rw [IntKind.wrap_u64]; omega
  have hc1 : ¬ cap = a + 4 := by omega
  have hc2 : ¬ cap - (a + 4) = k := by omega
  have HL : Hid ((splice zs a (num k 4) ++ tl).length = zs.length + tl.length) := by show _ = _; rw [List.length_append, length_splice _ _ _ (by rw [num_length]; omega)]
  obtain ⟨i0, hi0, hz0⟩ := info5z
  obtain ⟨M, hM⟩ : ∃ M, M = splice zs a (num k 4) ++ tl := ⟨_, rfl⟩
  have HS4 : Hid (Calls Try.prog 37 #[.slice (some ⟨g, 0, none⟩) zs.length cap, .int .i64 a, .int .i64 4, .int .u64 k] w fun e w' => e = .returned (.int .i64 0) ∧ Rw 5 w' g M ∧ w.grownBy w' (some g)) := by
    rw [hM]; exact set4 g cap zs tl a k w hl (by omega) (by omega) hcap hrow
  rw [← hM] at HL ⊢
  have HL2 : Hid ((splice M (a + 4) (byts s)).length = zs.length + tl.length) := by
    show _ = _; rw [length_splice _ _ _ (by rw [byts_length, HL.out]; omega), HL.out]
  have HI : Hid (Try.prog.info? 5 = some i0) := hi0
  have HZ : Hid (i0.zero = some (.int .u8 0)) := hz0
  clear hM hi0 hz0
  go_enter Try.func38, Try.ntmps38
  go_wp2_with (first | (go_at_call 53; refine (text_any _ _ _ _ _ _ hl).mono ?_; rintro e w' ⟨rfl, rfl⟩; rw [HE.out]) | (go_at_call 37; refine HS4.out.mono ?_; rintro e w1 ⟨rfl, hr1, hg1⟩) | (refine wpList_copy_str rfl (.tmp 37) (.tmp 38) 26 9 rfl 5 Try.underlying26 info5 _ _ _ s rfl rfl g (a + 4) 5 M hr1 (by omega) (fun _ => rfl) (by rw [HL.out]; omega) ?_; intro w2 hr2 hg2; rw [hs]) | (refine wpList_clear_rw rfl (.tmp 40) 26 rfl 5 i0 Try.underlying26 HI.out HZ.out _ _ _ rfl g (a + 4 + k) 5 _ hr2 (fun _ => rfl) (by rw [HL2.out]; omega) ?_; intro w3 hr3 hg3))
  go_ret
  exact ⟨rfl, hr3, grown_trans hg1 (grown_trans hg2 hg3)⟩

set_option maxHeartbeats 400000 in
theorem stext_full (g cap : Nat) (zs tl : List Int) (a m : Nat) (s : ByteArray) (w : World) (hl : zs.length ≤ 9223372036854775807) (hm : m ≤ 1048576)
    (hf : a + 4 + m ≤ zs.length) (hcap : zs.length ≤ cap) (hrow : Rw 5 w g (zs ++ tl)) (hs : s.size = m) (hk : 0 < m) :
    Calls Try.prog 38 #[.slice (some ⟨g, 0, none⟩) zs.length cap, .int .i64 a, .int .i64 m, .string s] w fun e w' =>
      e = .returned (.int .i64 0) ∧ Rw 5 w' g (splice (splice zs a (num m 4) ++ tl) (a + 4) (byts s)) ∧ w.grownBy w' (some g) := by
  have HE : Hid (txtE zs.length (a : Int) (m : Int) = 0) := by show _ = _; unfold txtE; rw [if_neg (by omega)]; exact inE_mk (by omega) (by omega)
  have hw : IntKind.u64.wrap (m : Int) = (m : Int) := by rw [IntKind.wrap_u64]; omega
  have hc1 : ¬ cap = a + 4 := by omega
  have HL : Hid ((splice zs a (num m 4) ++ tl).length = zs.length + tl.length) := by show _ = _; rw [List.length_append, length_splice _ _ _ (by rw [num_length]; omega)]
  obtain ⟨i0, hi0, hz0⟩ := info5z
  obtain ⟨M, hM⟩ : ∃ M, M = splice zs a (num m 4) ++ tl := ⟨_, rfl⟩
  have HS4 : Hid (Calls Try.prog 37 #[.slice (some ⟨g, 0, none⟩) zs.length cap, .int .i64 a, .int .i64 4, .int .u64 m] w fun e w' => e = .returned (.int .i64 0) ∧ Rw 5 w' g M ∧ w.grownBy w' (some g)) := by
    rw [hM]; exact set4 g cap zs tl a m w hl (by omega) (by omega) hcap hrow
  rw [← hM] at HL ⊢
  have HL2 : Hid ((splice M (a + 4) (byts s)).length = zs.length + tl.length) := by
    show _ = _; rw [length_splice _ _ _ (by rw [byts_length, HL.out]; omega), HL.out]
  have HI : Hid (Try.prog.info? 5 = some i0) := hi0
  have HZ : Hid (i0.zero = some (.int .u8 0)) := hz0
  clear hM hi0 hz0
  by_cases hc2 : cap - (a + 4) = m
  all_goals
    go_enter Try.func38, Try.ntmps38
    go_wp2_with (first | (go_at_call 53; refine (text_any _ _ _ _ _ _ hl).mono ?_; rintro e w' ⟨rfl, rfl⟩; rw [HE.out]) | (go_at_call 37; refine HS4.out.mono ?_; rintro e w1 ⟨rfl, hr1, hg1⟩) | (refine wpList_copy_str rfl (.tmp 37) (.tmp 38) 26 9 rfl 5 Try.underlying26 info5 _ _ _ s rfl rfl g (a + 4) 5 M hr1 (by omega) (fun _ => rfl) (by rw [HL.out]; omega) ?_; intro w2 hr2 hg2; rw [hs]) | (refine wpList_clear_rw rfl (.tmp 40) 26 rfl 5 i0 Try.underlying26 HI.out HZ.out _ 0 _ rfl g 0 5 _ hr2 (fun h => absurd h (by omega)) (by rw [HL2.out]; omega) ?_; intro w3 hr3 hg3))
    go_ret
    exact ⟨rfl, by simpa [splice] using hr3, grown_trans hg1 (grown_trans hg2 hg3)⟩

set_option maxHeartbeats 400000 in
theorem stext_none (g cap : Nat) (zs tl : List Int) (a : Nat) (s : ByteArray) (w : World) (hl : zs.length ≤ 9223372036854775807)
    (hf : a + 4 ≤ zs.length) (hcap : zs.length ≤ cap) (hrow : Rw 5 w g (zs ++ tl)) (hs : s.size = 0) :
    Calls Try.prog 38 #[.slice (some ⟨g, 0, none⟩) zs.length cap, .int .i64 a, .int .i64 0, .string s] w fun e w' =>
      e = .returned (.int .i64 0) ∧ Rw 5 w' g (splice zs a (num 0 4) ++ tl) ∧ w.grownBy w' (some g) := by
  have HE : Hid (txtE zs.length (a : Int) 0 = 0) := by show _ = _; unfold txtE; rw [if_neg (by omega)]; exact inE_mk (by omega) (by omega)
  have HL : Hid ((splice zs a (num 0 4) ++ tl).length = zs.length + tl.length) := by show _ = _; rw [List.length_append, length_splice _ _ _ (by rw [num_length]; omega)]
  obtain ⟨i0, hi0, hz0⟩ := info5z
  obtain ⟨M, hM⟩ : ∃ M, M = splice zs a (num 0 4) ++ tl := ⟨_, rfl⟩
  have HS4 : Hid (Calls Try.prog 37 #[.slice (some ⟨g, 0, none⟩) zs.length cap, .int .i64 a, .int .i64 4, .int .u64 0] w fun e w' => e = .returned (.int .i64 0) ∧ Rw 5 w' g M ∧ w.grownBy w' (some g)) := by
    rw [hM]; exact set4 g cap zs tl a 0 w hl (by omega) (by omega) hcap hrow
  have hb : byts s = [] := List.eq_nil_of_length_eq_zero (by rw [byts_length]; exact hs)
  rw [← hM] at HL ⊢
  have HI : Hid (Try.prog.info? 5 = some i0) := hi0
  have HZ : Hid (i0.zero = some (.int .u8 0)) := hz0
  have HB : Hid (byts s = []) := hb
  clear hM hi0 hz0 hb
  by_cases hc2 : cap = a + 4
  · subst hc2
    go_enter Try.func38, Try.ntmps38
    go_wp2_with (first | (go_at_call 53; refine (text_any _ _ _ _ _ _ hl).mono ?_; rintro e w' ⟨rfl, rfl⟩; rw [HE.out]) | (go_at_call 37; refine HS4.out.mono ?_; rintro e w1 ⟨rfl, hr1, hg1⟩) | (refine wpList_copy_str rfl (.tmp 37) (.tmp 38) 26 9 rfl 5 Try.underlying26 info5 _ _ _ s rfl rfl g 0 5 M hr1 (by omega) (fun h => absurd h (by omega)) (by rw [HL.out]; omega) ?_; intro w2 hr2 hg2; rw [hs]; rw [HB.out] at hr2) | (refine wpList_clear_rw rfl (.tmp 40) 26 rfl 5 i0 Try.underlying26 HI.out HZ.out _ 0 _ rfl g 0 5 _ hr2 (fun h => absurd h (by omega)) (by omega) ?_; intro w3 hr3 hg3))
    go_ret
    exact ⟨rfl, by simpa [splice] using hr3, grown_trans hg1 (grown_trans hg2 hg3)⟩
  · by_cases hc3 : cap - (a + 4) = 0
    · omega
    · go_enter Try.func38, Try.ntmps38
      go_wp2_with (first | (go_at_call 53; refine (text_any _ _ _ _ _ _ hl).mono ?_; rintro e w' ⟨rfl, rfl⟩; rw [HE.out]) | (go_at_call 37; refine HS4.out.mono ?_; rintro e w1 ⟨rfl, hr1, hg1⟩) | (refine wpList_copy_str rfl (.tmp 37) (.tmp 38) 26 9 rfl 5 Try.underlying26 info5 _ _ _ s rfl rfl g 0 5 M hr1 (by omega) (fun h => absurd h (by omega)) (by rw [HL.out]; omega) ?_; intro w2 hr2 hg2; rw [hs]; rw [HB.out] at hr2) | (refine wpList_clear_rw rfl (.tmp 40) 26 rfl 5 i0 Try.underlying26 HI.out HZ.out _ 0 _ rfl g 0 5 _ hr2 (fun h => absurd h (by omega)) (by omega) ?_; intro w3 hr3 hg3))
      go_ret
      exact ⟨rfl, by simpa [splice] using hr3, grown_trans hg1 (grown_trans hg2 hg3)⟩

theorem fld_length (m : Nat) (sb : List Int) (h : sb.length ≤ m) : (fld m sb).length = 4 + m := by simp [fld, num_length]; omega
theorem fld_row (zs tl sb : List Int) (a m : Nat) (hk : sb.length ≤ m) (hf : a + 4 + m ≤ zs.length) :
    splice (splice (splice zs a (num sb.length 4) ++ tl) (a + 4) sb) (a + 4 + sb.length) (List.replicate (m - sb.length) 0) = splice zs a (fld m sb) ++ tl := by
  have h1 : (num (sb.length : Int) 4).length = 4 := num_length _ _
  rw [← splice_append zs tl _ a (by rw [h1]; omega)]
  have e1 := splice_splice (zs ++ tl) (num sb.length 4) sb a (by rw [h1]; simp; omega)
  rw [h1] at e1
  rw [e1]
  have e2 := splice_splice (zs ++ tl) (num sb.length 4 ++ sb) (List.replicate (m - sb.length) 0) a (by simp [h1]; omega)
  rw [show a + (num (sb.length : Int) 4 ++ sb).length = a + 4 + sb.length by simp [h1]; omega] at e2
  rw [e2]
  exact splice_append zs tl _ a (by rw [show (num (sb.length : Int) 4 ++ sb ++ List.replicate (m - sb.length) 0) = fld m sb from rfl, fld_length m sb hk]; omega)

/-- SetText, whatever the place, the width and the text. -/
theorem stext_any (g cap : Nat) (zs tl : List Int) (at_ most : Int) (s : ByteArray) (w : World) (hl : zs.length ≤ 9223372036854775807)
    (hcap : zs.length ≤ cap) (hrow : Rw 5 w g (zs ++ tl)) :
    Calls Try.prog 38 #[.slice (some ⟨g, 0, none⟩) zs.length cap, .int .i64 at_, .int .i64 most, .string s] w fun e w' =>
      e = .returned (.int .i64 (stxE zs.length at_ most (byts s).length)) ∧ Rw 5 w' g (stxR zs at_ most (byts s) ++ tl) ∧ w.grownBy w' (some g) := by
  have hbl := byts_length s
  by_cases he : txtE zs.length at_ most = 0
  · obtain ⟨h0, h1, h2, hf⟩ := txtE_ok he
    obtain ⟨a, rfl⟩ := Int.eq_ofNat_of_zero_le h2
    obtain ⟨m, rfl⟩ := Int.eq_ofNat_of_zero_le h0
    by_cases hk : s.size ≤ m
    · have e0 : stxE zs.length (a : Int) (m : Int) (byts s).length = 0 := by unfold stxE; rw [if_pos he, if_neg (by omega)]
      have e1 : stxR zs (a : Int) (m : Int) (byts s) = splice zs a (fld m (byts s)) := by unfold stxR; rw [if_pos e0, Int.toNat_natCast, Int.toNat_natCast]
      rw [e0, e1, ← fld_row zs tl (byts s) a m (by omega) (by omega)]
      by_cases h3 : s.size < m
      · rw [hbl]
        exact stext_less g cap zs tl a m s.size s w hl (by omega) (by omega) hcap hrow rfl h3
      · have h4 : s.size = m := by omega
        rw [hbl, h4, Nat.sub_self]
        by_cases h5 : 0 < m
        · refine (stext_full g cap zs tl a m s w hl (by omega) (by omega) hcap hrow h4 h5).mono ?_
          rintro e w' ⟨rfl, hr, hg⟩
          exact ⟨rfl, by simpa [splice] using hr, hg⟩
        · obtain rfl : m = 0 := by omega
          have hb0 : byts s = [] := List.eq_nil_of_length_eq_zero (by omega)
          rw [hb0]
          refine (stext_none g cap zs tl a s w hl (by omega) hcap hrow h4).mono ?_
          rintro e w' ⟨rfl, hr, hg⟩
          exact ⟨rfl, by simpa [splice] using hr, hg⟩
    · have e0 : stxE zs.length (a : Int) (m : Int) (byts s).length = 3 := by unfold stxE; rw [if_pos he, if_pos (by omega)]
      have e1 : stxR zs (a : Int) (m : Int) (byts s) = zs := by unfold stxR; rw [if_neg (by rw [e0]; omega)]
      rw [e0, e1]
      refine (stext_long _ _ cap a m s w hl he (by omega)).mono ?_
      rintro e w' ⟨rfl, rfl⟩
      exact ⟨rfl, hrow, grown_refl _ _⟩
  · have e0 : stxE zs.length at_ most (byts s).length = txtE zs.length at_ most := by unfold stxE; rw [if_neg he]
    have e1 : stxR zs at_ most (byts s) = zs := by unfold stxR; rw [if_neg (by rw [e0]; exact he)]
    rw [e0, e1]
    refine (stext_err _ _ cap at_ most s w hl (by simpa using he)).mono ?_
    rintro e w' ⟨rfl, rfl⟩
    exact ⟨rfl, hrow, grown_refl _ _⟩

end Go.Proofs.Ytejdmnhdjeogaaa
