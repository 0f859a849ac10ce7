/- The walk of WireTexts: it answers true, and nothing that was there has turned. -/
import Derived.Test.YtbfbjagaeolhcaaRefU
import Derived.Test.YtbfbjagaeolhcaaNumWalk
import Derived.Deep.QuietTactic
import Derived.BigQuiet
namespace Go.Proofs.Ytbfbjagaeolhcaa
open Go.RowKit

set_option maxRecDepth 100000 in
set_option maxHeartbeats 1000000 in
theorem texts_walk (ao : Option Addr) (cap : Nat) (zs : List Int) (at_ most : Int) (s : ByteArray) (w : World) (hl : zs.length ≤ 10000) (hs : s.size ≤ 10000) (hcap : zs.length ≤ cap) (hnil : ao = none → cap = 0) (hb : Byt zs) (hsrc : Src w ao zs) :
    Calls Try.prog 4 #[.slice ao zs.length cap, .int .i64 at_, .agg #[.int .i64 most, .string s]] w fun e w' => e = .returned (.bool true) ∧ Below w.heap.size w w' := by
  have hll : zs.length ≤ 9223372036854775807 := by omega
  have T1 : Hid (([] : List Int).length + zs.length ≤ 140737488355328) := by show _ ≤ _; simp; omega
  have T2 : Hid (([] ++ zs : List Int).length + ([77] : List Int).length ≤ 140737488355328) := by show _ ≤ _; simp; omega
  have HNIL : Hid (ao = none → cap = 0) := hnil
  clear hnil
  have HB0 : Hid (∀ (o : Obj) (q : Nat), Below w.heap.size w ((w.alloc o).drewN q)) := fun o q => below_drewN ((Below.refl _ _).alloc (Nat.le_refl _) _) q
  go_enter Try.func4, Try.ntmps4
  go_wp2
  go_quiet (fail)
  go_wp2_with (first | (at_builtin; refine wpList_append_i rfl (.const (.slice none 0 0)) (.tmp 32) rfl w.heap.size (.slice none 0 0) [] rfl (OwnI.nil _ _) _ _ _ zs rfl rfl HNIL.out (hsrc.below (HB0.out _ _)) T1.out (HB0.out _ _).size ?_; intro v1 w1 o1 q1 b1; have B1 := (HB0.out _ _).trans b1) | (at_builtin; refine wpList_append_i rfl (.tmp 33) (.tmp 34) rfl w.heap.size v1 ([] ++ zs) rfl (o1.below ((Below.refl _ _).alloc (Nat.le_refl _) _)) _ _ _ [77] rfl rfl (fun e => by cases e) (row_src (tl := []) (Rw.new 5 w1 [77])) T2.out (Nat.le_trans B1.size (by simp)) ?_; intro v2 w2 o2 q2 b2; obtain ⟨G, c, tl, rfl, hG, hrow, hc1, hc2⟩ := own_form o2; have B2 := (B1.alloc B1.size _).trans b2))
  refine (textW_any G 0 c zs at_ most w2 hll hb (row_zs hrow) (by omega)).mono ?_
  rintro e w' ⟨rfl, rfl⟩
  have src2 : Src w2 ao zs := hsrc.below B2
  go_wp2_with fail
  refine (rtext_any ao cap zs at_ most w2 hll hb hcap src2).mono ?_
  rintro e w' ⟨rfl, rfl⟩
  have cv1 := cv (c := c) rfl (row_src hrow)
  have cv2 := cv (c := cap) rfl src2
  clear o1 q1 b1 q2 b2 T1 T2 o2 B1
  go_wp2_with fail
  refine (rstext_any ao cap zs at_ most s w2 hl hcap src2).mono ?_
  rintro e w3 ⟨ao', c', rfl, s3, hao, b3⟩
  have hrow3 := hrow.below b3 hrow.lt
  clear cv1 cv2
  go_wp2_with fail
  refine (stext_any G c zs (77 :: tl) at_ most s w3 hll (by omega) hrow3).mono ?_
  rintro e w4 ⟨rfl, hrow4, g4⟩
  have hGr := hrow.lt
  have hlen := stxR_length zs (byts s) at_ most
  have s4 : Src w4 ao' (stxR zs at_ most (byts s)) := by
    intro hp
    refine s3.grown g4 ?_ hp
    intro b off e
    rcases hao with h | h
    · subst h
      subst e
      have := hsrc.lt (by omega)
      omega
    · have := h b off e
      omega
  have B4 : Below w.heap.size w w4 := (B2.trans (b3.mono B2.size)).trans (below_of_grown g4 _ (Nat.le_trans B2.size b3.size) (by intro k hk; cases hk; exact hG))
  have cv3 := cv (c := c) hlen (row_src hrow4)
  have cv4 := cv (c := c') hlen s4
  have h77 := row_at hlen hrow4
  have HL : Hid ((stxR zs at_ most (byts s)).length = zs.length) := hlen
  clear hlen hao s3 b3 g4 hrow3 s4
  by_cases hE : stxE zs.length at_ most (byts s).length = 0
  · have hE1 : (stxE zs.length at_ most (byts s).length == 0) = true := by simp [hE]
    obtain ⟨t1, t2⟩ := text_back zs (byts s) at_ most hE
    have HB := textW_any G 0 c (stxR zs at_ most (byts s)) at_ most w4 (by rw [HL.out]; omega) (stxR_byt _ _ _ _ hb (byts_byt s)) (row_zs hrow4) (by rw [HL.out]; omega)
    rw [t1, t2, str_byts, HL.out] at HB
    have HBB : Hid (Calls Try.prog 11 #[.slice (some ⟨G, 0, none⟩) zs.length c, .int .i64 at_, .int .i64 most] w4 fun e w' => e = .returned (.tuple #[.string s, .int .i64 0]) ∧ w4 = w') := HB
    clear hE HB t1 t2
    go_wp2_with (first | (go_at_call 11; refine HBB.out.mono ?_; rintro e w' ⟨rfl, rfl⟩) | (go_at_call 6; refine (known_any _).mono ?_; rintro e w6 ⟨rfl, b6⟩))
    go_ret
    exact ⟨rfl, B4.trans (b6.mono B4.size)⟩
  · have hE1 : (stxE zs.length at_ most (byts s).length == 0) = false := by simp [hE]
    clear hE
    go_wp2_with (go_at_call 6; refine (known_any _).mono ?_; rintro e w6 ⟨rfl, b6⟩)
    go_ret
    exact ⟨rfl, B4.trans (b6.mono B4.size)⟩

set_option maxHeartbeats 400000 in
theorem texts_long (ao : Option Addr) (len cap : Nat) (at_ most : Int) (s : ByteArray) (w : World) (h : 10000 < len ∨ 10000 < s.size) :
    Calls Try.prog 4 #[.slice ao len cap, .int .i64 at_, .agg #[.int .i64 most, .string s]] w fun e w' => e = .returned (.bool true) ∧ Below w.heap.size w w' := by
  by_cases h1 : 10000 < len
  · clear h
    go_enter Try.func4, Try.ntmps4
    go_wp2
    go_quiet (fail)
    go_wp2_with (go_at_call 6; refine (known_any _).mono ?_; rintro e w6 ⟨rfl, b6⟩)
    go_ret
    exact ⟨rfl, (below_drewN ((Below.refl _ _).alloc (Nat.le_refl _) _) _).trans (b6.mono (by simp))⟩
  · have h2 : 10000 < s.size := by omega
    clear h
    go_enter Try.func4, Try.ntmps4
    go_wp2
    go_quiet (fail)
    go_wp2_with (go_at_call 6; refine (known_any _).mono ?_; rintro e w6 ⟨rfl, b6⟩)
    go_ret
    exact ⟨rfl, (below_drewN ((Below.refl _ _).alloc (Nat.le_refl _) _) _).trans (b6.mono (by simp))⟩

end Go.Proofs.Ytbfbjagaeolhcaa
