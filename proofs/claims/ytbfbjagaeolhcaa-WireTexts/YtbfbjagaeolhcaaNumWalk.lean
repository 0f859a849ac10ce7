/- The walk of WireNumbers: it answers true, and nothing that was there has turned. -/
import Derived.Test.YtbfbjagaeolhcaaRefS
import Derived.Test.YtbfbjagaeolhcaaOwnI
namespace Go.Proofs.Ytbfbjagaeolhcaa
open Go.RowKit

theorem Src.grown {w w' : World} {ao : Option Addr} {zs : List Int} {G : Nat} (h : Src w ao zs) (hg : w.grownBy w' (some G)) (hne : ∀ b off, ao = some ⟨b, off, none⟩ → b ≠ G) : Src w' ao zs := by
  intro hp
  obtain ⟨b, off, e, hc⟩ := h hp
  have hb := hne b off e
  exact ⟨b, off, e, fun i hi => hg.cell (hc i hi) (by intro e2; exact hb (Option.some.inj e2))⟩
/-- Where there are bytes, their block is one that is there. -/
theorem Src.lt {w : World} {b off : Nat} {zs : List Int} (h : Src w (some ⟨b, off, none⟩) zs) (hp : 0 < zs.length) : b < w.heap.size := block_lt_of_cell (h.at 0 hp)

theorem own_form {w : World} {base : Nat} {v : Value} {zs : List Int} {z : Int} (h : OwnI w base v ([] ++ zs ++ [z])) :
    ∃ G c tl, v = .slice (some ⟨G, 0, none⟩) (zs.length + 1) c ∧ base ≤ G ∧ Rw 5 w G (zs ++ (z :: tl)) ∧ zs.length + 1 ≤ c ∧ c ≤ maxLen := by
  rcases h with ⟨_, h2⟩ | ⟨g, cap, tl, rfl, hb, hr, h3, h4⟩
  · simp at h2
  · exact ⟨g, cap, tl, by simp, hb, by simpa using hr, by simp at h3; omega, h4⟩

/-- The five numbers of the statement. -/
theorem five (k : Nat) (hk : k < 5) : ∃ x : Int, 0 ≤ x ∧ x < 18446744073709551616 ∧ ∀ w, (Instr.index 30 (.agg #[.int .u64 0, .int .u64 255, .int .u64 65537, .int .u64 1099511627776, .int .u64 18446744073709551615]) (.int .i64 (k : Int))).run Try.prog w = .ok (.int .u64 x) w := by
  match k, hk with
  | 0, _ => exact ⟨0, by omega, by omega, fun _ => by kernel_rfl⟩
  | 1, _ => exact ⟨255, by omega, by omega, fun _ => by kernel_rfl⟩
  | 2, _ => exact ⟨65537, by omega, by omega, fun _ => by kernel_rfl⟩
  | 3, _ => exact ⟨1099511627776, by omega, by omega, fun _ => by kernel_rfl⟩
  | 4, _ => exact ⟨18446744073709551615, by omega, by omega, fun _ => by kernel_rfl⟩

theorem row_zs {w : World} {G : Nat} {zs tl : List Int} (h : Rw 5 w G (zs ++ tl)) : ∀ i, i < zs.length → w.cell? ⟨G, 0 + i, none⟩ = some (.int .u8 (zs.getD i 0)) := by
  intro i hi
  rw [Nat.zero_add, h.cell i (by simp; omega)]
  simp [List.getD, List.getElem?_append_left hi]
theorem row_src {w : World} {G : Nat} {zs tl : List Int} (h : Rw 5 w G (zs ++ tl)) : Src w (some ⟨G, 0, none⟩) zs := Src.mk (row_zs h)
theorem get_back (G c : Nat) (zs tl : List Int) (at_ n x : Int) (w : World) (hl : zs.length ≤ 9223372036854775807) (hb : Byt zs) (hx0 : 0 ≤ x) (he : setE zs.length at_ n x = 0) (hrow : Rw 5 w G (setR zs at_ n x ++ tl)) :
    Calls Try.prog 7 #[.slice (some ⟨G, 0, none⟩) zs.length c, .int .i64 at_, .int .i64 n] w fun e w' => e = .returned (.tuple #[.int .u64 x, .int .i64 0]) ∧ w = w' := by
  have hlen := setR_length zs at_ n x
  have h := get_any G 0 c (setR zs at_ n x) at_ n w (by omega) (setR_byt _ _ _ _ hb) (row_zs hrow)
  rw [getV_setR zs at_ n x hx0 he, hlen] at h
  have hn : numE zs.length at_ n = 0 := by unfold setE at he; split at he <;> simp_all
  rw [hn] at h
  exact h
theorem row_at {w : World} {G : Nat} {zs tl : List Int} {z : Int} {len : Nat} (hl : zs.length = len) (h : Rw 5 w G (zs ++ z :: tl)) : w.cell? ⟨G, len, none⟩ = some (.int .u8 z) := by
  subst hl
  rw [h.cell zs.length (by simp)]
  simp [List.getD]
theorem splice_all (xs zs tl : List Int) (h : xs.length = zs.length) : splice (xs ++ tl) 0 zs = zs ++ tl := by
  simp [splice, ← h]
theorem cv {w : World} {ao : Option Addr} {len c : Nat} {xs : List Int} (hl : xs.length = len) (h : Src w ao xs) : (convert 22 9 (.slice ao len c)).run Try.prog w = .ok (.string (strOfNums xs)) w := by
  subst hl
  exact run_convert_rw w 22 9 5 Try.underlying22 Try.underlying5 Try.underlying9 ao _ c xs rfl h

set_option maxHeartbeats 400000 in
theorem numbers_long (ao : Option Addr) (len cap : Nat) (at_ n : Int) (w : World) (h : 10000 < len) :
    Calls Try.prog 3 #[.slice ao len cap, .int .i64 at_, .int .i64 n] w fun e w' => e = .returned (.bool true) ∧ Below w.heap.size w w' := by
  go_enter Try.func3, Try.ntmps3
  go_wp2_with (go_at_call 6; refine (known_any _).mono ?_; rintro e w1 ⟨rfl, b1⟩)
  go_ret
  exact ⟨rfl, b1⟩

set_option maxRecDepth 100000 in
set_option maxHeartbeats 1000000 in
theorem numbers_walk (ao : Option Addr) (cap : Nat) (zs : List Int) (at_ n : Int) (w : World) (hl : zs.length ≤ 10000) (hcap : zs.length ≤ cap) (hnil : ao = none → cap = 0) (hb : Byt zs) (hsrc : Src w ao zs) :
    Calls Try.prog 3 #[.slice ao zs.length cap, .int .i64 at_, .int .i64 n] w fun e w' => e = .returned (.bool true) ∧ Below w.heap.size w w' := by
  have hll : zs.length ≤ 9223372036854775807 := by omega
  have T1 : Hid (([] : List Int).length + zs.length ≤ 140737488355328) := by show _ ≤ _; simp; omega
  have T2 : Hid (([] ++ zs : List Int).length + ([77] : List Int).length ≤ 140737488355328) := by show _ ≤ _; simp; omega
  have HNIL : Hid (ao = none → cap = 0) := hnil
  clear hnil
  go_enter Try.func3, Try.ntmps3
  go_wp2_with (first | (at_builtin; refine wpList_append_i rfl (.const (.slice none 0 0)) (.tmp 23) rfl w.heap.size (.slice none 0 0) [] rfl (OwnI.nil _ _) _ _ _ zs rfl rfl HNIL.out hsrc T1.out (Nat.le_refl _) ?_; intro v1 w1 o1 q1 b1) | (at_builtin; refine wpList_append_i rfl (.tmp 24) (.tmp 25) rfl w.heap.size v1 ([] ++ zs) rfl (o1.below ((Below.refl _ _).alloc (Nat.le_refl _) _)) _ _ _ [77] rfl rfl (fun e => by cases e) (row_src (tl := []) (Rw.new 5 w1 [77])) T2.out (Nat.le_trans b1.size (by simp)) ?_; intro v2 w2 o2 q2 b2; obtain ⟨G, c, tl, rfl, hG, hrow, hc1, hc2⟩ := own_form o2; have B2 := (b1.alloc b1.size _).trans b2))
  refine (get_any G 0 c zs at_ n w2 hll hb (row_zs hrow)).mono ?_
  rintro e w' ⟨rfl, rfl⟩
  have src2 : Src w2 ao zs := hsrc.below B2
  go_wp2_with fail
  refine (rget_any ao cap zs at_ n w2 hll hb hcap src2).mono ?_
  rintro e w' ⟨rfl, rfl⟩
  have cv1 := cv (c := c) rfl (row_src hrow)
  have cv2 := cv (c := cap) rfl src2
  clear o1 q1 b1 q2 b2 T1 T2 o2
  go_wp2_with fail
  go_loopw [60] (fun i wr => ∃ k : Nat, k ≤ 5 ∧ i = .int .i64 k ∧ Rw 5 wr G (zs ++ 77 :: tl) ∧ Below w.heap.size w wr) (fun i _ => 5 - (intOf i).toNat)
  case atStart => exact ⟨0, by omega, rfl, hrow, B2⟩
  case round =>
    clear cv1 cv2 hrow B2 src2
    obtain ⟨k, hk, rfl, hrow, B2⟩ := hrel
    have srcr : Src wr ao zs := hsrc.below B2
    by_cases hk5 : k < 5
    · obtain ⟨x, hx0, hx1, hix⟩ := five k hk5
      go_wp2_with fail
      refine (rset_any ao cap zs at_ n x wr hl hx0 hx1 hcap srcr).mono ?_
      rintro e w3 ⟨ao', c', rfl, s3, hao, b3⟩
      have hrow3 := hrow.below b3 hrow.lt
      go_wp2_with fail
      refine (set_any G c zs (77 :: tl) at_ n x w3 hll hx0 hx1 (by omega) hrow3).mono ?_
      rintro e w4 ⟨rfl, hrow4, g4⟩
      have hGr := hrow.lt
      have hlen := setR_length zs at_ n x
      have s4 : Src w4 ao' (setR zs at_ n x) := by
        intro hp
        refine s3.grown g4 ?_ hp
        intro b off e
        rcases hao with h | h
        · subst h
          subst e
          have := hsrc.lt (by omega)
          omega
        · have := h b off e
          omega
      have s4b : Src w4 ao zs := by
        intro hp
        refine (srcr.below b3).grown g4 ?_ hp
        intro b off e
        subst e
        have := hsrc.lt hp
        omega
      have B4 : Below w.heap.size w w4 := (B2.trans (b3.mono B2.size)).trans (below_of_grown g4 _ (Nat.le_trans B2.size b3.size) (by intro k hk; cases hk; exact hG))
      have cv3 := cv (c := c) hlen (row_src hrow4)
      have cv4 := cv (c := c') hlen s4
      have h77 := row_at hlen hrow4
      have HL : Hid ((setR zs at_ n x).length = zs.length) := hlen
      have HP : Hid (0 < zs.length → ∃ ad, ao = some ad ∧ ∀ j, j < zs.length → w4.cell? (ad.add j) = some (.int .u8 (zs.getD j 0))) := by
        intro hp
        obtain ⟨b, off, e, hc⟩ := s4b hp
        exact ⟨_, e, fun j hj => by rw [add_o]; exact hc j hj⟩
      have HM : Hid (zs.length = Nat.min zs.length zs.length) := (Nat.min_self _).symm
      have HF : Hid (0 + zs.length ≤ (setR zs at_ n x ++ 77 :: tl).length) := by show _ ≤ _; simp [hlen]
      have HSP : Hid (splice (setR zs at_ n x ++ 77 :: tl) 0 zs = zs ++ 77 :: tl) := splice_all _ _ _ hlen
      clear hlen hix hao s3 b3 g4 hrow3 s4 s4b srcr
      by_cases hE : setE zs.length at_ n x = 0
      · have hE1 : (setE zs.length at_ n x == 0) = true := by simp [hE]
        have HB := get_back G c zs (77 :: tl) at_ n x w4 hll hb hx0 hE hrow4
        have HBB : Hid (Calls Try.prog 7 #[.slice (some ⟨G, 0, none⟩) zs.length c, .int .i64 at_, .int .i64 n] w4 fun e w' => e = .returned (.tuple #[.int .u64 x, .int .i64 0]) ∧ w4 = w') := HB
        clear hE HB
        go_wp2_with (first | (go_at_call 7; refine HBB.out.mono ?_; rintro e w' ⟨rfl, rfl⟩) | (refine wpList_copy_rw rfl (.tmp 114) (.tmp 115) 22 22 rfl 5 Try.underlying22 info5 _ _ _ _ _ _ rfl rfl G 0 5 _ zs hrow4 HM.out (fun h => ⟨rfl, HP.out h⟩) HF.out ?_; intro w5 r5 g5))
        go_roundw
        case rel => exact ⟨k + 1, by omega, by go_num, by rw [← HSP.out]; exact r5, B4.trans (below_of_grown g5 _ B4.size (by intro k hk; cases hk; exact hG))⟩
        case measure => simp [intOf]; omega
      · have hE1 : (setE zs.length at_ n x == 0) = false := by simp [hE]
        clear hE
        go_wp2_with (refine wpList_copy_rw rfl (.tmp 114) (.tmp 115) 22 22 rfl 5 Try.underlying22 info5 _ _ _ _ _ _ rfl rfl G 0 5 _ zs hrow4 HM.out (fun h => ⟨rfl, HP.out h⟩) HF.out ?_; intro w5 r5 g5)
        go_roundw
        case rel => exact ⟨k + 1, by omega, by go_num, by rw [← HSP.out]; exact r5, B4.trans (below_of_grown g5 _ B4.size (by intro k hk; cases hk; exact hG))⟩
        case measure => simp [intOf]; omega
    · obtain rfl : k = 5 := by omega
      go_wp2_with (go_at_call 6; refine (known_any _).mono ?_; rintro e w6 ⟨rfl, b6⟩)
      go_ret
      exact ⟨rfl, B2.trans (b6.mono B2.size)⟩

end Go.Proofs.Ytbfbjagaeolhcaa
