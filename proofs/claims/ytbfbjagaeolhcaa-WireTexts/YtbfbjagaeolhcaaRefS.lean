/- Contract of the reference's Set: the bytes that it answers lie in memory of its own, or are those that came in. -/
import Derived.Test.YtbfbjagaeolhcaaRefN
namespace Go.Proofs.Ytbfbjagaeolhcaa
open Go.RowKit

theorem append_splice (zs X : List Int) (a : Nat) : zs.take a ++ X ++ zs.drop (a + X.length) = splice zs a X := by simp [splice]

set_option maxHeartbeats 1000000 in
theorem rset_ok (g off cap : Nat) (zs : List Int) (a n : Nat) (x : Int) (w : World) (hl : zs.length ≤ 10000) (hx0 : 0 ≤ x) (hx1 : x < 18446744073709551616) (h1 : 1 ≤ n) (h8 : n ≤ 8) (hf : a + n ≤ zs.length) (hcap : zs.length ≤ cap)
    (hx : x < 256 ^ n) (hsrc : Src w (some ⟨g, off, none⟩) zs) :
    Calls Try.prog 9 #[.slice (some ⟨g, off, none⟩) zs.length cap, .int .i64 a, .int .i64 n, .int .u64 x] w fun e w' => ∃ v, e = .returned (.tuple #[v, .int .i64 0]) ∧ Own w' w.heap.size v (splice zs a (num x n)) ∧ Below w.heap.size w w' := by
  have hbq : (inE zs.length (a : Int) (n : Int) == 0) = true := inE_beq (inE_mk (by omega) (by omega))
  have hvx : (val (num x n) != x) = false := by rw [val_num_of_lt x n hx0 hx]; simp
  have hz0 : ¬ cap = 0 := by omega
  have HNL : Hid ((num x n).length = n) := num_length x n
  have HS := append_splice zs (num x n) a
  rw [num_length] at HS
  have HSP : Hid (zs.take a ++ num x n ++ zs.drop (a + n) = splice zs a (num x n)) := HS
  clear HS
  have T1 : Hid ((zs.take a).length = a) := by show _ = _; simp; omega
  have T2 : Hid ((zs.drop (a + n)).length = zs.length - (a + n)) := by show _ = _; simp
  have hll : zs.length ≤ 9223372036854775807 := by omega
  have T3 : Hid (([] : List Int).length + (zs.take a).length ≤ 140737488355328) := by show _ ≤ _; rw [T1.out]; simp; omega
  have T4 : Hid (([] ++ zs.take a).length + (num x n).length ≤ 140737488355328) := by show _ ≤ _; rw [HNL.out, List.nil_append, T1.out]; omega
  have T5 : Hid (([] ++ zs.take a ++ num x n).length + (zs.drop (a + n)).length ≤ 140737488355328) := by show _ ≤ _; rw [T2.out, List.length_append, HNL.out, List.nil_append, T1.out]; omega
  by_cases hce : cap = a + n
  · subst hce
    have hnil : zs.drop (a + n) = [] := List.drop_eq_nil_of_le (by omega)
    have HN : Hid (zs.drop (a + n) = []) := hnil
    clear hnil
    go_enter Try.func9, Try.ntmps9
    go_wp2_with (first | (go_at_call 18; refine (lies_any _ _ _ _ _ _ hll (by omega) (by omega)).mono ?_; rintro e w' ⟨rfl, rfl⟩) | (go_at_call 20; refine (number_own x n _ hx0 hx1 h1 h8).mono ?_; rintro e w1 ⟨g1, c1, rfl, s1, b1⟩) | (go_at_call 19; refine (value_num g1 c1 x n _ h8 s1).mono ?_; rintro e w' ⟨rfl, rfl⟩) | (at_builtin; refine wpList_append_rw rfl (.const (.slice none 0 0)) (.tmp 33) rfl w.heap.size (.slice none 0 0) [] rfl (Own.nil _ _) _ _ _ (zs.take a) rfl T1.out (fun e => by cases e) ((hsrc.below b1).take a) T3.out b1.size ?_; intro v1 w2 o1 q1 b2; have B1 := b1.trans b2) | (at_builtin; refine wpList_append_rw rfl (.tmp 35) (.tmp 38) rfl w.heap.size v1 ([] ++ zs.take a) rfl (o1.below b1) _ _ _ (num x n) rfl HNL.out (fun e => by cases e) s1 T4.out (Nat.le_trans B1.size b1.size) ?_; intro v2 w4 o2 q2 b4; have B2 := (B1.trans (b1.mono B1.size)).trans b4) | (at_builtin; refine wpList_append_rw rfl (.tmp 40) (.tmp 45) rfl w.heap.size v2 ([] ++ zs.take a ++ num x n) rfl o2 _ _ _ (zs.drop (a + n)) rfl T2.out (fun e => by cases e) (by rw [HN.out]; exact Src.nil _ _) T5.out B2.size ?_; intro v3 w5 o3 q3 b5))
    go_ret2
    exact ⟨v3, rfl, by rw [← HSP.out]; exact o3, B2.trans b5⟩
  · go_enter Try.func9, Try.ntmps9
    go_wp2_with (first | (go_at_call 18; refine (lies_any _ _ _ _ _ _ hll (by omega) (by omega)).mono ?_; rintro e w' ⟨rfl, rfl⟩) | (go_at_call 20; refine (number_own x n _ hx0 hx1 h1 h8).mono ?_; rintro e w1 ⟨g1, c1, rfl, s1, b1⟩) | (go_at_call 19; refine (value_num g1 c1 x n _ h8 s1).mono ?_; rintro e w' ⟨rfl, rfl⟩) | (at_builtin; refine wpList_append_rw rfl (.const (.slice none 0 0)) (.tmp 33) rfl w.heap.size (.slice none 0 0) [] rfl (Own.nil _ _) _ _ _ (zs.take a) rfl T1.out (fun e => by cases e) ((hsrc.below b1).take a) T3.out b1.size ?_; intro v1 w2 o1 q1 b2; have B1 := b1.trans b2) | (at_builtin; refine wpList_append_rw rfl (.tmp 35) (.tmp 38) rfl w.heap.size v1 ([] ++ zs.take a) rfl (o1.below b1) _ _ _ (num x n) rfl HNL.out (fun e => by cases e) s1 T4.out (Nat.le_trans B1.size b1.size) ?_; intro v2 w4 o2 q2 b4; have B2 := (B1.trans (b1.mono B1.size)).trans b4) | (at_builtin; refine wpList_append_rw rfl (.tmp 40) (.tmp 45) rfl w.heap.size v2 ([] ++ zs.take a ++ num x n) rfl o2 _ _ _ (zs.drop (a + n)) rfl T2.out (fun e => by cases e) ((hsrc.below B2).drop (a + n)) T5.out B2.size ?_; intro v3 w5 o3 q3 b5))
    go_ret2
    exact ⟨v3, rfl, by rw [← HSP.out]; exact o3, B2.trans b5⟩

theorem inE_four {len : Nat} {at_ n : Int} (he : ¬ inE len at_ n = 0) : inE len at_ n = 4 := by
  unfold inE at he ⊢
  split at he
  · rw [if_pos (by assumption)]
  · exact absurd rfl he

/-- The reference's Set, whatever came in. -/
theorem rset_any (ao : Option Addr) (cap : Nat) (zs : List Int) (at_ n x : Int) (w : World) (hl : zs.length ≤ 10000) (hx0 : 0 ≤ x) (hx1 : x < 18446744073709551616) (hcap : zs.length ≤ cap) (hsrc : Src w ao zs) :
    Calls Try.prog 9 #[.slice ao zs.length cap, .int .i64 at_, .int .i64 n, .int .u64 x] w fun e w' =>
      ∃ ao' c', e = .returned (.tuple #[.slice ao' zs.length c', .int .i64 (setE zs.length at_ n x)]) ∧ Src w' ao' (setR zs at_ n x) ∧ (ao' = ao ∨ ∀ b off, ao' = some ⟨b, off, none⟩ → w.heap.size ≤ b) ∧ Below w.heap.size w w' := by
  by_cases h : n < 1 ∨ 8 < n
  · have e : numE zs.length at_ n = 2 := by unfold numE; rw [if_pos h]
    have e0 : setE zs.length at_ n x = 2 := by unfold setE; rw [if_neg (by rw [e]; omega), e]
    have e1 : setR zs at_ n x = zs := by unfold setR; rw [if_neg (by rw [e0]; omega)]
    rw [e0, e1]
    refine (rset_arg ao zs.length cap at_ n x w h).mono ?_
    rintro e w' ⟨rfl, rfl⟩
    exact ⟨ao, cap, rfl, hsrc, .inl rfl, Below.refl _ _⟩
  · have e : numE zs.length at_ n = inE zs.length at_ n := by unfold numE; rw [if_neg h]
    by_cases he : inE zs.length at_ n = 0
    · obtain ⟨k1, k2⟩ := inE_ok he
      obtain ⟨b, off, rfl, hc⟩ := hsrc (by omega)
      obtain ⟨a, rfl⟩ := Int.eq_ofNat_of_zero_le k1
      obtain ⟨m, rfl⟩ := Int.eq_ofNat_of_zero_le (show 0 ≤ n by omega)
      by_cases hx : x < 256 ^ m
      · have e0 : setE zs.length (a : Int) (m : Int) x = 0 := by unfold setE; rw [if_pos (by rw [e]; exact he), Int.toNat_natCast, if_pos hx]
        have e1 : setR zs (a : Int) (m : Int) x = splice zs a (num x m) := by unfold setR; rw [if_pos e0, Int.toNat_natCast, Int.toNat_natCast]
        rw [e0, e1]
        refine (rset_ok b off cap zs a m x w hl hx0 hx1 (by omega) (by omega) (by omega) hcap hx hsrc).mono ?_
        rintro e w' ⟨v, rfl, ho, hb⟩
        obtain ⟨ao', c', rfl, h1, _, _, h2⟩ := ho.str
        have hln : (splice zs a (num x m)).length = zs.length := length_splice _ _ _ (by rw [num_length]; omega)
        refine ⟨ao', c', by rw [hln], h1, .inr fun b off e => ?_, hb⟩
        subst e
        exact (h2 b rfl).1
      · have e0 : setE zs.length (a : Int) (m : Int) x = 3 := by unfold setE; rw [if_pos (by rw [e]; exact he), Int.toNat_natCast, if_neg hx]
        have e1 : setR zs (a : Int) (m : Int) x = zs := by unfold setR; rw [if_neg (by rw [e0]; omega)]
        rw [e0, e1]
        refine (rset_long _ zs.length cap a m x w (by omega) hx0 hx1 (by omega) (by omega) (by omega) hx).mono ?_
        rintro e w' ⟨rfl, hb⟩
        exact ⟨_, cap, rfl, hsrc.below hb, .inl rfl, hb⟩
    · have e4 := inE_four he
      have e0 : setE zs.length at_ n x = 4 := by unfold setE; rw [if_neg (by rw [e]; exact he), e, e4]
      have e1 : setR zs at_ n x = zs := by unfold setR; rw [if_neg (by rw [e0]; omega)]
      rw [e0, e1]
      refine (rset_range ao zs.length cap at_ n x w (by omega) (by omega) (by omega) (by simpa using he)).mono ?_
      rintro e w' ⟨rfl, rfl⟩
      exact ⟨ao, cap, rfl, hsrc, .inl rfl, Below.refl _ _⟩

end Go.Proofs.Ytbfbjagaeolhcaa
