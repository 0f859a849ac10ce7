/- Contract of the reference's SetText: the bytes that it answers lie in memory of its own, or are those that came in. -/
import Derived.Test.YtbfbjagaeolhcaaRefT
import Derived.Test.YtbfbjagaeolhcaaLaws3
namespace Go.Proofs.Ytbfbjagaeolhcaa
open Go.RowKit

set_option maxHeartbeats 400000 in
theorem rstext_err (ao : Option Addr) (len cap : Nat) (at_ n : Int) (s : ByteArray) (w : World) (hl : len ≤ 9223372036854775807) (he : (txtE len at_ n != 0) = true) :
    Calls Try.prog 13 #[.slice ao len cap, .int .i64 at_, .int .i64 n, .string s] w fun e w' => e = .returned (.tuple #[.slice ao len cap, .int .i64 (txtE len at_ n)]) ∧ w = w' := by
  go_enter Try.func13, Try.ntmps13
  go_wp2_with (go_at_call 23; refine (field_any _ _ _ _ _ _ hl).mono ?_; rintro e w' ⟨rfl, rfl⟩)
  go_ret2
  exact ⟨rfl, rfl⟩

set_option maxHeartbeats 400000 in
theorem rstext_long (ao : Option Addr) (len cap : Nat) (at_ : Int) (m : Nat) (s : ByteArray) (w : World) (hl : len ≤ 9223372036854775807) (he : txtE len at_ m = 0) (hk : m < s.size) :
    Calls Try.prog 13 #[.slice ao len cap, .int .i64 at_, .int .i64 m, .string s] w fun e w' => e = .returned (.tuple #[.slice ao len cap, .int .i64 3]) ∧ w = w' := by
  have HE : Hid (txtE len at_ (m : Int) = 0) := he
  clear he
  go_enter Try.func13, Try.ntmps13
  go_wp2_with (go_at_call 23; refine (field_any _ _ _ _ _ _ hl).mono ?_; rintro e w' ⟨rfl, rfl⟩; rw [HE.out])
  go_ret2
  exact ⟨rfl, rfl⟩

theorem number4 (k : Nat) (w : World) (hk : k ≤ 1048576) :
    Calls Try.prog 20 #[.int .u64 k, .int .i64 4] w fun e w' => ∃ g c, e = .returned (.slice (some ⟨g, 0, none⟩) 4 c) ∧ Src w' (some ⟨g, 0, none⟩) (num k 4) ∧ Below w.heap.size w w' :=
  number_own k 4 w (by omega) (by omega) (by omega) (by omega)

theorem fld_all (zs : List Int) (s : ByteArray) (a m : Nat) (hk : s.size ≤ m) : [] ++ zs.take a ++ num s.size 4 ++ byts s ++ List.replicate (m - s.size) 0 ++ zs.drop (a + 4 + m) = splice zs a (fld m (byts s)) := by
  have hbl := byts_length s
  unfold splice
  rw [fld_length m (byts s) (by omega), ← Nat.add_assoc]
  simp [fld, hbl]

theorem OwnI.named {w : World} {base : Nat} {v : Value} {xs : List Int} {n : Nat} (hn : xs.length = n) (h : OwnI w base v xs) : ∃ X, Hid (X = xs) ∧ Hid (X.length = n) ∧ OwnI w base v X := ⟨xs, rfl, hn, h⟩

set_option maxHeartbeats 1000000 in
theorem rstext_ok (g off cap : Nat) (zs : List Int) (a m k : Nat) (s : ByteArray) (w : World) (hl : zs.length ≤ 10000) (hm : m ≤ 1048576) (hf : a + 4 + m ≤ zs.length) (hcap : zs.length ≤ cap) (hs : s.size = k) (hk : k ≤ m)
    (hsrc : Src w (some ⟨g, off, none⟩) zs) :
    Calls Try.prog 13 #[.slice (some ⟨g, off, none⟩) zs.length cap, .int .i64 a, .int .i64 m, .string s] w fun e w' => ∃ v, e = .returned (.tuple #[v, .int .i64 0]) ∧ OwnI w' w.heap.size v (splice zs a (fld m (byts s))) ∧ Below w.heap.size w w' := by
  have hll : zs.length ≤ 9223372036854775807 := by omega
  have HE : Hid (txtE zs.length (a : Int) (m : Int) = 0) := by show _ = _; unfold txtE; rw [if_neg (by omega)]; exact inE_mk (by omega) (by omega)
  have hw : IntKind.u64.wrap (k : Int) = (k : Int) := by rw [IntKind.wrap_u64]; omega
  have hz0 : ¬ cap = 0 := by omega
  have HALL0 := fld_all zs s a m (by omega)
  rw [hs] at HALL0
  have HALL : Hid ([] ++ zs.take a ++ num k 4 ++ byts s ++ List.replicate (m - k) 0 ++ zs.drop (a + 4 + m) = splice zs a (fld m (byts s))) := HALL0
  clear HALL0
  have T1 : Hid ((zs.take a).length = a) := by show _ = _; simp; omega
  have T2 : Hid ((num (k : Int) 4).length = 4) := num_length _ _
  have T3 : Hid ((byts s).length = k) := by show _ = _; rw [byts_length]; exact hs
  have T5 : Hid ((zs.drop (a + 4 + m)).length = zs.length - (a + 4 + m)) := by show _ = _; simp
  have L1 : Hid (([] : List Int).length + (zs.take a).length ≤ 140737488355328) := by show _ ≤ _; rw [T1.out]; simp; omega
  have L2 : Hid (([] ++ zs.take a).length + (num (k : Int) 4).length ≤ 140737488355328) := by show _ ≤ _; rw [T2.out, List.nil_append, T1.out]; omega
  have L2b : Hid (([] ++ zs.take a ++ num (k : Int) 4).length = a + 4) := by show _ = _; rw [List.length_append, List.nil_append, T2.out, T1.out]
  have hcast : (m : Int) - (k : Int) = ((m - k : Nat) : Int) := by omega
  have HCAST : Hid ((m : Int) - (k : Int) = ((m - k : Nat) : Int)) := hcast
  clear hcast
  by_cases hce : cap = a + 4 + m
  · subst hce
    have HN : Hid (zs.drop (a + 4 + m) = []) := List.drop_eq_nil_of_le (by omega)
    go_enter Try.func13, Try.ntmps13
    go_wp2_with (first | (go_at_call 23; refine (field_any _ _ _ _ _ _ hll).mono ?_; rintro e w' ⟨rfl, rfl⟩; rw [HE.out]) | (at_builtin; refine wpList_append_i rfl (.const (.slice none 0 0)) (.tmp 27) rfl w.heap.size (.slice none 0 0) [] rfl (OwnI.nil _ _) _ _ _ (zs.take a) rfl T1.out (fun e => by cases e) (hsrc.take a) L1.out (Nat.le_refl _) ?_; intro v1 w1 o1 q1 b1) | (go_at_call 20; refine (number4 k _ (by omega)).mono ?_; rintro e w2 ⟨g2, c2, rfl, s2, b2⟩; have B2 := b1.trans (b2.mono b1.size)) | (at_builtin; refine wpList_append_i rfl (.tmp 29) (.tmp 33) rfl w.heap.size v1 ([] ++ zs.take a) rfl (o1.below b2) _ _ _ (num k 4) rfl T2.out (fun e => by cases e) s2 L2.out B2.size ?_; intro v3 w3 o3 q3 b3; have B3 := B2.trans b3; obtain ⟨X2, HX2, hX2, o3'⟩ := OwnI.named L2b.out o3; obtain ⟨g3, c3, t3, rfl, hg3, hr3, hc3, hm3⟩ := o3'.some (by rw [hX2.out]; omega)) | (at_builtin; refine wpList_append_str rfl (.tmp 35) (.tmp 36) rfl w.heap.size g3 c3 X2 t3 s rfl rfl hg3 hr3 hc3 hm3 (by rw [hX2.out]; omega) B3.size ?_; intro v4 w4 o4 b4; have B4 := B3.trans b4; obtain ⟨X3, HX3, hX3, o4'⟩ := OwnI.named (n := a + 4 + k) (by rw [List.length_append, hX2.out, T3.out]) o4; obtain ⟨g4, c4, t4, rfl, hg4, hr4, hc4, hm4⟩ := o4'.some (by rw [hX3.out]; omega)) | (at_builtin; refine wpList_append_zeros rfl (.tmp 38) (.tmp 42) rfl w.heap.size g4 c4 X3 t4 (m - k) _ HCAST.out rfl rfl hg4 hr4 hc4 hm4 (by rw [hX3.out]; omega) B4.size ?_; intro v5 w5 o5 b5; have B5 := B4.trans b5; obtain ⟨X4, HX4, hX4, o5'⟩ := OwnI.named (n := a + 4 + m) (by rw [List.length_append, hX3.out, List.length_replicate]; omega) o5) | (at_builtin; refine wpList_append_i rfl (.tmp 44) (.tmp 50) rfl w.heap.size v5 X4 rfl o5' _ _ _ (zs.drop (a + 4 + m)) rfl T5.out (fun e => by cases e) (by rw [HN.out]; exact Src.nil _ _) (by rw [hX4.out, T5.out]; omega) B5.size ?_; intro v6 w6 o6 q6 b6))
    go_ret2
    exact ⟨v6, rfl, by rw [← HALL.out, ← HX2.out, ← HX3.out, ← HX4.out]; exact o6, B5.trans b6⟩
  · go_enter Try.func13, Try.ntmps13
    go_wp2_with (first | (go_at_call 23; refine (field_any _ _ _ _ _ _ hll).mono ?_; rintro e w' ⟨rfl, rfl⟩; rw [HE.out]) | (at_builtin; refine wpList_append_i rfl (.const (.slice none 0 0)) (.tmp 27) rfl w.heap.size (.slice none 0 0) [] rfl (OwnI.nil _ _) _ _ _ (zs.take a) rfl T1.out (fun e => by cases e) (hsrc.take a) L1.out (Nat.le_refl _) ?_; intro v1 w1 o1 q1 b1) | (go_at_call 20; refine (number4 k _ (by omega)).mono ?_; rintro e w2 ⟨g2, c2, rfl, s2, b2⟩; have B2 := b1.trans (b2.mono b1.size)) | (at_builtin; refine wpList_append_i rfl (.tmp 29) (.tmp 33) rfl w.heap.size v1 ([] ++ zs.take a) rfl (o1.below b2) _ _ _ (num k 4) rfl T2.out (fun e => by cases e) s2 L2.out B2.size ?_; intro v3 w3 o3 q3 b3; have B3 := B2.trans b3; obtain ⟨X2, HX2, hX2, o3'⟩ := OwnI.named L2b.out o3; obtain ⟨g3, c3, t3, rfl, hg3, hr3, hc3, hm3⟩ := o3'.some (by rw [hX2.out]; omega)) | (at_builtin; refine wpList_append_str rfl (.tmp 35) (.tmp 36) rfl w.heap.size g3 c3 X2 t3 s rfl rfl hg3 hr3 hc3 hm3 (by rw [hX2.out]; omega) B3.size ?_; intro v4 w4 o4 b4; have B4 := B3.trans b4; obtain ⟨X3, HX3, hX3, o4'⟩ := OwnI.named (n := a + 4 + k) (by rw [List.length_append, hX2.out, T3.out]) o4; obtain ⟨g4, c4, t4, rfl, hg4, hr4, hc4, hm4⟩ := o4'.some (by rw [hX3.out]; omega)) | (at_builtin; refine wpList_append_zeros rfl (.tmp 38) (.tmp 42) rfl w.heap.size g4 c4 X3 t4 (m - k) _ HCAST.out rfl rfl hg4 hr4 hc4 hm4 (by rw [hX3.out]; omega) B4.size ?_; intro v5 w5 o5 b5; have B5 := B4.trans b5; obtain ⟨X4, HX4, hX4, o5'⟩ := OwnI.named (n := a + 4 + m) (by rw [List.length_append, hX3.out, List.length_replicate]; omega) o5) | (at_builtin; refine wpList_append_i rfl (.tmp 44) (.tmp 50) rfl w.heap.size v5 X4 rfl o5' _ _ _ (zs.drop (a + 4 + m)) rfl T5.out (fun e => by cases e) ((hsrc.below B5).drop (a + 4 + m)) (by rw [hX4.out, T5.out]; omega) B5.size ?_; intro v6 w6 o6 q6 b6))
    go_ret2
    exact ⟨v6, rfl, by rw [← HALL.out, ← HX2.out, ← HX3.out, ← HX4.out]; exact o6, B5.trans b6⟩

theorem stxR_length (zs sb : List Int) (at_ most : Int) : (stxR zs at_ most sb).length = zs.length := by
  unfold stxR; split
  · rename_i h
    have he : txtE zs.length at_ most = 0 := by unfold stxE at h; split at h <;> simp_all
    have hk : ¬ most < sb.length := by unfold stxE at h; rw [if_pos he] at h; split at h <;> simp_all
    obtain ⟨h0, h1, h2, h3⟩ := txtE_ok he
    exact length_splice _ _ _ (by rw [fld_length _ _ (by omega)]; omega)
  · rfl
theorem fld_byt (m : Nat) (sb : List Int) (h : Byt sb) : Byt (fld m sb) := by
  unfold fld
  refine ((num_byt _ _).append h).append ?_
  intro z hz
  have := List.eq_of_mem_replicate hz
  omega
theorem stxR_byt (zs sb : List Int) (at_ most : Int) (h : Byt zs) (hs : Byt sb) : Byt (stxR zs at_ most sb) := by
  unfold stxR; split
  · exact splice_byt h (fld_byt _ _ hs)
  · exact h

/-- Text behind SetText is the text. -/
theorem text_back (zs sb : List Int) (at_ most : Int) (he : stxE zs.length at_ most sb.length = 0) : txtC (stxR zs at_ most sb) at_ most = 0 ∧ txtS (stxR zs at_ most sb) at_ most = sb := by
  have ht : txtE zs.length at_ most = 0 := by unfold stxE at he; split at he <;> simp_all
  have hk : ¬ most < sb.length := by unfold stxE at he; rw [if_pos ht] at he; split at he <;> simp_all
  obtain ⟨h0, h1, h2, h3⟩ := txtE_ok ht
  obtain ⟨a, rfl⟩ := Int.eq_ofNat_of_zero_le h2
  obtain ⟨m, rfl⟩ := Int.eq_ofNat_of_zero_le h0
  have hlen := stxR_length zs sb (a : Int) (m : Int)
  have hR : stxR zs (a : Int) (m : Int) sb = splice zs a (fld m sb) := by unfold stxR; rw [if_pos he, Int.toNat_natCast, Int.toNat_natCast]
  have hkm : sb.length ≤ m := by omega
  have hfl := fld_length m sb hkm
  have hread := splice_read zs (fld m sb) a (by rw [hfl]; omega)
  rw [hfl, ← hR] at hread
  generalize stxR zs (a : Int) (m : Int) sb = R at *
  have hseg : ∀ i n, i + n ≤ 4 + m → (R.drop (a + i)).take n = ((fld m sb).drop i).take n := by
    intro i n hin
    rw [← hread, List.drop_take, List.take_take, List.drop_drop, Nat.min_eq_left (by omega)]
  have e4 : (256 : Int) ^ 4 = 4294967296 := by decide
  have hN : txtN R a = (sb.length : Int) := by
    unfold txtN
    have h := hseg 0 4 (by omega)
    rw [Nat.add_zero, List.drop_zero] at h
    rw [h]
    have : (fld m sb).take 4 = num sb.length 4 := by
      unfold fld
      rw [List.append_assoc, List.take_append_of_le_length (by rw [num_length]; omega), List.take_of_length_le (by rw [num_length]; omega)]
    rw [this]
    exact val_num_of_lt _ _ (by omega) (by rw [e4]; omega)
  have hd4 : (fld m sb).drop 4 = sb ++ List.replicate (m - sb.length) 0 := by
    unfold fld
    have := num_length (sb.length : Int) 4
    rw [List.append_assoc, List.drop_append, List.drop_eq_nil_of_le (by omega), this]
    simp
  have hd5 : (fld m sb).drop (4 + sb.length) = List.replicate (m - sb.length) 0 := by
    rw [← List.drop_drop, hd4, List.drop_append]
    simp
  have hC : txtC R (a : Int) (m : Int) = 0 := by
    unfold txtC
    rw [hlen, if_pos ht, Int.toNat_natCast, hN, if_neg (by omega), Int.toNat_natCast, Int.toNat_natCast]
    have h := hseg (4 + sb.length) (m - sb.length) (by omega)
    rw [← Nat.add_assoc] at h
    rw [h, hd5]
    rw [if_pos (by simp [nouB])]
  refine ⟨hC, ?_⟩
  unfold txtS
  rw [if_pos hC, Int.toNat_natCast, hN, Int.toNat_natCast, hseg 4 sb.length (by omega), hd4]
  simp

/-- The reference's SetText, whatever came in. -/
theorem rstext_any (ao : Option Addr) (cap : Nat) (zs : List Int) (at_ most : Int) (s : ByteArray) (w : World) (hl : zs.length ≤ 10000) (hcap : zs.length ≤ cap) (hsrc : Src w ao zs) :
    Calls Try.prog 13 #[.slice ao zs.length cap, .int .i64 at_, .int .i64 most, .string s] w fun e w' =>
      ∃ ao' c', e = .returned (.tuple #[.slice ao' zs.length c', .int .i64 (stxE zs.length at_ most (byts s).length)]) ∧ Src w' ao' (stxR zs at_ most (byts s)) ∧ (ao' = ao ∨ ∀ b off, ao' = some ⟨b, off, none⟩ → w.heap.size ≤ b) ∧ Below w.heap.size w w' := by
  have hbl := byts_length s
  by_cases he : txtE zs.length at_ most = 0
  · obtain ⟨h0, h1, h2, hf⟩ := txtE_ok he
    obtain ⟨g, off, rfl, hc⟩ := hsrc (by omega)
    obtain ⟨a, rfl⟩ := Int.eq_ofNat_of_zero_le h2
    obtain ⟨m, rfl⟩ := Int.eq_ofNat_of_zero_le h0
    by_cases hk : s.size ≤ m
    · have e0 : stxE zs.length (a : Int) (m : Int) (byts s).length = 0 := by unfold stxE; rw [if_pos he, if_neg (by omega)]
      have e1 : stxR zs (a : Int) (m : Int) (byts s) = splice zs a (fld m (byts s)) := by unfold stxR; rw [if_pos e0, Int.toNat_natCast, Int.toNat_natCast]
      rw [e0, e1]
      refine (rstext_ok g off cap zs a m s.size s w hl (by omega) (by omega) hcap rfl hk hsrc).mono ?_
      rintro e w' ⟨v, rfl, ho, hb⟩
      have hln : (splice zs a (fld m (byts s))).length = zs.length := length_splice _ _ _ (by rw [fld_length _ _ (by omega)]; omega)
      obtain ⟨g', c', tl, rfl, hg', hr', _, _⟩ := ho.some (by omega)
      refine ⟨some ⟨g', 0, none⟩, c', by rw [hln], Src.mk fun i hi => ?_, .inr fun b off e => ?_, hb⟩
      · rw [Nat.zero_add, hr'.cell i (by simp; omega)]
        simp [List.getD, List.getElem?_append_left hi]
      · cases e; exact hg'
    · have e0 : stxE zs.length (a : Int) (m : Int) (byts s).length = 3 := by unfold stxE; rw [if_pos he, if_pos (by omega)]
      have e1 : stxR zs (a : Int) (m : Int) (byts s) = zs := by unfold stxR; rw [if_neg (by rw [e0]; omega)]
      rw [e0, e1]
      refine (rstext_long _ _ cap a m s w (by omega) he (by omega)).mono ?_
      rintro e w' ⟨rfl, rfl⟩
      exact ⟨_, cap, rfl, hsrc, .inl rfl, Below.refl _ _⟩
  · have e0 : stxE zs.length at_ most (byts s).length = txtE zs.length at_ most := by unfold stxE; rw [if_neg he]
    have e1 : stxR zs at_ most (byts s) = zs := by unfold stxR; rw [if_neg (by rw [e0]; exact he)]
    rw [e0, e1]
    refine (rstext_err _ _ cap at_ most s w (by omega) (by simpa using he)).mono ?_
    rintro e w' ⟨rfl, rfl⟩
    exact ⟨ao, cap, rfl, hsrc, .inl rfl, Below.refl _ _⟩

end Go.Proofs.Ytbfbjagaeolhcaa
