/- The reference's symbols of lengths and distances. -/
import Derived.Test.YtofmoggejfopiaaSym
namespace Go.Proofs.Ytofmoggejfopiaa
open Go.RowKit
theorem lf_mono {i j : Nat} (h : i ≤ j) : lf i ≤ lf j := by
  induction j with
  | zero => rw [show i = 0 by omega]; exact Nat.le_refl _
  | succ j ih =>
    by_cases e : i = j + 1
    · rw [e]; exact Nat.le_refl _
    · exact Nat.le_trans (ih (by omega)) (Nat.le_add_right _ _)
theorem df_mono {i j : Nat} (h : i ≤ j) : df i ≤ df j := by
  induction j with
  | zero => rw [show i = 0 by omega]; exact Nat.le_refl _
  | succ j ih =>
    by_cases e : i = j + 1
    · rw [e]; exact Nat.le_refl _
    · exact Nat.le_trans (ih (by omega)) (Nat.le_add_right _ _)
theorem ch_l {n : Int} {k : Nat} (hn : n < 258) (hk : k ≤ 27) (h1 : lfs k ≤ n) (h2 : k = 27 ∨ n < lfs (k + 1)) : Ch lfs 29 n k := by
  refine ⟨by omega, h1, fun j hj hj2 => ?_⟩
  by_cases e : j = 28
  · rw [e, lfs_28.1]; exact hn
  · rcases h2 with h2 | h2
    · omega
    · have := lf_mono (show k + 1 ≤ j by omega)
      rw [(lfs_eq (show k + 1 < 28 by omega)).1] at h2
      rw [(lfs_eq (show j < 28 by omega)).1]
      omega
theorem ch_d {n : Int} {k : Nat} (hk : k ≤ 29) (h1 : dfs k ≤ n) (h2 : k = 29 ∨ n < dfs (k + 1)) : Ch dfs 30 n k := by
  refine ⟨by omega, h1, fun j hj hj2 => ?_⟩
  rcases h2 with h2 | h2
  · omega
  · have := df_mono (show k + 1 ≤ j by omega)
    rw [(dfs_eq (show k + 1 < 30 by omega)).1] at h2
    rw [(dfs_eq (show j < 30 by omega)).1]
    omega
set_option maxRecDepth 100000 in
set_option maxHeartbeats 1000000 in
theorem width_any (s : Int) (i : Nat) (hs : s = 257 + (i : Int)) (hi : i ≤ 40) (w : World) : Calls Try.prog 46 #[.int .i64 s] w fun e w' => e = .returned (.int .i64 (lw i : Int)) ∧ w' = w := by
  obtain ⟨q, hq⟩ : ∃ q, q = lw i := ⟨_, rfl⟩
  unfold lw at hq
  unfold lw
  rw [← hq]
  by_cases h : s < 265
  · have h0 : q = 0 := by omega
    subst h0
    clear hs hq
    go_enter Try.func46, Try.ntmps46
    go_wp2
    go_ret
    exact ⟨rfl, rfl⟩
  · have e1 : IntKind.i64.wrap (s - 261) = s - 261 := by rw [IntKind.wrap_i64]; omega
    have HQ : Hid ((s - 261) / 4 = (q : Int)) := by show _ = _; omega
    have hb : 0 ≤ s - 261 := by omega
    have hb2 : s ≤ 1000 := by omega
    clear hs hq
    go_enter Try.func46, Try.ntmps46
    go_wp2
    go_ret
    exact ⟨ret_int (by have := HQ.out; omega), rfl⟩
set_option maxRecDepth 100000 in
set_option maxHeartbeats 1000000 in
theorem far_any (s : Int) (i : Nat) (hs : s = (i : Int)) (hi : i ≤ 40) (w : World) : Calls Try.prog 47 #[.int .i64 s] w fun e w' => e = .returned (.int .i64 (dw i : Int)) ∧ w' = w := by
  obtain ⟨q, hq⟩ : ∃ q, q = dw i := ⟨_, rfl⟩
  unfold dw at hq
  unfold dw
  rw [← hq]
  by_cases h : s < 4
  · have h0 : q = 0 := by omega
    subst h0
    clear hs hq
    go_enter Try.func47, Try.ntmps47
    go_wp2
    go_ret
    exact ⟨rfl, rfl⟩
  · have HQ : Hid (s / 2 - 1 = (q : Int)) := by show _ = _; omega
    have hb : 0 ≤ s := by omega
    have hb2 : s ≤ 1000 := by omega
    clear hs hq
    go_enter Try.func47, Try.ntmps47
    go_wp2
    go_ret
    exact ⟨ret_int (by have := HQ.out; omega), rfl⟩
set_option maxRecDepth 100000 in
set_option maxHeartbeats 1000000 in
theorem first_any (s : Int) (i : Nat) (hs : s = 257 + (i : Int)) (hi : i < 29) (w : World) : Calls Try.prog 29 #[.int .i64 s] w fun e w' => e = .returned (.tuple #[.int .i64 (lfs i), .int .i64 (lws i)]) ∧ w' = w := by
  by_cases h28 : i = 28
  · subst h28
    rw [lfs_28.1, lfs_28.2]
    obtain rfl : s = 285 := by omega
    go_enter Try.func29, Try.ntmps29
    go_wp2
    go_ret2
    exact ⟨rfl, rfl⟩
  · rw [(lfs_eq (show i < 28 by omega)).1, (lfs_eq (show i < 28 by omega)).2]
    have h285 : (s == 285) = false := beq_eq_false_iff_ne.2 (by omega)
    have h285' : ¬ s = 285 := by omega
    have HSI : Hid (s = 257 + (i : Int)) := hs
    have hsb : s ≤ 284 := by omega
    clear hs
    go_enter Try.func29, Try.ntmps29
    go_wp2_with fail
    go_loopw [4, 5] (fun u4 u5 wr => ∃ k : Nat, k ≤ i ∧ u5 = .int .i64 (257 + (k : Int)) ∧ u4 = .int .i64 (lf k : Int) ∧ wr = w) (fun _ u5 _ => 500 - (intOf u5).toNat)
    case atStart => exact ⟨0, Nat.zero_le _, rfl, rfl, rfl⟩
    case round =>
      obtain ⟨k, hk, rfl, rfl, rfl⟩ := hrel
      obtain ⟨t, ht⟩ : ∃ t : Int, t = 257 + (k : Int) := ⟨_, rfl⟩
      rw [← ht]
      have HTK : Hid (t = 257 + (k : Int)) := ht
      have hlf := lf_le (show k ≤ 29 by omega)
      have htb : 257 ≤ t := by omega
      clear ht
      by_cases hlt : t < s
      · go_wp2_with fail
        refine (width_any t k HTK.out (by omega) wr).mono ?_
        rintro e w2 ⟨rfl, h⟩
        replace h := h.symm
        subst h
        have e1 : IntKind.i64.wrap (t + 1) = t + 1 := by rw [IntKind.wrap_i64]; omega
        go_wp2
        refine ⟨⟨k + 1, by have := HTK.out; have := HSI.out; omega, by have := HTK.out; simp; omega, by rw [Nat.min_eq_left (show lw k ≤ 64 by unfold lw; omega), lf_next (by omega)], by first | rfl | trivial⟩, by simp [intOf]; omega⟩
      · obtain rfl : k = i := by have := HTK.out; have := HSI.out; omega
        obtain rfl : t = s := by rw [HTK.out, HSI.out]
        go_wp2_with fail
        refine (width_any t k HTK.out (by omega) wr).mono ?_
        rintro e w2 ⟨rfl, h⟩
        replace h := h.symm
        subst h
        go_wp2
        go_ret2
        exact ⟨rfl, rfl⟩
set_option maxRecDepth 100000 in
set_option maxHeartbeats 1000000 in
theorem firstd_any (s : Int) (i : Nat) (hs : s = (i : Int)) (hi : i < 30) (w : World) : Calls Try.prog 30 #[.int .i64 s] w fun e w' => e = .returned (.tuple #[.int .i64 (dfs i), .int .i64 (dws i)]) ∧ w' = w := by
  rw [(dfs_eq hi).1, (dfs_eq hi).2]
  have HSI : Hid (s = (i : Int)) := hs
  have hsb : s ≤ 29 := by omega
  clear hs
  go_enter Try.func30, Try.ntmps30
  go_wp2_with fail
  go_loopw [4, 5] (fun u4 u5 wr => ∃ k : Nat, k ≤ i ∧ u5 = .int .i64 (k : Int) ∧ u4 = .int .i64 (df k : Int) ∧ wr = w) (fun _ u5 _ => 500 - (intOf u5).toNat)
  case atStart => exact ⟨0, Nat.zero_le _, rfl, rfl, rfl⟩
  case round =>
    obtain ⟨k, hk, rfl, rfl, rfl⟩ := hrel
    obtain ⟨t, ht⟩ : ∃ t : Int, t = (k : Int) := ⟨_, rfl⟩
    rw [← ht]
    have HTK : Hid (t = (k : Int)) := ht
    have hlf := df_le (show k ≤ 30 by omega)
    have htb : 0 ≤ t := by omega
    clear ht
    by_cases hlt : t < s
    · go_wp2_with fail
      refine (far_any t k HTK.out (by omega) wr).mono ?_
      rintro e w2 ⟨rfl, h⟩
      replace h := h.symm
      subst h
      have e1 : IntKind.i64.wrap (t + 1) = t + 1 := by rw [IntKind.wrap_i64]; omega
      go_wp2
      refine ⟨⟨k + 1, by have := HTK.out; have := HSI.out; omega, by have := HTK.out; simp; omega, by rw [Nat.min_eq_left (show dw k ≤ 64 by unfold dw; omega), df_next (by omega)], by first | rfl | trivial⟩, by simp [intOf]; omega⟩
    · obtain rfl : k = i := by have := HTK.out; have := HSI.out; omega
      obtain rfl : t = s := by rw [HTK.out, HSI.out]
      go_wp2_with fail
      refine (far_any t k HTK.out (by omega) wr).mono ?_
      rintro e w2 ⟨rfl, h⟩
      replace h := h.symm
      subst h
      go_wp2
      go_ret2
      exact ⟨rfl, rfl⟩

set_option maxRecDepth 100000 in
set_option maxHeartbeats 2000000 in
theorem rlength_any (n : Int) (w : World) (hlo : 3 ≤ n) (hhi : n ≤ 258) : Calls Try.prog 27 #[.int .i64 n] w fun e w' => ∃ i : Nat, e = .returned (.tuple #[.int .i64 (257 + (i : Int)), .int .u64 (n - lfs i), .int .i64 (lws i)]) ∧ Ch lfs 29 n i ∧ w' = w := by
  by_cases h258 : n = 258
  · subst h258
    go_enter Try.func27, Try.ntmps27
    go_wp2
    refine bodyPost_ret (v := .tuple #[.int .i64 285, .int .u64 0, .int .i64 0]) (by simp [results, Try.results27]) rfl ⟨28, by rw [lfs_28.1, lfs_28.2]; rfl, ⟨by omega, by rw [lfs_28.1]; omega, fun j h1 h2 => by omega⟩, rfl⟩
  have h258b : (n == 258) = false := beq_eq_false_iff_ne.2 h258
  have hn258 : n < 258 := by omega
  clear hhi
  go_enter Try.func27, Try.ntmps27
  go_wp2_with fail
  go_loopw [5, 6, 7] (fun u5 _ _ wr => ∃ k : Nat, k ≤ 27 ∧ u5 = .int .i64 (257 + (k : Int)) ∧ lfs k ≤ n ∧ wr = w) (fun u5 _ _ _ => 500 - (intOf u5).toNat)
  case atStart => exact ⟨0, Nat.zero_le _, rfl, by rw [lfs_0]; omega, rfl⟩
  case round =>
    obtain ⟨k, hk, rfl, hkn, rfl⟩ := hrel
    have HKN : Hid (lfs k ≤ n) := hkn
    obtain ⟨t, ht⟩ : ∃ t : Int, t = 257 + (k : Int) := ⟨_, rfl⟩
    rw [← ht]
    have HTK : Hid (t = 257 + (k : Int)) := ht
    have htb : 257 ≤ t := by omega
    clear ht hkn
    by_cases hlt : t < 284
    · have e1 : IntKind.i64.wrap (t + 1) = t + 1 := by rw [IntKind.wrap_i64]; omega
      have HT1 : Hid (t + 1 = 257 + ((k + 1 : Nat) : Int)) := by show _ = _; have := HTK.out; omega
      have hk1 : k + 1 ≤ 27 := by have := HTK.out; omega
      go_wp2_with fail
      refine (first_any (t + 1) (k + 1) HT1.out (by omega) wr).mono ?_
      rintro e w2 ⟨rfl, h⟩
      replace h := h.symm
      subst h
      by_cases hbr : n < lfs (k + 1)
      · have HCH : Hid (Ch lfs 29 n k) := ch_l hn258 (by omega) HKN.out (.inr hbr)
        obtain ⟨z, hz⟩ : ∃ z, z = lfs (k + 1) := ⟨_, rfl⟩
        rw [← hz] at hbr ⊢
        clear hz
        go_wp2_with fail
        refine (first_any t k HTK.out (by omega) wr).mono ?_
        rintro e w3 ⟨rfl, h⟩
        replace h := h.symm
        subst h
        have c1 := (lfs_le (show k < 29 by omega))
        have hx2 := HKN.out
        obtain ⟨x, hx⟩ : ∃ x, x = lfs k := ⟨_, rfl⟩
        obtain ⟨y, hy⟩ : ∃ y, y = lws k := ⟨_, rfl⟩
        rw [← hx, ← hy]
        rw [← hx] at c1 hx2
        have HXY : Hid (x = lfs k ∧ y = lws k) := ⟨hx, hy⟩
        have e2 : IntKind.i64.wrap (n - x) = n - x := by rw [IntKind.wrap_i64]; omega
        have e3 : IntKind.u64.wrap (n - x) = n - x := by rw [IntKind.wrap_u64]; omega
        clear hx hy c1
        go_wp2
        refine bodyPost_ret (v := .tuple #[.int .i64 t, .int .u64 (n - x), .int .i64 y]) (by simp [results, Try.results27]) rfl ⟨k, by rw [← HXY.out.1, ← HXY.out.2, HTK.out], HCH.out, rfl⟩
      · have HKN1 : Hid (lfs (k + 1) ≤ n) := by show _ ≤ _; omega
        obtain ⟨z, hz⟩ : ∃ z, z = lfs (k + 1) := ⟨_, rfl⟩
        rw [← hz] at hbr ⊢
        clear hz
        go_wp2
        refine ⟨⟨k + 1, hk1, by rw [HT1.out], HKN1.out, by first | rfl | trivial⟩, by simp [intOf]; omega⟩
    · obtain rfl : k = 27 := by have := HTK.out; omega
      have HCH : Hid (Ch lfs 29 n 27) := ch_l hn258 (by omega) HKN.out (.inl rfl)
      go_wp2_with fail
      refine (first_any t _ HTK.out (by omega) wr).mono ?_
      rintro e w3 ⟨rfl, h⟩
      replace h := h.symm
      subst h
      have c1 := (lfs_le (show 27 < 29 by omega))
      have hx2 := HKN.out
      obtain ⟨x, hx⟩ : ∃ x, x = lfs 27 := ⟨_, rfl⟩
      obtain ⟨y, hy⟩ : ∃ y, y = lws 27 := ⟨_, rfl⟩
      rw [← hx, ← hy]
      rw [← hx] at c1 hx2
      have HXY : Hid (x = lfs 27 ∧ y = lws 27) := ⟨hx, hy⟩
      have e2 : IntKind.i64.wrap (n - x) = n - x := by rw [IntKind.wrap_i64]; omega
      have e3 : IntKind.u64.wrap (n - x) = n - x := by rw [IntKind.wrap_u64]; omega
      clear hx hy c1
      go_wp2
      refine bodyPost_ret (v := .tuple #[.int .i64 t, .int .u64 (n - x), .int .i64 y]) (by simp [results, Try.results27]) rfl ⟨_, by rw [← HXY.out.1, ← HXY.out.2, HTK.out], HCH.out, rfl⟩

set_option maxRecDepth 100000 in
set_option maxHeartbeats 2000000 in
theorem rdistance_any (n : Int) (w : World) (hlo : 1 ≤ n) (hhi : n ≤ 32768) : Calls Try.prog 28 #[.int .i64 n] w fun e w' => ∃ i : Nat, e = .returned (.tuple #[.int .i64 ((i : Int)), .int .u64 (n - dfs i), .int .i64 (dws i)]) ∧ Ch dfs 30 n i ∧ w' = w := by
  go_enter Try.func28, Try.ntmps28
  go_wp2_with fail
  go_loopw [5, 6, 7] (fun u5 _ _ wr => ∃ k : Nat, k ≤ 29 ∧ u5 = .int .i64 ((k : Int)) ∧ dfs k ≤ n ∧ wr = w) (fun u5 _ _ _ => 500 - (intOf u5).toNat)
  case atStart => exact ⟨0, Nat.zero_le _, rfl, by rw [dfs_0]; omega, rfl⟩
  case round =>
    obtain ⟨k, hk, rfl, hkn, rfl⟩ := hrel
    have HKN : Hid (dfs k ≤ n) := hkn
    obtain ⟨t, ht⟩ : ∃ t : Int, t = (k : Int) := ⟨_, rfl⟩
    rw [← ht]
    have HTK : Hid (t = (k : Int)) := ht
    have htb : 0 ≤ t := by omega
    clear ht hkn
    by_cases hlt : t < 29
    · have e1 : IntKind.i64.wrap (t + 1) = t + 1 := by rw [IntKind.wrap_i64]; omega
      have HT1 : Hid (t + 1 = ((k + 1 : Nat) : Int)) := by show _ = _; have := HTK.out; omega
      have hk1 : k + 1 ≤ 29 := by have := HTK.out; omega
      go_wp2_with fail
      refine (firstd_any (t + 1) (k + 1) HT1.out (by omega) wr).mono ?_
      rintro e w2 ⟨rfl, h⟩
      replace h := h.symm
      subst h
      by_cases hbr : n < dfs (k + 1)
      · have HCH : Hid (Ch dfs 30 n k) := ch_d (by omega) HKN.out (.inr hbr)
        obtain ⟨z, hz⟩ : ∃ z, z = dfs (k + 1) := ⟨_, rfl⟩
        rw [← hz] at hbr ⊢
        clear hz
        go_wp2_with fail
        refine (firstd_any t k HTK.out (by omega) wr).mono ?_
        rintro e w3 ⟨rfl, h⟩
        replace h := h.symm
        subst h
        have c1 := (dfs_le (show k < 30 by omega))
        have hx2 := HKN.out
        obtain ⟨x, hx⟩ : ∃ x, x = dfs k := ⟨_, rfl⟩
        obtain ⟨y, hy⟩ : ∃ y, y = dws k := ⟨_, rfl⟩
        rw [← hx, ← hy]
        rw [← hx] at c1 hx2
        have HXY : Hid (x = dfs k ∧ y = dws k) := ⟨hx, hy⟩
        have e2 : IntKind.i64.wrap (n - x) = n - x := by rw [IntKind.wrap_i64]; omega
        have e3 : IntKind.u64.wrap (n - x) = n - x := by rw [IntKind.wrap_u64]; omega
        clear hx hy c1
        go_wp2
        refine bodyPost_ret (v := .tuple #[.int .i64 t, .int .u64 (n - x), .int .i64 y]) (by simp [results, Try.results28]) rfl ⟨k, by rw [← HXY.out.1, ← HXY.out.2, HTK.out], HCH.out, rfl⟩
      · have HKN1 : Hid (dfs (k + 1) ≤ n) := by show _ ≤ _; omega
        obtain ⟨z, hz⟩ : ∃ z, z = dfs (k + 1) := ⟨_, rfl⟩
        rw [← hz] at hbr ⊢
        clear hz
        go_wp2
        refine ⟨⟨k + 1, hk1, by rw [HT1.out], HKN1.out, by first | rfl | trivial⟩, by simp [intOf]; omega⟩
    · obtain rfl : k = 29 := by have := HTK.out; omega
      have HCH : Hid (Ch dfs 30 n 29) := ch_d (by omega) HKN.out (.inl rfl)
      go_wp2_with fail
      refine (firstd_any t _ HTK.out (by omega) wr).mono ?_
      rintro e w3 ⟨rfl, h⟩
      replace h := h.symm
      subst h
      have c1 := (dfs_le (show 29 < 30 by omega))
      have hx2 := HKN.out
      obtain ⟨x, hx⟩ : ∃ x, x = dfs 29 := ⟨_, rfl⟩
      obtain ⟨y, hy⟩ : ∃ y, y = dws 29 := ⟨_, rfl⟩
      rw [← hx, ← hy]
      rw [← hx] at c1 hx2
      have HXY : Hid (x = dfs 29 ∧ y = dws 29) := ⟨hx, hy⟩
      have e2 : IntKind.i64.wrap (n - x) = n - x := by rw [IntKind.wrap_i64]; omega
      have e3 : IntKind.u64.wrap (n - x) = n - x := by rw [IntKind.wrap_u64]; omega
      clear hx hy c1
      go_wp2
      refine bodyPost_ret (v := .tuple #[.int .i64 t, .int .u64 (n - x), .int .i64 y]) (by simp [results, Try.results28]) rfl ⟨_, by rw [← HXY.out.1, ← HXY.out.2, HTK.out], HCH.out, rfl⟩
end Go.Proofs.Ytofmoggejfopiaa
