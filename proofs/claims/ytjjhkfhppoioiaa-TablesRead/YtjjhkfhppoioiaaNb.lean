/- tables: a number's and a text's bytes; the document's Cluster, Place, Named, named. -/
import Derived.Test.YtjjhkfhppoioiaaNa
import Derived.Great.CaseRows
import Derived.Lib.SmallJoins
namespace Go.Proofs.Ytjjhkfhppoioiaa
open Go.RowKit
set_option linter.unusedVariables false

theorem two_pow_le {k n : Nat} (h : k ≤ n) (hn : n ≤ 16) : (1 : Int) ≤ 2 ^ k ∧ (2 : Int) ^ k ≤ 65536 := by
  have h1 : (2 : Int) ^ k ≤ 2 ^ 16 := by exact_mod_cast Nat.pow_le_pow_right (by omega) (show k ≤ 16 by omega)
  have h2 : (1 : Int) ≤ 2 ^ k := by exact_mod_cast Nat.one_le_two_pow
  exact ⟨h2, h1⟩
set_option maxHeartbeats 1000000 in
theorem rcluster (b : Int) (w : World) (hb : Bt b) : Calls Try.prog 67 #[.int .i64 b] w fun e w' => e = .returned (.int .i64 (clu b)) ∧ w = w' := by
  obtain ⟨h9, h16⟩ := hb
  obtain ⟨n, rfl⟩ := Int.eq_ofNat_of_zero_le (show 0 ≤ b by omega)
  have hn : n ≤ 16 := by omega
  go_enter Try.func67, Try.ntmps67
  go_wp2
  go_loop [3, 4] (fun c i => ∃ k : Nat, k ≤ n ∧ i = .int .i64 k ∧ c = .int .i64 (2 ^ k)) (fun _ i => n - (intOf i).toNat)
  case atStart => exact ⟨0, Nat.zero_le _, rfl, rfl⟩
  case round =>
    obtain ⟨k, hk, rfl, rfl⟩ := hrel
    by_cases hkn : k < n
    · have hp := two_pow_le hk hn
      have hs : (2 : Int) ^ (k + 1) = 2 * 2 ^ k := by rw [Int.pow_succ, Int.mul_comm]
      have HS := hid hs
      clear hs
      generalize hX : (2 : Int) ^ k = X at *
      go_wp2
      go_round
      case rel => exact ⟨k + 1, by omega, by go_num, by rw [HS.out]⟩
      case measure => simp [intOf]; omega
    · have hki : ¬ (k : Int) < (n : Int) := by omega
      have hkk : k = n := by omega
      have HKK := hid hkk
      clear hkk hkn
      go_wp2
      go_ret
      refine ⟨?_, rfl⟩
      rw [HKK.out]
      unfold clu
      rw [Int.toNat_natCast]
      rfl
set_option maxHeartbeats 2000000 in
theorem rplace (x b : Int) (w : World) (hx : I6 x) (hb : Bt b) : Calls Try.prog 47 #[.int .i64 x, .int .i64 b] w fun e w' => Tells e (Plc (clu b) x) ∧ w = w' := by
  have hbd := clu_bd hb
  unfold I6 at hx
  have RC : Hid (∀ w, Calls Try.prog 67 #[.int .i64 b] w fun e w' => e = .returned (.int .i64 (clu b)) ∧ w = w') := fun w => rcluster b w hb
  go_enter Try.func47, Try.ntmps47
  by_cases c1 : 0 < x
  · by_cases c2 : x ≤ 268435456
    · have e1 : x.tmod (clu b) = x % clu b := Int.tmod_eq_emod_of_nonneg (by omega)
      have m0 := Int.emod_nonneg x (show clu b ≠ 0 by omega)
      have m1 := Int.emod_lt_of_pos x (show 0 < clu b by omega)
      have HP : Hid (x % clu b = 0 → Plc (clu b) x) := fun e => ⟨c1, c2, e⟩
      have HN : Hid (x % clu b ≠ 0 → ¬ Plc (clu b) x) := fun e p => e p.2.2
      generalize hm : x % clu b = m at *
      generalize hc : clu b = c at *
      by_cases hz : m = 0
      · subst hz
        go_wp2_with (go_at_call 67; refine (RC.out _).mono ?_; rintro e w' ⟨rfl, rfl⟩)
        go_ret
        exact ⟨Or.inl ⟨HP.out (by trivial), rfl⟩, rfl⟩
      · go_wp2_with (go_at_call 67; refine (RC.out _).mono ?_; rintro e w' ⟨rfl, rfl⟩)
        go_ret
        exact ⟨Or.inr ⟨HN.out hz, by simp [hz]⟩, rfl⟩
    · go_wp2_with fail
      go_ret
      exact ⟨Or.inr ⟨fun p => by have := p.2.1; omega, rfl⟩, rfl⟩
  · go_wp2_with fail
    go_ret
    exact ⟨Or.inr ⟨fun p => by have := p.1; omega, rfl⟩, rfl⟩
theorem byts_get (s : ByteArray) (k : Nat) (h : k < s.size) : (byts s).getD k 0 = ((s[k]'h).toNat : Int) := by
  have h2 : k < s.data.size := h
  rw [getD_lt (byts s) k 0 (by rw [byts_length]; exact h)]
  simp only [byts, List.getElem_map, Array.getElem_toList]
  rfl
/-- ref.Named: is it a name? -/
theorem rnamed_end (s : ByteArray) (hj : ∀ j, j < s.size → (byts s).getD j 0 ≠ 0) : ∀ z ∈ byts s, z ≠ 0 := by
  intro z hz
  obtain ⟨j, hj2, rfl⟩ := List.getElem_of_mem hz
  have := hj j (by rw [byts_length] at hj2; exact hj2)
  rwa [getD_lt _ _ _ hj2] at this
set_option maxHeartbeats 1000000 in
theorem rnamed (s : ByteArray) (w : World) (hs : s.size ≤ 9223372036854775807) : Calls Try.prog 48 #[.string s] w fun e w' => Tells e (Nm s) ∧ w = w' := by
  go_enter Try.func48, Try.ntmps48
  go_wp2
  go_loop [3] (fun i => ∃ k : Nat, k ≤ s.size ∧ i = .int .i64 k ∧ ∀ j, j < k → (byts s).getD j 0 ≠ 0) (fun i => s.size - (intOf i).toNat)
  case atStart => exact ⟨0, Nat.zero_le _, rfl, fun j hj => by omega⟩
  case round =>
    obtain ⟨k, hk, rfl, hj⟩ := hrel
    have HJ := hid hj
    clear hj
    by_cases hkn : k < s.size
    · have HG := hid (byts_get s k hkn)
      by_cases hz : (((s[k]'hkn).toNat : Int) == 0) = true
      · have HZ : Hid (¬ Nm s) := fun h => h.2.2 _ (getD_in (byts s) k 0 (by rw [byts_length]; exact hkn)) (by rw [HG.out]; simpa using hz)
        go_wp2
        go_ret
        exact ⟨Or.inr ⟨HZ.out, rfl⟩, rfl⟩
      · rw [Bool.not_eq_true] at hz
        have HZ : Hid ((byts s).getD k 0 ≠ 0) := by
          show _ ≠ _
          rw [HG.out]
          simpa using hz
        go_wp2
        go_round
        case rel => exact ⟨k + 1, by omega, by go_num, fun j hj => by
          by_cases e : j = k
          · rw [e]; exact HZ.out
          · exact HJ.out j (by omega)⟩
        case measure => simp [intOf]; omega
    · have hkk : k = s.size := by omega
      have HE : Hid (∀ z ∈ byts s, z ≠ 0) := rnamed_end s (by rw [← hkk]; exact HJ.out)
      clear hkk
      by_cases h1 : 1 ≤ s.size
      · by_cases h2 : s.size ≤ 64
        · go_wp2
          go_ret
          exact ⟨Or.inl ⟨⟨h1, h2, HE.out⟩, ret_bool (by simp; omega)⟩, rfl⟩
        · go_wp2
          go_ret
          exact ⟨Or.inr ⟨fun h => by have := h.2.1; omega, ret_bool (by simp; omega)⟩, rfl⟩
      · go_wp2
        go_ret
        exact ⟨Or.inr ⟨fun h => by have := h.1; omega, rfl⟩, rfl⟩
/-- A number's bytes. -/
theorem splice_all (xs cs : List Int) (h : xs.length = cs.length) : splice xs 0 cs = cs := by
  unfold splice
  simp [h]
theorem set_new (g n : Nat) (x : Int) (w : World) (hx0 : 0 ≤ x) (hx1 : x ≤ 9223372036854775807) (h1 : 1 ≤ n) (hn : n ≤ 8) (hx : x < 256 ^ n) (hr : Rw 5 w g (List.replicate n 0)) :
    Calls Try.prog 64 #[.slice (some ⟨g, 0, none⟩) n n, .int .i64 0, .int .i64 n, .int .u64 x] w fun e w' => e = .returned (.int .i64 0) ∧ Rw 5 w' g (num x n) ∧ w.grownBy w' (some g) := by
  have h := set_ok g n (List.replicate n 0) [] 0 n x w (by rw [List.length_replicate]; omega) hx0 (by omega) hn h1 (by rw [List.length_replicate]; omega) (by rw [List.length_replicate]; omega) (by simpa using hx) (by rw [List.append_nil]; exact hr)
  rw [List.length_replicate, splice_all _ _ (by rw [List.length_replicate, num_length]), List.append_nil] at h
  exact h
set_option maxHeartbeats 1000000 in
theorem number_ok (x : Int) (n : Nat) (w : World) (hx0 : 0 ≤ x) (hx1 : x ≤ 9223372036854775807) (h1 : 1 ≤ n) (hn : n ≤ 8) (hx : x < 256 ^ n) :
    Calls Try.prog 43 #[.int .i64 x, .int .i64 n] w fun e w' => e = .returned (.slice (some ⟨w.heap.size, 0, none⟩) n n) ∧ Rw 5 w' w.heap.size (num x n) ∧ Below w.heap.size w w' := by
  have HX := hid hx
  have hw : IntKind.u64.wrap x = x := by rw [IntKind.wrap_u64]; omega
  clear hx
  go_enter Try.func43, Try.ntmps43
  go_wp2_with (first | (at_make; refine wpList_make_rw rfl (.tmp 6) (.tmp 6) rfl n rfl rfl (by omega) ?_; intro w1 r1 b1; have R1 := hid r1; have B1 := hid b1; clear r1 b1) | (go_at_call 64; refine (set_new w.heap.size n x _ hx0 hx1 h1 hn HX.out R1.out).mono ?_; rintro e w2 ⟨rfl, r2, g2⟩; have R2 := hid r2; have B2 : Hid (Below w.heap.size w w2) := B1.out.trans (below_of_grown g2 _ B1.out.size (by intro i hi; cases hi; exact Nat.le_refl _)); clear r2 g2 R1 B1))
  go_ret
  exact ⟨rfl, R2.out, B2.out⟩
end Go.Proofs.Ytjjhkfhppoioiaa
