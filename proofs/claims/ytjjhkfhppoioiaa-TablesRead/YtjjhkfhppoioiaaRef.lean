/- Contracts of the reference's Value and Number: what bytes say; a number's bytes in memory of its own. -/
import Derived.Test.YtjjhkfhppoioiaaSet
namespace Go.Proofs.Ytjjhkfhppoioiaa
open Go.RowKit

set_option maxHeartbeats 400000 in
theorem value_any (g off cap : Nat) (zs : List Int) (w : World) (hb : Byt zs) (hl : zs.length ≤ 8)
    (hc : ∀ i, i < zs.length → w.cell? ⟨g, off + i, none⟩ = some (.int .u8 (zs.getD i 0))) :
    Calls Try.prog 57 #[.slice (some ⟨g, off, none⟩) zs.length cap] w fun e w' => e = .returned (.int .u64 (val zs)) ∧ w = w' := by
  go_enter Try.func57, Try.ntmps57
  go_wp2
  go_loop [3, 4] (fun x i => ∃ k : Nat, k ≤ zs.length ∧ i = .int .i64 ((k : Int) - 1) ∧ x = .int .u64 (val (zs.drop k))) (fun _ i => (intOf i + 1).toNat)
  case atStart => exact ⟨zs.length, Nat.le_refl _, rfl, by rw [List.drop_of_length_le (by omega)]; rfl⟩
  case round =>
    obtain ⟨k, hk, rfl, rfl⟩ := hrel
    by_cases hk0 : k = 0
    · subst hk0
      go_wp2
      go_ret
      exact ⟨rfl, rfl⟩
    · obtain ⟨j, rfl⟩ : ∃ j, k = j + 1 := ⟨k - 1, by omega⟩
      have hcell := hc j (by omega)
      have hv := val_bound (zs.drop (j + 1)) (hb.drop _)
      have hg := hb.get j
      have hp := pow256_le (show (zs.drop (j + 1)).length ≤ 7 by simp; omega)
      have hv7 : val (zs.drop (j + 1)) < 72057594037927936 := Int.lt_of_lt_of_le hv.2 (Int.le_trans hp (by decide))
      have hs := val_drop_step zs j (by omega)
      have hv0 := hv.1
      obtain ⟨z, hz⟩ : ∃ z, z = zs.getD j 0 := ⟨_, rfl⟩
      obtain ⟨V, hV⟩ : ∃ V, V = val (zs.drop (j + 1)) := ⟨_, rfl⟩
      rw [← hz] at hcell hg hs
      rw [← hV] at hv7 hs hv0 ⊢
      have hwz : IntKind.u64.wrap z = z := by rw [IntKind.wrap_u64]; omega
      have HS : Hid (val (zs.drop j) = z + 256 * V) := hs
      clear hs hp hv hz hV
      go_wp2
      go_round
      case rel => exact ⟨j, by omega, by go_num, by rw [HS.out, Int.add_comm]⟩
      case measure => simp [intOf]

theorem Try.info5 : (Try.prog.info? 5).map (fun i => (i.zero, i.size, i.bytes)) = some (some (.int .u8 0), 1, 1) := by kernel_rfl

set_option maxHeartbeats 400000 in
theorem number_ref (x : Int) (n : Nat) (w : World) (hx0 : 0 ≤ x) (hx1 : x < 18446744073709551616) (hn : n ≤ 8) :
    Calls Try.prog 25 #[.int .u64 x, .int .i64 n] w fun e w' => ∃ v, e = .returned v ∧ w'.ownsRow w.heap.size 5 1 v n ((num x n).map (Value.int .u8)) ∧ Below w.heap.size w w' := by
  obtain ⟨i0, hi, hz0, hz1, hz2⟩ := info_parts Try.info5
  go_enter Try.func25, Try.ntmps25
  go_wp2
  go_loopw [0, 5, 6] (fun u v i wr => ∃ k : Nat, k ≤ n ∧ i = .int .i64 k ∧ u = .int .u64 (x / 256 ^ k) ∧ wr.ownsRow w.heap.size 5 1 v k ((num x k).map (Value.int .u8)) ∧ Below w.heap.size w wr) (fun _ _ i _ => n - (intOf i).toNat)
  case atStart => exact ⟨0, Nat.zero_le _, rfl, by simp, World.ownsRow_nil _ _ _ _, Below.refl _ _⟩
  case round =>
    obtain ⟨k, hk, rfl, rfl, hown, hbel⟩ := hrel
    have hbd := div_pow_bd x k hx0 hx1
    have hst := div_pow_step x k
    have hsn := num_snoc x k
    obtain ⟨X, hX⟩ : ∃ X, X = x / 256 ^ k := ⟨_, rfl⟩
    rw [← hX] at hbd hst hsn ⊢
    have HST : Hid (X / 256 = x / 256 ^ (k + 1)) := hst
    have HSN : Hid (num x (k + 1) = num x k ++ [X % 256]) := hsn
    have hb0 := hbd.1
    have hb1 := hbd.2
    clear hst hsn hX hbd
    by_cases hlt : k < n
    · have HC3 : Hid (k + 1 ≤ maxLen) := by show _ ≤ _; unfold maxLen; omega
      have HC5 : Hid (w.heap.size ≤ (wr.alloc (.cells #[.int .u8 (X % 256)] 5)).heap.size) := by show _ ≤ _; have := hbel.size; simp; omega
      go_wp2_with (at_builtin; refine wpList_append_own _ rfl (.tmp 12) (.tmp 16) 26 rfl w.heap.size 5 i0 (.int .u8 0) 1 1 Try.underlying26 hi hz0 hz1 hz2 rfl (by decide) _ k _ rfl (hown.alloc _) ⟨wr.heap.size, 0, none⟩ 1 1 [.int .u8 (X % 256)] rfl rfl (cell_one_new _ _ _) (by intro u hu; simp at hu; subst hu; rfl) HC3.out (by omega) HC5.out ?_; intro v' w1 hown' hgrow hnil)
      go_roundw
      case rel =>
        refine ⟨k + 1, by omega, by go_num, by rw [HST.out], ?_, ?_⟩
        · rw [HSN.out]; simpa using hown'
        · exact (hbel.alloc hbel.size _).grown hgrow HC5.out (by intro j hj; exact (hown.lt j hj).1)
      case measure => simp [intOf]; omega
    · obtain rfl : k = n := by omega
      go_wp2
      go_ret
      exact ⟨_, rfl, hown, hbel⟩
end Go.Proofs.Ytjjhkfhppoioiaa
