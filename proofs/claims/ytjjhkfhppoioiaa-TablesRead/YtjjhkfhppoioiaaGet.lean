/- Contract of wire.Get: the number that the bytes at a place say, or the error; nothing in memory turns. -/
import Derived.Test.YtjjhkfhppoioiaaBase
namespace Go.Proofs.Ytjjhkfhppoioiaa
open Go.RowKit

theorem or_join (v b : Int) (h0 : 0 ≤ v) (h1 : v < 72057594037927936) (h2 : 0 ≤ b) (h3 : b ≤ 255) : bits .or .u64 (v * 256) (IntKind.u64.wrap b) = b + 256 * v := by
  rw [IntKind.wrap_u64, Int.emod_eq_of_lt h2 (by omega), u64_or _ _ (by omega) (by omega) h2 (by omega)]
  obtain ⟨x, rfl⟩ := Int.eq_ofNat_of_zero_le h0
  obtain ⟨y, rfl⟩ := Int.eq_ofNat_of_zero_le h2
  have e1 : ((x : Int) * 256).toNat = 2 ^ 8 * x := by omega
  rw [e1, Int.toNat_natCast, ← Nat.two_pow_add_eq_or_of_lt (by omega)]
  omega

set_option maxHeartbeats 400000 in
theorem get_ok (g off cap : Nat) (zs : List Int) (at_ n : Int) (w : World) (hl : zs.length ≤ 9223372036854775807) (hb : Byt zs)
    (hc : ∀ i, i < zs.length → w.cell? ⟨g, off + i, none⟩ = some (.int .u8 (zs.getD i 0))) (he : numE zs.length at_ n = 0) :
    Calls Try.prog 66 #[.slice (some ⟨g, off, none⟩) zs.length cap, .int .i64 at_, .int .i64 n] w fun e w' =>
      e = .returned (.tuple #[.int .u64 (val ((zs.drop at_.toNat).take n.toNat)), .int .i64 0]) ∧ w = w' := by
  obtain ⟨h1, h8, h0, hf⟩ := numE_ok he
  obtain ⟨a, rfl⟩ := Int.eq_ofNat_of_zero_le h0
  obtain ⟨m, rfl⟩ := Int.eq_ofNat_of_zero_le (show 0 ≤ n by omega)
  rw [Int.toNat_natCast, Int.toNat_natCast]
  obtain ⟨B, hB⟩ : ∃ B, B = (zs.drop a).take m := ⟨_, rfl⟩
  have hBl : B.length = m := by rw [hB]; simp; omega
  have hBb : Byt B := by rw [hB]; exact (hb.drop _).take _
  have hBc : ∀ j, j < m → w.cell? ⟨g, off + (a + j), none⟩ = some (.int .u8 (B.getD j 0)) := by
    intro j hj
    rw [hc (a + j) (by omega), hB]
    simp [List.getD, hj, List.getElem?_drop]
  rw [← hB]
  have HB := hb
  clear hc hb hB
  have HE : Hid (numE zs.length (a : Int) (m : Int) = 0) := he
  clear he
  go_enter Try.func66, Try.ntmps66
  go_wp2_with (go_at_call 69; refine (number_any _ _ _ _ _ _ hl).mono ?_; rintro e w' ⟨rfl, rfl⟩; rw [HE.out])
  go_loop [9, 10] (fun x i => ∃ k : Nat, k ≤ m ∧ i = .int .i64 ((k : Int) - 1) ∧ x = .int .u64 (val (B.drop k))) (fun _ i => (intOf i + 1).toNat)
  case atStart => exact ⟨m, Nat.le_refl _, rfl, by rw [List.drop_of_length_le (by omega)]; rfl⟩
  case round =>
    obtain ⟨k, hk, rfl, rfl⟩ := hrel
    by_cases hk0 : k = 0
    · subst hk0
      go_wp2
      go_ret2
      exact ⟨rfl, rfl⟩
    · obtain ⟨j, rfl⟩ : ∃ j, k = j + 1 := ⟨k - 1, by omega⟩
      have hcell := hBc j (by omega)
      have hv := val_bound (B.drop (j + 1)) (hBb.drop _)
      have hg := hBb.get j
      have hp := pow256_le (show (B.drop (j + 1)).length ≤ 7 by simp; omega)
      have hv7 : val (B.drop (j + 1)) < 72057594037927936 := Int.lt_of_lt_of_le hv.2 (Int.le_trans hp (by decide))
      have hs := val_drop_step B j (by omega)
      have HS : Hid (val (B.drop j) = bits .or .u64 (val (B.drop (j + 1)) * 256) (IntKind.u64.wrap (B[j]?.getD 0))) := by
        show _ = _
        rw [hs, or_join _ _ hv.1 hv7 (by simpa [List.getD] using hg.1) (by simpa [List.getD] using hg.2)]
        simp [List.getD]
      have hv0 := hv.1
      clear hs hp hv
      go_wp2
      go_round
      case rel => exact ⟨j, by omega, by go_num, by rw [HS.out]⟩
      case measure => simp [intOf]
theorem ret_pair {k l : IntKind} {a b c d : Int} (h : a = b) (h' : c = d) : Ending.returned (.tuple #[.int k a, .int l c]) = .returned (.tuple #[.int k b, .int l d]) := by rw [h, h']

set_option maxHeartbeats 400000 in
theorem get_err (ao : Option Addr) (len cap : Nat) (at_ n : Int) (w : World) (hl : len ≤ 9223372036854775807) (he : (numE len at_ n == 0) = false) :
    Calls Try.prog 66 #[.slice ao len cap, .int .i64 at_, .int .i64 n] w fun e w' => e = .returned (.tuple #[.int .u64 0, .int .i64 (numE len at_ n)]) ∧ w = w' := by
  go_enter Try.func66, Try.ntmps66
  go_wp2_with (go_at_call 69; refine (number_any _ _ _ _ _ _ hl).mono ?_; rintro e w' ⟨rfl, rfl⟩)
  go_ret2
  exact ⟨rfl, rfl⟩

theorem get_any (g off cap : Nat) (zs : List Int) (at_ n : Int) (w : World) (hl : zs.length ≤ 9223372036854775807) (hb : Byt zs)
    (hc : ∀ i, i < zs.length → w.cell? ⟨g, off + i, none⟩ = some (.int .u8 (zs.getD i 0))) :
    Calls Try.prog 66 #[.slice (some ⟨g, off, none⟩) zs.length cap, .int .i64 at_, .int .i64 n] w fun e w' =>
      e = .returned (.tuple #[.int .u64 (getV zs at_ n), .int .i64 (numE zs.length at_ n)]) ∧ w = w' := by
  by_cases he : numE zs.length at_ n = 0
  · refine (get_ok g off cap zs at_ n w hl hb hc he).mono ?_
    rintro e w' ⟨rfl, rfl⟩
    exact ⟨ret_pair (by simp [getV, he]) he.symm, rfl⟩
  · refine (get_err _ zs.length cap at_ n w hl (by simpa using he)).mono ?_
    rintro e w' ⟨rfl, rfl⟩
    exact ⟨ret_pair (by simp [getV, he]) rfl, rfl⟩
end Go.Proofs.Ytjjhkfhppoioiaa
