/- stops: Number. -/
import Derived.Test.YtlnknkeagonmpaaGreatSp1
namespace Go.Proofs.YtlnknkeagonmpaaGreat
open Go.RowKit

/-- The number of the first k picks. -/
def nbr (zs : List Int) : Nat → Nat
  | 0 => 0
  | k + 1 => 2 * nbr zs k + (wayf zs k).toNat
theorem wayf_bit (zs : List Int) (k : Nat) : wayf zs k = 0 ∨ wayf zs k = 1 := by
  unfold wayf
  omega
theorem nbr_lt (zs : List Int) (k : Nat) : nbr zs k < 2 ^ k := by
  induction k with
  | zero => simp [nbr]
  | succ k ih =>
    unfold nbr
    rw [Nat.pow_succ]
    rcases wayf_bit zs k with h | h <;> rw [h] <;> simp <;> omega
theorem or_bit (q b : Nat) (hb : b ≤ 1) (hq : q < 2305843009213693952) : bits .or .i64 ((q : Int) * 2) (b : Int) = ((2 * q + b : Nat) : Int) := by
  have e : ((q : Int) * 2) = ((2 * q : Nat) : Int) := by omega
  have h2 : 2 * q ||| b = 2 * q + b := by
    have := Nat.two_pow_add_eq_or_of_lt (i := 1) (b := b) (by omega) q
    simpa using this.symm
  rw [e]
  show IntKind.i64.wrap (((BitVec.ofInt 64 ((2 * q : Nat) : Int) ||| BitVec.ofInt 64 (b : Int)).toNat : Nat) : Int) = _
  rw [BitVec.ofInt_natCast, BitVec.ofInt_natCast, BitVec.toNat_or, BitVec.toNat_ofNat, BitVec.toNat_ofNat, Nat.mod_eq_of_lt (by omega), Nat.mod_eq_of_lt (by omega), h2, IntKind.wrap_i64]
  omega
set_option maxRecDepth 100000 in
set_option maxHeartbeats 4000000 in
theorem number_bad (D : Nat → Prop) (w : World) (g fm : Nat) (fv : Value) (steps : Nat) (fs : List Fe) (ft : List (Int × Int)) (es : List (ByteArray × Value × Nat)) (c : Nat) (h : Sr D w g fm fv steps fs ft es c) (ao : Option Addr) (zs : List Int) (n cap : Nat) (hn : n = zs.length) (hb : n ≤ 1000000000000) (hz : ¬ ∀ z ∈ zs, 0 ≤ z) (hS : Src .i64 w ao zs) :
    Calls Tryz.prog 21 #[.pointer (some ⟨g, 0, none⟩), .slice ao n cap] w fun e w' => e = .returned (.tuple #[.int .i64 0, .int .i64 2]) ∧ w' = w := by
  have HC : Hid (Calls Tryz.prog 19 #[.pointer (some ⟨g, 0, none⟩), .slice ao n cap] w fun e w' => e = .returned (.tuple #[.slice none 0 0, .int .i64 2]) ∧ w' = w) := plain_bad D w g fm fv steps fs ft es c h ao zs n cap hn hb hz hS
  clear h hn hz hS
  go_enter Tryz.func21, Tryz.ntmps21
  go_wp2_with (first | (go_at_call 19; refine HC.out.mono ?_; rintro e w' ⟨rfl, h⟩; replace h := h.symm; subst h))
  go_ret2
  exact ⟨rfl, rfl⟩
set_option maxRecDepth 100000 in
set_option maxHeartbeats 4000000 in
theorem number_any (D : Nat → Prop) (w : World) (g fm : Nat) (fv : Value) (steps : Nat) (fs : List Fe) (ft : List (Int × Int)) (es : List (ByteArray × Value × Nat)) (c : Nat) (h : Sr D w g fm fv steps fs ft es c) (hP : pnd fs ≤ 62) (ao : Option Addr) (zs : List Int) (n cap : Nat) (hn : n = zs.length) (hb : n ≤ 1000000000000) (hz : ∀ z ∈ zs, 0 ≤ z) (hS : Src .i64 w ao zs) :
    Calls Tryz.prog 21 #[.pointer (some ⟨g, 0, none⟩), .slice ao n cap] w fun e w' => e = .returned (.tuple #[.int .i64 (nbr zs (pnd fs)), .int .i64 0]) ∧ Kp (fun _ => False) w w' := by
  have HC : Hid (Calls Tryz.prog 19 #[.pointer (some ⟨g, 0, none⟩), .slice ao n cap] w fun e w' => ∃ G, e = .returned (.tuple #[.slice (some ⟨G, 0, none⟩) (pnd fs) (pnd fs), .int .i64 0]) ∧ w.heap.size ≤ G ∧ Rw .i64 3 w' G (lst (pnd fs) (wayf zs)) ∧ Kp (fun _ => False) w w') := plain_any D w g fm fv steps fs ft es c h (by omega) ao zs n cap hn hb hz hS
  clear h hn hz hS
  generalize pnd fs = P at *
  go_enter Tryz.func21, Tryz.ntmps21
  go_wp2_with fail
  refine HC.out.mono ?_
  rintro e w1 ⟨G, rfl, hG, hr, k1⟩
  have HR : Hid (Rw .i64 3 w1 G (lst P (wayf zs))) := hr
  have K1 : Hid (Kp (fun _ => False) w w1) := k1
  have hPi : ¬ (62 : Int) < (P : Int) := by omega
  clear hr k1 HC
  go_wp2_with fail
  go_loopw [8, 10, 25] (fun nv _ iv wr => ∃ k : Nat, k ≤ P ∧ iv = .int .i64 k ∧ nv = .int .i64 (nbr zs k) ∧ wr = w1) (fun _ _ iv _ => P - (intOf iv).toNat)
  case atStart => exact ⟨0, Nat.zero_le _, rfl, rfl, rfl⟩
  case round =>
    obtain ⟨k, hk, rfl, rfl, rfl⟩ := hrel
    by_cases hlt : k < P
    · have hli : (k : Int) < (P : Int) := by omega
      have y0 := HR.out.cell k (by rw [lst_len]; exact hlt)
      rw [lst_get _ _ _ hlt] at y0
      have hbl := nbr_lt zs k
      have hpk : 2 ^ k ≤ 2 ^ 61 := Nat.pow_le_pow_right (by omega) (by omega)
      have h61 : (2 : Nat) ^ 61 = 2305843009213693952 := by decide
      have hb2 : nbr zs k < 2305843009213693952 := by omega
      have HNX : Hid (nbr zs (k + 1) = 2 * nbr zs k + (wayf zs k).toNat) := rfl
      clear hbl hpk h61
      obtain ⟨q, hq⟩ : ∃ q, q = nbr zs k := ⟨_, rfl⟩
      rw [← hq] at hb2 HNX ⊢
      clear hq
      rcases wayf_bit zs k with hw | hw
      · rw [hw] at y0 HNX
        go_wp2_with fail
        exact ⟨⟨k + 1, hlt, rfl, by rw [HNX.out]; have := or_bit q 0 (by omega) hb2; simpa using this, trivial⟩, by simp only [intOf]; omega⟩
      · rw [hw] at y0 HNX
        go_wp2_with fail
        exact ⟨⟨k + 1, hlt, rfl, by rw [HNX.out]; have := or_bit q 1 (by omega) hb2; simpa using this, trivial⟩, by simp only [intOf]; omega⟩
    · have hli : ¬ (k : Int) < (P : Int) := by omega
      obtain rfl : k = P := by omega
      go_wp2
      go_ret2
      exact ⟨rfl, K1.out⟩
set_option maxRecDepth 100000 in
set_option maxHeartbeats 4000000 in
theorem number_long (D : Nat → Prop) (w : World) (g fm : Nat) (fv : Value) (steps : Nat) (fs : List Fe) (ft : List (Int × Int)) (es : List (ByteArray × Value × Nat)) (c : Nat) (h : Sr D w g fm fv steps fs ft es c) (hP : 62 < pnd fs) (hPb : pnd fs ≤ 1000000000) (ao : Option Addr) (zs : List Int) (n cap : Nat) (hn : n = zs.length) (hb : n ≤ 1000000000000) (hz : ∀ z ∈ zs, 0 ≤ z) (hS : Src .i64 w ao zs) :
    Calls Tryz.prog 21 #[.pointer (some ⟨g, 0, none⟩), .slice ao n cap] w fun e w' => e = .returned (.tuple #[.int .i64 0, .int .i64 3]) ∧ Kp (fun _ => False) w w' := by
  have HC : Hid (Calls Tryz.prog 19 #[.pointer (some ⟨g, 0, none⟩), .slice ao n cap] w fun e w' => ∃ G, e = .returned (.tuple #[.slice (some ⟨G, 0, none⟩) (pnd fs) (pnd fs), .int .i64 0]) ∧ w.heap.size ≤ G ∧ Rw .i64 3 w' G (lst (pnd fs) (wayf zs)) ∧ Kp (fun _ => False) w w') := plain_any D w g fm fv steps fs ft es c h hPb ao zs n cap hn hb hz hS
  clear h hn hz hS
  generalize pnd fs = P at *
  go_enter Tryz.func21, Tryz.ntmps21
  go_wp2_with fail
  refine HC.out.mono ?_
  rintro e w1 ⟨G, rfl, hG, hr, k1⟩
  have K1 : Hid (Kp (fun _ => False) w w1) := k1
  have hPi : (62 : Int) < (P : Int) := by omega
  clear hr k1 HC
  go_wp2
  go_ret2
  exact ⟨rfl, K1.out⟩
end Go.Proofs.YtlnknkeagonmpaaGreat
