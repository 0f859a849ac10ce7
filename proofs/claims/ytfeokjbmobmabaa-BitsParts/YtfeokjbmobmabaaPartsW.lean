/- The walk of BitsParts: it answers true, and nothing that was there has turned. -/
import Derived.Test.YtfeokjbmobmabaaPack
import Derived.Test.YtfeokjbmobmabaaRdI
import Derived.Deep.RegionHeld3
namespace Go.Proofs.Ytfeokjbmobmabaa
open Go.RowKit

/-- Two writers that were made since w0 and share nothing. -/
def Two (w0 w : World) (ga gb Na va Nb vb : Nat) : Prop :=
  ∃ sa sb, Wr w ga sa Na va ∧ Wr w gb sb Nb vb ∧ ga ≠ gb ∧ (∀ b, sa.ownBlock = some b → sb.ownBlock ≠ some b) ∧ Ok' w0 w ∧ w0.heap.size ≤ ga ∧ w0.heap.size ≤ gb ∧ (∀ b, sa.ownBlock = some b → w0.heap.size ≤ b) ∧ (∀ b, sb.ownBlock = some b → w0.heap.size ≤ b)
theorem Two.swap {w0 w : World} {ga gb Na va Nb vb : Nat} (h : Two w0 w ga gb Na va Nb vb) : Two w0 w gb ga Nb vb Na va := by
  obtain ⟨sa, sb, h1, h2, h3, h4, h5, h6, h7, h8, h9⟩ := h
  exact ⟨sb, sa, h2, h1, h3.symm, fun b hb hc => h4 b hc hb, h5, h7, h6, h9, h8⟩
theorem Ty.lt {w : World} {b : Nat} {t : TypeId} (h : Ty w b t) : b < w.heap.size := by
  obtain ⟨cs, fr, e⟩ := h
  exact (Array.getElem?_eq_some_iff.1 e).1
theorem two_put {w0 w w' : World} {ga gb Na va Nb vb N' v' : Nat} {sa sb : Value} (h1 : Wr w ga sa Na va) (h2 : Wr w gb sb Nb vb) (h3 : ga ≠ gb) (h4 : ∀ b, sa.ownBlock = some b → sb.ownBlock ≠ some b) (h5 : Ok' w0 w) (h6 : w0.heap.size ≤ ga) (h7 : w0.heap.size ≤ gb)
    (h8 : ∀ b, sa.ownBlock = some b → w0.heap.size ≤ b) (h9 : ∀ b, sb.ownBlock = some b → w0.heap.size ≤ b) (p : Put' w w' ga sa N' v') : Two w0 w' ga gb N' v' Nb vb := by
  obtain ⟨sa', hw', k', hb'⟩ := p
  refine ⟨sa', sb, hw', h2.kp k' ?_ ?_, h3, ?_, h5.trans k' ?_, h6, h7, ?_, h9⟩
  · rintro (e | e)
    · exact h3 e.symm
    · have : (29 : TypeId) = 5 := Ty.ne h2.ty (h1.tyb e)
      exact absurd this (by decide)
  · rintro b hb (e | e)
    · subst e
      have : (29 : TypeId) = 5 := Ty.ne h1.ty (h2.tyb hb)
      exact absurd this (by decide)
    · exact h4 b e hb
  · intro b hb hc
    rcases hb' b hb with h | h
    · exact h4 b h hc
    · have := (h2.tyb hc).lt; omega
  · intro i hi e
    rcases e with e | e
    · omega
    · have := h8 i e; omega
  · intro b hb
    rcases hb' b hb with h | h
    · exact h8 b h
    · have := h5.size; omega
theorem putA (w0 w : World) (ga gb Na va Nb vb x n : Nat) (hN : Na ≤ 1000000000) (hn : n ≤ 57) (hx : x < 2 ^ n) (h : Two w0 w ga gb Na va Nb vb) :
    Calls Try.prog 17 #[.pointer (some ⟨ga, 0, none⟩), .int .u64 x, .int .i64 n] w fun e w' => e = .returned (.int .i64 0) ∧ Two w0 w' ga gb (Na + n) (va + x * 2 ^ Na) Nb vb := by
  obtain ⟨sa, sb, h1, h2, h3, h4, h5, h6, h7, h8, h9⟩ := h
  refine (put_ok ga sa x n Na va w hN hn hx h1).mono ?_
  rintro e w' ⟨rfl, p⟩
  exact ⟨rfl, two_put h1 h2 h3 h4 h5 h6 h7 h8 h9 p⟩
theorem putB (w0 w : World) (ga gb Na va Nb vb x n : Nat) (hN : Nb ≤ 1000000000) (hn : n ≤ 57) (hx : x < 2 ^ n) (h : Two w0 w ga gb Na va Nb vb) :
    Calls Try.prog 17 #[.pointer (some ⟨gb, 0, none⟩), .int .u64 x, .int .i64 n] w fun e w' => e = .returned (.int .i64 0) ∧ Two w0 w' ga gb Na va (Nb + n) (vb + x * 2 ^ Nb) := by
  refine (putA w0 w gb ga Nb vb Na va x n hN hn hx h.swap).mono ?_
  rintro e w' ⟨rfl, h⟩
  exact ⟨rfl, h.swap⟩
theorem Two.ok {w0 w w' : World} {ga gb Na va Nb vb : Nat} (h : Two w0 w ga gb Na va Nb vb) (k : Ok' w w') : Two w0 w' ga gb Na va Nb vb := by
  obtain ⟨sa, sb, h1, h2, h3, h4, h5, h6, h7, h8, h9⟩ := h
  exact ⟨sa, sb, h1.ok k, h2.ok k, h3, h4, h5.trans k (fun _ _ x => x), h6, h7, h8, h9⟩
theorem Two.fst {w0 w : World} {ga gb Na va Nb vb : Nat} (h : Two w0 w ga gb Na va Nb vb) : WrO w0 w ga Na va := by
  obtain ⟨sa, sb, h1, h2, h3, h4, h5, h6, h7, h8, h9⟩ := h
  exact ⟨sa, h1, h5, h6, h8⟩
theorem newTwo (w0 w : World) (ga Na va : Nat) (h : WrO w0 w ga Na va) : Calls Try.prog 9 #[] w fun e w' => ∃ gb, e = .returned (.pointer (some ⟨gb, 0, none⟩)) ∧ Two w0 w' ga gb Na va 0 0 := by
  refine (neww_any w).mono ?_
  rintro e w' ⟨rfl, hw, k⟩
  obtain ⟨sa, h1, h5, h6, h8⟩ := h
  refine ⟨_, rfl, sa, _, h1.ok k, hw, ?_, ?_, h5.trans k (fun _ _ x => x), h6, h5.size, h8, ?_⟩
  · have := h1.ty.lt; omega
  · intro b _ e; simp [Value.ownBlock] at e
  · intro b e; simp [Value.ownBlock] at e
theorem Two.base {w00 w0 w : World} {ga gb Na va Nb vb : Nat} (h : Two w0 w ga gb Na va Nb vb) (k : Ok' w00 w0) : Two w00 w ga gb Na va Nb vb := by
  obtain ⟨sa, sb, h1, h2, h3, h4, h5, h6, h7, h8, h9⟩ := h
  have := k.size
  exact ⟨sa, sb, h1, h2, h3, h4, k.trans h5 (fun _ _ x => x), by omega, by omega, fun b hb => by have := h8 b hb; omega, fun b hb => by have := h9 b hb; omega⟩
theorem pA0 (w0 w : World) (ga gb A Nb vb : Nat) (hA : A ≤ 57) (h : Two w0 w ga gb 0 0 Nb vb) :
    Calls Try.prog 17 #[.pointer (some ⟨ga, 0, none⟩), .int .u64 0, .int .i64 A] w fun e w' => e = .returned (.int .i64 0) ∧ Two w0 w' ga gb A 0 Nb vb := by
  have := putA w0 w ga gb 0 0 Nb vb 0 A (by omega) hA (Nat.pow_pos (by omega)) h
  rw [Nat.zero_add, Nat.zero_mul] at this
  exact this
theorem pB0 (w0 w : World) (ga gb A Na va : Nat) (hA : A ≤ 57) (h : Two w0 w ga gb Na va 0 0) :
    Calls Try.prog 17 #[.pointer (some ⟨gb, 0, none⟩), .int .u64 0, .int .i64 A] w fun e w' => e = .returned (.int .i64 0) ∧ Two w0 w' ga gb Na va A 0 := by
  have := putB w0 w ga gb Na va 0 0 0 A (by omega) hA (Nat.pow_pos (by omega)) h
  rw [Nat.zero_add, Nat.zero_mul] at this
  exact this
/-- The lower part of what is turned is the lower part, turned. -/
theorem turn_part (X n k : Nat) (h : k ≤ n) : turn X n / 2 ^ (n - k) = turn (X % 2 ^ k) k := by
  apply Nat.eq_of_testBit_eq
  intro i
  rw [← Nat.shiftRight_eq_div_pow, Nat.testBit_shiftRight, turn_bit, turn_bit, Nat.testBit_mod_two_pow]
  by_cases hi : i < k
  · simp [hi, show n - k + i < n by omega, show k - 1 - i < k by omega, show n - 1 - (n - k + i) = k - 1 - i by omega]
  · simp [hi, show ¬ n - k + i < n by omega]

theorem five_noughts (w : World) (j : Nat) (hj : j < 5) : (w.alloc (.cells #[.int .i64 0, .int .i64 0, .int .i64 0, .int .i64 0, .int .i64 0] 3)).cell? ⟨w.heap.size, j, none⟩ = some (.int .i64 0) := by
  rw [cell_of_row _ _ j _ _ _ (heap_alloc_new w _)]
  match j, hj with
  | 0, _ => rfl
  | 1, _ => rfl
  | 2, _ => rfl
  | 3, _ => rfl
  | 4, _ => rfl
theorem parts_sum (X k A : Nat) : 0 + X % 2 ^ k * 2 ^ A + X / 2 ^ k * 2 ^ (A + k) = 0 + X * 2 ^ A := by
  have e := Nat.mod_add_div X (2 ^ k)
  have h2 : X / 2 ^ k * 2 ^ (A + k) = 2 ^ k * (X / 2 ^ k) * 2 ^ A := by rw [Nat.pow_add, Nat.mul_comm (2 ^ A), ← Nat.mul_assoc, Nat.mul_comm (X / 2 ^ k)]
  rw [h2, Nat.zero_add, Nat.zero_add, ← Nat.add_mul, e]
theorem Rd.other {w w' : World} {g g' : Nat} {ao : Option Addr} {cap : Nat} {B : List Int} {p : Nat} {ao' : Option Addr} {cap' : Nat} {B' : List Int} {p' : Nat} (h : Rd w g ao cap B p) (h' : Rd w g' ao' cap' B' p') (k : Kp (fun i => i = g') w w') (hne : g ≠ g') : Rd w' g ao cap B p := by
  by_cases hB : B.length = 0
  · obtain ⟨n, q, hx⟩ := h
    exact ⟨n, q, hx.pos, hx.nle, hx.wle, hx.blen, hx.byt, hx.st.kp k hne, fun hp => absurd hp (by omega), hx.hcap, hx.hnil, hx.apart⟩
  · refine h.kp k hne (fun b off e hb => ?_)
    subst hb
    obtain ⟨n, q, hx⟩ := h
    obtain ⟨b2, off2, e2, hc⟩ := hx.src (by omega)
    rw [e] at e2
    cases e2
    have c := hc 0 (by omega)
    obtain ⟨n', q', hx'⟩ := h'
    have c' := hx'.st.cell off
    rw [Nat.add_zero] at c
    rw [c] at c'
    match off, c' with
    | 0, c' => simp at c'
    | 1, c' => simp at c'
    | 2, c' => simp at c'
    | 3, c' => simp at c'
    | o + 4, c' => simp at c'

set_option maxRecDepth 100000 in
set_option maxHeartbeats 20000000 in
theorem parts_walk (x n k A : Nat) (w : World) (hx : x < 18446744073709551616) (hn : n ≤ 57) (hk : k ≤ n) (hA : A ≤ 57) :
    Calls Try.prog 7 #[.agg #[.int .u64 x, .int .i64 n, .int .i64 k, .int .i64 A]] w fun e w' => e = .returned (.bool true) ∧ Ok' w w' := by
  obtain ⟨X, hXe⟩ : ∃ X, X = x % 2 ^ n := ⟨_, rfl⟩
  have hX : X < 2 ^ n := by rw [hXe]; exact Nat.mod_lt _ (Nat.pow_pos (by omega))
  have hmask := and_mask' x n hx hn
  rw [← hXe] at hmask
  obtain ⟨L, hLe⟩ : ∃ L, L = X % 2 ^ k := ⟨_, rfl⟩
  obtain ⟨H, hHe⟩ : ∃ H, H = X / 2 ^ k := ⟨_, rfl⟩
  obtain ⟨m, hme⟩ : ∃ m, m = n - k := ⟨_, rfl⟩
  have hX64 : X < 18446744073709551616 := Nat.lt_of_lt_of_le hX (Nat.pow_le_pow_right (n := 2) (j := 64) (by omega) (by omega))
  have hlo := and_mask' X k hX64 (by omega)
  rw [← hLe] at hlo
  have hhi : (X : Int) / 2 ^ k = (H : Int) := by rw [div_nat, ← hHe]
  have hm1 : (n : Int) - (k : Int) = (m : Int) := by omega
  have hm2 : IntKind.i64.wrap ((n : Int) - (k : Int)) = (m : Int) := by rw [IntKind.wrap_i64]; omega
  have hm3 : IntKind.i64.wrap (m : Int) = (m : Int) := by rw [IntKind.wrap_i64]; omega
  have HL : Hid (L < 2 ^ k) := by show _ < _; rw [hLe]; exact Nat.mod_lt _ (Nat.pow_pos (by omega))
  have HH : Hid (H < 2 ^ m) := by
    show _ < _
    rw [hHe, hme, Nat.div_lt_iff_lt_mul (Nat.pow_pos (by omega)), ← Nat.pow_add, show n - k + k = n by omega]; exact hX
  have HE : Hid (L = X % 2 ^ k ∧ H = X / 2 ^ k ∧ m = n - k) := ⟨hLe, hHe, hme⟩
  have HX : Hid (X < 2 ^ n) := hX
  clear hXe hLe hHe hme hX
  go_enter Try.func7, Try.ntmps7
  go_wp2
  go_quiet (fail)
  go_wp2_with fail
  refine (newO _).mono ?_
  rintro e w1 ⟨ga, rfl, h1⟩
  go_wp2_with fail
  refine (newTwo _ _ ga 0 0 h1).mono ?_
  rintro e w2 ⟨gb, rfl, h2⟩
  have h2' : Two w w2 ga gb 0 0 0 0 := h2.base (((Kp.refl _ w).alloc _).trans (drewN_kp _ _ _) (fun _ _ x => x))
  have h2d : Two w w2.drew ga gb 0 0 0 0 := h2'.ok ((Kp.refl _ w2).drew)
  clear h1 h2 h2'
  go_wp2_with fail
  go_region_held3 (fun _ => True) (trivial) (first | (go_at_call 16; refine (num_any _ _).mono ?_; rintro e w' ⟨rfl, rfl⟩) | (go_at_call_of 17 ga; go_at_call_of 17 A; refine (pA0 w _ ga gb A 0 0 hA h2d).mono ?_; rintro e w3 ⟨rfl, h3⟩) | (go_at_call_of 17 gb; go_at_call_of 17 A; refine (pB0 w _ ga gb A A 0 hA h3).mono ?_; rintro e w4 ⟨rfl, h4⟩) | (go_at_call_of 17 ga; go_at_call_of 17 X; refine (putA w _ ga gb A 0 A 0 X n (by omega) hn HX.out h4).mono ?_; rintro e w5 ⟨rfl, h5⟩) | (go_at_call_of 17 gb; go_at_call_of 17 L; refine (putB w _ ga gb (A + n) (0 + X * 2 ^ A) A 0 L k (by omega) (by omega) HL.out h5).mono ?_; rintro e w6 ⟨rfl, h6⟩) | (go_at_call_of 17 gb; go_at_call_of 17 H; refine (putB w _ ga gb (A + n) (0 + X * 2 ^ A) (A + k) (0 + L * 2 ^ A) H m (by omega) (by have := HE.out; omega) HH.out h6).mono ?_; rintro e w7 ⟨rfl, h7⟩))
  go_wp2_with fail
  have hrow := five_noughts w7
  have h8 := h7.ok ((Kp.refl (fun _ => False) w7).alloc (.cells #[.int .i64 0, .int .i64 0, .int .i64 0, .int .i64 0, .int .i64 0] 3))
  have hAN : A + k + m = A + n := by have := HE.out; omega
  rw [hAN, HE.out.1, HE.out.2.1, parts_sum] at h8
  obtain ⟨V, hV⟩ : ∃ V, V = 0 + X * 2 ^ A := ⟨_, rfl⟩
  obtain ⟨N, hN⟩ : ∃ N, N = A + n := ⟨_, rfl⟩
  obtain ⟨T, hT⟩ : ∃ T, T = (N + 7) / 8 := ⟨_, rfl⟩
  rw [← hV, ← hN] at h8
  have hNb : N ≤ 114 := by omega
  have hTb : T ≤ 100 := by omega
  have HV : Hid (V = 0 + X * 2 ^ A ∧ N = A + n ∧ T = (N + 7) / 8 ∧ A + k + m = A + n) := ⟨hV, hN, hT, hAN⟩
  have HM : Hid ((n : Int) - (k : Int) = (m : Int)) := hm1
  have HU : Hid (und 256 (dig 256 V T) = V) := by
    show _ = _
    rw [und_dig]
    apply Nat.mod_eq_of_lt
    rw [pow_256]
    have h1 : V < 2 ^ N := by
      rw [hV, hN, Nat.zero_add, Nat.pow_add]
      have : X * 2 ^ A + 2 ^ A ≤ 2 ^ A * 2 ^ n := by rw [← Nat.succ_mul, Nat.mul_comm]; exact Nat.mul_le_mul_left _ HX.out
      have hp : 0 < 2 ^ A := Nat.pow_pos (by omega)
      omega
    exact Nat.lt_of_lt_of_le h1 (Nat.pow_le_pow_right (by omega) (by omega))
  clear hV hN hT hAN h7 h6 h5 h4 h3 h2d hmask hlo hhi hm1 hm2 hm3
  generalize w7.alloc (.cells #[.int .i64 0, .int .i64 0, .int .i64 0, .int .i64 0, .int .i64 0] 3) = w8 at h8 hrow ⊢
  generalize w7.heap.size = G8 at hrow ⊢
  go_loop [10] (fun i => ∃ j : Nat, j ≤ 5 ∧ i = .int .i64 j) (fun i => 5 - (intOf i).toNat)
  case atStart => exact ⟨0, by omega, rfl⟩
  case round =>
    obtain ⟨j, hj, rfl⟩ := hrel
    by_cases hj5 : j < 5
    · have hc := hrow j hj5
      go_wp2_with fail
      go_round
      case rel => exact ⟨j + 1, by omega, by go_num⟩
      case measure => simp [intOf]; omega
    · obtain rfl : j = 5 := by omega
      have B1 := bytesT w w8 ga N V (by omega) h8.fst
      rw [← HV.out.2.2.1] at B1
      go_wp2_with fail
      refine B1.mono ?_
      rintro e w9 ⟨G9, rfl, hG9, r9, _, k9⟩
      have h9 := h8.ok k9
      have B2 := bytesT w w9 gb N V (by omega) h9.swap.fst
      rw [← HV.out.2.2.1] at B2
      clear B1 h8 hrow
      go_wp2_with fail
      refine B2.mono ?_
      rintro e w10 ⟨G10, rfl, hG10, r10, _, k10⟩
      have h10 := h9.ok k10
      have r9' := r9.kp k10 (fun x => x)
      clear B2 h9 k9 r9
      go_wp2_with fail
      refine (same_eq _ _ T T T (dig 256 V T) w10 (dig_length _ _ _) r9'.src r10.src).mono ?_
      rintro e w' ⟨rfl, rfl⟩
      clear r9' r10 k10 hG9 hG10
      go_wp2_with fail
      refine (lenT w _ ga N V (by omega) h10.fst).mono ?_
      rintro e w11 ⟨rfl, _, k11⟩
      have h11 := h10.ok k11
      clear h10 k11
      go_wp2_with fail
      refine (lenT w _ gb N V (by omega) h11.swap.fst).mono ?_
      rintro e w12 ⟨rfl, _, k12⟩
      have h12 := h11.ok k12
      have B3 := bytesT w w12 ga N V (by omega) h12.fst
      rw [← HV.out.2.2.1] at B3
      clear h11 k12
      go_wp2_with fail
      refine B3.mono ?_
      rintro e w13 ⟨G13, rfl, hG13, r13, hw13, k13⟩
      have k13' : Ok' w w13 := by obtain ⟨_, _, k, _⟩ := hw13; exact k
      clear B3 h12 hw13 k13
      go_wp2_with fail
      have NR := newr_any (some ⟨G13, 0, none⟩) T (dig 256 V T) w13 (by rw [dig_length]; omega) (dig_byt _ _) r13.src
      rw [dig_length] at NR
      obtain ⟨D, hD⟩ : ∃ D, D = dig 256 V T := ⟨_, rfl⟩
      have HD : Hid (D.length = T) := by show _ = _; rw [hD]; exact dig_length _ _ _
      rw [← hD] at NR HU
      clear hD r13
      refine NR.mono ?_
      rintro e w14 ⟨g14, G14, rfl, hg14, hG14, hr14, k14⟩
      have k14' : Ok' w w14 := k13'.trans k14 (fun _ _ x => x)
      have hwg : w.heap.size ≤ g14 := Nat.le_trans k13'.size hg14
      clear NR k13' k14 hG13 hG14 hg14
      have hAT : 0 + A ≤ 8 * D.length := by have := HV.out; have := HD.out; omega
      go_wp2_with fail
      refine (skip_ok g14 _ _ D 0 A w14 hr14 hAT).mono ?_
      rintro e w15 ⟨rfl, hr15, k15⟩
      rw [Nat.zero_add] at hr15
      have k15' : Ok' w w15 := k14'.trans k15 (fun i hi e => by omega)
      clear hr14 k14' k15 hAT
      go_wp2_with (go_at_call 16; refine (num_any _ _).mono ?_; rintro e w' ⟨rfl, rfl⟩)
      refine (copyR_any g14 _ _ D A w15 hr15).mono ?_
      rintro e w16 ⟨g16, G16, rfl, hg16, hG16, hc16, k16⟩
      have hr16 := hr15.ok k16
      have hne : g14 ≠ g16 := by have := hr15.ty.lt; omega
      have hwc : w.heap.size ≤ g16 := Nat.le_trans k15'.size hg16
      have k16' : Ok' w w16 := k15'.trans k16 (fun _ _ x => x)
      clear hr15 k15' k16 hg16 hG16
      have hp2 : 0 < 2 ^ A := Nat.pow_pos (by omega)
      have v1 : und 256 D / 2 ^ A = X := by rw [HU.out, HV.out.1, Nat.zero_add, Nat.mul_div_cancel _ hp2]
      have v2 : und 256 D / 2 ^ A % 2 ^ n = X := by rw [v1]; exact Nat.mod_eq_of_lt HX.out
      have v3 : und 256 D / 2 ^ A % 2 ^ k = L := by rw [v1, HE.out.1]
      have v4 : und 256 D / 2 ^ (A + k) % 2 ^ m = H := by
        rw [Nat.pow_add, ← Nat.div_div_eq_div_mul, v1, ← HE.out.2.1]; exact Nat.mod_eq_of_lt HH.out
      have hTL : A + n ≤ 8 * D.length := by have := HV.out; have := HD.out; omega
      have TK1 : Hid (∀ w', Rd w' g14 (some ⟨G14, 0, none⟩) T D A → Calls Try.prog 32 #[.pointer (some ⟨g14, 0, none⟩), .int .i64 n] w' fun e w'' => e = .returned (.tuple #[.int .u64 X, .int .i64 0]) ∧ Rd w'' g14 (some ⟨G14, 0, none⟩) T D N ∧ Kp (fun i => i = g14) w' w'') := by
        intro w' h'
        have := take_ok g14 _ _ D A n w' hn h' hTL
        rw [v2, ← HV.out.2.1] at this
        exact this
      have TK2 : Hid (∀ w', Rd w' g16 (some ⟨G16, 0, none⟩) D.length D A → Calls Try.prog 32 #[.pointer (some ⟨g16, 0, none⟩), .int .i64 k] w' fun e w'' => e = .returned (.tuple #[.int .u64 L, .int .i64 0]) ∧ Rd w'' g16 (some ⟨G16, 0, none⟩) D.length D (A + k) ∧ Kp (fun i => i = g16) w' w'') := by
        intro w' h'
        have := take_ok g16 _ _ D A k w' (by omega) h' (by omega)
        rw [v3] at this
        exact this
      have TK3 : Hid (∀ w', Rd w' g16 (some ⟨G16, 0, none⟩) D.length D (A + k) → Calls Try.prog 32 #[.pointer (some ⟨g16, 0, none⟩), .int .i64 m] w' fun e w'' => e = .returned (.tuple #[.int .u64 H, .int .i64 0]) ∧ Rd w'' g16 (some ⟨G16, 0, none⟩) D.length D N ∧ Kp (fun i => i = g16) w' w'') := by
        intro w' h'
        have := take_ok g16 _ _ D (A + k) m w' (by have := HE.out; omega) h' (by have := HV.out; omega)
        rw [v4, HV.out.2.2.2, ← HV.out.2.1] at this
        exact this
      clear v1 v2 v3 v4 hTL hp2
      go_wp2_with fail
      refine (TK1.out _ hr16).mono ?_
      rintro e w17 ⟨rfl, hr17, k17⟩
      have hc17 := hc16.other hr16 k17 hne.symm
      have k17' : Ok' w w17 := k16'.trans k17 (fun i hi e => by omega)
      clear hr16 hc16 k16' k17 TK1
      go_wp2_with fail
      refine (TK2.out _ hc17).mono ?_
      rintro e w18 ⟨rfl, hc18, k18⟩
      have hr18 := hr17.other hc17 k18 hne
      have k18' : Ok' w w18 := k17'.trans k18 (fun i hi e => by omega)
      clear hr17 hc17 k17' k18 TK2
      have hm1 := HM.out
      go_wp2_with fail
      refine (TK3.out _ hc18).mono ?_
      rintro e w19 ⟨rfl, hc19, k19⟩
      have hr19 := hr18.other hc18 k19 hne
      have k19' : Ok' w w19.drew := (k18'.trans k19 (fun i hi e => by omega)).drew
      have hc20 : Rd w19.drew g16 (some ⟨G16, 0, none⟩) D.length D N := hc19.ok ((Kp.refl _ w19).drew)
      have hr20 : Rd w19.drew g14 (some ⟨G14, 0, none⟩) T D N := hr19.ok ((Kp.refl _ w19).drew)
      clear hr18 hc18 k18' k19 TK3 hc19 hr19
      go_wp2_with fail
      have hm3 : IntKind.i64.wrap (m : Int) = (m : Int) := by rw [IntKind.wrap_i64]; have := HE.out; omega
      have hor := or_wait H L k m HL.out HH.out (by have := HE.out; omega)
      rw [show L + H * 2 ^ k = X by rw [HE.out.1, HE.out.2.1, Nat.mul_comm]; exact Nat.mod_add_div X (2 ^ k)] at hor
      have t1 : Hid (∀ w, Calls Try.prog 30 #[.int .u64 X, .int .i64 n] w fun e w' => e = .returned (.int .u64 (turn X n)) ∧ w = w') := by
        intro w
        have := turned_any X n w hX64
        rw [Int.toNat_natCast, show min n 64 = n by omega] at this
        exact this
      have t2 : Hid (∀ w, Calls Try.prog 30 #[.int .u64 L, .int .i64 k] w fun e w' => e = .returned (.int .u64 (turn L k)) ∧ w = w') := by
        intro w
        have := turned_any L k w (Nat.lt_of_lt_of_le HL.out (Nat.pow_le_pow_right (n := 2) (j := 64) (by omega) (by omega)))
        rw [Int.toNat_natCast, show min k 64 = k by omega] at this
        exact this
      have hsh : ((turn X n : Nat) : Int) / 2 ^ m = ((turn L k : Nat) : Int) := by rw [div_nat, HE.out.2.2, turn_part X n k hk, ← HE.out.1]
      obtain ⟨TX, hTX⟩ : ∃ TX, TX = turn X n := ⟨_, rfl⟩
      obtain ⟨TL, hTL⟩ : ∃ TL, TL = turn L k := ⟨_, rfl⟩
      rw [← hTX] at t1 hsh
      rw [← hTL] at t2 hsh
      have hmb : m ≤ 57 := by have := HE.out; omega
      clear hTX hTL
      go_region_held3 (fun _ => True) (trivial) (first | (go_at_call 16; refine (num_any _ _).mono ?_; rintro e w' ⟨rfl, rfl⟩) | (go_at_call_of 25 g14; refine (at_k g14 _ _ D N _ hr20).mono ?_; rintro e w21 ⟨rfl, k21⟩; have hc21 := hc20.ok k21; have k21' := k19'.trans k21 (fun _ _ x => x)) | (go_at_call_of 25 g16; refine (at_k g16 _ _ D N _ hc21).mono ?_; rintro e w22 ⟨rfl, k22⟩; have k22' := k21'.trans k22 (fun _ _ x => x)) | (go_at_call_of 30 X; refine (t1.out _).mono ?_; rintro e w' ⟨rfl, rfl⟩) | (go_at_call_of 30 L; refine (t2.out _).mono ?_; rintro e w' ⟨rfl, rfl⟩) | (go_at_call 8; refine (works_any _).mono ?_; rintro e w23 ⟨rfl, k23⟩))
      go_wp2_with fail
      go_ret
      exact ⟨rfl, k22'.trans k23 (fun _ _ x => x)⟩
end Go.Proofs.Ytfeokjbmobmabaa
