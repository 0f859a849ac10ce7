/- stops: drawer, filled. -/
import Derived.Test.YtlnknkeagonmpaaGreatSp1
import Derived.Test.YtlnknkeagonmpaaGreatRt
namespace Go.Proofs.YtlnknkeagonmpaaGreat
open Go.RowKit
set_option linter.unusedVariables false

/-- The number that comes behind another one. -/
def lcg (x : Nat) : Nat := (x * 6364136223846793005 + 1442695040888963407) % 18446744073709551616
theorem lcg_lt (x : Nat) : lcg x < 18446744073709551616 := Nat.mod_lt _ (by decide)
theorem wrap_u64 (n : Int) : IntKind.u64.wrap n = n % 18446744073709551616 := by
  simp [IntKind.wrap, IntKind.signed, IntKind.bits]
theorem lcg_wrap (x : Nat) : IntKind.u64.wrap (IntKind.u64.wrap ((x : Int) * 6364136223846793005) + 1442695040888963407) = ((lcg x : Nat) : Int) := by
  rw [wrap_u64, wrap_u64]
  unfold lcg
  omega
def bit (x : Nat) : Nat := x / 9223372036854775808
theorem bit_wrap (x : Nat) (h : x < 18446744073709551616) : wrap64 ((x : Int) / 9223372036854775808) = ((bit x : Nat) : Int) := by
  have h1 : (0 : Int) ≤ (x : Int) / 9223372036854775808 ∧ (x : Int) / 9223372036854775808 < 2 := by omega
  have h2 := IntWalk.i64_in ((x : Int) / 9223372036854775808) (by omega)
  rw [IntKind.wrap_i64] at h2
  unfold bit
  unfold wrap64
  omega
/-- What is drawn out of a seed, one by one. -/
def sd (seed : Nat) : Nat → Nat
  | 0 => seed
  | k + 1 => lcg (sd seed k)
theorem sd_lt (seed : Nat) (h : seed < 18446744073709551616) (k : Nat) : sd seed k < 18446744073709551616 := by
  cases k with
  | zero => exact h
  | succ k => exact lcg_lt _
set_option maxRecDepth 100000 in
set_option maxHeartbeats 1000000 in
theorem draw_any (B x : Nat) (w : World) (s1 : St 47 w B #[.int .u64 x]) :
    Calls Tryz.prog 91 #[.pointer (some ⟨B, 0, none⟩)] w fun e w' => e = .returned (.int .i64 (bit (lcg x))) ∧ St 47 w' B #[.int .u64 (lcg x)] ∧ Kp (fun i => i = B) w w' := by
  have c0 : w.cell? ⟨B, 0, none⟩ = some (.int .u64 x) := s1.cell 0
  have f0 := s1.frozen 0
  have hl := s1.lt
  have HS := hid s1
  have hw := lcg_wrap x
  have hb := bit_wrap (lcg x) (lcg_lt x)
  clear s1
  go_enter Tryz.func91, Tryz.ntmps91
  go_wp2_with fail
  rw [hb]
  go_ret
  exact ⟨rfl, (HS.out.set 0 _).set 0 _, (kp_setCell _ _ _ _ (fun i => i = B) rfl).trans (kp_setCell _ _ _ _ (fun i => i = B) rfl) (fun _ _ h => h)⟩
set_option maxRecDepth 100000 in
theorem drawer_any (x : Nat) (w : World) : Calls Tryz.prog 72 #[.int .u64 x] w fun e w' => e = .returned (.func (.func 91) #[] #[.pointer (some ⟨w.heap.size, 0, none⟩)]) ∧ w' = w.alloc (.cells #[.int .u64 x] 47) := by
  go_enter Tryz.func72, Tryz.ntmps72
  go_wp2_with fail
  go_ret
  exact ⟨rfl, rfl⟩
set_option maxRecDepth 100000 in
theorem tried1_any (B : Nat) (i : Int) (w : World) (s1 : St 3 w B #[.int .i64 i]) : Calls Tryz.prog 73 #[.pointer (some ⟨B, 0, none⟩)] w fun e w' => e = .returned (.int .i64 i) ∧ w' = w := by
  have c0 : w.cell? ⟨B, 0, none⟩ = some (.int .i64 i) := s1.cell 0
  clear s1
  go_enter Tryz.func73, Tryz.ntmps73
  go_wp2_with fail
  go_ret
  exact ⟨rfl, rfl⟩
set_option maxRecDepth 100000 in
set_option maxHeartbeats 2000000 in
theorem filled_draw (B P : Nat) (seed j : Nat) (w : World) (hP : P ≤ 1000000000) (s1 : St 47 w B #[.int .u64 (sd seed j)]) :
    Calls Tryz.prog 74 #[.int .i64 P, .func (.func 91) #[] #[.pointer (some ⟨B, 0, none⟩)]] w fun e w' => ∃ G, e = .returned (.slice (some ⟨G, 0, none⟩) P P) ∧ w.heap.size ≤ G ∧ Rw .i64 3 w' G (lst P (fun i => ((bit (sd seed (j + i + 1)) : Nat) : Int))) ∧ St 47 w' B #[.int .u64 (sd seed (j + P))] ∧ Kp (fun i => i = B) w w' := by
  have HS := hid s1
  have hBl := s1.lt
  clear s1
  go_enter Tryz.func74, Tryz.ntmps74
  go_wp2_with (first | (at_make; refine wpList_make_rw (κ := .i64) 40 3 8 Tryz.underlying40 info3 (by decide) rfl _ _ rfl P rfl rfl (by omega) ?_; intro w2 r2 b2; have R2 := hid r2; have K2 : Hid (Kp (fun _ => False) w w2) := Kp.of_below b2; clear r2 b2))
  go_loopw [6, 11] (fun _ iv wr => ∃ k : Nat, k ≤ P ∧ iv = .int .i64 k ∧ Rw .i64 3 wr w.heap.size (lst P (fun i => if i < k then ((bit (sd seed (j + i + 1)) : Nat) : Int) else 0)) ∧ St 47 wr B #[.int .u64 (sd seed (j + k))] ∧ Kp (fun i => i = B) w wr) (fun _ iv _ => P - (intOf iv).toNat)
  case atStart =>
    refine ⟨0, Nat.zero_le _, rfl, ?_, HS.out.kp K2.out (fun h => h), K2.out.mono (fun _ _ h => h.elim)⟩
    have e : lst P (fun i => if i < 0 then ((bit (sd seed (j + i + 1)) : Nat) : Int) else 0) = List.replicate P 0 := by
      apply List.ext_getElem?
      intro i
      by_cases hi : i < P
      · simp [lst, hi]
      · simp [lst, hi]
    rw [e]
    exact R2.out
  case round =>
    clear R2 K2
    obtain ⟨k, hk, rfl, hr, hs, hkp⟩ := hrel
    have HR := hid hr
    have HSk := hid hs
    have HKP := hid hkp
    clear hr hs hkp HS
    by_cases hlt : k < P
    · have hli : (k : Int) < (P : Int) := by omega
      go_wp2_with fail
      refine (draw_any B (sd seed (j + k)) wr HSk.out).mono ?_
      rintro _ w2 ⟨rfl, s2, k2⟩
      have r2 : Rw .i64 3 w2 w.heap.size _ := Rw.kp (κ := .i64) (t := 3) HR.out k2 (fun h => by have h' : w.heap.size = B := h; omega)
      have hck := r2.cell k (by rw [lst_len]; exact hlt)
      have hf := r2.frozen k
      have hl2 := r2.lt
      have HR2 := hid r2
      have HK2 := hid k2
      have HS2 := hid s2
      clear r2 k2 s2
      go_wp2_with fail
      refine ⟨⟨k + 1, hlt, by simp, ?_, HS2.out.kp (kp_setCell _ _ _ _ (fun i => i = w.heap.size) rfl) (by omega), (HKP.out.trans HK2.out (fun _ _ h => h)).trans (kp_setCell _ _ _ _ (fun i => i = w.heap.size) rfl) (fun i h1 h2 => by omega)⟩, by simp only [intOf]; omega⟩
      have := HR2.out.set k (((bit (sd seed (j + k + 1)) : Nat) : Int))
      rw [lst_set] at this
      rw [lst_ext (fun i hi => ?_)]
      · exact this
      · try dsimp only
        by_cases h1 : i = k
        · subst h1; rw [if_pos (by omega), if_pos rfl]
        · by_cases h2 : i < k
          · rw [if_pos (by omega), if_neg h1, if_pos h2]
          · rw [if_neg (by omega), if_neg h1, if_neg h2]
    · obtain rfl : k = P := by omega
      have hli : ¬ (k : Int) < (k : Int) := by omega
      go_wp2_with fail
      go_ret
      refine ⟨w.heap.size, rfl, Nat.le_refl _, ?_, HSk.out, HKP.out⟩
      rw [lst_ext (fun i hi => ?_)]
      · exact HR.out
      · try dsimp only
        rw [if_pos hi]
set_option maxRecDepth 100000 in
set_option maxHeartbeats 2000000 in
theorem filled_i (B P : Nat) (z : Int) (w : World) (hP : P ≤ 1000000000) (s1 : St 3 w B #[.int .i64 z]) :
    Calls Tryz.prog 74 #[.int .i64 P, .func (.func 73) #[] #[.pointer (some ⟨B, 0, none⟩)]] w fun e w' => ∃ G, e = .returned (.slice (some ⟨G, 0, none⟩) P P) ∧ w.heap.size ≤ G ∧ Rw .i64 3 w' G (lst P (fun i => z)) ∧ St 3 w' B #[.int .i64 z] ∧ Kp (fun i => i = B) w w' := by
  have HS := hid s1
  have hBl := s1.lt
  clear s1
  go_enter Tryz.func74, Tryz.ntmps74
  go_wp2_with (first | (at_make; refine wpList_make_rw (κ := .i64) 40 3 8 Tryz.underlying40 info3 (by decide) rfl _ _ rfl P rfl rfl (by omega) ?_; intro w2 r2 b2; have R2 := hid r2; have K2 : Hid (Kp (fun _ => False) w w2) := Kp.of_below b2; clear r2 b2))
  go_loopw [6, 11] (fun _ iv wr => ∃ k : Nat, k ≤ P ∧ iv = .int .i64 k ∧ Rw .i64 3 wr w.heap.size (lst P (fun i => if i < k then z else 0)) ∧ St 3 wr B #[.int .i64 z] ∧ Kp (fun i => i = B) w wr) (fun _ iv _ => P - (intOf iv).toNat)
  case atStart =>
    refine ⟨0, Nat.zero_le _, rfl, ?_, HS.out.kp K2.out (fun h => h), K2.out.mono (fun _ _ h => h.elim)⟩
    have e : lst P (fun i => if i < 0 then z else 0) = List.replicate P 0 := by
      apply List.ext_getElem?
      intro i
      by_cases hi : i < P
      · simp [lst, hi]
      · simp [lst, hi]
    rw [e]
    exact R2.out
  case round =>
    clear R2 K2
    obtain ⟨k, hk, rfl, hr, hs, hkp⟩ := hrel
    have HR := hid hr
    have HSk := hid hs
    have HKP := hid hkp
    clear hr hs hkp HS
    by_cases hlt : k < P
    · have hli : (k : Int) < (P : Int) := by omega
      go_wp2_with fail
      refine (tried1_any B z wr HSk.out).mono ?_
      rintro _ w2 ⟨rfl, hw2⟩
      have s2 : St 3 w2 B #[.int .i64 z] := by rw [hw2]; exact HSk.out
      have k2 : Kp (fun i => i = B) wr w2 := by rw [hw2]; exact Kp.refl _ _
      clear hw2
      have r2 : Rw .i64 3 w2 w.heap.size _ := Rw.kp (κ := .i64) (t := 3) HR.out k2 (fun h => by have h' : w.heap.size = B := h; omega)
      have hck := r2.cell k (by rw [lst_len]; exact hlt)
      have hf := r2.frozen k
      have hl2 := r2.lt
      have HR2 := hid r2
      have HK2 := hid k2
      have HS2 := hid s2
      clear r2 k2 s2
      go_wp2_with fail
      refine ⟨⟨k + 1, hlt, by simp, ?_, HS2.out.kp (kp_setCell _ _ _ _ (fun i => i = w.heap.size) rfl) (by omega), (HKP.out.trans HK2.out (fun _ _ h => h)).trans (kp_setCell _ _ _ _ (fun i => i = w.heap.size) rfl) (fun i h1 h2 => by omega)⟩, by simp only [intOf]; omega⟩
      have := HR2.out.set k (z)
      rw [lst_set] at this
      rw [lst_ext (fun i hi => ?_)]
      · exact this
      · try dsimp only
        by_cases h1 : i = k
        · subst h1; rw [if_pos (by omega), if_pos rfl]
        · by_cases h2 : i < k
          · rw [if_pos (by omega), if_neg h1, if_pos h2]
          · rw [if_neg (by omega), if_neg h1, if_neg h2]
    · obtain rfl : k = P := by omega
      have hli : ¬ (k : Int) < (k : Int) := by omega
      go_wp2_with fail
      go_ret
      refine ⟨w.heap.size, rfl, Nat.le_refl _, ?_, HSk.out, HKP.out⟩
      rw [lst_ext (fun i hi => ?_)]
      · exact HR.out
      · try dsimp only
        rw [if_pos hi]
end Go.Proofs.YtlnknkeagonmpaaGreat
