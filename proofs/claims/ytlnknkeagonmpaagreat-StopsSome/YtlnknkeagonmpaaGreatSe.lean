/- stops: Some. -/
import Derived.Test.YtlnknkeagonmpaaGreatTr
namespace Go.Proofs.YtlnknkeagonmpaaGreat
open Go.RowKit

theorem Told.kp {w w1 w' : World} {P n seed : Nat} {v : Value} (h : Told w1 w' P n seed v) (k : Kp (fun _ => False) w w1) : Told w w' P n seed v := by
  obtain ⟨L, Gs, h1, h2, h3, h4, h5⟩ := h
  exact ⟨L, Gs, h1, h2, h3, h4, k.trans h5 (fun _ _ h => h)⟩
section
variable (D : Nat → Prop) (w : World) (g fm : Nat) (fv : Value) (steps : Nat) (fs : List Fe) (ft : List (Int × Int)) (es : List (ByteArray × Value × Nat)) (c : Nat)
set_option maxRecDepth 100000 in
set_option maxHeartbeats 1000000 in
theorem some_neg (h : Sr D w g fm fv steps fs ft es c) (seed n : Int) (hn : n < 0) :
    Calls Tryz.prog 17 #[.pointer (some ⟨g, 0, none⟩), .int .u64 seed, .int .i64 n] w fun e w' => e = .returned (.tuple #[.slice none 0 0, .int .i64 2]) ∧ w' = w := by
  have HS := hid h
  clear h
  go_enter Tryz.func17, Tryz.ntmps17
  go_wp2_with (first | (go_at_call 45; refine (snone_live HS.out).mono ?_; rintro e w' ⟨rfl, h⟩; replace h := h.symm; subst h))
  go_ret2
  exact ⟨rfl, rfl⟩
set_option maxRecDepth 100000 in
set_option maxHeartbeats 1000000 in
theorem some_long (h : Sr D w g fm fv steps fs ft es c) (seed n : Int) (hn : 1000 < n) :
    Calls Tryz.prog 17 #[.pointer (some ⟨g, 0, none⟩), .int .u64 seed, .int .i64 n] w fun e w' => e = .returned (.tuple #[.slice none 0 0, .int .i64 3]) ∧ w' = w := by
  have HS := hid h
  have h0 : ¬ n < 0 := by omega
  clear h
  go_enter Tryz.func17, Tryz.ntmps17
  go_wp2_with (first | (go_at_call 45; refine (snone_live HS.out).mono ?_; rintro e w' ⟨rfl, h⟩; replace h := h.symm; subst h))
  go_ret2
  exact ⟨rfl, rfl⟩
set_option maxRecDepth 100000 in
set_option maxHeartbeats 1000000 in
theorem some_any (h : Sr D w g fm fv steps fs ft es c) (hP : pnd fs ≤ 1000000000) (seed n : Nat) (hn : n ≤ 1000) :
    Calls Tryz.prog 17 #[.pointer (some ⟨g, 0, none⟩), .int .u64 (seed : Int), .int .i64 (n : Int)] w fun e w' => ∃ v, e = .returned (.tuple #[v, .int .i64 0]) ∧ Told w w' (pnd fs) n seed v := by
  have HS := hid h
  have h0 : ¬ (n : Int) < 0 := by omega
  have h1 : ¬ (1000 : Int) < (n : Int) := by omega
  clear h
  go_enter Tryz.func17, Tryz.ntmps17
  go_wp2_with (first | (go_at_call 45; refine (snone_live HS.out).mono ?_; rintro e w' ⟨rfl, h⟩; replace h := h.symm; subst h))
  refine (pending_any D w g fm fv steps fs ft es c HS.out).mono ?_
  rintro e w1 ⟨rfl, k1⟩
  have K1 := hid k1
  clear k1
  go_wp2_with fail
  refine (tried_any (pnd fs) seed n w1 hP hn).mono ?_
  rintro e w2 ⟨v, rfl, ht⟩
  have HT := hid (ht.kp K1.out)
  clear ht
  go_wp2_with fail
  go_ret2
  exact ⟨v, rfl, HT.out⟩
end
end Go.Proofs.YtlnknkeagonmpaaGreat
