/- stops: none, Count, Plain. -/
import Derived.Test.YtlnknkeagonmpaaGreatPl
import Derived.Test.YtlnknkeagonmpaaGreatPn
import Derived.Test.YtlnknkeagonmpaaGreatPk
namespace Go.Proofs.YtlnknkeagonmpaaGreat
open Go.RowKit

section
variable {D : Nat → Prop} {w : World} {g fm : Nat} {fv : Value} {steps : Nat} {fs : List Fe} {ft : List (Int × Int)} {es : List (ByteArray × Value × Nat)} {c : Nat}
set_option maxRecDepth 100000 in
theorem snone_live (h : Sr D w g fm fv steps fs ft es c) : Calls Tryz.prog 45 #[.pointer (some ⟨g, 0, none⟩)] w fun e w' => e = .returned (.bool false) ∧ w' = w := by
  have HC : Hid (w.cell? ⟨g, 0, none⟩ = some (.map (some fm))) := h.c0
  clear h
  go_enter Tryz.func45, Tryz.ntmps45
  go_wp2_with (first | (go_at_call 71; refine (same_ln (.pointer none) g fm w (.inl rfl) HC.out).mono ?_; rintro e w' ⟨rfl, h⟩; replace h := h.symm; subst h))
  go_ret
  exact ⟨rfl, rfl⟩
end
theorem pow_i64 (P : Nat) (h : P ≤ 62) : IntKind.i64.wrap ((2 : Int) ^ P) = (2 : Int) ^ P := by
  have h1 : (2 : Nat) ^ P ≤ 2 ^ 62 := Nat.pow_le_pow_right (by omega) h
  have h2 : ((2 : Int) ^ P) = (((2 : Nat) ^ P : Nat) : Int) := by simp
  have h3 : (2 : Nat) ^ 62 = 4611686018427387904 := by decide
  rw [h3] at h1
  rw [h2]
  generalize (2 : Nat) ^ P = q at h1
  rw [IntKind.wrap_i64]
  omega
set_option maxRecDepth 100000 in
set_option maxHeartbeats 1000000 in
theorem count_any (D : Nat → Prop) (w : World) (g fm : Nat) (fv : Value) (steps : Nat) (fs : List Fe) (ft : List (Int × Int)) (es : List (ByteArray × Value × Nat)) (c : Nat) (h : Sr D w g fm fv steps fs ft es c) (hb : pnd fs ≤ 1000000000) :
    Calls Tryz.prog 18 #[.pointer (some ⟨g, 0, none⟩)] w fun e w' => e = .returned (.tuple #[.int .i64 (if pnd fs ≤ 62 then 2 ^ pnd fs else 0), .int .i64 (if pnd fs ≤ 62 then 0 else 3)]) ∧ Kp (fun _ => False) w w' := by
  have HS : Hid (Sr D w g fm fv steps fs ft es c) := h
  clear h
  by_cases hp : pnd fs ≤ 62
  · have hi : ¬ (62 : Int) < ((pnd fs : Nat) : Int) := by omega
    rw [if_pos hp, if_pos hp]
    have hw := pow_i64 (pnd fs) hp
    go_enter Tryz.func18, Tryz.ntmps18
    go_wp2_with (first | (go_at_call 45; refine (snone_live HS.out).mono ?_; rintro e w' ⟨rfl, h⟩; replace h := h.symm; subst h))
    refine (pending_any D w g fm fv steps fs ft es c HS.out).mono ?_
    rintro e w' ⟨rfl, k⟩
    have K : Hid (Kp (fun _ => False) w w') := k
    clear k
    go_wp2
    go_ret2
    exact ⟨rfl, K.out⟩
  · have hi : (62 : Int) < ((pnd fs : Nat) : Int) := by omega
    rw [if_neg hp, if_neg hp]
    go_enter Tryz.func18, Tryz.ntmps18
    go_wp2_with (first | (go_at_call 45; refine (snone_live HS.out).mono ?_; rintro e w' ⟨rfl, h⟩; replace h := h.symm; subst h))
    refine (pending_any D w g fm fv steps fs ft es c HS.out).mono ?_
    rintro e w' ⟨rfl, k⟩
    have K : Hid (Kp (fun _ => False) w w') := k
    clear k
    go_wp2
    go_ret2
    exact ⟨rfl, K.out⟩
end Go.Proofs.YtlnknkeagonmpaaGreat
