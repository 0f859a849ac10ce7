import Derived.Test.YtnccklbnncaeoaaGreatJbs
/- The statements' wrote. -/
namespace Go.Proofs.YtnccklbnncaeoaaGreat
open Go.RowKit
set_option linter.unusedVariables false
set_option linter.unusedSimpArgs false
set_option maxRecDepth 100000 in
set_option maxHeartbeats 8000000 in
theorem wrote_any {g N : Nat} {F : Nat → Prop} {q : Gf} {ft : List (Int × Int)} {w : World} (h : Sw nmf g N F q ft w) (hs : q.sz = 4096) (hc : ∀ p, p < 8 → cont q (512 * p) = (p : Int) + 1) :
    Calls Tryz.prog 36 #[ptr g] w fun e w' => e = .returned (.bool true) ∧ Kp (fun _ => False) w w' := by
  have HR : Hid (Calls Tryz.prog 31 #[ptr g, .string nmf, .int .i64 0, .int .i64 4096] w (RdW w q 0 4096)) := read_w h 0 4096
  have hl : (rdz q 0 4096).length = 4096 := by unfold rdz; simp [hs]
  have hv : ∀ p, p < 8 → (rdz q 0 4096).getD (512 * p) 0 = (p : Int) + 1 := fun p hp => by
    rw [← hc p hp]
    unfold rdz cont
    have h1 : 512 * p < min 4096 (q.sz - 0) := by rw [hs]; omega
    have h2 : 512 * p < min 4096 q.sz := h1
    simp [List.getD, List.getElem?_range h2]
  have HL := hid hl
  have HVV := hid hv
  have HSZ : Hid (¬ q.sz < 0) := by show ¬ _; omega
  have HNU := hid num_any
  clear h hs hc hl hv
  unfold ptr at *
  go_enter Tryz.func36, Tryz.ntmps36
  go_wp2_with fail
  refine HR.out.mono ?_
  rintro e w1 ⟨k1, ⟨hx, -⟩ | ⟨-, b, rfl, hb1, hr1⟩⟩
  · exact absurd hx HSZ.out
  rw [HL.out]
  obtain ⟨zs, hz⟩ : ∃ zs, rdz q 0 4096 = zs := ⟨_, rfl⟩
  rw [hz] at hr1
  have HRW := hid hr1
  have HK := hid k1
  have HL2 : Hid (zs.length = 4096) := by rw [← hz]; exact HL.out
  have HV2 : Hid (∀ p, p < 8 → zs.getD (512 * p) 0 = (p : Int) + 1) := by rw [← hz]; exact HVV.out
  clear hz hr1 k1 HR HL HVV HSZ
  go_wp2_with (first
    | (go_at_call 17; refine (HNU.out _ _).mono ?_; rintro e w' ⟨rfl, h⟩; replace h := h.symm; subst h))
  go_loopw [5] (fun vi wr => ∃ n : Nat, vi = .int .i64 n ∧ n ≤ 8 ∧ wr = w1) (fun vi _ => 8 - (intOf vi).toNat)
  case atStart => exact ⟨0, rfl, Nat.zero_le _, rfl⟩
  case round =>
    obtain ⟨n, rfl, hn, rfl⟩ := hrel
    by_cases hlt : n < 8
    · have hlt' : (n : Int) < 8 := by omega
      have yc := HRW.out.cell (512 * n) (by rw [HL2.out]; omega)
      rw [HV2.out n hlt] at yc
      have hlen : 512 * n < zs.length := by rw [HL2.out]; omega
      have h5 : 512 * n < 4096 := by omega
      go_wp2_with fail
      refine ⟨⟨n + 1, rfl, by omega, trivial⟩, ?_⟩
      simp only [intOf]
      omega
    · obtain rfl : n = 8 := by omega
      go_wp2_with fail
      go_ret
      exact ⟨rfl, HK.out⟩
end Go.Proofs.YtnccklbnncaeoaaGreat
