/- The statements' own small functions: same, plain. -/
import Derived.Test.YtlnknkeagonmpaaGreatNu
namespace Go.Proofs.YtlnknkeagonmpaaGreat
open Go.RowKit

set_option maxRecDepth 100000 in
set_option maxHeartbeats 2000000 in
theorem lsame_any (ao bo : Option Addr) (n m c d : Nat) (xs ys : List Int) (w : World) (hx : Src .i64 w ao xs) (hy : Src .i64 w bo ys) (hn : n = xs.length) (hm : m = ys.length) (hb : n ≤ 1000000000000) :
    Calls Tryz.prog 13 #[.slice ao n c, .slice bo m d] w fun e w' => e = .returned (.bool (decide (xs = ys))) ∧ Kp (fun _ => False) w w' := by
  have HX : Hid (Src .i64 w ao xs) := hx
  have HY : Hid (Src .i64 w bo ys) := hy
  have HN : Hid (n = xs.length) := hn
  have HM : Hid (m = ys.length) := hm
  clear hx hy hn hm
  have hmix : Tryz.prog.follows .mixedOrders = true := by kernel_rfl
  by_cases hl : n = m
  · subst hl
    go_enter Tryz.func13, Tryz.ntmps13
    go_wp2_with fail
    go_loopw [5] (fun iv wr => ∃ k : Nat, k ≤ n ∧ iv = .int .i64 k ∧ (∀ j, j < k → xs.getD j 0 = ys.getD j 0) ∧ Kp (fun _ => False) w wr) (fun iv _ => n - (intOf iv).toNat)
    case atStart => exact ⟨0, Nat.zero_le _, rfl, fun j hj => (by omega), Kp.refl _ _⟩
    case round =>
      obtain ⟨k, hk, rfl, hj, hkp⟩ := hrel
      have HJ : Hid (∀ j, j < k → xs.getD j 0 = ys.getD j 0) := hj
      have HKP : Hid (Kp (fun _ => False) w wr) := hkp
      clear hj hkp
      by_cases hlt : k < n
      · have hli : (k : Int) < (n : Int) := by omega
        obtain ⟨b, off, ea, hca⟩ := (HX.out.kp HKP.out (fun _ _ _ h => h)) (by have := HN.out; omega)
        obtain ⟨b', off', eb, hcb⟩ := (HY.out.kp HKP.out (fun _ _ _ h => h)) (by have := HM.out; omega)
        have ya := hca k (by have := HN.out; omega)
        have yb := hcb k (by have := HM.out; omega)
        subst ea eb
        obtain ⟨x, hx⟩ : ∃ x, x = xs.getD k 0 := ⟨_, rfl⟩
        obtain ⟨y, hy⟩ : ∃ y, y = ys.getD k 0 := ⟨_, rfl⟩
        rw [← hx] at ya
        rw [← hy] at yb
        have HXY : Hid (x = xs.getD k 0 ∧ y = ys.getD k 0) := ⟨hx, hy⟩
        clear hca hcb hx hy
        by_cases hxy : x = y
        · have HS : Hid (∀ j, j < k + 1 → xs.getD j 0 = ys.getD j 0) := by
            intro j hj
            by_cases e : j = k
            · rw [e, ← HXY.out.1, ← HXY.out.2, hxy]
            · exact HJ.out j (by omega)
          subst hxy
          clear HXY HJ
          go_wp2_with fail
          refine wpIn_wide.1 (wpIn_region_quietR (n := 0) hmix (by kernel_rfl) (by kernel_rfl) ?_)
          repeat (gi_big_quiet_step (fail))
          refine wpQuietIn_nil ?_
          intro _ hw'
          obtain ⟨nq, hw2⟩ := hw'
          subst hw2
          generalize hX : wr.drewN nq = X
          have HK2 : Hid (Kp (fun _ => False) w X) := HKP.out.trans (by rw [← hX]; exact drewN_kp _ _ _) (fun _ _ h => h)
          clear hX
          go_wp2_with fail
          exact ⟨⟨k + 1, hlt, rfl, HS.out, HK2.out⟩, by simp only [intOf]; omega⟩
        · have HNE : Hid (decide (xs = ys) = false) := by
            show _ = _
            rw [decide_eq_false_iff_not]
            intro e
            exact hxy (by rw [HXY.out.1, HXY.out.2, e])
          have hbe : (x != y) = true := by simpa using hxy
          clear HXY HJ
          go_wp2_with fail
          refine wpIn_wide.1 (wpIn_region_quietR (n := 0) hmix (by kernel_rfl) (by kernel_rfl) ?_)
          repeat (gi_big_quiet_step (fail))
          refine wpQuietIn_nil ?_
          intro _ hw'
          obtain ⟨nq, hw2⟩ := hw'
          subst hw2
          generalize hX : wr.drewN nq = X
          have HK2 : Hid (Kp (fun _ => False) w X) := HKP.out.trans (by rw [← hX]; exact drewN_kp _ _ _) (fun _ _ h => h)
          clear hX
          go_wp2
          go_ret
          exact ⟨ret_bool HNE.out.symm, HK2.out⟩
      · have hli : ¬ (k : Int) < (n : Int) := by omega
        have HEQ : Hid (decide (xs = ys) = true) := by
          show _ = _
          rw [decide_eq_true_eq]
          exact ext_getD (by rw [← HN.out, ← HM.out]) (fun i hi => HJ.out i (by have := HN.out; omega))
        go_wp2
        go_ret
        exact ⟨ret_bool HEQ.out.symm, HKP.out⟩
  · have HNE : Hid (decide (xs = ys) = false) := by
      show _ = _
      rw [decide_eq_false_iff_not]
      intro e
      exact hl (by rw [HN.out, HM.out, e])
    have hli : ((n : Int) != (m : Int)) = true := by simpa using (show ¬ (n : Int) = (m : Int) by omega)
    rw [HNE.out]
    go_enter Tryz.func13, Tryz.ntmps13
    go_wp2
    go_ret
    exact ⟨rfl, Kp.refl _ _⟩
end Go.Proofs.YtlnknkeagonmpaaGreat
