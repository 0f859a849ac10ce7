/- The statements' own small functions: same, plain. -/
import Derived.Test.YtlnknkeagonmpaaNu
namespace Go.Proofs.Ytlnknkeagonmpaa
open Go.RowKit

set_option maxRecDepth 100000 in
set_option maxHeartbeats 2000000 in
theorem lsame_any (ao bo : Option Addr) (n m c d : Nat) (xs ys : List Int) (w : World) (hx : Src .i64 w ao xs) (hy : Src .i64 w bo ys) (hn : n = xs.length) (hm : m = ys.length) (hb : n ≤ 1000000000000) :
    Calls Try.prog 12 #[.slice ao n c, .slice bo m d] w fun e w' => e = .returned (.bool (decide (xs = ys))) ∧ Kp (fun _ => False) w w' := by
  have HX : Hid (Src .i64 w ao xs) := hx
  have HY : Hid (Src .i64 w bo ys) := hy
  have HN : Hid (n = xs.length) := hn
  have HM : Hid (m = ys.length) := hm
  clear hx hy hn hm
  have hmix : Try.prog.follows .mixedOrders = true := by kernel_rfl
  by_cases hl : n = m
  · subst hl
    go_enter Try.func12, Try.ntmps12
    go_wp2_with fail
    go_loopw [5] (fun iv wr => ∃ k : Nat, k ≤ n ∧ iv = .int .i64 k ∧ (∀ j, j < k → xs.getD j 0 = ys.getD j 0) ∧ Kp (fun _ => False) w wr) (fun iv _ => n - (intOf iv).toNat)
    case atStart => exact ⟨0, Nat.zero_le _, rfl, fun j hj => (by omega), Kp.refl _ _⟩
    case round =>
      obtain ⟨k, hk, rfl, hj, hkp⟩ := hrel
      have HJ : Hid (∀ j, j < k → xs.getD j 0 = ys.getD j 0) := hj
      have HKP : Hid (Kp (fun _ => False) w wr) := hkp
      clear hj hkp
      by_cases hlt : k < n
      · have hli : (k : Int) < (n : Int) := by omega
        obtain ⟨b, off, ea, hca⟩ := (HX.out.kp HKP.out (fun _ _ _ h => h)) (by have := HN.out; omega)
        obtain ⟨b', off', eb, hcb⟩ := (HY.out.kp HKP.out (fun _ _ _ h => h)) (by have := HM.out; omega)
        have ya := hca k (by have := HN.out; omega)
        have yb := hcb k (by have := HM.out; omega)
        subst ea eb
        obtain ⟨x, hx⟩ : ∃ x, x = xs.getD k 0 := ⟨_, rfl⟩
        obtain ⟨y, hy⟩ : ∃ y, y = ys.getD k 0 := ⟨_, rfl⟩
        rw [← hx] at ya
        rw [← hy] at yb
        have HXY : Hid (x = xs.getD k 0 ∧ y = ys.getD k 0) := ⟨hx, hy⟩
        clear hca hcb hx hy
        by_cases hxy : x = y
        · have HS : Hid (∀ j, j < k + 1 → xs.getD j 0 = ys.getD j 0) := by
            intro j hj
            by_cases e : j = k
            · rw [e, ← HXY.out.1, ← HXY.out.2, hxy]
            · exact HJ.out j (by omega)
          subst hxy
          clear HXY HJ
          go_wp2_with fail
          refine wpIn_wide.1 (wpIn_region_quietR (n := 0) hmix (by kernel_rfl) (by kernel_rfl) ?_)
          repeat (gi_big_quiet_step (fail))
          refine wpQuietIn_nil ?_
          intro _ hw'
          obtain ⟨nq, hw2⟩ := hw'
          subst hw2
          generalize hX : wr.drewN nq = X
          have HK2 : Hid (Kp (fun _ => False) w X) := HKP.out.trans (by rw [← hX]; exact drewN_kp _ _ _) (fun _ _ h => h)
          clear hX
          go_wp2_with fail
          exact ⟨⟨k + 1, hlt, rfl, HS.out, HK2.out⟩, by simp only [intOf]; omega⟩
        · have HNE : Hid (decide (xs = ys) = false) := by
            show _ = _
            rw [decide_eq_false_iff_not]
            intro e
            exact hxy (by rw [HXY.out.1, HXY.out.2, e])
          have hbe : (x != y) = true := by simpa using hxy
          clear HXY HJ
          go_wp2_with fail
          refine wpIn_wide.1 (wpIn_region_quietR (n := 0) hmix (by kernel_rfl) (by kernel_rfl) ?_)
          repeat (gi_big_quiet_step (fail))
          refine wpQuietIn_nil ?_
          intro _ hw'
          obtain ⟨nq, hw2⟩ := hw'
          subst hw2
          generalize hX : wr.drewN nq = X
          have HK2 : Hid (Kp (fun _ => False) w X) := HKP.out.trans (by rw [← hX]; exact drewN_kp _ _ _) (fun _ _ h => h)
          clear hX
          go_wp2
          go_ret
          exact ⟨ret_bool HNE.out.symm, HK2.out⟩
      · have hli : ¬ (k : Int) < (n : Int) := by omega
        have HEQ : Hid (decide (xs = ys) = true) := by
          show _ = _
          rw [decide_eq_true_eq]
          exact ext_getD (by rw [← HN.out, ← HM.out]) (fun i hi => HJ.out i (by have := HN.out; omega))
        go_wp2
        go_ret
        exact ⟨ret_bool HEQ.out.symm, HKP.out⟩
  · have HNE : Hid (decide (xs = ys) = false) := by
      show _ = _
      rw [decide_eq_false_iff_not]
      intro e
      exact hl (by rw [HN.out, HM.out, e])
    have hli : ((n : Int) != (m : Int)) = true := by simpa using (show ¬ (n : Int) = (m : Int) by omega)
    rw [HNE.out]
    go_enter Try.func12, Try.ntmps12
    go_wp2
    go_ret
    exact ⟨rfl, Kp.refl _ _⟩
set_option maxRecDepth 100000 in
set_option maxHeartbeats 4000000 in
theorem lplain_any (P : Nat) (hP : P ≤ 1000000000) (ao : Option Addr) (zs : List Int) (n cap : Nat) (w : World) (hn : n = zs.length) (hb : n ≤ 1000000000000) (hz : ∀ z ∈ zs, 0 ≤ z) (hS : Src .i64 w ao zs) :
    Calls Try.prog 13 #[.int .i64 P, .slice ao n cap] w fun e w' => ∃ G, e = .returned (.slice (some ⟨G, 0, none⟩) P P) ∧ w.heap.size ≤ G ∧ Rw .i64 3 w' G (lst P (wayf zs)) ∧ Kp (fun _ => False) w w' := by
  have HN : Hid (n = zs.length) := hn
  have HZ : Hid (∀ z ∈ zs, 0 ≤ z) := hz
  have HSR : Hid (Src .i64 w ao zs) := hS
  clear hn hz hS
  go_enter Try.func13, Try.ntmps13
  go_wp2_with (first | (at_make; refine wpList_make_rw (κ := .i64) 23 3 8 Try.underlying23 info3 (by decide) rfl _ _ rfl P rfl rfl (by omega) ?_; intro w2 r2 b2; have R2 : Hid (Rw .i64 3 w2 w.heap.size (List.replicate P 0)) := r2; have K2 : Hid (Kp (fun _ => False) w w2) := Kp.of_below b2; clear r2 b2))
  have HG : Hid (w.heap.size = w.heap.size) := rfl
  obtain ⟨G, hG⟩ : ∃ G, G = w.heap.size := ⟨_, rfl⟩
  rw [← hG] at R2 ⊢
  have HGE : Hid (G = w.heap.size) := hG
  clear hG HG
  go_loopw [6] (fun iv wr => ∃ k : Nat, k ≤ P ∧ k ≤ n ∧ iv = .int .i64 k ∧ Rw .i64 3 wr G (lst P (fun i => if i < k then wayf zs i else 0)) ∧ Kp (fun _ => False) w wr) (fun iv _ => P - (intOf iv).toNat)
  case atStart => exact ⟨0, Nat.zero_le _, Nat.zero_le _, rfl, by rw [show lst P (fun i => if i < 0 then wayf zs i else 0) = List.replicate P 0 from by apply List.ext_getElem?; intro j; by_cases h : j < P <;> simp [lst, h]]; exact R2.out, K2.out⟩
  case round =>
    clear R2 K2
    obtain ⟨k, hk, hkn, rfl, hr, hkp⟩ := hrel
    by_cases hlt : k < P
    · have hli : (k : Int) < (P : Int) := by omega
      have hld : decide ((k : Int) < (P : Int)) = true := by simpa using hli
      by_cases hln : k < n
      · have hni : (k : Int) < (n : Int) := by omega
        have hnd : decide ((k : Int) < (n : Int)) = true := by simpa using hni
        obtain ⟨b, off, ea, hca⟩ := (HSR.out.kp hkp (fun _ _ _ h => h)) (by have := HN.out; omega)
        have y0 := hca k (by have := HN.out; omega)
        subst ea
        have x0 := hr.cell k (by rw [lst_len]; exact hlt)
        rw [lst_get _ _ _ hlt, if_neg (by omega)] at x0
        have f0 := hr.frozen k
        have hz0 : 0 ≤ zs.getD k 0 := by
          have h : k < zs.length := by have := HN.out; omega
          rw [List.getD_eq_getElem?_getD, List.getElem?_eq_getElem h]
          exact HZ.out _ (List.getElem_mem h)
        obtain ⟨z, hzz⟩ : ∃ z, z = zs.getD k 0 := ⟨_, rfl⟩
        rw [← hzz] at y0 hz0
        have hmod : Int.tmod z 2 = z % 2 := Int.tmod_eq_emod_of_nonneg hz0
        have HNX : Hid (Rw .i64 3 (wr.setCell ⟨G, k, none⟩ (.int .i64 (z % 2))) G (lst P (fun i => if i < k + 1 then wayf zs i else 0)) ∧ Kp (fun _ => False) w (wr.setCell ⟨G, k, none⟩ (.int .i64 (z % 2)))) := by
          refine ⟨?_, (hkp.mono (G := fun i => i = G) (fun _ _ h => h.elim)).trans (kp_setCell wr G k _ (fun i => i = G) rfl) (fun _ _ h => h) |>.mono (fun i hi h => by have := HGE.out; omega)⟩
          have h1 := hr.set k (z % 2)
          rw [lst_set] at h1
          rw [show lst P (fun i => if i < k + 1 then wayf zs i else 0) = lst P (fun i => if i = k then z % 2 else if i < k then wayf zs i else 0) from lst_ext (fun i _ => by
            by_cases h2 : i = k
            · subst h2
              rw [if_pos (by omega), if_pos rfl, hzz]
              rfl
            · rw [if_neg h2]
              by_cases h3 : i < k
              · rw [if_pos (by omega), if_pos h3]
              · rw [if_neg (by omega), if_neg h3])]
          exact h1
        clear hr hkp hzz hca
        go_wp2
        exact ⟨⟨k + 1, hlt, hln, rfl, HNX.out.1, HNX.out.2⟩, by simp only [intOf]; omega⟩
      · have hni : ¬ (k : Int) < (n : Int) := by omega
        have hnd : decide ((k : Int) < (n : Int)) = false := by simpa using hni
        have HR : Hid (Rw .i64 3 wr G (lst P (wayf zs))) := by
          rw [show lst P (wayf zs) = lst P (fun i => if i < k then wayf zs i else 0) from lst_ext (fun i hi => by
            by_cases h : i < k
            · rw [if_pos h]
            · rw [if_neg h]
              unfold wayf
              rw [List.getD_eq_getElem?_getD, List.getElem?_eq_none (by have := HN.out; omega)]
              rfl)]
          exact hr
        have HKP : Hid (Kp (fun _ => False) w wr) := hkp
        clear hr hkp
        go_wp2
        go_ret
        exact ⟨G, rfl, Nat.le_of_eq HGE.out.symm, HR.out, HKP.out⟩
    · have hli : ¬ (k : Int) < (P : Int) := by omega
      have hld : decide ((k : Int) < (P : Int)) = false := by simpa using hli
      have HR : Hid (Rw .i64 3 wr G (lst P (wayf zs))) := by
        rw [show lst P (wayf zs) = lst P (fun i => if i < k then wayf zs i else 0) from lst_ext (fun i hi => (if_pos (by omega)).symm)]
        exact hr
      have HKP : Hid (Kp (fun _ => False) w wr) := hkp
      clear hr hkp
      go_wp2
      go_ret
      exact ⟨G, rfl, Nat.le_of_eq HGE.out.symm, HR.out, HKP.out⟩
end Go.Proofs.Ytlnknkeagonmpaa
