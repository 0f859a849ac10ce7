/- granules: unlike, Equal, Same; num. -/
import Derived.Test.YteenlifdamhffaaDoorNh
namespace Go.Proofs.YteenlifdamhffaaDoor
open Go.RowKit
set_option linter.unusedVariables false
set_option linter.unusedSimpArgs false
set_option maxRecDepth 100000 in
theorem num_any : ∀ (z : Int) (w : World), Calls Tryd.prog 11 #[.int .i64 z] w fun e w' => e = .returned (.int .i64 z) ∧ w' = w := by
  intro z w
  go_enter Tryd.func11, Tryd.ntmps11
  go_wp2_with fail
  go_ret
  exact ⟨rfl, rfl⟩
set_option maxRecDepth 100000 in
theorem unlike_same (Q1 Q2 sz gr : Nat) (w : World) (c0 : w.cell? ⟨Q1, 0, none⟩ = some (.int .i64 sz)) (c1 : w.cell? ⟨Q1, 1, none⟩ = some (.int .i64 gr)) (d0 : w.cell? ⟨Q2, 0, none⟩ = some (.int .i64 sz)) (d1 : w.cell? ⟨Q2, 1, none⟩ = some (.int .i64 gr)) :
    Calls Tryd.prog 54 #[ptr Q1, ptr Q2] w fun e w' => e = .returned (.bool false) ∧ ∃ n, w' = w.drewN n := by
  have he : ∀ w : World, (binOp .neq 82 (.agg #[.int .i64 sz, .int .i64 gr]) (.agg #[.int .i64 sz, .int .i64 gr])).run Tryd.prog w = .ok (.bool false) w := fun w => by
    simp [go_sem]
  unfold ptr
  go_enter Tryd.func54, Tryd.ntmps54
  go_wp2_with fail
  go_quiet (fail)
  go_wp2_with fail
  go_ret
  exact ⟨rfl, nq, rfl⟩
set_option maxRecDepth 100000 in
set_option maxHeartbeats 2000000 in
theorem equal_any (r1 r2 L1 L2 c1 c2 : Nat) (a b : List Nat) (w : World) (h1 : L1 = a.length) (h2 : L2 = b.length) (ha : a.length ≤ 1000000000) (hr1 : Rw .u64 102 w r1 (up a)) (hr2 : Rw .u64 102 w r2 (up b)) :
    Calls Tryd.prog 55 #[.slice (some ⟨r1, 0, none⟩) L1 c1, .slice (some ⟨r2, 0, none⟩) L2 c2] w fun e w' => e = .returned (.bool (decide (a = b))) ∧ ∃ n, w' = w.drewN n := by
  by_cases hl : L1 = L2
  · have HR1 := hid hr1
    have HR2 := hid hr2
    have H1 := hid h1
    have H2 : Hid (L1 = b.length) := hl.trans h2
    subst hl
    have hlb : L1 ≤ 1000000000 := by omega
    clear hr1 hr2 h1 h2 ha
    go_enter Tryd.func55, Tryd.ntmps55
    go_wp2_with fail
    go_loopw [13] (fun i wr => ∃ k : Nat, i = .int .i64 k ∧ k ≤ L1 ∧ (∀ j, j < k → a.getD j 0 = b.getD j 0) ∧ ∃ n, wr = w.drewN n) (fun i _ => L1 - (intOf i).toNat)
    case atStart => exact ⟨0, rfl, Nat.zero_le _, fun j hj => absurd hj (Nat.not_lt_zero _), 0, rfl⟩
    case round =>
      obtain ⟨k, rfl, hk, hj, m, hwr⟩ := hrel
      have HWR := hid hwr
      have hkw : Kp (fun _ => False) w wr := by rw [hwr]; exact drewN_kp _ w m
      clear hwr
      by_cases hlt : k < L1
      · have hlt' : (k : Int) < (L1 : Int) := by omega
        have y1 := (HR1.out.kp hkw (fun h => h)).cell k (by rw [up_len, ← H1.out]; exact hlt)
        have y2 := (HR2.out.kp hkw (fun h => h)).cell k (by rw [up_len, ← H2.out]; exact hlt)
        rw [up_get] at y1 y2
        have HJ := hid hj
        obtain ⟨x, hx⟩ : ∃ x, a.getD k 0 = x := ⟨_, rfl⟩
        obtain ⟨y, hy⟩ : ∃ y, b.getD k 0 = y := ⟨_, rfl⟩
        rw [hx] at y1
        rw [hy] at y2
        have HX := hid hx
        have HY := hid hy
        have hil : ¬ L1 ≤ k := by omega
        clear hj hx hy hkw
        by_cases he : x = y
        · subst he
          have HN : Hid (∀ j, j < k + 1 → a.getD j 0 = b.getD j 0) := fun j hj => by
            by_cases h : j = k
            · subst h; rw [HX.out, HY.out]
            · exact HJ.out j (by omega)
          go_wp2_with fail
          go_quiet (fail)
          go_wp2_with fail
          exact ⟨⟨k + 1, by simp, hlt, HN.out, m + nq, by rw [HWR.out, World.drewN_drewN]⟩, by simp [intOf]; omega⟩
        · have hne : ¬ (x : Int) = (y : Int) := by omega
          have HD : Hid (decide (a = b) = false) := decide_eq_false (fun e => he (by rw [← HX.out, ← HY.out, e]))
          go_wp2_with fail
          go_quiet (fail)
          go_wp2_with fail
          go_ret
          rw [HD.out]
          exact ⟨rfl, m + nq, by rw [HWR.out, World.drewN_drewN]⟩
      · obtain rfl : k = L1 := by omega
        have HD : Hid (decide (a = b) = true) := decide_eq_true (by
          apply List.ext_getElem (by rw [← H1.out, ← H2.out])
          intro i i1 i2
          have := hj i (by rw [H1.out]; exact i1)
          rw [List.getD_eq_getElem?_getD, List.getD_eq_getElem?_getD, List.getElem?_eq_getElem i1, List.getElem?_eq_getElem i2] at this
          exact this)
        clear hj
        go_wp2_with fail
        go_ret
        rw [HD.out]
        exact ⟨rfl, m, HWR.out⟩
  · have hl' : ¬ (L1 : Int) = (L2 : Int) := by omega
    have HD : Hid (decide (a = b) = false) := decide_eq_false (fun e => hl (by rw [h1, h2, e]))
    clear hr1 hr2 h1 h2 ha
    go_enter Tryd.func55, Tryd.ntmps55
    go_wp2_with fail
    go_ret
    rw [HD.out]
    exact ⟨rfl, 0, rfl⟩
set_option maxRecDepth 100000 in
set_option maxHeartbeats 2000000 in
theorem same_like (Q1 Q2 r1 r2 sz gr : Nat) (a b : List Nat) (w : World) (h1 : Bm w Q1 r1 sz gr a) (h2 : Bm w Q2 r2 sz gr b) :
    Calls Tryd.prog 16 #[ptr Q1, ptr Q2] w fun e w' => e = .returned (.bool (decide (a = b))) ∧ Kp (fun _ => False) w w' := by
  have HN1 := hid (fun (U : World) (k : Kp (fun _ => False) w U) => none_some Q1 (sz : Int) (gr : Int) U ((h1.kp0 k).st.cell 0) ((h1.kp0 k).st.cell 1))
  have HN2 := hid (fun (U : World) (k : Kp (fun _ => False) w U) => none_some Q2 (sz : Int) (gr : Int) U ((h2.kp0 k).st.cell 0) ((h2.kp0 k).st.cell 1))
  rw [h1.may] at HN1 HN2
  have H1 := hid h1
  have H2 := hid h2
  have HK0 : Hid (Kp (fun _ => False) w w) := Kp.refl _ _
  have HUN : Hid (∀ U, Kp (fun _ => False) w U → Calls Tryd.prog 54 #[.pointer (some ⟨Q1, 0, none⟩), .pointer (some ⟨Q2, 0, none⟩)] U fun e w' => e = .returned (.bool false) ∧ ∃ n, w' = U.drewN n) := fun U k => unlike_same Q1 Q2 sz gr U ((h1.kp0 k).st.cell 0) ((h1.kp0 k).st.cell 1) ((h2.kp0 k).st.cell 0) ((h2.kp0 k).st.cell 1)
  have HEQ : Hid (∀ U, Kp (fun _ => False) w U → Calls Tryd.prog 55 #[.slice (some ⟨r1, 0, none⟩) (nwd (frm gr sz)) (nwd (frm gr sz)), .slice (some ⟨r2, 0, none⟩) (nwd (frm gr sz)) (nwd (frm gr sz))] U fun e w' => e = .returned (.bool (decide (a = b))) ∧ ∃ n, w' = U.drewN n) := fun U k => equal_any r1 r2 _ _ _ _ a b U h1.ln.symm h2.ln.symm h1.lb.1 (h1.kp0 k).rw (h2.kp0 k).rw
  clear h1 h2
  unfold ptr
  go_enter Tryd.func16, Tryd.ntmps16
  go_wp2_with fail
  refine (HN1.out _ HK0.out).mono ?_
  rintro _ w1 ⟨rfl, k1⟩
  have HK1 := hid k1
  go_wp2_with fail
  refine (HN2.out _ HK1.out).mono ?_
  rintro _ w2 ⟨rfl, k2⟩
  have HK2 := hid (HK1.out.trans k2 (fun _ _ h => h))
  have c2 := (H1.out.kp0 HK2.out).st.cell 2
  have d2 := (H2.out.kp0 HK2.out).st.cell 2
  simp at c2 d2
  clear k1 k2
  go_wp2_with fail
  go_quiet (first
    | (go_at_call 54; refine Calls.quiet_of (HUN.out _ (HK2.out.trans (drewN_kp _ _ _) (fun _ _ h => h))))
    | (go_at_call 55; refine Calls.quiet_of (HEQ.out _ (HK2.out.trans (drewN_kp _ _ _) (fun _ _ h => h)))))
  go_wp2_with fail
  go_ret
  exact ⟨rfl, HK2.out.trans (drewN_kp _ _ _) (fun _ _ h => h)⟩
end Go.Proofs.YteenlifdamhffaaDoor
