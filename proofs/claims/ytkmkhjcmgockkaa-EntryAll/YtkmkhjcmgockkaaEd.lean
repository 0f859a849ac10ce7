/- entry: may. -/
import Derived.Test.YtkmkhjcmgockkaaEc
namespace Go.Proofs.Ytkmkhjcmgockkaa
open Go.RowKit
set_option linter.unusedVariables false
set_option maxHeartbeats 4000000 in
theorem may_2 (pl ln b : Int) (w : World) (wf : (En.mk 2 pl ln).Wf) (hb : Bt b) (T : Prop) (hT : T ↔ (ln = 0 ∧ 0 < pl ∧ pl ≤ 268435456 ∧ pl % clu b = 0)) : Calls Try.prog 26 #[.agg (En.mk 2 pl ln).cs, .int .i64 b] w fun r w' => Tells r T ∧ Kp (fun _ => False) w w' := by
  have HB := hid (Eb.new w (En.mk 2 pl ln))
  have HK : Hid (Kp (fun _ => False) w (w.alloc (.cells (En.mk 2 pl ln).cs 24))) := (Kp.refl _ _).alloc _
  have e0 : (w.alloc (.cells (En.mk 2 pl ln).cs 24)).cell? ⟨w.heap.size, 0, none⟩ = some (.int .i64 2) := HB.out.cell 0
  have e1 : (w.alloc (.cells (En.mk 2 pl ln).cs 24)).cell? ⟨w.heap.size, 1, none⟩ = some (.int .i64 pl) := HB.out.cell 1
  have e2 : (w.alloc (.cells (En.mk 2 pl ln).cs 24)).cell? ⟨w.heap.size, 2, none⟩ = some (.int .i64 ln) := HB.out.cell 2
  have f1 := St.frozen HB.out 1
  have l1 := HB.out.lt
  have hbd := clu_bd hb
  have hcw := clu_wrap hb
  have hb0 : 0 ≤ b ∧ b ≤ 16 := by unfold Bt at hb; omega
  obtain ⟨hb0, hb1⟩ := hb0
  have HT := hid hT
  clear hT
  by_cases c1 : pl ≤ 0
  · go_enter Try.func26, Try.ntmps26
    go_wp2_with fail
    go_ret
    exact ⟨Or.inr ⟨fun p => by have := HT.out.1 p; omega, rfl⟩, HK.out⟩
  · by_cases c2 : 268435456 < pl
    · go_enter Try.func26, Try.ntmps26
      go_wp2_with fail
      go_ret
      exact ⟨Or.inr ⟨fun p => by have := HT.out.1 p; omega, rfl⟩, HK.out⟩
    · have hXt : pl.tmod (clu b) = pl % clu b := Int.tmod_eq_emod_of_nonneg (by omega)
      have HX := hid hXt
      have hm1 := Int.emod_lt_of_pos pl (show 0 < clu b by omega)
      have hm0 := Int.emod_nonneg pl (show clu b ≠ 0 by omega)
      generalize hPP : pl % clu b = P at *
      have HPP := hid hPP
      clear hPP
      by_cases c3 : P = 0
      · subst c3
        by_cases c4 : ln = 0
        · subst c4
          have e0' : (w.alloc (.cells ((En.mk 2 pl 0).cs.setIfInBounds 1 (.int .i64 0)) 24)).cell? ⟨w.heap.size, 0, none⟩ = some (.int .i64 2) := (Eb.new1 w ⟨2, pl, 0⟩ 0).cell 0
          go_enter Try.func26, Try.ntmps26
          go_wp2_with (first | (refine wpList_load_en rfl (.tmp 2) rfl w.heap.size rfl (Eb.new1 w _ 0) ?_) | (refine wpList_eq_en rfl (.tmp 44) (.tmp 47) rfl (h := ⟨2, 0, 0⟩) (k := ⟨2, 0, 0⟩) rfl rfl (eqE_self _) ?_))
          go_ret
          exact ⟨Or.inl ⟨HT.out.2 ⟨trivial, by omega, by omega, trivial⟩, rfl⟩, (Kp.refl _ _).alloc _⟩
        · have hne : eqE ⟨2, 0, ln⟩ ⟨2, 0, 0⟩ = false := eqE_ne (fun h => c4 (congrArg En.len h))
          have HNE := hid hne
          have e0' : (w.alloc (.cells ((En.mk 2 pl ln).cs.setIfInBounds 1 (.int .i64 0)) 24)).cell? ⟨w.heap.size, 0, none⟩ = some (.int .i64 2) := (Eb.new1 w ⟨2, pl, ln⟩ 0).cell 0
          clear hne
          go_enter Try.func26, Try.ntmps26
          go_wp2_with (first | (refine wpList_load_en rfl (.tmp 2) rfl w.heap.size rfl (Eb.new1 w _ 0) ?_) | (refine wpList_eq_en rfl (.tmp 44) (.tmp 47) rfl (h := ⟨2, 0, ln⟩) (k := ⟨2, 0, 0⟩) rfl rfl HNE.out ?_))
          go_ret
          exact ⟨Or.inr ⟨fun p => c4 (HT.out.1 p).1, rfl⟩, (Kp.refl _ _).alloc _⟩
      · go_enter Try.func26, Try.ntmps26
        go_wp2_with fail
        go_ret
        exact ⟨Or.inr ⟨fun p => by have := HT.out.1 p; omega, rfl⟩, HK.out⟩
set_option maxHeartbeats 4000000 in
theorem may_0 (kd pl ln b : Int) (w : World) (wf : (En.mk kd pl ln).Wf) (hb : Bt b) (hk : kd = 0 ∨ kd = 1) : Calls Try.prog 26 #[.agg (En.mk kd pl ln).cs, .int .i64 b] w fun r w' => Tells r (pl = 0 ∧ ln = 0) ∧ Kp (fun _ => False) w w' := by
  have HB := hid (Eb.new w (En.mk kd pl ln))
  have HK : Hid (Kp (fun _ => False) w (w.alloc (.cells (En.mk kd pl ln).cs 24))) := (Kp.refl _ _).alloc _
  have e0 : (w.alloc (.cells (En.mk kd pl ln).cs 24)).cell? ⟨w.heap.size, 0, none⟩ = some (.int .i64 kd) := HB.out.cell 0
  have hcw := clu_wrap hb
  have hb0 : 0 ≤ b ∧ b ≤ 16 := by unfold Bt at hb; omega
  obtain ⟨hb0, hb1⟩ := hb0
  by_cases hp : pl = 0 ∧ ln = 0
  · obtain ⟨rfl, rfl⟩ := hp
    rcases hk with rfl | rfl
    · go_enter Try.func26, Try.ntmps26
      go_wp2_with (first | (refine wpList_load_en rfl (.tmp 2) rfl w.heap.size rfl HB.out ?_) | (refine wpList_eq_en rfl (.tmp 44) (.tmp 47) rfl (h := ⟨0, 0, 0⟩) (k := ⟨0, 0, 0⟩) rfl rfl (eqE_self _) ?_))
      go_ret
      exact ⟨Or.inl ⟨by simp, rfl⟩, HK.out⟩
    · go_enter Try.func26, Try.ntmps26
      go_wp2_with (first | (refine wpList_load_en rfl (.tmp 2) rfl w.heap.size rfl HB.out ?_) | (refine wpList_eq_en rfl (.tmp 44) (.tmp 47) rfl (h := ⟨1, 0, 0⟩) (k := ⟨1, 0, 0⟩) rfl rfl (eqE_self _) ?_))
      go_ret
      exact ⟨Or.inl ⟨by simp, rfl⟩, HK.out⟩
  · have HNE : Hid (eqE ⟨kd, pl, ln⟩ ⟨kd, 0, 0⟩ = false) := eqE_ne (fun h => hp ⟨congrArg En.place h, congrArg En.len h⟩)
    rcases hk with rfl | rfl
    · go_enter Try.func26, Try.ntmps26
      go_wp2_with (first | (refine wpList_load_en rfl (.tmp 2) rfl w.heap.size rfl HB.out ?_) | (refine wpList_eq_en rfl (.tmp 44) (.tmp 47) rfl (h := ⟨0, pl, ln⟩) (k := ⟨0, 0, 0⟩) rfl rfl HNE.out ?_))
      go_ret
      exact ⟨Or.inr ⟨hp, rfl⟩, HK.out⟩
    · go_enter Try.func26, Try.ntmps26
      go_wp2_with (first | (refine wpList_load_en rfl (.tmp 2) rfl w.heap.size rfl HB.out ?_) | (refine wpList_eq_en rfl (.tmp 44) (.tmp 47) rfl (h := ⟨1, pl, ln⟩) (k := ⟨1, 0, 0⟩) rfl rfl HNE.out ?_))
      go_ret
      exact ⟨Or.inr ⟨hp, rfl⟩, HK.out⟩
set_option maxHeartbeats 4000000 in
theorem may_none (kd pl ln b : Int) (w : World) (hb : Bt b) (h0 : kd ≠ 0) (h1 : kd ≠ 1) (h2 : kd ≠ 2) (h3 : kd ≠ 3) : Calls Try.prog 26 #[.agg (En.mk kd pl ln).cs, .int .i64 b] w fun r w' => r = .returned (.bool false) ∧ Kp (fun _ => False) w w' := by
  have HB := hid (Eb.new w (En.mk kd pl ln))
  have HK : Hid (Kp (fun _ => False) w (w.alloc (.cells (En.mk kd pl ln).cs 24))) := (Kp.refl _ _).alloc _
  have e0 : (w.alloc (.cells (En.mk kd pl ln).cs 24)).cell? ⟨w.heap.size, 0, none⟩ = some (.int .i64 kd) := HB.out.cell 0
  have hcw := clu_wrap hb
  have hb0 : 0 ≤ b ∧ b ≤ 16 := by unfold Bt at hb; omega
  obtain ⟨hb0, hb1⟩ := hb0
  go_enter Try.func26, Try.ntmps26
  go_wp2_with fail
  go_ret
  exact ⟨rfl, HK.out⟩
/-- may. -/
theorem may_any (e : En) (b : Int) (w : World) (wf : e.Wf) (hb : Bt b) : Calls Try.prog 26 #[.agg e.cs, .int .i64 b] w fun r w' => Tells r (MayE e b) ∧ Kp (fun _ => False) w w' := by
  obtain ⟨kd, pl, ln⟩ := e
  have ht : ∀ {p q : Prop} {r : Ending}, (p ↔ q) → Tells r p → Tells r q := fun {p q r} h t => t.imp (fun x => ⟨h.1 x.1, x.2⟩) (fun x => ⟨fun y => x.1 (h.2 y), x.2⟩)
  by_cases h3 : kd = 3
  · subst h3
    refine (may_3 pl ln b w wf hb).mono ?_
    rintro r w' ⟨t, k⟩
    refine ⟨ht ⟨fun p => Or.inr (Or.inr ⟨rfl, p⟩), ?_⟩ t, k⟩
    rintro (⟨h, _⟩ | ⟨h, _⟩ | ⟨_, p⟩)
    · have h : (3 : Int) = 0 ∨ (3 : Int) = 1 := h
      omega
    · have h : (3 : Int) = 2 := h
      omega
    · exact p
  · by_cases h2 : kd = 2
    · subst h2
      refine (may_2 pl ln b w wf hb (ln = 0 ∧ Plc (clu b) pl) Iff.rfl).mono ?_
      rintro r w' ⟨t, k⟩
      refine ⟨ht ⟨fun p => Or.inr (Or.inl ⟨rfl, p.1, p.2⟩), ?_⟩ t, k⟩
      rintro (⟨h, _⟩ | ⟨_, h, p⟩ | ⟨h, _⟩)
      · have h : (2 : Int) = 0 ∨ (2 : Int) = 1 := h
        omega
      · exact ⟨h, p⟩
      · have h : (2 : Int) = 3 := h
        omega
    · by_cases h01 : kd = 0 ∨ kd = 1
      · refine (may_0 kd pl ln b w wf hb h01).mono ?_
        rintro r w' ⟨t, k⟩
        refine ⟨ht ⟨fun p => Or.inl ⟨h01, p.1, p.2⟩, ?_⟩ t, k⟩
        rintro (⟨_, p, q⟩ | ⟨h, _⟩ | ⟨h, _⟩)
        · exact ⟨p, q⟩
        · exact absurd h h2
        · exact absurd h h3
      · refine (may_none kd pl ln b w hb (fun h => h01 (Or.inl h)) (fun h => h01 (Or.inr h)) h2 h3).mono ?_
        rintro r w' ⟨rfl, k⟩
        refine ⟨Or.inr ⟨?_, rfl⟩, k⟩
        rintro (⟨h, _⟩ | ⟨h, _⟩ | ⟨h, _⟩)
        · exact h01 h
        · exact h2 h
        · exact h3 h
theorem may_yes {e : En} {b : Int} {w : World} (wf : e.Wf) (hb : Bt b) (p : MayE e b) : Calls Try.prog 26 #[.agg e.cs, .int .i64 b] w fun r w' => r = .returned (.bool true) ∧ Kp (fun _ => False) w w' := by
  refine (may_any e b w wf hb).mono ?_
  rintro r w' ⟨⟨_, rfl⟩ | ⟨q, _⟩, ew⟩
  · exact ⟨rfl, ew⟩
  · exact absurd p q
theorem may_no {e : En} {b : Int} {w : World} (wf : e.Wf) (hb : Bt b) (p : ¬ MayE e b) : Calls Try.prog 26 #[.agg e.cs, .int .i64 b] w fun r w' => r = .returned (.bool false) ∧ Kp (fun _ => False) w w' := by
  refine (may_any e b w wf hb).mono ?_
  rintro r w' ⟨⟨q, _⟩ | ⟨_, rfl⟩, ew⟩
  · exact absurd q p
  · exact ⟨rfl, ew⟩
end Go.Proofs.Ytkmkhjcmgockkaa
