/- head: may. -/
import Derived.Test.YtejdmnhdjeogaaaMh
namespace Go.Proofs.Ytejdmnhdjeogaaa
open Go.RowKit
set_option linter.unusedVariables false

theorem Rls.len {h : Hd} {rs : List (Int × Int × Int × Int)} (hr : Rls h rs) : rs.length = 14 := by
  obtain ⟨t, l3, m3, s3, l8, m8, s8, l9, m9, s9, lb, mb, sb, lc, mc, sc, rfl, _⟩ := hr; rfl
/-- No rule has a step of 0. -/
theorem Rls.step {h : Hd} {rs : List (Int × Int × Int × Int)} (hr : Rls h rs) (h9 : 9 ≤ h.bits) (h16 : h.bits ≤ 16) : ∀ r ∈ rs, 1 ≤ r.2.2.2 ∧ r.2.2.2 ≤ 65536 := by
  obtain ⟨t, l3, m3, s3, l8, m8, s8, l9, m9, s9, lb, mb, sb, lc, mc, sc, rfl, _, _, N3, N8, N9, Nb, Nc⟩ := hr
  have hc := clu_bd h9 h16
  have nu : ∀ n l m s l' m' s' : Int, NU n l m s l' m' s' → 1 ≤ s ∧ s ≤ 65536 → 1 ≤ s' ∧ s' ≤ 65536 := by
    intro n l m s l' m' s' h hs
    by_cases hn : n = 0
    · obtain ⟨_, _, e⟩ := h.1 hn; omega
    · obtain ⟨_, _, e⟩ := h.2 hn; omega
  have b3 := nu _ _ _ _ _ _ _ N3 (by omega); have b8 := nu _ _ _ _ _ _ _ N8 (by omega); have b9 := nu _ _ _ _ _ _ _ N9 (by omega); have bb := nu _ _ _ _ _ _ _ Nb (by omega); have bc := nu _ _ _ _ _ _ _ Nc (by omega)
  simp only [List.forall_mem_cons]
  refine ⟨by omega, by omega, by omega, b3, by omega, by omega, by omega, by omega, b8, b9, by omega, bb, bc, by omega, fun _ h => by cases h⟩
theorem Rls.i6 {h : Hd} {rs : List (Int × Int × Int × Int)} (hr : Rls h rs) (wf : h.Wf) (hn : h.name.size ≤ 9223372036854775807) : ∀ r ∈ rs, I6 r.1 := by
  obtain ⟨t, l3, m3, s3, l8, m8, s8, l9, m9, s9, lb, mb, sb, lc, mc, sc, rfl, _⟩ := hr
  simp only [List.forall_mem_cons]
  refine ⟨I6.wrap _, wf.size, wf.l1len, wf.l1, wf.order, wf.counts, wf.countslen, wf.snaps, wf.snapsat, wf.snapslen, wf.maps, wf.mapsat, wf.mapslen, ?_, fun _ h => by cases h⟩
  unfold I6; omega
/-- A call tells whether something is so. -/
def Tells (e : Ending) (p : Prop) : Prop := (p ∧ e = .returned (.bool true)) ∨ (¬ p ∧ e = .returned (.bool false))
set_option maxRecDepth 100000 in
set_option maxHeartbeats 4000000 in
theorem may_any (h : Hd) (w : World) (wf : h.Wf) (hn : h.name.size ≤ 9223372036854775807) :
    Calls Try.prog 21 #[.agg h.cs] w fun e w' => Tells e (May h) ∧ Kp (fun _ => False) w w' := by
  have HB := hid (Hb.new w h)
  have HK : Hid (Kp (fun _ => False) w (w.alloc (.cells h.cs 24))) := (Kp.refl _ _).alloc _
  have c0 : (w.alloc (.cells h.cs 24)).cell? ⟨w.heap.size, 0, none⟩ = some (.int .i64 h.bits) := HB.out.cell 0
  have c14 : (w.alloc (.cells h.cs 24)).cell? ⟨w.heap.size, 14, none⟩ = some (.string h.name) := HB.out.cell 14
  have WF := hid wf
  clear wf
  go_enter Try.func21, Try.ntmps21
  by_cases h9 : h.bits < 9
  · go_wp2_with fail
    go_step3
    go_wp2_with fail
    rw [Exit.noGoto_ret]
    go_ret
    exact ⟨Or.inr ⟨fun m => absurd m.b9 (by omega), rfl⟩, HK.out⟩
  · by_cases h16 : 16 < h.bits
    · go_wp2_with fail
      go_step3
      go_wp2_with fail
      rw [Exit.noGoto_ret]
      go_ret
      exact ⟨Or.inr ⟨fun m => absurd m.b16 (by omega), rfl⟩, HK.out⟩
    · go_wp2_with fail
      go_step3
      go_wp2_with (first | (refine wpList_load_hd rfl (.tmp 1) rfl _ rfl HB.out ?_) | (go_at_call 34; refine (s_IndexByte _ _ _).mono ?_; rintro e w' ⟨rfl, rfl⟩) | (go_at_call 35; refine (rules_any h _ (by omega) (by omega) WF.out.size hn).mono ?_; rintro e w3 ⟨G, rs, rfl, hr, hG, s3, k3⟩; have HR := hid hr; have HS := hid s3; have HK3 := hid (HK.out.trans k3 (fun _ _ x => x)); clear hr s3 k3 c0 c14 hG))
      go_step3
      go_wp2_with (first | (refine wpList_load_hd rfl (.tmp 1) rfl _ rfl HB.out ?_) | (go_at_call 34; refine (s_IndexByte _ _ _).mono ?_; rintro e w' ⟨rfl, rfl⟩) | (go_at_call 35; refine (rules_any h _ (by omega) (by omega) WF.out.size hn).mono ?_; rintro e w3 ⟨G, rs, rfl, hr, hG, s3, k3⟩; have HR := hid hr; have HS := hid s3; have HK3 := hid (HK.out.trans k3 (fun _ _ x => x)); clear hr s3 k3 c0 c14 hG))
      obtain ⟨kb, hkb⟩ : ∃ kb, kb = decide (Lib.indexByte h.name.data.toList 0 < 0) := ⟨_, rfl⟩
      have HKB := hid hkb
      have h14 := HR.out.len
      have HST := hid (HR.out.step (by omega) (by omega))
      go_loopw [3, 21] (fun kv iv wr => ∃ k : Nat, k ≤ 14 ∧ iv = .int .i64 k ∧ kv = .bool kb ∧ (∀ j, j < k → OkR (rs.getD j (0, 0, 0, 1))) ∧ St 53 wr G (rcs rs).toArray ∧ Kp (fun _ => False) w wr) (fun _ iv _ => 14 - (intOf iv).toNat)
      case atStart => exact ⟨0, Nat.zero_le _, rfl, by rw [hkb], fun j hj => absurd hj (by omega), HS.out, HK3.out⟩
      case round =>
        obtain ⟨k, hk14, rfl, rfl, hok, hst, hkp⟩ := hrel
        have HOK := hid hok
        have HSR := hid hst
        have HKR := hid hkp
        clear hok hst hkp hkb
        by_cases hk : k < 14
        · have g := rcs_get rs k (by omega)
          have y0 := HSR.out.cell (4 * k); have y1 := HSR.out.cell (4 * k + 1); have y2 := HSR.out.cell (4 * k + 2); have y3 := HSR.out.cell (4 * k + 3)
          rw [List.getElem?_toArray, g.1] at y0; rw [List.getElem?_toArray, g.2.1] at y1; rw [List.getElem?_toArray, g.2.2.1] at y2; rw [List.getElem?_toArray, g.2.2.2] at y3
          have hs := HST.out (rs.getD k (0, 0, 0, 1)) (by rw [getD_lt _ _ _ (by omega)]; exact List.getElem_mem _)
          have HOr : Hid (OkR (rs.getD k (0, 0, 0, 1)) → ∀ j, j < k + 1 → OkR (rs.getD j (0, 0, 0, 1))) := fun hr j hj => by
            by_cases e : j = k
            · rw [e]; exact hr
            · exact HOK.out j (by omega)
          have HNo : Hid (¬ OkR (rs.getD k (0, 0, 0, 1)) → ¬ May h) := fun hr m => hr (((rls_may WF.out h9 h16 HR.out).2 m).1 _ (by rw [getD_lt _ _ _ (by omega)]; exact List.getElem_mem _))
          have hx := HR.out.i6 WF.out hn (rs.getD k (0, 0, 0, 1)) (by rw [getD_lt _ _ _ (by omega)]; exact List.getElem_mem _)
          clear g
          rw [Nat.mul_comm 4 k] at y0 y1 y2 y3
          generalize rs.getD k (0, 0, 0, 1) = r at *
          obtain ⟨x, l, m, s⟩ := r
          dsimp only at y0 y1 y2 y3 hs hx
          unfold I6 at hx
          obtain ⟨hs1, hs2⟩ := hs
          by_cases c1 : x < l
          · go_wp2_with fail
            rw [Exit.noGoto_ret]
            go_ret
            exact ⟨Or.inr ⟨HNo.out (fun o => absurd o.1 (Int.not_le.2 c1)), rfl⟩, HKR.out.alloc _⟩
          · by_cases c2 : m < x
            · go_wp2_with fail
              (try rw [Exit.noGoto_ret])
              go_ret
              exact ⟨Or.inr ⟨HNo.out (fun o => absurd o.2.1 (Int.not_le.2 c2)), rfl⟩, HKR.out.alloc _⟩
            · by_cases c3 : x.tmod s = 0
              · have c4 : OkR (x, l, m, s) := ⟨Int.not_lt.1 c1, Int.not_lt.1 c2, c3⟩
                have HN := hid (HOr.out c4)
                clear c4
                go_wp2_with fail
                exact ⟨⟨k + 1, by omega, by simp, rfl, HN.out, HSR.out.kp ((Kp.refl (fun _ => False) _).alloc _) (fun x => x), HKR.out.alloc _⟩, by simp only [intOf]; omega⟩
              · go_wp2_with fail
                (try rw [Exit.noGoto_ret])
                go_ret
                exact ⟨Or.inr ⟨HNo.out (fun o => c3 o.2.2), rfl⟩, HKR.out.alloc _⟩
        · obtain rfl : k = 14 := by omega
          have hall : (∀ r ∈ rs, OkR r) := fun r hr => by
            obtain ⟨j, hj, rfl⟩ := List.getElem_of_mem hr
            have := HOK.out j (by omega)
            rw [getD_lt _ _ _ hj] at this
            exact this
          have HALL := hid hall
          clear hall
          go_wp2_with fail
          rw [Exit.noGoto_ret]
          go_ret
          refine ⟨?_, HKR.out⟩
          have hi := index_neg h.name.data.toList 0
          rw [HKB.out]
          by_cases hnn : Lib.indexByte h.name.data.toList 0 < 0
          · rw [decide_eq_true hnn]
            exact Or.inl ⟨(rls_may WF.out h9 h16 HR.out).1 ⟨HALL.out, hi.1 hnn⟩, rfl⟩
          · rw [decide_eq_false hnn]
            exact Or.inr ⟨fun m => hnn (hi.2 m.nn), rfl⟩
theorem may_true {h : Hd} {w : World} (wf : h.Wf) (m : May h) : Calls Try.prog 21 #[.agg h.cs] w fun e w' => e = .returned (.bool true) ∧ Kp (fun _ => False) w w' := by
  refine (may_any h w wf (by have := m.long; omega)).mono ?_
  rintro e w' ⟨⟨_, rfl⟩ | ⟨h, _⟩, k⟩
  · exact ⟨rfl, k⟩
  · exact absurd m h
theorem may_false {h : Hd} {w : World} (wf : h.Wf) (hn : h.name.size ≤ 9223372036854775807) (m : ¬ May h) : Calls Try.prog 21 #[.agg h.cs] w fun e w' => e = .returned (.bool false) ∧ Kp (fun _ => False) w w' := by
  refine (may_any h w wf hn).mono ?_
  rintro e w' ⟨⟨h, rfl⟩ | ⟨_, rfl⟩, k⟩
  · exact absurd h m
  · exact ⟨rfl, k⟩
end Go.Proofs.Ytejdmnhdjeogaaa
