/- entry: piece, may. -/
import Derived.Test.YtkmkhjcmgockkaaEb
namespace Go.Proofs.Ytkmkhjcmgockkaa
open Go.RowKit
set_option linter.unusedVariables false
set_option maxHeartbeats 2000000 in
theorem piece_any (e : En) (b : Int) (w : World) (wf : e.Wf) (hb : Bt b) : Calls Try.prog 35 #[.agg e.cs, .int .i64 (clu b)] w fun r w' => Tells r (Pcs e (clu b)) ∧ Kp (fun _ => False) w w' := by
  have HB := hid (Eb.new w e)
  have HK : Hid (Kp (fun _ => False) w (w.alloc (.cells e.cs 24))) := (Kp.refl _ _).alloc _
  have e1 : (w.alloc (.cells e.cs 24)).cell? ⟨w.heap.size, 1, none⟩ = some (.int .i64 e.place) := HB.out.cell 1
  have e2 : (w.alloc (.cells e.cs 24)).cell? ⟨w.heap.size, 2, none⟩ = some (.int .i64 e.len) := HB.out.cell 2
  have hbd := clu_bd hb
  have hand := and_clu hb e.place
  have h2 := wf.place
  have h3 := wf.len
  have hp0 := Int.emod_nonneg e.place (show clu b ≠ 0 by omega)
  have hp1 := Int.emod_lt_of_pos e.place (show 0 < clu b by omega)
  unfold I6 at h2 h3
  have HP : Hid (Pcs e (clu b) ↔ (1 ≤ e.len ∧ e.len < clu b ∧ e.len ≤ 16383 ∧ e.place % clu b ≤ clu b - e.len ∧ e.place ≤ 268435456 - e.len)) := Iff.rfl
  generalize Pcs e (clu b) = PC at *
  generalize e.place % clu b = P at *
  generalize clu b = c at *
  have hw1 : IntKind.i64.wrap (c - 1) = c - 1 := by rw [IntKind.wrap_i64]; omega
  by_cases c1 : e.len < 1
  · go_enter Try.func35, Try.ntmps35
    go_wp2_with fail
    go_ret
    exact ⟨Or.inr ⟨fun p => by have := HP.out.1 p; omega, rfl⟩, HK.out⟩
  · by_cases c2 : c ≤ e.len
    · go_enter Try.func35, Try.ntmps35
      go_wp2_with fail
      go_ret
      exact ⟨Or.inr ⟨fun p => by have := HP.out.1 p; omega, rfl⟩, HK.out⟩
    · by_cases c3 : 16383 < e.len
      · go_enter Try.func35, Try.ntmps35
        go_wp2_with fail
        go_ret
        exact ⟨Or.inr ⟨fun p => by have := HP.out.1 p; omega, rfl⟩, HK.out⟩
      · have hw2 : IntKind.i64.wrap (c - e.len) = c - e.len := by rw [IntKind.wrap_i64]; omega
        have hw3 : IntKind.i64.wrap (268435456 - e.len) = 268435456 - e.len := by rw [IntKind.wrap_i64]; omega
        by_cases c4 : P ≤ c - e.len
        · by_cases c5 : e.place ≤ 268435456 - e.len
          · go_enter Try.func35, Try.ntmps35
            go_wp2_with fail
            go_ret
            exact ⟨Or.inl ⟨HP.out.2 (by omega), by simp⟩, HK.out⟩
          · go_enter Try.func35, Try.ntmps35
            go_wp2_with fail
            go_ret
            exact ⟨Or.inr ⟨fun p => by have := HP.out.1 p; omega, by simp⟩, HK.out⟩
        · go_enter Try.func35, Try.ntmps35
          go_wp2_with fail
          go_ret
          exact ⟨Or.inr ⟨fun p => by have := HP.out.1 p; omega, by simp⟩, HK.out⟩
theorem piece_yes {e : En} {b : Int} {w : World} (wf : e.Wf) (hb : Bt b) (p : Pcs e (clu b)) : Calls Try.prog 35 #[.agg e.cs, .int .i64 (clu b)] w fun r w' => r = .returned (.bool true) ∧ Kp (fun _ => False) w w' := by
  refine (piece_any e b w wf hb).mono ?_
  rintro r w' ⟨⟨_, rfl⟩ | ⟨q, _⟩, ew⟩
  · exact ⟨rfl, ew⟩
  · exact absurd p q
theorem piece_no {e : En} {b : Int} {w : World} (wf : e.Wf) (hb : Bt b) (p : ¬ Pcs e (clu b)) : Calls Try.prog 35 #[.agg e.cs, .int .i64 (clu b)] w fun r w' => r = .returned (.bool false) ∧ Kp (fun _ => False) w w' := by
  refine (piece_any e b w wf hb).mono ?_
  rintro r w' ⟨⟨q, _⟩ | ⟨_, rfl⟩, ew⟩
  · exact absurd q p
  · exact ⟨rfl, ew⟩
theorem Kp.fresh {w W : World} (k : Kp (fun _ => False) w W) {g : Nat} (hg : w.heap.size ≤ g) (i : Nat) (v : Value) : Kp (fun _ => False) w (W.setCell ⟨g, i, none⟩ v) := k.trans (kp_setCell W g i v (fun j => j = g) rfl) (fun i h1 h2 => by omega)
theorem Eb.new1 (w : World) (e : En) (x : Int) : Eb (w.alloc (.cells (e.cs.setIfInBounds 1 (.int .i64 x)) 24)) w.heap.size ⟨e.kind, x, e.len⟩ := St.new 24 w _
theorem Eb.place {w : World} {g : Nat} {e : En} (s : Eb w g e) (x : Int) : Eb (w.setCell ⟨g, 1, none⟩ (.int .i64 x)) g ⟨e.kind, x, e.len⟩ := by
  have h := St.set s 1 (.int .i64 x)
  simpa [Eb, En.cs] using h
theorem Eb.len0 {w : World} {g : Nat} {e : En} (s : Eb w g e) (x : Int) : Eb (w.setCell ⟨g, 2, none⟩ (.int .i64 x)) g ⟨e.kind, e.place, x⟩ := by
  have h := St.set s 2 (.int .i64 x)
  simpa [Eb, En.cs] using h
set_option maxHeartbeats 4000000 in
theorem may_3 (pl ln b : Int) (w : World) (wf : (En.mk 3 pl ln).Wf) (hb : Bt b) : Calls Try.prog 26 #[.agg (En.mk 3 pl ln).cs, .int .i64 b] w fun r w' => Tells r (Pkd ⟨3, pl, ln⟩ (clu b)) ∧ Kp (fun _ => False) w w' := by
  have HB := hid (Eb.new w (En.mk 3 pl ln))
  have HK : Hid (Kp (fun _ => False) w (w.alloc (.cells (En.mk 3 pl ln).cs 24))) := (Kp.refl _ _).alloc _
  have e0 : (w.alloc (.cells (En.mk 3 pl ln).cs 24)).cell? ⟨w.heap.size, 0, none⟩ = some (.int .i64 3) := HB.out.cell 0
  have hbd := clu_bd hb
  have hcw := clu_wrap hb
  have hand := andNot_clu hb pl wf.place
  have HI := hid (pkd_iff (En.mk 3 pl ln) hb)
  have HI : Hid (Pkd ⟨3, pl, ln⟩ (clu b) ↔ Pcs ⟨3, pl, ln⟩ (clu b) ∧ Plc (clu b) (pl - pl % clu b)) := HI
  have h2 : I6 pl := wf.place
  have h3 : I6 ln := wf.len
  have hp0 := Int.emod_nonneg pl (show clu b ≠ 0 by omega)
  have hp1 := Int.emod_lt_of_pos pl (show 0 < clu b by omega)
  unfold I6 at h2 h3
  have PY : Hid (Pcs ⟨3, pl, ln⟩ (clu b) → ∀ w, Calls Try.prog 35 #[.agg (En.mk 3 pl ln).cs, .int .i64 (clu b)] w fun r w' => r = .returned (.bool true) ∧ Kp (fun _ => False) w w') := fun p w => piece_yes wf hb p
  have PN : Hid (¬ Pcs ⟨3, pl, ln⟩ (clu b) → ∀ w, Calls Try.prog 35 #[.agg (En.mk 3 pl ln).cs, .int .i64 (clu b)] w fun r w' => r = .returned (.bool false) ∧ Kp (fun _ => False) w w') := fun p w => piece_no wf hb p
  have hw1 : IntKind.i64.wrap (clu b - 1) = clu b - 1 := by rw [IntKind.wrap_i64]; omega
  have hb0 : 0 ≤ b ∧ b ≤ 16 := by unfold Bt at hb; omega
  obtain ⟨hb0, hb1⟩ := hb0
  by_cases hp : Pcs ⟨3, pl, ln⟩ (clu b)
  · have PY2 := hid (PY.out hp)
    have HP := hid hp
    clear PY PN hp
    have hX : (pl - pl % clu b) % clu b = 0 := by
      have h1 := Int.emod_add_mul_ediv pl (clu b)
      rw [show pl - pl % clu b = clu b * (pl / clu b) by omega]
      exact Int.mul_emod_right _ _
    have hXm : pl - pl % clu b ≤ 268435456 := by have h4 : pl ≤ 268435456 - ln := HP.out.2.2.2.2; have h5 : 1 ≤ ln := HP.out.1; omega
    by_cases hx : pl - pl % clu b ≤ 0
    · have HXX := hid hx
      obtain ⟨X, hXX⟩ : ∃ X, X = pl - pl % clu b := ⟨_, rfl⟩
      have HE := hid hXX
      rw [← hXX] at hand hx hXm
      clear hXX hX
      go_enter Try.func26, Try.ntmps26
      go_wp2_with (first | (refine wpList_load_en rfl (.tmp 2) rfl w.heap.size rfl HB.out ?_) | (go_at_call 35; refine (PY2.out _).mono ?_; rintro r w1 ⟨rfl, k1⟩; have B1 := hid (HB.out.kp k1 (fun x => x)); have c0 : w1.cell? ⟨w.heap.size, 0, none⟩ = some (.int .i64 3) := B1.out.cell 0; have c1 : w1.cell? ⟨w.heap.size, 1, none⟩ = some (.int .i64 pl) := B1.out.cell 1; have c2 : w1.cell? ⟨w.heap.size, 2, none⟩ = some (.int .i64 ln) := B1.out.cell 2; have f1 := St.frozen B1.out 1; have f2 := St.frozen B1.out 2; have l1 := B1.out.lt))
      go_ret
      exact ⟨Or.inr ⟨fun p => by have h7 := (HI.out.1 p).2.1; have h8 := HXX.out; omega, rfl⟩, ((HK.out.trans k1 (fun _ _ x => x)).fresh (Nat.le_refl _) 1 _).fresh (Nat.le_refl _) 2 _⟩
    · have HXX := hid hx
      have HX2 := hid hX
      have hXt : (pl - pl % clu b).tmod (clu b) = 0 := by rw [Int.tmod_eq_emod_of_nonneg (by omega)]; exact hX
      obtain ⟨X, hXX⟩ : ∃ X, X = pl - pl % clu b := ⟨_, rfl⟩
      have HE := hid hXX
      rw [← hXX] at hand hx hXm hXt
      clear hXX hX
      go_enter Try.func26, Try.ntmps26
      go_wp2_with (first | (refine wpList_load_en rfl (.tmp 2) rfl w.heap.size rfl HB.out ?_) | (go_at_call 35; refine (PY2.out _).mono ?_; rintro r w1 ⟨rfl, k1⟩; have B1 := hid (HB.out.kp k1 (fun x => x)); have c0 : w1.cell? ⟨w.heap.size, 0, none⟩ = some (.int .i64 3) := B1.out.cell 0; have c1 : w1.cell? ⟨w.heap.size, 1, none⟩ = some (.int .i64 pl) := B1.out.cell 1; have c2 : w1.cell? ⟨w.heap.size, 2, none⟩ = some (.int .i64 ln) := B1.out.cell 2; have f1 := St.frozen B1.out 1; have f2 := St.frozen B1.out 2; have l1 := B1.out.lt) | (refine wpList_load_en rfl (.tmp 2) rfl w.heap.size rfl (((B1.out.place X).len0 0).place 0) ?_) | (refine wpList_eq_en rfl (.tmp 44) (.tmp 47) rfl (h := ⟨3, 0, 0⟩) (k := ⟨3, 0, 0⟩) rfl rfl (eqE_self _) ?_))
      go_ret
      exact ⟨Or.inl ⟨HI.out.2 ⟨HP.out, by have h8 := HXX.out; omega, by have h9 := HE.out; omega, HX2.out⟩, rfl⟩, (((HK.out.trans k1 (fun _ _ x => x)).fresh (Nat.le_refl _) 1 _).fresh (Nat.le_refl _) 2 _).fresh (Nat.le_refl _) 1 _⟩
  · have PN2 := hid (PN.out hp)
    go_enter Try.func26, Try.ntmps26
    go_wp2_with (first | (refine wpList_load_en rfl (.tmp 2) rfl w.heap.size rfl HB.out ?_) | (go_at_call 35; refine (PN2.out _).mono ?_; rintro r w1 ⟨rfl, k1⟩))
    go_ret
    exact ⟨Or.inr ⟨fun p => hp (HI.out.1 p).1, rfl⟩, HK.out.trans k1 (fun _ _ x => x)⟩
end Go.Proofs.Ytkmkhjcmgockkaa
