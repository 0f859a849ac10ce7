/- entry: the document's Of. -/
import Derived.Test.YtkmkhjcmgockkaaEh
namespace Go.Proofs.Ytkmkhjcmgockkaa
open Go.RowKit
set_option linter.unusedVariables false
theorem rword_in {x : Int} {b : Int} (hb : Bt b) (m : MayE (rpt x) b) (w : World) : Calls Try.prog 10 #[.agg (rpt x).cs] w fun r w' => r = .returned (.int .u64 (wrd (rpt x))) ∧ Kp (fun _ => False) w w' := rword_any _ w (may_small hb m)
set_option maxHeartbeats 4000000 in
theorem rof_2 (x b : Int) (w : World) (hx : U6 x) (hb : Bt b) (h4 : x % 4 = 2) : Calls Try.prog 13 #[.int .u64 x, .int .i64 b] w fun r w' => ((MayE (prt x) b ∧ r = .returned (.tuple #[.agg (prt x).cs, .bool true])) ∨ (¬ MayE (prt x) b ∧ r = .returned (.tuple #[.agg zE.cs, .bool false]))) ∧ Kp (fun _ => False) w w' := by
  have HB := hid (Eb.new w zE)
  have HK : Hid (Kp (fun _ => False) w (w.alloc (.cells zE.cs 24))) := (Kp.refl _ _).alloc _
  have hlt := HB.out.lt
  have hsz : (w.alloc (.cells zE.cs 24)).heap.size = w.heap.size + 1 := by simp
  have N1 := hid (Eb.new (w.alloc (.cells zE.cs 24)) zE)
  rw [hsz] at N1
  have K1 : Hid (Kp (fun _ => False) w ((w.alloc (.cells zE.cs 24)).alloc (.cells zE.cs 24))) := HK.out.alloc _
  have HB1 := hid (HB.out.kp ((Kp.refl (fun _ => False) _).alloc (.cells zE.cs 24)) (fun x => x))
  have HI := hid (rpt_iff hx hb)
  have HPP : Hid (MayE (prt x) b → rpt x = prt x) := fun m => rpt_prt hx hb m
  have WF := hid (rpt_wf hx)
  have RW : Hid (MayE (rpt x) b → ∀ w, Calls Try.prog 10 #[.agg (rpt x).cs] w fun r w' => r = .returned (.int .u64 (wrd (rpt x))) ∧ Kp (fun _ => False) w w') := fun m => rword_in hb m
  have MY : Hid (MayE (rpt x) b → ∀ w, Calls Try.prog 6 #[.agg (rpt x).cs, .int .i64 b] w fun r w' => r = .returned (.bool true) ∧ Kp (fun _ => False) w w') := fun m w => rmay_yes WF.out hb m
  have MN : Hid (¬ MayE (rpt x) b → ∀ w, Calls Try.prog 6 #[.agg (rpt x).cs, .int .i64 b] w fun r w' => r = .returned (.bool false) ∧ Kp (fun _ => False) w w') := fun m w => rmay_no WF.out (fun h => m h.2)
  unfold U6 at hx
  have hR : rpt x = ⟨2, (x - 2) % 9223372036854775808, 0⟩ := by unfold rpt; rw [if_pos h4]
  have u1 : IntKind.u64.wrap (x - 2) = x - 2 := by rw [IntKind.wrap_u64]; omega
  have u2 : IntKind.i64.wrap ((x - 2) % 9223372036854775808) = (x - 2) % 9223372036854775808 := by rw [IntKind.wrap_i64]; omega
  have t1 : x.tmod 4 = 2 := by rw [Int.tmod_eq_emod_of_nonneg hx.1]; exact h4
  have t2 : (x - 2).tmod 9223372036854775808 = (x - 2) % 9223372036854775808 := Int.tmod_eq_emod_of_nonneg (by omega)
  generalize (x - 2) % 9223372036854775808 = P at *
  rw [hR] at RW MY MN HI HPP
  have HR := hid hR
  clear hR WF
  by_cases m : MayE ⟨2, P, 0⟩ b
  · have MY2 := hid (MY.out m)
    have RW2 := hid (RW.out m)
    by_cases e : wrd ⟨2, P, 0⟩ = x
    · have M2 := hid (HI.out.1 ⟨m, e⟩)
      rw [e] at RW2
      clear MY MN RW m HI HR e
      go_enter Try.func13, Try.ntmps13
      go_wp2_with (first | (refine wpList_store_en rfl (.tmp 6) (.tmp 11) rfl (w.heap.size + 1) rfl (e := zE) (e' := ⟨2, 0, 0⟩) rfl N1.out ?_; intro w2 b2 k2; have k2' := hid (K1.out.trans k2 (fun i h1 h2 => by omega)); have E2 := hid b2; have f1 := St.frozen b2 1; have f2 := St.frozen b2 2; have l2 := b2.lt; have c1 : w2.cell? ⟨w.heap.size + 1, 1, none⟩ = some (.int .i64 0) := b2.cell 1; have c2 : w2.cell? ⟨w.heap.size + 1, 2, none⟩ = some (.int .i64 0) := b2.cell 2; have Z2 := hid (HB1.out.kp k2 (by omega))) | (refine wpList_load_en rfl (.tmp 6) rfl (w.heap.size + 1) rfl (E2.out.place P) ?_) | (go_at_call 6; refine (MY2.out _).mono ?_; rintro r w3 ⟨rfl, k3⟩; have E3 : Hid (Eb w3 (w.heap.size + 1) ⟨2, P, 0⟩) := (E2.out.place P).kp k3 (fun x => x); have Z3 : Hid (Eb w3 w.heap.size zE) := (Z2.out.kp (kp_setCell _ (w.heap.size + 1) 1 _ (fun j => j = w.heap.size + 1) rfl) (by omega)).kp k3 (fun x => x); have K3 : Hid (Kp (fun _ => False) w w3) := (k2'.out.fresh (by omega) 1 _).trans k3 (fun _ _ x => x)) | (refine wpList_load_en_g (by rfl) (.tmp 6) rfl (w.heap.size + 1) rfl E3.out ?_) | (go_at_call 10; refine (RW2.out _).mono ?_; rintro r w4 ⟨rfl, k4⟩; have E4 := hid (E3.out.kp k4 (fun x => x)); have Z4 := hid (Z3.out.kp k4 (fun x => x)); have K4 := hid (K3.out.trans k4 (fun _ _ x => x))) | (refine wpList_load_en rfl (.tmp 6) rfl (w.heap.size + 1) rfl E4.out ?_) | (refine wpList_store_en rfl (.tmp 4) (.tmp 44) rfl w.heap.size rfl (e := zE) (e' := ⟨2, P, 0⟩) rfl Z4.out ?_; intro w5 b5 k5))
      have hpr := HPP.out M2.out
      rw [hpr] at b5
      refine bodyPost_ret (results_cell_tmp2 Try.results13 _ _ _ rfl rfl b5.load) rfl ⟨Or.inl ⟨M2.out, rfl⟩, K4.out.trans k5 (fun i h1 h2 => by omega)⟩
    · have M2 : Hid (¬ MayE (prt x) b) := fun h => e (HI.out.2 h).2
      obtain ⟨X, hX⟩ : ∃ X, X = wrd ⟨2, P, 0⟩ := ⟨_, rfl⟩
      rw [← hX] at e RW2
      clear MY MN RW m HI HR HPP hX
      go_enter Try.func13, Try.ntmps13
      go_wp2_with (first | (refine wpList_store_en rfl (.tmp 6) (.tmp 11) rfl (w.heap.size + 1) rfl (e := zE) (e' := ⟨2, 0, 0⟩) rfl N1.out ?_; intro w2 b2 k2; have k2' := hid (K1.out.trans k2 (fun i h1 h2 => by omega)); have E2 := hid b2; have f1 := St.frozen b2 1; have f2 := St.frozen b2 2; have l2 := b2.lt; have c1 : w2.cell? ⟨w.heap.size + 1, 1, none⟩ = some (.int .i64 0) := b2.cell 1; have c2 : w2.cell? ⟨w.heap.size + 1, 2, none⟩ = some (.int .i64 0) := b2.cell 2; have Z2 := hid (HB1.out.kp k2 (by omega))) | (refine wpList_load_en rfl (.tmp 6) rfl (w.heap.size + 1) rfl (E2.out.place P) ?_) | (go_at_call 6; refine (MY2.out _).mono ?_; rintro r w3 ⟨rfl, k3⟩; have E3 : Hid (Eb w3 (w.heap.size + 1) ⟨2, P, 0⟩) := (E2.out.place P).kp k3 (fun x => x); have Z3 : Hid (Eb w3 w.heap.size zE) := (Z2.out.kp (kp_setCell _ (w.heap.size + 1) 1 _ (fun j => j = w.heap.size + 1) rfl) (by omega)).kp k3 (fun x => x); have K3 : Hid (Kp (fun _ => False) w w3) := (k2'.out.fresh (by omega) 1 _).trans k3 (fun _ _ x => x)) | (refine wpList_load_en_g (by rfl) (.tmp 6) rfl (w.heap.size + 1) rfl E3.out ?_) | (go_at_call 10; refine (RW2.out _).mono ?_; rintro r w4 ⟨rfl, k4⟩; have E4 := hid (E3.out.kp k4 (fun x => x)); have Z4 := hid (Z3.out.kp k4 (fun x => x)); have K4 := hid (K3.out.trans k4 (fun _ _ x => x))) | (refine wpList_store_en rfl (.tmp 4) (.tmp 43) rfl w.heap.size rfl (e := zE) (e' := zE) rfl Z4.out ?_; intro w5 b5 k5))
      refine bodyPost_ret (results_cell_tmp2 Try.results13 _ _ _ rfl rfl b5.load) rfl ⟨Or.inr ⟨M2.out, rfl⟩, K4.out.trans k5 (fun i h1 h2 => by omega)⟩
  · have MN2 := hid (MN.out m)
    have M2 : Hid (¬ MayE (prt x) b) := fun h => m (HI.out.2 h).1
    clear MY MN RW m HI HR HPP
    go_enter Try.func13, Try.ntmps13
    go_wp2_with (first | (refine wpList_store_en rfl (.tmp 6) (.tmp 11) rfl (w.heap.size + 1) rfl (e := zE) (e' := ⟨2, 0, 0⟩) rfl N1.out ?_; intro w2 b2 k2; have k2' := hid (K1.out.trans k2 (fun i h1 h2 => by omega)); have E2 := hid b2; have f1 := St.frozen b2 1; have f2 := St.frozen b2 2; have l2 := b2.lt; have c1 : w2.cell? ⟨w.heap.size + 1, 1, none⟩ = some (.int .i64 0) := b2.cell 1; have c2 : w2.cell? ⟨w.heap.size + 1, 2, none⟩ = some (.int .i64 0) := b2.cell 2; have Z2 := hid (HB1.out.kp k2 (by omega))) | (refine wpList_load_en rfl (.tmp 6) rfl (w.heap.size + 1) rfl (E2.out.place P) ?_) | (go_at_call 6; refine (MN2.out _).mono ?_; rintro r w3 ⟨rfl, k3⟩; have Z3 : Hid (Eb w3 w.heap.size zE) := (Z2.out.kp (kp_setCell _ (w.heap.size + 1) 1 _ (fun j => j = w.heap.size + 1) rfl) (by omega)).kp k3 (fun x => x); have K3 : Hid (Kp (fun _ => False) w w3) := (k2'.out.fresh (by omega) 1 _).trans k3 (fun _ _ x => x)) | (refine wpList_store_en rfl (.tmp 4) (.tmp 43) rfl w.heap.size rfl (e := zE) (e' := zE) rfl Z3.out ?_; intro w5 b5 k5))
    refine bodyPost_ret (results_cell_tmp2 Try.results13 _ _ _ rfl rfl b5.load) rfl ⟨Or.inr ⟨M2.out, rfl⟩, K3.out.trans k5 (fun i h1 h2 => by omega)⟩
set_option maxHeartbeats 4000000 in
theorem rof_3 (x b : Int) (w : World) (hx : U6 x) (hb : Bt b) (h4 : x % 4 = 3) : Calls Try.prog 13 #[.int .u64 x, .int .i64 b] w fun r w' => ((MayE (prt x) b ∧ r = .returned (.tuple #[.agg (prt x).cs, .bool true])) ∨ (¬ MayE (prt x) b ∧ r = .returned (.tuple #[.agg zE.cs, .bool false]))) ∧ Kp (fun _ => False) w w' := by
  have HB := hid (Eb.new w zE)
  have HK : Hid (Kp (fun _ => False) w (w.alloc (.cells zE.cs 24))) := (Kp.refl _ _).alloc _
  have hlt := HB.out.lt
  have hsz : (w.alloc (.cells zE.cs 24)).heap.size = w.heap.size + 1 := by simp
  have N1 := hid (Eb.new (w.alloc (.cells zE.cs 24)) zE)
  rw [hsz] at N1
  have K1 : Hid (Kp (fun _ => False) w ((w.alloc (.cells zE.cs 24)).alloc (.cells zE.cs 24))) := HK.out.alloc _
  have HB1 := hid (HB.out.kp ((Kp.refl (fun _ => False) _).alloc (.cells zE.cs 24)) (fun x => x))
  have HI := hid (rpt_iff hx hb)
  have HPP : Hid (MayE (prt x) b → rpt x = prt x) := fun m => rpt_prt hx hb m
  have WF := hid (rpt_wf hx)
  have RW : Hid (MayE (rpt x) b → ∀ w, Calls Try.prog 10 #[.agg (rpt x).cs] w fun r w' => r = .returned (.int .u64 (wrd (rpt x))) ∧ Kp (fun _ => False) w w') := fun m => rword_in hb m
  have MY : Hid (MayE (rpt x) b → ∀ w, Calls Try.prog 6 #[.agg (rpt x).cs, .int .i64 b] w fun r w' => r = .returned (.bool true) ∧ Kp (fun _ => False) w w') := fun m w => rmay_yes WF.out hb m
  have MN : Hid (¬ MayE (rpt x) b → ∀ w, Calls Try.prog 6 #[.agg (rpt x).cs, .int .i64 b] w fun r w' => r = .returned (.bool false) ∧ Kp (fun _ => False) w w') := fun m w => rmay_no WF.out (fun h => m h.2)
  unfold U6 at hx
  have hR : rpt x = ⟨3, x / 65536, x % 65536 / 4⟩ := by unfold rpt; rw [if_neg (by omega), if_pos h4]
  have u2 : IntKind.i64.wrap (x / 65536) = x / 65536 := by rw [IntKind.wrap_i64]; omega
  have u3 : IntKind.i64.wrap (x % 65536 / 4) = x % 65536 / 4 := by rw [IntKind.wrap_i64]; omega
  have u4 : IntKind.u64.wrap (x / 65536) = x / 65536 := by rw [IntKind.wrap_u64]; omega
  have u5 : IntKind.u64.wrap (x % 65536 / 4) = x % 65536 / 4 := by rw [IntKind.wrap_u64]; omega
  have t1 : x.tmod 4 = 3 := by rw [Int.tmod_eq_emod_of_nonneg hx.1]; exact h4
  have t2 : x.tdiv 65536 = x / 65536 := Int.tdiv_eq_ediv_of_nonneg hx.1
  have t3 : x.tmod 65536 = x % 65536 := Int.tmod_eq_emod_of_nonneg hx.1
  have t4 : (x % 65536).tdiv 4 = x % 65536 / 4 := Int.tdiv_eq_ediv_of_nonneg (by omega)
  generalize x % 65536 / 4 = L at *
  generalize x / 65536 = P at *
  rw [hR] at RW MY MN HI HPP
  have HR := hid hR
  clear hR WF
  by_cases m : MayE ⟨3, P, L⟩ b
  · have MY2 := hid (MY.out m)
    have RW2 := hid (RW.out m)
    by_cases e : wrd ⟨3, P, L⟩ = x
    · have M2 := hid (HI.out.1 ⟨m, e⟩)
      rw [e] at RW2
      clear MY MN RW m HI HR e
      go_enter Try.func13, Try.ntmps13
      go_wp2_with (first | (refine wpList_store_en rfl (.tmp 6) (.tmp 11) rfl (w.heap.size + 1) rfl (e := zE) (e' := ⟨3, 0, 0⟩) rfl N1.out ?_; intro w2 b2 k2; have k2' := hid (K1.out.trans k2 (fun i h1 h2 => by omega)); have E2 := hid b2; have f1 := St.frozen b2 1; have f2 := St.frozen b2 2; have l2 := b2.lt; have c1 : w2.cell? ⟨w.heap.size + 1, 1, none⟩ = some (.int .i64 0) := b2.cell 1; have c2 : w2.cell? ⟨w.heap.size + 1, 2, none⟩ = some (.int .i64 0) := b2.cell 2; have Z2 := hid (HB1.out.kp k2 (by omega))) | (refine wpList_load_en rfl (.tmp 6) rfl (w.heap.size + 1) rfl ((E2.out.place P).len0 L) ?_) | (go_at_call 6; refine (MY2.out _).mono ?_; rintro r w3 ⟨rfl, k3⟩; have E3 : Hid (Eb w3 (w.heap.size + 1) ⟨3, P, L⟩) := ((E2.out.place P).len0 L).kp k3 (fun x => x); have Z3 : Hid (Eb w3 w.heap.size zE) := (Z2.out.kp ((kp_setCell _ (w.heap.size + 1) 1 _ (fun j => j = w.heap.size + 1) rfl).trans (kp_setCell _ (w.heap.size + 1) 2 _ (fun j => j = w.heap.size + 1) rfl) (fun _ _ h => h)) (by omega)).kp k3 (fun x => x); have K3 : Hid (Kp (fun _ => False) w w3) := ((k2'.out.fresh (by omega) 1 _).fresh (by omega) 2 _).trans k3 (fun _ _ x => x)) | (refine wpList_load_en_g (by rfl) (.tmp 6) rfl (w.heap.size + 1) rfl E3.out ?_) | (go_at_call 10; refine (RW2.out _).mono ?_; rintro r w4 ⟨rfl, k4⟩; have E4 := hid (E3.out.kp k4 (fun x => x)); have Z4 := hid (Z3.out.kp k4 (fun x => x)); have K4 := hid (K3.out.trans k4 (fun _ _ x => x))) | (refine wpList_load_en rfl (.tmp 6) rfl (w.heap.size + 1) rfl E4.out ?_) | (refine wpList_store_en rfl (.tmp 4) (.tmp 44) rfl w.heap.size rfl (e := zE) (e' := ⟨3, P, L⟩) rfl Z4.out ?_; intro w5 b5 k5))
      have hpr := HPP.out M2.out
      rw [hpr] at b5
      refine bodyPost_ret (results_cell_tmp2 Try.results13 _ _ _ rfl rfl b5.load) rfl ⟨Or.inl ⟨M2.out, rfl⟩, K4.out.trans k5 (fun i h1 h2 => by omega)⟩
    · have M2 : Hid (¬ MayE (prt x) b) := fun h => e (HI.out.2 h).2
      obtain ⟨X, hX⟩ : ∃ X, X = wrd ⟨3, P, L⟩ := ⟨_, rfl⟩
      rw [← hX] at e RW2
      clear MY MN RW m HI HR HPP hX
      go_enter Try.func13, Try.ntmps13
      go_wp2_with (first | (refine wpList_store_en rfl (.tmp 6) (.tmp 11) rfl (w.heap.size + 1) rfl (e := zE) (e' := ⟨3, 0, 0⟩) rfl N1.out ?_; intro w2 b2 k2; have k2' := hid (K1.out.trans k2 (fun i h1 h2 => by omega)); have E2 := hid b2; have f1 := St.frozen b2 1; have f2 := St.frozen b2 2; have l2 := b2.lt; have c1 : w2.cell? ⟨w.heap.size + 1, 1, none⟩ = some (.int .i64 0) := b2.cell 1; have c2 : w2.cell? ⟨w.heap.size + 1, 2, none⟩ = some (.int .i64 0) := b2.cell 2; have Z2 := hid (HB1.out.kp k2 (by omega))) | (refine wpList_load_en rfl (.tmp 6) rfl (w.heap.size + 1) rfl ((E2.out.place P).len0 L) ?_) | (go_at_call 6; refine (MY2.out _).mono ?_; rintro r w3 ⟨rfl, k3⟩; have E3 : Hid (Eb w3 (w.heap.size + 1) ⟨3, P, L⟩) := ((E2.out.place P).len0 L).kp k3 (fun x => x); have Z3 : Hid (Eb w3 w.heap.size zE) := (Z2.out.kp ((kp_setCell _ (w.heap.size + 1) 1 _ (fun j => j = w.heap.size + 1) rfl).trans (kp_setCell _ (w.heap.size + 1) 2 _ (fun j => j = w.heap.size + 1) rfl) (fun _ _ h => h)) (by omega)).kp k3 (fun x => x); have K3 : Hid (Kp (fun _ => False) w w3) := ((k2'.out.fresh (by omega) 1 _).fresh (by omega) 2 _).trans k3 (fun _ _ x => x)) | (refine wpList_load_en_g (by rfl) (.tmp 6) rfl (w.heap.size + 1) rfl E3.out ?_) | (go_at_call 10; refine (RW2.out _).mono ?_; rintro r w4 ⟨rfl, k4⟩; have E4 := hid (E3.out.kp k4 (fun x => x)); have Z4 := hid (Z3.out.kp k4 (fun x => x)); have K4 := hid (K3.out.trans k4 (fun _ _ x => x))) | (refine wpList_store_en rfl (.tmp 4) (.tmp 43) rfl w.heap.size rfl (e := zE) (e' := zE) rfl Z4.out ?_; intro w5 b5 k5))
      refine bodyPost_ret (results_cell_tmp2 Try.results13 _ _ _ rfl rfl b5.load) rfl ⟨Or.inr ⟨M2.out, rfl⟩, K4.out.trans k5 (fun i h1 h2 => by omega)⟩
  · have MN2 := hid (MN.out m)
    have M2 : Hid (¬ MayE (prt x) b) := fun h => m (HI.out.2 h).1
    clear MY MN RW m HI HR HPP
    go_enter Try.func13, Try.ntmps13
    go_wp2_with (first | (refine wpList_store_en rfl (.tmp 6) (.tmp 11) rfl (w.heap.size + 1) rfl (e := zE) (e' := ⟨3, 0, 0⟩) rfl N1.out ?_; intro w2 b2 k2; have k2' := hid (K1.out.trans k2 (fun i h1 h2 => by omega)); have E2 := hid b2; have f1 := St.frozen b2 1; have f2 := St.frozen b2 2; have l2 := b2.lt; have c1 : w2.cell? ⟨w.heap.size + 1, 1, none⟩ = some (.int .i64 0) := b2.cell 1; have c2 : w2.cell? ⟨w.heap.size + 1, 2, none⟩ = some (.int .i64 0) := b2.cell 2; have Z2 := hid (HB1.out.kp k2 (by omega))) | (refine wpList_load_en rfl (.tmp 6) rfl (w.heap.size + 1) rfl ((E2.out.place P).len0 L) ?_) | (go_at_call 6; refine (MN2.out _).mono ?_; rintro r w3 ⟨rfl, k3⟩; have Z3 : Hid (Eb w3 w.heap.size zE) := (Z2.out.kp ((kp_setCell _ (w.heap.size + 1) 1 _ (fun j => j = w.heap.size + 1) rfl).trans (kp_setCell _ (w.heap.size + 1) 2 _ (fun j => j = w.heap.size + 1) rfl) (fun _ _ h => h)) (by omega)).kp k3 (fun x => x); have K3 : Hid (Kp (fun _ => False) w w3) := ((k2'.out.fresh (by omega) 1 _).fresh (by omega) 2 _).trans k3 (fun _ _ x => x)) | (refine wpList_store_en rfl (.tmp 4) (.tmp 43) rfl w.heap.size rfl (e := zE) (e' := zE) rfl Z3.out ?_; intro w5 b5 k5))
    refine bodyPost_ret (results_cell_tmp2 Try.results13 _ _ _ rfl rfl b5.load) rfl ⟨Or.inr ⟨M2.out, rfl⟩, K3.out.trans k5 (fun i h1 h2 => by omega)⟩
set_option maxHeartbeats 4000000 in
theorem rof_0 (x b : Int) (w : World) (hx : U6 x) (hb : Bt b) (h4 : x % 4 = 0 ∨ x % 4 = 1) : Calls Try.prog 13 #[.int .u64 x, .int .i64 b] w fun r w' => ((MayE (prt x) b ∧ r = .returned (.tuple #[.agg (prt x).cs, .bool true])) ∨ (¬ MayE (prt x) b ∧ r = .returned (.tuple #[.agg zE.cs, .bool false]))) ∧ Kp (fun _ => False) w w' := by
  have HB := hid (Eb.new w zE)
  have HK : Hid (Kp (fun _ => False) w (w.alloc (.cells zE.cs 24))) := (Kp.refl _ _).alloc _
  have hlt := HB.out.lt
  have hsz : (w.alloc (.cells zE.cs 24)).heap.size = w.heap.size + 1 := by simp
  have N1 := hid (Eb.new (w.alloc (.cells zE.cs 24)) zE)
  rw [hsz] at N1
  have K1 : Hid (Kp (fun _ => False) w ((w.alloc (.cells zE.cs 24)).alloc (.cells zE.cs 24))) := HK.out.alloc _
  have HB1 := hid (HB.out.kp ((Kp.refl (fun _ => False) _).alloc (.cells zE.cs 24)) (fun x => x))
  have HI := hid (rpt_iff hx hb)
  have HPP : Hid (MayE (prt x) b → rpt x = prt x) := fun m => rpt_prt hx hb m
  have WF := hid (rpt_wf hx)
  have RW : Hid (MayE (rpt x) b → ∀ w, Calls Try.prog 10 #[.agg (rpt x).cs] w fun r w' => r = .returned (.int .u64 (wrd (rpt x))) ∧ Kp (fun _ => False) w w') := fun m => rword_in hb m
  have MY : Hid (MayE (rpt x) b → ∀ w, Calls Try.prog 6 #[.agg (rpt x).cs, .int .i64 b] w fun r w' => r = .returned (.bool true) ∧ Kp (fun _ => False) w w') := fun m w => rmay_yes WF.out hb m
  have MN : Hid (¬ MayE (rpt x) b → ∀ w, Calls Try.prog 6 #[.agg (rpt x).cs, .int .i64 b] w fun r w' => r = .returned (.bool false) ∧ Kp (fun _ => False) w w') := fun m w => rmay_no WF.out (fun h => m h.2)
  unfold U6 at hx
  have hR : rpt x = ⟨x % 4, 0, 0⟩ := by unfold rpt; rw [if_neg (by omega), if_neg (by omega)]
  have u1 : IntKind.i64.wrap (x % 4) = x % 4 := by rw [IntKind.wrap_i64]; omega
  have t1 : x.tmod 4 = x % 4 := Int.tmod_eq_emod_of_nonneg hx.1
  have n2 : ¬ x % 4 = 2 := by omega
  have n3 : ¬ x % 4 = 3 := by omega
  rw [hR] at RW MY MN HI HPP
  have HR := hid hR
  clear hR WF
  by_cases m : MayE ⟨x % 4, 0, 0⟩ b
  · have MY2 := hid (MY.out m)
    have RW2 := hid (RW.out m)
    by_cases e : wrd ⟨x % 4, 0, 0⟩ = x
    · have M2 := hid (HI.out.1 ⟨m, e⟩)
      rw [e] at RW2
      clear MY MN RW m HI HR e
      go_enter Try.func13, Try.ntmps13
      go_wp2_with (first | (refine wpList_store_en rfl (.tmp 6) (.tmp 11) rfl (w.heap.size + 1) rfl (e := zE) (e' := ⟨x % 4, 0, 0⟩) rfl N1.out ?_; intro w2 b2 k2; have k2' := hid (K1.out.trans k2 (fun i h1 h2 => by omega)); have E2 := hid b2; have f1 := St.frozen b2 1; have f2 := St.frozen b2 2; have l2 := b2.lt; have c1 : w2.cell? ⟨w.heap.size + 1, 1, none⟩ = some (.int .i64 0) := b2.cell 1; have c2 : w2.cell? ⟨w.heap.size + 1, 2, none⟩ = some (.int .i64 0) := b2.cell 2; have Z2 := hid (HB1.out.kp k2 (by omega))) | (refine wpList_load_en rfl (.tmp 6) rfl (w.heap.size + 1) rfl E2.out ?_) | (go_at_call 6; refine (MY2.out _).mono ?_; rintro r w3 ⟨rfl, k3⟩; have E3 : Hid (Eb w3 (w.heap.size + 1) ⟨x % 4, 0, 0⟩) := E2.out.kp k3 (fun x => x); have Z3 : Hid (Eb w3 w.heap.size zE) := Z2.out.kp k3 (fun x => x); have K3 : Hid (Kp (fun _ => False) w w3) := k2'.out.trans k3 (fun _ _ x => x)) | (refine wpList_load_en_g (by rfl) (.tmp 6) rfl (w.heap.size + 1) rfl E3.out ?_) | (go_at_call 10; refine (RW2.out _).mono ?_; rintro r w4 ⟨rfl, k4⟩; have E4 := hid (E3.out.kp k4 (fun x => x)); have Z4 := hid (Z3.out.kp k4 (fun x => x)); have K4 := hid (K3.out.trans k4 (fun _ _ x => x))) | (refine wpList_load_en rfl (.tmp 6) rfl (w.heap.size + 1) rfl E4.out ?_) | (refine wpList_store_en rfl (.tmp 4) (.tmp 44) rfl w.heap.size rfl (e := zE) (e' := ⟨x % 4, 0, 0⟩) rfl Z4.out ?_; intro w5 b5 k5))
      have hpr := HPP.out M2.out
      rw [hpr] at b5
      refine bodyPost_ret (results_cell_tmp2 Try.results13 _ _ _ rfl rfl b5.load) rfl ⟨Or.inl ⟨M2.out, rfl⟩, K4.out.trans k5 (fun i h1 h2 => by omega)⟩
    · have M2 : Hid (¬ MayE (prt x) b) := fun h => e (HI.out.2 h).2
      obtain ⟨X, hX⟩ : ∃ X, X = wrd ⟨x % 4, 0, 0⟩ := ⟨_, rfl⟩
      rw [← hX] at e RW2
      clear MY MN RW m HI HR HPP hX
      go_enter Try.func13, Try.ntmps13
      go_wp2_with (first | (refine wpList_store_en rfl (.tmp 6) (.tmp 11) rfl (w.heap.size + 1) rfl (e := zE) (e' := ⟨x % 4, 0, 0⟩) rfl N1.out ?_; intro w2 b2 k2; have k2' := hid (K1.out.trans k2 (fun i h1 h2 => by omega)); have E2 := hid b2; have f1 := St.frozen b2 1; have f2 := St.frozen b2 2; have l2 := b2.lt; have c1 : w2.cell? ⟨w.heap.size + 1, 1, none⟩ = some (.int .i64 0) := b2.cell 1; have c2 : w2.cell? ⟨w.heap.size + 1, 2, none⟩ = some (.int .i64 0) := b2.cell 2; have Z2 := hid (HB1.out.kp k2 (by omega))) | (refine wpList_load_en rfl (.tmp 6) rfl (w.heap.size + 1) rfl E2.out ?_) | (go_at_call 6; refine (MY2.out _).mono ?_; rintro r w3 ⟨rfl, k3⟩; have E3 : Hid (Eb w3 (w.heap.size + 1) ⟨x % 4, 0, 0⟩) := E2.out.kp k3 (fun x => x); have Z3 : Hid (Eb w3 w.heap.size zE) := Z2.out.kp k3 (fun x => x); have K3 : Hid (Kp (fun _ => False) w w3) := k2'.out.trans k3 (fun _ _ x => x)) | (refine wpList_load_en_g (by rfl) (.tmp 6) rfl (w.heap.size + 1) rfl E3.out ?_) | (go_at_call 10; refine (RW2.out _).mono ?_; rintro r w4 ⟨rfl, k4⟩; have E4 := hid (E3.out.kp k4 (fun x => x)); have Z4 := hid (Z3.out.kp k4 (fun x => x)); have K4 := hid (K3.out.trans k4 (fun _ _ x => x))) | (refine wpList_store_en rfl (.tmp 4) (.tmp 43) rfl w.heap.size rfl (e := zE) (e' := zE) rfl Z4.out ?_; intro w5 b5 k5))
      refine bodyPost_ret (results_cell_tmp2 Try.results13 _ _ _ rfl rfl b5.load) rfl ⟨Or.inr ⟨M2.out, rfl⟩, K4.out.trans k5 (fun i h1 h2 => by omega)⟩
  · have MN2 := hid (MN.out m)
    have M2 : Hid (¬ MayE (prt x) b) := fun h => m (HI.out.2 h).1
    clear MY MN RW m HI HR HPP
    go_enter Try.func13, Try.ntmps13
    go_wp2_with (first | (refine wpList_store_en rfl (.tmp 6) (.tmp 11) rfl (w.heap.size + 1) rfl (e := zE) (e' := ⟨x % 4, 0, 0⟩) rfl N1.out ?_; intro w2 b2 k2; have k2' := hid (K1.out.trans k2 (fun i h1 h2 => by omega)); have E2 := hid b2; have f1 := St.frozen b2 1; have f2 := St.frozen b2 2; have l2 := b2.lt; have c1 : w2.cell? ⟨w.heap.size + 1, 1, none⟩ = some (.int .i64 0) := b2.cell 1; have c2 : w2.cell? ⟨w.heap.size + 1, 2, none⟩ = some (.int .i64 0) := b2.cell 2; have Z2 := hid (HB1.out.kp k2 (by omega))) | (refine wpList_load_en rfl (.tmp 6) rfl (w.heap.size + 1) rfl E2.out ?_) | (go_at_call 6; refine (MN2.out _).mono ?_; rintro r w3 ⟨rfl, k3⟩; have Z3 : Hid (Eb w3 w.heap.size zE) := Z2.out.kp k3 (fun x => x); have K3 : Hid (Kp (fun _ => False) w w3) := k2'.out.trans k3 (fun _ _ x => x)) | (refine wpList_store_en rfl (.tmp 4) (.tmp 43) rfl w.heap.size rfl (e := zE) (e' := zE) rfl Z3.out ?_; intro w5 b5 k5))
    refine bodyPost_ret (results_cell_tmp2 Try.results13 _ _ _ rfl rfl b5.load) rfl ⟨Or.inr ⟨M2.out, rfl⟩, K3.out.trans k5 (fun i h1 h2 => by omega)⟩
theorem rof_any (x b : Int) (w : World) (hx : U6 x) (hb : Bt b) : Calls Try.prog 13 #[.int .u64 x, .int .i64 b] w fun r w' => ((MayE (prt x) b ∧ r = .returned (.tuple #[.agg (prt x).cs, .bool true])) ∨ (¬ MayE (prt x) b ∧ r = .returned (.tuple #[.agg zE.cs, .bool false]))) ∧ Kp (fun _ => False) w w' := by
  have h : x % 4 = 0 ∨ x % 4 = 1 ∨ x % 4 = 2 ∨ x % 4 = 3 := by omega
  rcases h with h | h | h | h
  · exact rof_0 x b w hx hb (Or.inl h)
  · exact rof_0 x b w hx hb (Or.inr h)
  · exact rof_2 x b w hx hb h
  · exact rof_3 x b w hx hb h
theorem rof_yes {x b : Int} {w : World} (hx : U6 x) (hb : Bt b) (m : MayE (prt x) b) : Calls Try.prog 13 #[.int .u64 x, .int .i64 b] w fun r w' => r = .returned (.tuple #[.agg (prt x).cs, .bool true]) ∧ Kp (fun _ => False) w w' := by
  refine (rof_any x b w hx hb).mono ?_
  rintro r w' ⟨⟨_, rfl⟩ | ⟨q, _⟩, ew⟩
  · exact ⟨rfl, ew⟩
  · exact absurd m q
theorem rof_no {x b : Int} {w : World} (hx : U6 x) (hb : Bt b) (m : ¬ MayE (prt x) b) : Calls Try.prog 13 #[.int .u64 x, .int .i64 b] w fun r w' => r = .returned (.tuple #[.agg zE.cs, .bool false]) ∧ Kp (fun _ => False) w w' := by
  refine (rof_any x b w hx hb).mono ?_
  rintro r w' ⟨⟨q, _⟩ | ⟨_, rfl⟩, ew⟩
  · exact absurd q m
  · exact ⟨rfl, ew⟩
end Go.Proofs.Ytkmkhjcmgockkaa
