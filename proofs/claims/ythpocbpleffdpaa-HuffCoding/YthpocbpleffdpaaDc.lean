/- HuffCoding: the law's goes, of a code's iterator. -/
import Derived.Test.YthpocbpleffdpaaDb
namespace Go.Proofs.Ythpocbpleffdpaa
open Go.RowKit Go.Shelf
attribute [local go_sem] Oper.semAt_some
set_option linter.unusedVariables false
set_option linter.unusedSimpArgs false
set_option maxRecDepth 100000 in
set_option maxHeartbeats 8000000 in
theorem goes_all (bk g : Nat) (la ca sa : Option Addr) (lc cc sc : Nat) (zs S : List Int) (w : World) (hc : Cd w g la ca sa lc cc sc zs S) (s1 : Sc 53 w bk #[.pointer (some ⟨g, 0, none⟩)]) (hlt : ∀ i, Cdf g la ca sa i → i < w.heap.size) (hbk : ¬ Cdf g la ca sa bk) (hdi : ∀ b off, la = some ⟨b, off, none⟩ → b ≠ g ∧ ∀ off', ca ≠ some ⟨b, off', none⟩)
    (lo : Option Addr) (cb : Nat) (sb : Src .i64 w lo zs) (hlo : ∀ b off, lo = some ⟨b, off, none⟩ → 0 < zs.length → b < w.heap.size ∧ ¬ ROa bk g la ca zs b) (leave : Int) :
    Calls Try.prog 29 #[.func (.func 56) #[] #[.pointer (some ⟨bk, 0, none⟩)], .slice lo zs.length cb, .int .i64 leave] w fun e w' => e = .returned (.bool true) ∧ Kp (fun _ => False) w w' := by
  have LW : Hid (∀ i, ROa bk g la ca zs i → i < w.heap.size) := by
    rintro i (rfl | rfl | ⟨off, e⟩ | ⟨_, off, e⟩)
    · exact s1.lt
    · exact hlt i (.inl rfl)
    · exact hlt i (.inr ⟨off, .inr (.inl e)⟩)
    · exact hlt i (.inr ⟨off, .inl e⟩)
  have SQ := hid (all_seq 19 (by omega) bk g la ca sa lc cc sc zs S w hc s1 hlt hbk hdi)
  have HSB := hid sb
  have HLO := hid hlo
  have HWI := hid hc.hw
  have hl : zs.length ≤ 320 := hc.hl
  have hnf : ∀ U : World, (binOp .eql 59 (.func (.func 56) #[] #[.pointer (some ⟨bk, 0, none⟩)]) .nilFunc).run Try.prog U = .ok (.bool false) U := fun _ => rfl
  clear hc s1 hlt hbk hdi sb hlo
  generalize hO0 : ROa bk g la ca zs = O0 at *
  clear hO0
  refine (callsIn_wide (n := 20)).1 ?_
  refine callsIn_of_wp_marks Try.func29 rfl trivial ?_ rfl
  simp only [Try.ntmps29, List.size_toArray, List.length_cons, List.length_nil, Nat.reduceAdd, Nat.reduceSub, Array.replicate_succ, Array.replicate_zero, List.push_toArray, List.append_toArray, List.nil_append, List.cons_append]
  refine wpIn_wide.2 ?_
  generalize hQ : bodyPostM _ _ _ _ _ = QQ
  obtain ⟨N, hN⟩ : ∃ N, N = zs.length := ⟨_, rfl⟩
  rw [← hN] at hl ⊢
  have HN := hid hN
  clear hN
  have HX0 : Hid (Sc 22 (((w.alloc (.cells #[.slice lo N cb] 22)).alloc (.cells #[.int .i64 leave] 3)).alloc (.cells #[.bool false] 4)) w.heap.size #[.slice lo N cb] ∧ Sc 3 (((w.alloc (.cells #[.slice lo N cb] 22)).alloc (.cells #[.int .i64 leave] 3)).alloc (.cells #[.bool false] 4)) (w.heap.size + 1) #[.int .i64 leave] ∧ Sc 4 (((w.alloc (.cells #[.slice lo N cb] 22)).alloc (.cells #[.int .i64 leave] 3)).alloc (.cells #[.bool false] 4)) (w.heap.size + 2) #[.bool false] ∧ Kp (fun _ => False) w (((w.alloc (.cells #[.slice lo N cb] 22)).alloc (.cells #[.int .i64 leave] 3)).alloc (.cells #[.bool false] 4)) ∧ (((w.alloc (.cells #[.slice lo N cb] 22)).alloc (.cells #[.int .i64 leave] 3)).alloc (.cells #[.bool false] 4)).heap.size = w.heap.size + 3) := by
    have al : ∀ (U : World) (o : Obj), Kp (fun _ => False) U (U.alloc o) := fun U o => (Kp.refl _ _).alloc _
    have n4 := Sc.new 22 w #[.slice lo N cb]
    have n5 := Sc.new 3 (w.alloc (.cells #[.slice lo N cb] 22)) #[.int .i64 leave]
    have n6 := Sc.new 4 ((w.alloc (.cells #[.slice lo N cb] 22)).alloc (.cells #[.int .i64 leave] 3)) #[.bool false]
    simp only [World.size_alloc, Nat.add_assoc, Nat.reduceAdd] at n5 n6
    refine ⟨((n4.kp (al _ _) (fun h => h)).kp (al _ _) (fun h => h)), (n5.kp (al _ _) (fun h => h)), n6, ?_, by simp only [World.size_alloc]⟩
    exact (((Kp.refl (fun _ => False) w).alloc _).alloc _).alloc _
  obtain ⟨T, hT⟩ : ∃ T, T = w.heap.size := ⟨_, rfl⟩
  have HRC : Hid (Calls Try.prog 17 #[.slice lo N cb] (((w.alloc (.cells #[.slice lo N cb] 22)).alloc (.cells #[.int .i64 leave] 3)).alloc (.cells #[.bool false] 4)) fun e w' => e = .returned (.slice (some ⟨w.heap.size + 3, 0, none⟩) N N) ∧ Rw .u64 35 w' (w.heap.size + 3) (codes zs) ∧ Kp (fun _ => False) w w' ∧ Sc 22 w' w.heap.size #[.slice lo N cb] ∧ Sc 3 w' (w.heap.size + 1) #[.int .i64 leave] ∧ Sc 4 w' (w.heap.size + 2) #[.bool false]) := by
    have h := rcodes_any lo cb zs (((w.alloc (.cells #[.slice lo N cb] 22)).alloc (.cells #[.int .i64 leave] 3)).alloc (.cells #[.bool false] 4)) (by have := HN.out; omega) (HSB.out.kp HX0.out.2.2.2.1 (fun _ _ _ h => h))
    rw [← HN.out, HX0.out.2.2.2.2] at h
    refine h.mono ?_
    rintro e w' ⟨h1, h2, h3⟩
    have k3 : Kp (fun _ => False) (((w.alloc (.cells #[.slice lo N cb] 22)).alloc (.cells #[.int .i64 leave] 3)).alloc (.cells #[.bool false] 4)) w' := Kp.of_below (by rw [HX0.out.2.2.2.2]; exact h3)
    exact ⟨h1, h2, HX0.out.2.2.2.1.trans k3 (fun _ _ h => h), HX0.out.1.kp k3 (fun h => h), HX0.out.2.1.kp k3 (fun h => h), HX0.out.2.2.1.kp k3 (fun h => h)⟩
  have c4 : (((w.alloc (.cells #[.slice lo N cb] 22)).alloc (.cells #[.int .i64 leave] 3)).alloc (.cells #[.bool false] 4)).cell? ⟨w.heap.size, 0, none⟩ = some (.slice lo N cb) := HX0.out.1.cell 0
  go_wp2_with (first | (go_at_call 17; refine HRC.out.mono ?_; rintro e w3 ⟨rfl, r3, k3, q4, q5, q6⟩; have R3 := hid r3; have K3 := hid k3; have Q4 := hid q4; have Q5 := hid q5; have Q6 := hid q6; clear r3 k3 q4 q5 q6 c4 HRC HX0))
  have HX : Hid (Sc 27 (((w3.alloc (.cells #[.slice (some ⟨w.heap.size + 3, 0, none⟩) N N] 27)).alloc (.cells #[.int .i64 0] 3)).alloc (.cells #[.int .i64 0] 3)) w3.heap.size #[.slice (some ⟨w.heap.size + 3, 0, none⟩) N N] ∧ Sc 3 (((w3.alloc (.cells #[.slice (some ⟨w.heap.size + 3, 0, none⟩) N N] 27)).alloc (.cells #[.int .i64 0] 3)).alloc (.cells #[.int .i64 0] 3)) (w3.heap.size + 1) #[.int .i64 0] ∧ Sc 3 (((w3.alloc (.cells #[.slice (some ⟨w.heap.size + 3, 0, none⟩) N N] 27)).alloc (.cells #[.int .i64 0] 3)).alloc (.cells #[.int .i64 0] 3)) (w3.heap.size + 2) #[.int .i64 0] ∧ Kp (fun _ => False) w3 (((w3.alloc (.cells #[.slice (some ⟨w.heap.size + 3, 0, none⟩) N N] 27)).alloc (.cells #[.int .i64 0] 3)).alloc (.cells #[.int .i64 0] 3)) ∧ (((w3.alloc (.cells #[.slice (some ⟨w.heap.size + 3, 0, none⟩) N N] 27)).alloc (.cells #[.int .i64 0] 3)).alloc (.cells #[.int .i64 0] 3)).heap.size = w3.heap.size + 3) := by
    have al : ∀ (U : World) (o : Obj), Kp (fun _ => False) U (U.alloc o) := fun U o => (Kp.refl _ _).alloc _
    have n4 := Sc.new 27 w3 #[.slice (some ⟨w.heap.size + 3, 0, none⟩) N N]
    have n5 := Sc.new 3 (w3.alloc (.cells #[.slice (some ⟨w.heap.size + 3, 0, none⟩) N N] 27)) #[.int .i64 0]
    have n6 := Sc.new 3 ((w3.alloc (.cells #[.slice (some ⟨w.heap.size + 3, 0, none⟩) N N] 27)).alloc (.cells #[.int .i64 0] 3)) #[.int .i64 0]
    simp only [World.size_alloc, Nat.add_assoc, Nat.reduceAdd] at n5 n6
    refine ⟨((n4.kp (al _ _) (fun h => h)).kp (al _ _) (fun h => h)), (n5.kp (al _ _) (fun h => h)), n6, ?_, by simp only [World.size_alloc]⟩
    exact (((Kp.refl (fun _ => False) w3).alloc _).alloc _).alloc _
  simp only [Nat.add_assoc, Nat.reduceAdd]
  generalize ((w3.alloc (.cells #[.slice (some ⟨w.heap.size + 3, 0, none⟩) N N] 27)).alloc (.cells #[.int .i64 0] 3)).alloc (.cells #[.int .i64 0] 3) = X at *
  have HTU : Hid (w.heap.size + 4 ≤ w3.heap.size) := by have := R3.out.lt; show _ ≤ _; omega
  obtain ⟨U, hU⟩ : ∃ U, U = w3.heap.size := ⟨_, rfl⟩
  rw [← hT] at HX R3 Q4 Q5 Q6 ⊢
  rw [← hU] at HX ⊢
  obtain ⟨x7, x8, x9, kx, xs⟩ := HX.out
  have KX : Hid (Kp (fun _ => False) w X) := K3.out.trans kx (fun _ _ h => h)
  have x4 := Q4.out.kp kx (fun h => h)
  have x5 := Q5.out.kp kx (fun h => h)
  have x6 := Q6.out.kp kx (fun h => h)
  have xr := R3.out.kp kx (fun h => h)
  have GB : Gb w O0 T U X.heap.size lo zs := ⟨by omega, by have := HTU.out; omega, by omega, LW.out, fun b off e hp => HLO.out b off e hp⟩
  rw [HN.out] at x4 x7
  have HXB : Hid (Below w.heap.size w X) := KX.out.below (Nat.le_refl _) (fun _ h => h.elim)
  have HWX : Hid (w.heap.size < X.heap.size) := by show w.heap.size < X.heap.size; have := HTU.out; omega
  clear hT hU xs HX kx Q4 Q5 Q6 R3 K3
  refine (wpIn_wide (n := 20)).1 ?_
  refine wpIn_rangeFunc_W rfl (by omega) (gf := 56) (pb := #[]) (lb := #[.pointer (some ⟨bk, 0, none⟩)]) rfl trivial (enters_of Try.func56 (by kernel_rfl) rfl) SQ.out ?hS ?hSx (fun i hi => by have := LW.out i hi; have := HWX.out; omega) HXB.out (fun _ => rfl)
    (fun pre O Z => Gi w O0 T U X.heap.size lo cb zs leave (nx pre) pre.length O Z) (fun c _ O Z => c = .ret ∧ Gx w O0 T X.heap.size O Z) (Gi.abw GB) (Gx.abw GB) ?hI2 ?hIx2 ?h0
    (fun x a' Z => ∃ f', a' = { tmps := g29 T U x f', defers := [] }) (fun x a' X o' h => h) ?assign ?body ?done ?stop
  case hS =>
    intro xs Z r o' hs hl
    exact ⟨hs.1, fun i hi => ((kp_putO Z (X.heap.size + 1) o').block i (kr_lt hs.2 hi (LW.out i hi)) (by have := LW.out i hi; have := HWX.out; omega)).trans (hs.2 i hi)⟩
  case hSx =>
    intro xs Z r o' hs hl
    exact fun i hi => ((kp_putO Z (X.heap.size + 1) o').block i (kr_lt hs hi (LW.out i hi)) (by have := LW.out i hi; have := HWX.out; omega)).trans (hs i hi)
  case hI2 => exact fun s O Z o' hi hlt => hi.kp GB (kp_putO Z _ o') (fun i _ e => Or.inr (Or.inr e))
  case hIx2 => exact fun c s O Z o' h hlt => ⟨h.1, h.2.kp GB (kp_putO Z _ o') (fun i _ e => Or.inr (Or.inr e))⟩
  case h0 =>
    intro r
    have ka : Kp (fun _ => False) X ((X.alloc (.deferred (some []))).alloc (.loop r)) := ((Kp.refl _ _).alloc _).alloc _
    have xb2 : Kp O0 w X := KX.out.mono (fun _ _ h => h.elim)
    exact ⟨xb2.trans ka (fun _ _ h => h.elim), x4.kp ka (fun h => h), x5.kp ka (fun h => h), x6.kp ka (fun h => h), xr.kp ka (fun h => h), x7.kp ka (fun h => h), x8.kp ka (fun h => h), x9.kp ka (fun h => h), (HSB.out.kp KX.out (fun _ _ _ h => h)).kp ka (fun _ _ _ h => h), fun i hi => Or.inl hi, by simp only [World.size_alloc]; omega⟩
  case assign =>
    intro l' pre O x Z1 Kk hll hsz hi hK
    obtain ⟨xk, xa⟩ := x
    gi_wp2
    exact hK _ _ (Kp.refl _ _) hi (act_of (by kernel_rfl) rfl)
  case body =>
    rintro l' pre O ⟨k, cv⟩ a' Z hll hsz n1 n2 hi ⟨f', rfl⟩ ⟨k', hk, hpre, hz⟩
    obtain ⟨e1, e2⟩ := List.append_inj' hpre rfl
    simp only [List.cons.injEq, Prod.mk.injEq, and_true] at e2
    obtain ⟨rfl, rfl⟩ := e2
    have HNX : Hid (nx pre ≤ k ∧ ∀ j, nx pre ≤ j → j < k → zs.getD j 0 = 0) := by
      rw [e1]
      refine ⟨(nx_cds zs k).1, fun j h1 h2 => ?_⟩
      have h3 := (nx_cds zs k).2 j h1 h2
      have h4 := (HWI.out (zs.getD j 0) (by rw [List.getD_eq_getElem?_getD, List.getElem?_eq_getElem (show j < zs.length by omega)]; exact List.getElem_mem _)).1
      omega
    have HPS : Hid (nx (pre ++ [(k, (codes zs).getD k 0)]) = k + 1 ∧ (pre ++ [(k, (codes zs).getD k 0)]).length = pre.length + 1) := ⟨nx_snoc _ _, by simp⟩
    have HPL : Hid (pre.length ≤ 320) := by
      show _ ≤ _
      rw [e1]; unfold am; rw [List.length_map]
      have := cds_le zs k
      have := HN.out
      omega
    have HI := hid hi
    have HN1 := hid n1
    have HN2 := hid n2
    have HZ := hid hz
    have HK : Hid (k < N) := by show k < N; have := HN.out; omega
    have HRD : Hid (∀ j, j < N → ∃ gb off, lo = some ⟨gb, off, none⟩ ∧ ∀ at_ n O Y, Gi w O0 T U X.heap.size lo cb zs leave at_ n O Y → Y.cell? ⟨gb, off + j, none⟩ = some (.int .i64 (zs.getD j 0))) := by
      intro j hj
      obtain ⟨gb, off, e, h⟩ := hi.sb (by have := HN.out; omega)
      refine ⟨gb, off, e, fun at_ n O Y hY => ?_⟩
      obtain ⟨gb', off', e', h'⟩ := hY.sb (by have := HN.out; omega)
      rw [e] at e'
      cases e'
      exact h' j (by have := HN.out; omega)
    have HCD : Hid (∀ at_ n O Y, Gi w O0 T U X.heap.size lo cb zs leave at_ n O Y → Y.cell? ⟨T + 3, k, none⟩ = some (.int .u64 ((codes zs).getD k 0))) := fun at_ n O Y hY => hY.rc.cell k (by rw [codes_len]; omega)
    have HOW : Hid (¬ O (U + 1) ∧ ¬ O (U + 2) ∧ ¬ O (T + 2)) := by
      have h1 := GB.t
      have h2 := GB.u
      have h3 := GB.b
      have h4 : ∀ i, T ≤ i → i ≤ U + 2 → ¬ O i := fun i a1 a2 o => by
        rcases hi.ow i o with a | a
        · have := GB.o i a; omega
        · omega
      exact ⟨h4 _ (by omega) (by omega), h4 _ (by omega) (by omega), h4 _ (by omega) (by omega)⟩
    have HUB : Hid (U + 3 ≤ X.heap.size ∧ T + 4 ≤ U) := ⟨GB.b, GB.u⟩
    clear hi n1 n2 hz hk hpre e1 x4 x5 x6 x7 x8 x9 xr
    unfold g29
    dsimp only
    gi_wp2_with fail
    gi_loopw [] (fun wr => ∃ j, nx pre ≤ j ∧ j ≤ k ∧ Hid (Gi w O0 T U X.heap.size lo cb zs leave j pre.length O wr) ∧ Hid (Kp (fun i => i = U + 1) Z wr)) (fun wr => k - atv U wr)
    case atStart => exact ⟨_, Nat.le_refl _, HNX.out.1, HI, Kp.refl _ _⟩
    case round =>
      obtain ⟨j, hj1, hj2, HG, HKZ⟩ := hrel
      have c4 : wr.cell? ⟨T, 0, none⟩ = some (.slice lo N cb) := by rw [HN.out]; exact HG.out.s4.cell 0
      have c8 : wr.cell? ⟨U + 1, 0, none⟩ = some (.int .i64 (j : Int)) := HG.out.s8.cell 0
      have f8 := HG.out.s8.frozen 0
      have HJN : Hid (j < N) := by have := HK.out; show j < N; omega
      have hj320 : j < 320 := by have := HJN.out; omega
      have hjN : j < N := HJN.out
      obtain ⟨gb, off, hlo, hcell⟩ := HRD.out j HJN.out
      have cj := hcell _ _ _ _ HG.out
      subst hlo
      clear hcell
      by_cases hlt : j < k
      · rw [HNX.out.2 j hj1 hlt] at cj
        gi_wp2_with fail
        go_roundw
        case rel => exact ⟨j + 1, by omega, by omega, HG.out.at GB (j + 1), HKZ.out.trans (kp_setC wr (U + 1) 0 _ (fun i => i = U + 1) rfl) (fun _ _ h => h)⟩
        case measure =>
          have h1 := HG.out.atv
          have h2 := (HG.out.at GB (j + 1)).atv
          push_cast at h2
          rw [h1, h2]
          omega
      · obtain rfl : j = k := by omega
        have hz0 : zs.getD j 0 ≠ 0 := by have := HZ.out; omega
        have c7 : wr.cell? ⟨U, 0, none⟩ = some (.slice (some ⟨T + 3, 0, none⟩) N N) := by rw [HN.out]; exact HG.out.s7.cell 0
        have c9 : wr.cell? ⟨U + 2, 0, none⟩ = some (.int .i64 (pre.length : Int)) := HG.out.s9.cell 0
        have ck := HCD.out _ _ _ _ HG.out
        have G1 := HG.out.at GB (j + 1)
        have G2 := G1.num GB (pre.length + 1)
        rw [show ((j + 1 : Nat) : Int) = (j : Int) + 1 by push_cast; rfl] at G1 G2
        rw [show ((pre.length + 1 : Nat) : Int) = (pre.length : Int) + 1 by push_cast; rfl] at G2
        have c9' : (wr.setCell ⟨U + 1, 0, none⟩ (.int .i64 ((j : Int) + 1))).cell? ⟨U + 2, 0, none⟩ = some (.int .i64 (pre.length : Int)) := G1.s9.cell 0
        have f9' := G1.s9.frozen 0
        have k2 : Kp (fun i => i = U + 1 ∨ i = U + 2) Z ((wr.setCell ⟨U + 1, 0, none⟩ (.int .i64 ((j : Int) + 1))).setCell ⟨U + 2, 0, none⟩ (.int .i64 ((pre.length : Int) + 1))) := ((HKZ.out.mono (fun _ _ h => .inl h)).trans (kp_setC wr (U + 1) 0 _ (fun i => i = U + 1) rfl) (fun _ _ h => .inl h)).trans (kp_setC _ (U + 2) 0 _ (fun i => i = U + 2) rfl) (fun _ _ h => .inr h)
        have KW := hid (k2.mono (G := fun i => ¬ O i ∧ i ≠ X.heap.size ∧ i ≠ X.heap.size + 1) (fun i _ h => by
          have h1 := HUB.out
          have h2 := HOW.out
          rcases h with rfl | rfl
          · exact ⟨h2.1, by omega, by omega⟩
          · exact ⟨h2.2.1, by omega, by omega⟩))
        have c5' := G2.s5.cell 0
        have f6' := G2.s6.frozen 0
        have c6' := G2.s6.cell 0
        simp only [List.getElem?_toArray, List.getElem?_cons_zero] at c5' c6'
        have G3 := hid (G2.yes GB)
        have HG2 := hid G2
        have hpl : pre.length ≤ 320 := HPL.out
        clear G1 G2 k2 HG HKZ HNX HRD HCD HI
        generalize zs.getD j 0 = zj at *
        by_cases hle : (pre.length : Int) + 1 = leave
        · have e1 : ((pre.length : Int) + 1 == leave) = true := by simpa using hle
          clear hle
          generalize (codes zs).getD j 0 = cv at *
          gi_wp2_with fail
          refine ⟨KW.out.trans (kp_setC _ (T + 2) 0 _ (fun i => i = T + 2) rfl) (fun i _ e => by subst e; have h1 := HUB.out; exact ⟨HOW.out.2.2, by omega, by omega⟩), rfl, G3.out⟩
        · have e1 : ((pre.length : Int) + 1 == leave) = false := by simpa using hle
          clear hle
          have HPS' : Hid (∀ c : Int, nx (pre ++ [(j, c)]) = j + 1 ∧ (pre ++ [(j, c)]).length = pre.length + 1) := fun c => ⟨nx_snoc _ _, by simp⟩
          generalize (codes zs).getD j 0 = cv at *
          gi_wp2_with fail
          refine ⟨KW.out, ?_⟩
          dsimp only
          rw [(HPS'.out _).1, (HPS'.out _).2]
          exact HG2.out
  case done =>
    rintro D xs O Z hD ⟨hS1, hKR⟩ hi hdd
    have HNX : Hid (nx xs ≤ N ∧ ∀ j, nx xs ≤ j → j < N → zs.getD j 0 = 0) := by
      rw [hS1, HN.out]
      refine ⟨(nx_cds zs zs.length).1, fun j h1 h2 => ?_⟩
      have h3 := (nx_cds zs zs.length).2 j h1 h2
      have h4 := (HWI.out (zs.getD j 0) (by rw [List.getD_eq_getElem?_getD, List.getElem?_eq_getElem h2]; exact List.getElem_mem _)).1
      omega
    have HI := hid hi
    have HD := hid hD
    have HDD := hid hdd
    have HKR := hid hKR
    have HUB : Hid (U + 3 ≤ X.heap.size ∧ T + 4 ≤ U ∧ w.heap.size ≤ T) := ⟨GB.b, GB.u, GB.t⟩
    clear hi hD hdd hS1 hKR x4 x5 x6 x7 x8 x9 xr
    gi_wp2_with fail
    go_wp2_with fail
    go_loopw [] (fun wr => ∃ j, nx xs ≤ j ∧ j ≤ N ∧ Hid (Gi w O0 T U X.heap.size lo cb zs leave j xs.length O wr) ∧ Hid (Kp (fun i => i = U + 1) Z wr)) (fun wr => N - atv U wr)
    case atStart => exact ⟨_, Nat.le_refl _, HNX.out.1, HI, Kp.refl _ _⟩
    case round =>
      obtain ⟨j, hj1, hj2, HG, HKZ⟩ := hrel
      have c4 : wr.cell? ⟨T, 0, none⟩ = some (.slice lo N cb) := by rw [HN.out]; exact HG.out.s4.cell 0
      have c8 : wr.cell? ⟨U + 1, 0, none⟩ = some (.int .i64 (j : Int)) := HG.out.s8.cell 0
      have f8 := HG.out.s8.frozen 0
      have hj320 : j ≤ 320 := by omega
      by_cases hlt : j < N
      · obtain ⟨gb, off, hlo, hcell⟩ := HG.out.sb (by have := HN.out; omega)
        have cj := hcell j (by have := HN.out; omega)
        rw [HNX.out.2 j hj1 hlt] at cj
        subst hlo
        clear hcell
        go_wp2_with fail
        go_roundw
        case rel => exact ⟨j + 1, by omega, by omega, HG.out.at GB (j + 1), HKZ.out.trans (kp_setC wr (U + 1) 0 _ (fun i => i = U + 1) rfl) (fun _ _ h => h)⟩
        case measure =>
          have h1 := HG.out.atv
          have h2 := (HG.out.at GB (j + 1)).atv
          push_cast at h2
          rw [h1, h2]
          omega
      · obtain rfl : j = N := by omega
        have f6 := HG.out.s6.frozen 0
        have c6 : wr.cell? ⟨T + 2, 0, none⟩ = some (.bool false) := HG.out.s6.cell 0
        have G3 := hid (HG.out.yes GB)
        go_wp2_with fail
        subst hQ
        have hz := kp_setC wr (T + 2) 0 (.bool true) (fun i => i = T + 2) rfl
        refine leaves_g D _ ?_ (fun w' k => fin_b29 rfl (G3.out.s6.kp k ?_) ?_)
        · have h1 := HUB.out
          have h2 := HD.out
          have hdl : D < Z.heap.size := (Array.getElem?_eq_some_iff.1 HDD.out).1
          rw [← HDD.out, ← HKZ.out.block D hdl (by omega)]
          exact heap_setCell_other wr ⟨T + 2, 0, none⟩ D _ (by show ¬ D = T + 2; omega)
        · have := HUB.out; have := HD.out; omega
        · have h1 := HUB.out
          have h2 := HD.out
          have k1 : Kp (fun _ => False) w Z := kr_kp HI.out.k (fun i _ hi => HKR.out i hi)
          exact ((k1.trans HKZ.out (fun i hi e => by omega)).trans hz (fun i hi e => by omega)).trans k (fun i hi e => by omega)
  case stop =>
    rintro D c pre O Z hD hKR ⟨hc, hx⟩ hdd
    subst hc
    gi_wp2
    subst hQ
    refine leaves_g D Z hdd (fun w' k => fin_b29 rfl (hx.s6.kp k ?_) ?_)
    · have := GB.b; have := GB.u; omega
    · exact (kr_kp hx.k (fun i _ hi => hKR i hi)).trans k (fun i hi e => by have := HWX.out; omega)
end Go.Proofs.Ythpocbpleffdpaa
