/- RegionsApart: the walk. -/
import Derived.Test.YtopnfjgkgoeleaaZh
namespace Go.Proofs.Ytopnfjgkgoeleaa
open Go.RowKit Go.Shelf
attribute [local go_sem] Oper.semAt_some
set_option linter.unusedVariables false
set_option linter.unusedSimpArgs false
def TlP (X : World) (T6 : Nat) (ds : List Deferred) (a' : Act) (Z : World) : Prop := a'.tmps.getD 6 undef = .pointer (some ⟨T6, 0, none⟩) ∧ a'.defers = ds ∧ Kp (fun i => i = T6) X Z ∧ St 4 Z T6 #[.bool true]
set_option maxRecDepth 100000 in
set_option maxHeartbeats 8000000 in
theorem tail_wp (w X : World) (bo : Option Addr) (n cb : Nat) (nn st : Int) (T6 T7 T8 B q q1 q2 T17 : Nat) (ao : Option Addr) (c : Nat) (L : List Rn) (ds : List Deferred) (f : Nat → Value) (h : LI w T6 B T7 T8 ao c L (endL L) X) (s17 : St 2 X T17 #[.int .i64 (endL L)]) (hnn : I6 nn) (hst : I6 st) :
    cS.wpIn Fence.wide 20 Try.prog (postT (TlP X T6 ds)) { tmps := e20 bo n cb nn st T6 T7 T8 q q1 q2 T17 f, defers := ds } X := by
  obtain ⟨ob, hob⟩ : ∃ ob, ob = (decide (nn < 1) || decide (st < 1)) := ⟨_, rfl⟩
  have H38 := hid (wpIn_wide.1 (c38_wp w X bo n cb nn st T6 T7 T8 B q q1 q2 T17 ao c L ds f h s17 ob hob))
  have HL := hid h
  have S17 := hid s17
  have HI := hid hst
  clear h s17
  refine wpIn_wide.2 ?_
  unfold cS
  generalize hQ : postT _ = QQ
  go_wp2_with fail
  refine wp_mono H38.out ?_
  intro e a1 X1 hh
  cases e with
  | normal =>
    obtain ⟨⟨f1, rfl⟩, b1⟩ := hh
    have B1 := hid b1
    have K1 := hid (Kp.of_below (F := fun _ => False) b1)
    have L1 := hid (HL.out.same K1.out)
    have S1 := hid (S17.out.below b1 S17.out.lt)
    clear b1 H38
    cases ob with
    | true =>
      have H39 : Hid (∀ A : Act, A.tmps = e38 bo n cb nn st T6 T7 T8 q q1 q2 T17 true (fun i => A.tmps.getD i undef) → A.defers = ds → c39.wp Try.prog (postN (fun a' Z => (∃ f', a' = { tmps := e38 bo n cb nn st T6 T7 T8 q q1 q2 T17 true f', defers := ds }) ∧ Kp (fun i => i = T6) X1 Z ∧ St 4 Z T6 #[.bool true])) A X1) := fun A ht hd => by
        obtain ⟨f, rfl⟩ := act_of ht hd
        exact wpIn_wide.1 (c39_wp w X1 bo n cb nn st T6 T7 T8 B q q1 q2 T17 ao c L ds true f L1.out S1.out)
      unfold e38
      go_wp2_with fail
      refine wp_mono (H39.out _ ?h1 rfl) ?_
      case h1 => kernel_rfl
      intro e a2 X2 hh
      cases e with
      | normal =>
        obtain ⟨⟨f2, rfl⟩, k2, s2⟩ := hh
        have K2 := hid k2
        have S2 := hid s2
        clear k2 s2
        unfold e38
        go_wp2_with fail
        subst hQ
        exact ⟨rfl, rfl, (K1.out.mono (fun _ _ x => x.elim)).trans K2.out (fun _ _ x => x), S2.out⟩
      | _ => exact hh.elim
    | false =>
      have h12 : 1 ≤ nn ∧ 1 ≤ st := by simp at hob; omega
      clear hob
      obtain ⟨h1, h2⟩ := h12
      have hst2 := HI.out
      unfold I6 at hst2
      have HFI := hid (first_any X1 B ao c L 0 nn st L1.out.rg (by unfold I6; omega) hnn HI.out)
      have HFS := hid (fre_fst L1.out.rg.srt (n := nn) (s := st) (p := 0) h2 h1 (Int.le_refl _))
      have c7 : X1.cell? ⟨T7, 0, none⟩ = some (.pointer (some ⟨B, 0, none⟩)) := L1.out.s7.cell 0
      by_cases hfit : fre L 0 nn st + nn ≤ 72057594037927936
      · have he : fsE L 0 nn st = 0 := by unfold fsE; rw [if_pos (by omega), if_pos hfit]
        have hv : fsV L 0 nn st = fre L 0 nn st := by unfold fsV; rw [if_pos he]
        rw [he, hv] at HFI
        have HFIT := hid hfit
        clear he hv hfit
        generalize fre L 0 nn st = at0 at *
        have hat0 : 0 ≤ at0 := HFS.out.1
        have HCM : Hid (∀ (A : Act) (Y : World), A.tmps = eM bo n cb nn st T6 T7 T8 q q1 q2 T17 at0 0 0 (fun i => A.tmps.getD i undef) → A.defers = ds → Kp (fun _ => False) X1 Y → cM.wp Try.prog (postN (fun a' Z => (∃ f', a' = { tmps := e30 bo n cb nn st T6 T7 T8 q q1 q2 T17 at0 f', defers := ds }) ∧ Kp (fun _ => False) Y Z)) A Y) := fun A Y ht hd hY => wpIn_wide.1 (cM_wp w Y bo n cb nn st T6 T7 T8 B q q1 q2 T17 ao c L at0 ds A ht hd (L1.out.same hY) h1 (by omega) HFS.out HFIT.out)
        unfold e38
        go_wp2_with (first | (go_at_call 25; refine HFI.out.mono ?_; rintro e X2 ⟨rfl, b2⟩; have K2 := hid (Kp.of_below (F := fun _ => False) b2); clear b2 c7) | (go_at_call 22; refine (num_any _ _).mono ?_; rintro e w9 ⟨rfl, rfl⟩))
        refine wp_mono (HCM.out _ X2 ?h2 rfl K2.out) ?_
        case h2 => kernel_rfl
        intro e a2 X3 hh
        cases e with
        | normal =>
          obtain ⟨⟨f2, rfl⟩, k3⟩ := hh
          have K3 := hid (K2.out.trans k3 (fun _ _ x => x))
          have L3 := hid (L1.out.same K3.out)
          clear k3 HCM
          have HASK := hid (ask_fr h1 hat0 HFIT.out B ao c X3 L3.out.rg)
          have hno : ovr L at0 nn mz = none := (ovr_fr h1).2 HFS.out.2.2.1
          rw [hno] at HASK
          have HASK2 : Hid (Calls Try.prog 20 #[.pointer (some ⟨B, 0, none⟩), .int .i64 at0, .int .i64 nn, .slice none 0 0] X3 fun e w' => e = .returned (.tuple #[.agg zRn.cs, .bool false, .int .i64 0]) ∧ Below X3.heap.size X3 w') := HASK.out
          have c7 : X3.cell? ⟨T7, 0, none⟩ = some (.pointer (some ⟨B, 0, none⟩)) := L3.out.s7.cell 0
          have hm0 : at0 % st = 0 := HFS.out.2.1
          have d0 : decide (0 ≤ at0) = true := by simpa using hat0
          have HT6 : Hid (∀ U, Kp (fun _ => False) X3 U → U.cell? ⟨T6, 0, none⟩ = some (.bool false) ∧ U.frozen? ⟨T6, 0, none⟩ = false ∧ T6 < U.heap.size ∧ St 4 U T6 #[.bool false]) := fun U hU => ⟨(L3.out.same hU).s6.cell 0, (L3.out.same hU).s6.frozen 0, (L3.out.same hU).s6.lt, (L3.out.same hU).s6⟩
          clear HASK hno HFS HFI
          unfold e30
          go_wp2_with (first | (go_at_call 20; refine HASK2.out.mono ?_; rintro e X4 ⟨rfl, b4⟩; have K4 := hid (Kp.of_below (F := fun _ => False) b4); clear b4 c7) | (refine wpList_store_r rfl _ _ rfl _ rfl (e' := zRn) rfl (Rn.B.new X4 zRn) ?_; intro X5 b6 j6; have K5 := hid (K4.out.trans (((Kp.refl (fun _ => False) X4).alloc _).trans j6 (fun i h1 h2 => by omega)) (fun _ _ x => x)); clear b6 j6) | (go_at_call 22; refine (num_any _ _).mono ?_; rintro e w9 ⟨rfl, rfl⟩) | (go_at_call 8; refine (works_any _).mono ?_; rintro e X6 ⟨rfl, b6⟩; have K6 := hid (K5.out.trans (Kp.of_below (F := fun _ => False) b6) (fun _ _ x => x)); clear b6; obtain ⟨t1, t2, t3, t4⟩ := HT6.out X6 K6.out; have T4 := hid t4; clear t4))
          subst hQ
          exact ⟨rfl, rfl, ((((K1.out.trans K3.out (fun _ _ x => x)).trans K6.out (fun _ _ x => x)).mono (fun _ _ x => x.elim)).trans (kp_setCell X6 T6 0 _ (fun i => i = T6) rfl) (fun _ _ x => x)), St.set T4.out 0 _⟩
        | _ => exact hh.elim
      · have he : fsE L 0 nn st = 4 := by unfold fsE; rw [if_pos (by omega), if_neg hfit]
        have hv : fsV L 0 nn st = 0 := by unfold fsV; rw [if_neg (by rw [he]; omega)]
        rw [he, hv] at HFI
        clear he hv hfit HFS
        have HT6 : Hid (∀ U, Kp (fun _ => False) X1 U → U.cell? ⟨T6, 0, none⟩ = some (.bool false) ∧ U.frozen? ⟨T6, 0, none⟩ = false ∧ T6 < U.heap.size ∧ St 4 U T6 #[.bool false]) := fun U hU => ⟨(L1.out.same hU).s6.cell 0, (L1.out.same hU).s6.frozen 0, (L1.out.same hU).s6.lt, (L1.out.same hU).s6⟩
        unfold e38
        go_wp2_with (first | (go_at_call 25; refine HFI.out.mono ?_; rintro e X2 ⟨rfl, b2⟩; have K2 := hid (Kp.of_below (F := fun _ => False) b2); clear b2 c7) | (go_at_call 22; refine (num_any _ _).mono ?_; rintro e w9 ⟨rfl, rfl⟩) | (go_at_call 8; refine (works_any _).mono ?_; rintro e X6 ⟨rfl, b6⟩; have K6 := hid (K2.out.trans (Kp.of_below (F := fun _ => False) b6) (fun _ _ x => x)); clear b6; obtain ⟨t1, t2, t3, t4⟩ := HT6.out X6 K6.out; have T4 := hid t4; clear t4))
        subst hQ
        exact ⟨rfl, rfl, (((K1.out.trans K6.out (fun _ _ x => x)).mono (fun _ _ x => x.elim)).trans (kp_setCell X6 T6 0 _ (fun i => i = T6) rfl) (fun _ _ x => x)), St.set T4.out 0 _⟩
  | _ => exact hh.elim
end Go.Proofs.Ytopnfjgkgoeleaa
