/- later: Copy, first. -/
import Derived.Test.YtgfondgejimkkaaOv
namespace Go.Proofs.Ytgfondgejimkkaa
open Go.RowKit
set_option linter.unusedVariables false
set_option linter.unusedSimpArgs false
/-- What Copy tells and leaves. -/
def CyR (w : World) (R : List Rn) (e : Ending) (w' : World) : Prop :=
  ∃ Q B mb me c v L, e = .returned (.pointer (some ⟨Q, 0, none⟩)) ∧ Lc c w' Q B mb me v L ∧ srt (L.map c) = R ∧ (∀ k, Fp Q B mb me v L k → w.heap.size ≤ k) ∧ Kp (fun _ => False) w w'
set_option maxRecDepth 100000 in
set_option maxHeartbeats 16000000 in
theorem copy_any (c : Nat → Rn) (w : World) (Q B mb me : Nat) (v : Value) (L : List Nat) (h : Lc c w Q B mb me v L) :
    Calls Try.prog 12 #[ptr Q] w (CyR w (srt (L.map c))) := by
  have HNO : Hid (Calls Try.prog 32 #[.pointer (some ⟨Q, 0, none⟩)] w fun e w' => e = .returned (.bool false) ∧ w = w') := none_yes Q B _ _ _ w h.st
  obtain ⟨lo, lcap, hv, hsp⟩ : ∃ lo lcap, v = .slice lo L.length lcap ∧ Srcp w lo L := by
    obtain ⟨lo, lcap, hv, hsp, _⟩ := (show Ownp w 0 v L from h.ln.own).src
    exact ⟨lo, lcap, hv, hsp⟩
  have HC : Hid (∀ U, Kp (fun _ => False) w U → U.cell? ⟨Q, 0, none⟩ = some (.pointer (some ⟨B, 0, none⟩)) ∧ U.cell? ⟨B, 0, none⟩ = some (.slice lo L.length lcap)) := fun U hU => ⟨(h.st.kp hU (fun h => h)).cell 0, by rw [← hv]; exact (h.ln.st.kp hU (fun h => h)).cell 0⟩
  have HEM := hid (empty_any (fun _ => zRn) w)
  have HSP := hid hsp
  have HH := hid h
  have hL := h.len
  obtain ⟨m, hm⟩ : ∃ m, m = L.length := ⟨_, rfl⟩
  rw [← hm] at HC hL
  have HM := hid hm
  clear h hsp hv hm
  unfold ptr at *
  go_enter Try.func12, Try.ntmps12
  go_wp2_with fail
  refine HNO.out.mono ?_
  rintro e w0 ⟨rfl, rfl⟩
  go_wp2_with fail
  refine HEM.out.mono ?_
  rintro e w1 ⟨Q2, B2, mb2, me2, rfl, l1, b1, f1⟩
  have K1 : Hid (Kp (fun _ => False) w w1) := Kp.of_below b1
  obtain ⟨q0, q1⟩ := HC.out w1 K1.out
  have F1 := hid f1
  have T0 := hid (Tr.start l1)
  clear HNO HEM l1 b1 f1
  go_wp2_with fail
  clear q0 q1
  go_loopw [17] (fun i wr => ∃ (k : Nat) (c2 : Nat → Rn) (v2 : Value) (L2 : List Nat), i = .int .i64 (k : Int) ∧ k ≤ m ∧ Hid (Tr w1 (Fp Q2 B2 mb2 me2 (.slice none 0 0) []) Q2 B2 mb2 me2 c2 v2 L2 wr) ∧ Hid ((L2.map c2).Perm ((L.take k).map c))) (fun i _ => m - (intOf i).toNat)
  case atStart => exact ⟨0, _, _, [], rfl, Nat.zero_le _, T0, List.Perm.refl _⟩
  case round =>
    obtain ⟨k, c2, v2, L2, rfl, hk, HT, HP⟩ := hrel
    have HKW : Hid (Kp (fun _ => False) w wr) := K1.out.trans HT.out.kp (fun i hi hf => by have := F1.out i hf; omega)
    by_cases hlt : k < m
    · have hkL : k < L.length := by have := HM.out; omega
      have hki : (k : Int) < (m : Int) := by omega
      obtain ⟨gb, off, rfl, hgb, hrow⟩ := (HSP.out.kp HKW.out (fun _ _ _ _ h => h)) (by omega)
      have x0 := hrow k hkL
      have htk := take_snoc' hkL
      have hbL := gn_mem hkL
      obtain ⟨i9, hwt⟩ := (HH.out.kp0 HKW.out).ln.wt hbL
      have hmb := HH.out.ln.may _ hbL
      have hap : Ap ((L.take (k + 1)).map c) := HH.out.ap.sub ((List.take_sublist _ _).map c)
      rw [htk, List.map_append] at hap
      have hln : L2.length = k := by
        have := HP.out.length_eq
        simp at this
        omega
      have HAD : Hid (Calls Try.prog 33 #[.pointer (some ⟨Q2, 0, none⟩), .agg #[.int .i64 (c (L.getD k 0)).a, .int .i64 (c (L.getD k 0)).n]] wr fun e w' => e = .returned (.tuple #[]) ∧ Ad c2 wr w' Q2 B2 mb2 me2 v2 L2 (c (L.getD k 0))) := add_any c2 wr Q2 B2 mb2 me2 v2 L2 (c (L.getD k 0)) HT.out.lc hmb (fun b hb => by
        have h1 : c2 b ∈ (L.take k).map c := HP.out.mem_iff.1 (List.mem_map_of_mem hb)
        have h2 := (List.pairwise_append.1 hap.2).2.2 _ h1 (c (L.getD k 0)) (by simp)
        exact h2.symm) (by omega)
      have HNX : Hid ((L.take (k + 1)).map c = (L.take k).map c ++ [c (L.getD k 0)]) := by show _ = _; rw [htk, List.map_append]; rfl
      generalize L.getD k 0 = b at *
      unfold ptr at x0
      have y0 : wr.cell? ⟨b, 0, none⟩ = some (.int .i64 (c b).a) := St.cell hwt 0
      have y1 : wr.cell? ⟨b, 1, none⟩ = some (.int .i64 (c b).n) := St.cell hwt 1
      clear hrow hbL hwt hmb hap hln htk
      go_wp2_with fail
      refine HAD.out.mono ?_
      rintro e w5 ⟨rfl, ad⟩
      obtain ⟨c3, v3, L3, t3, p3, _⟩ := HT.out.add ad
      have T3 := hid t3
      have P3 : Hid ((L3.map c3).Perm ((L.take (k + 1)).map c)) := by
        show List.Perm _ _
        rw [HNX.out]
        exact (p3.trans (HP.out.cons _)).trans (List.perm_append_comm (l₁ := [c b]) (l₂ := (L.take k).map c))
      clear ad t3 p3 HAD x0 y0 y1
      go_wp2_with fail
      go_roundw
      case rel => exact ⟨k + 1, c3, v3, L3, by go_num, hlt, T3, P3⟩
      case measure => simp [intOf]; omega
    · obtain rfl : k = m := by omega
      have hki : ¬ (k : Int) < (k : Int) := by omega
      have HFP : Hid ((L2.map c2).Perm (L.map c)) := by
        have := HP.out
        rwa [List.take_of_length_le (by have := HM.out; omega)] at this
      have HS1 := hid K1.out.size
      go_wp2_with fail
      go_ret
      exact ⟨Q2, B2, mb2, me2, c2, v2, L2, rfl, HT.out.lc, srt_of_perm HT.out.lc.ap HFP.out, fun i hi => by
        rcases HT.out.fp i hi with h | h
        · exact F1.out i h
        · exact Nat.le_trans HS1.out h, HKW.out⟩
set_option maxRecDepth 100000 in
set_option maxHeartbeats 4000000 in
/-- first: the run at the top. -/
theorem first_any (c : Nat → Rn) (w : World) (base B : Nat) (v : Value) (L : List Nat) (h : Ln c w base B v L) (hL : 0 < L.length) :
    Calls Try.prog 52 #[ptr B] w fun e w' => e = .returned (.pointer (some ⟨L.getD 0 0, 0, none⟩)) ∧ w = w' := by
  obtain ⟨lo, lcap, hv, hsp⟩ : ∃ lo lcap, v = .slice lo L.length lcap ∧ Srcp w lo L := by
    obtain ⟨lo, lcap, hv, hsp, _⟩ := (show Ownp w base v L from h.own).src
    exact ⟨lo, lcap, hv, hsp⟩
  obtain ⟨gb, off, rfl, hgb, hrow⟩ := hsp hL
  have x0 := hrow 0 hL
  have d0 : w.cell? ⟨B, 0, none⟩ = some (.slice (some ⟨gb, off, none⟩) L.length lcap) := by rw [← hv]; exact h.st.cell 0
  have hli : (0 : Int) < (L.length : Int) := by omega
  unfold ptr at *
  rw [Nat.add_zero] at x0
  generalize L.getD 0 0 = b at *
  generalize L.length = m at *
  clear h hrow hsp hv
  go_enter Try.func52, Try.ntmps52
  go_wp2_with fail
  go_ret
  exact ⟨rfl, rfl⟩
end Go.Proofs.Ytgfondgejimkkaa
