/- RegionsApart: what is gone over, and the bodies of both ranges. -/
import Derived.Test.YtopnfjgkgoeleaaZc
namespace Go.Proofs.Ytopnfjgkgoeleaa
open Go.RowKit Go.Shelf
attribute [local go_sem] Oper.semAt_some
set_option linter.unusedVariables false
set_option linter.unusedSimpArgs false
theorem endL_bd {L : List Rn} (h : Srt L) : 0 ≤ endL L ∧ endL L ≤ 72057594037927936 := by
  unfold endL
  rw [List.getLastD_eq_getLast?]
  cases hl : L.getLast? with
  | none => exact ⟨Int.le_refl _, by show (0 : Int) + 0 ≤ _; omega⟩
  | some z =>
    have := h.1 z (List.mem_of_getLast? hl)
    unfold Mayr at this
    show 0 ≤ z.e ∧ z.e ≤ _
    unfold Rn.e
    omega
set_option maxRecDepth 100000 in
set_option maxHeartbeats 4000000 in
theorem c17_wp (X : World) (bo : Option Addr) (n cb : Nat) (nn st : Int) (T6 T7 T8 B : Nat) (ao : Option Addr) (c : Nat) (L : List Rn) (A : Act) (ht : A.tmps = eA bo n cb nn st T6 T7 T8 (fun i => A.tmps.getD i undef)) (hd : A.defers = []) (s7 : St 24 X T7 #[.pointer (some ⟨B, 0, none⟩)]) (h : Rg X B ao c L) :
    c17.wpIn Fence.wide 20 Try.prog (postN (fun a' Z => ∃ q q1 q2, (∃ f', a' = { tmps := e17 bo n cb nn st T6 T7 T8 q q1 q2 f', defers := [] }) ∧ Below X.heap.size X Z ∧ X.heap.size ≤ q ∧ X.heap.size ≤ q1 ∧ X.heap.size ≤ q2 ∧ St 73 Z q #[.slice ao L.length c] ∧ St 73 Z q1 #[.slice ao L.length c] ∧ St 2 Z q2 #[.int .i64 (endL L)])) A X := by
  obtain ⟨f, rfl⟩ := act_of ht hd
  have c7 : X.cell? ⟨T7, 0, none⟩ = some (.pointer (some ⟨B, 0, none⟩)) := s7.cell 0
  have h7 := s7.lt
  have hmn : mn (endL L) = endL L := by have := endL_bd h.srt; unfold mn; rw [if_neg (by omega)]
  have HAL : Hid (∀ U, Below X.heap.size X U → Calls Try.prog 15 #[.pointer (some ⟨B, 0, none⟩)] U (AlR (.slice ao L.length c) U)) := fun U hU => all_any U B ao L.length c (h.below hU).rb
  have HEN : Hid (∀ U, Below X.heap.size X U → Calls Try.prog 13 #[.pointer (some ⟨B, 0, none⟩)] U fun e w' => e = .returned (.int .i64 (endL L)) ∧ Below U.heap.size U w') := fun U hU => end_call U B ao c L (h.below hU)
  have HGA : Hid (∀ U, Below X.heap.size X U → Calls Try.prog 23 #[.pointer (some ⟨B, 0, none⟩), .int .i64 (endL L)] U (GaR (.slice ao L.length c) (endL L) U)) := fun U hU => by
    have := gaps_any U B ao L.length c (endL L) (h.below hU).rb
    rw [hmn] at this
    exact this
  have HKE : Hid (∀ U, Below X.heap.size X U → (fun U : World => U.cell? ⟨T7, 0, none⟩ = some (.pointer (some ⟨B, 0, none⟩))) U) := fun U hU => (hU.cell (p := ⟨T7, 0, none⟩) h7).trans c7
  have HTR : Hid (∀ U V : World, Below X.heap.size X U → Below U.heap.size U V → Below X.heap.size X V) := fun U V h k => h.trans (k.mono h.size)
  have H0 : Hid (Below X.heap.size X X.drew) := ⟨rfl, rfl, rfl, Nat.le_refl _, fun _ _ => rfl⟩
  generalize endL L = u at *
  generalize L.length = ln at *
  clear s7 h ht hd hmn
  refine wpIn_wide.2 ?_
  unfold c17 eA
  generalize hQ : postN _ = QQ
  have cc := HKE.out X.drew H0.out
  go_region_held3 (fun U : World => U.cell? ⟨T7, 0, none⟩ = some (.pointer (some ⟨B, 0, none⟩))) (first | exact cc | exact cd1 | exact cd2 | exact cd3) (first | (go_at_call 15; refine (HAL.out _ H0.out).mono ?_; rintro e w1 ⟨q, rfl, hq, sq, b1⟩; have cd1 := HKE.out w1 (HTR.out _ _ H0.out b1); have B1 := hid (HTR.out _ _ H0.out b1); have HQq : Hid (X.heap.size ≤ q) := hq; have SQ := hid sq; clear b1 hq sq) | (go_at_call 13; refine (HEN.out _ B1.out).mono ?_; rintro e w2 ⟨rfl, b2⟩; have B2 := hid (HTR.out _ _ B1.out b2); have cd2 := HKE.out w2 B2.out; have SQ2 := hid (SQ.out.below b2 SQ.out.lt); clear b2 SQ) | (go_at_call 23; refine (HGA.out _ B2.out).mono ?_; rintro e w3 ⟨q1, q2, rfl, hq1, hq2, sq1, sq2, b3⟩; have B3 := hid (HTR.out _ _ B2.out b3); have cd3 := HKE.out w3 B3.out; have HQ1 : Hid (X.heap.size ≤ q1) := Nat.le_trans B2.out.size hq1; have HQ2 : Hid (X.heap.size ≤ q2) := Nat.le_trans B2.out.size hq2; have SQ3 := hid (SQ2.out.below b3 SQ2.out.lt); have SA := hid sq1; have SB := hid sq2; clear b3 SQ2 sq1 sq2 hq1 hq2))
  subst hQ
  exact ⟨q, q1, q2, act_of (by kernel_rfl) rfl, B3.out, HQq.out, HQ1.out, HQ2.out, SQ3.out, SA.out, SB.out⟩
theorem eqlR (x : Rn) (w : World) : (binOp .neq 46 (.agg x.cs) (.agg x.cs)).run Try.prog w = .ok (.bool false) w := by
  obtain ⟨a, b, c⟩ := x
  simp [Rn.cs, go_sem]
set_option maxRecDepth 100000 in
set_option maxHeartbeats 4000000 in
theorem bodyA_wp (l' : Nat) (w Y W : World) (bo : Option Addr) (n cb : Nat) (nn st : Int) (T6 T7 T8 B q q1 q2 T17 T18 : Nat) (ao : Option Addr) (c : Nat) (L : List Rn) (tot : Int) (x : Rn) (p : Int) (f : Nat → Value)
    (hY : LI w T6 B T7 T8 ao c L tot Y) (hk : Kp (fun _ => False) Y W) (s17 : St 2 W T17 #[.int .i64 p]) (s18 : Rn.B W T18 x) (hx : x ∈ L) (hp : p ≤ x.a) (hT : Y.heap.size ≤ T17) (hne : T17 ≠ T18) :
    cB3.wpIn (Fence.wide.inRound l') 18 Try.prog (postN (fun _ Z => Kp (fun i => i = T17) W Z ∧ St 2 Z T17 #[.int .i64 x.e])) { tmps := eBA bo n cb nn st T6 T7 T8 q q1 q2 T17 T18 f, defers := [] } W := by
  have hm := hY.rg.srt.1 x hx
  have HLW := hid (hY.same hk)
  have HOF := hid (of_some hY.rg.srt hx (p := x.a + x.n - 1) (by unfold Mayr at hm; omega) (by unfold Rn.e; omega))
  unfold Mayr at hm
  obtain ⟨xk, xa, xn⟩ := x
  dsimp only at *
  have HE : Hid ((⟨xk, xa, xn⟩ : Rn).e = xa + xn) := rfl
  rw [HE.out]
  have HO : Hid (∀ U, Kp (fun i => i = T17) W U → Calls Try.prog 24 #[.pointer (some ⟨B, 0, none⟩), .int .i64 (xa + xn - 1)] U fun e w' => e = .returned (.tuple #[.agg (⟨xk, xa, xn⟩ : Rn).cs, .bool true]) ∧ Below U.heap.size U w') := fun U hU => by
    have hYU : Kp (fun _ => False) Y U := hk.trans hU (fun i h1 h2 => by omega)
    refine (of_any U B ao c L (xa + xn - 1) (hY.same hYU).rg (by unfold I6; omega)).mono fun e w' ⟨h1, h2⟩ => ⟨?_, h2⟩
    rw [h1, HOF.out]
    rfl
  have c17 : W.cell? ⟨T17, 0, none⟩ = some (.int .i64 p) := s17.cell 0
  have f17 : W.frozen? ⟨T17, 0, none⟩ = false := s17.frozen 0
  have l17 := s17.lt
  have c7 : W.cell? ⟨T7, 0, none⟩ = some (.pointer (some ⟨B, 0, none⟩)) := HLW.out.s7.cell 0
  have y1 : W.cell? ⟨T18, 1, none⟩ = some (.int .i64 xa) := s18.cell 1
  have y2 : W.cell? ⟨T18, 2, none⟩ = some (.int .i64 xn) := s18.cell 2
  have hw1 : IntKind.i64.wrap (xa + xn) = xa + xn := by rw [IntKind.wrap_i64]; omega
  have hw2 : IntKind.i64.wrap (xa + xn - 1) = xa + xn - 1 := by rw [IntKind.wrap_i64]; omega
  have k17 := kp_setCell W T17 0 (.int .i64 (xa + xn)) (fun j => j = T17) rfl
  have K17 := hid k17
  have S17 : Hid (St 2 (W.setCell ⟨T17, 0, none⟩ (.int .i64 (xa + xn))) T17 #[.int .i64 (xa + xn)]) := St.set s17 0 _
  have h77 : T7 ≠ T17 := by have := hY.s7.lt; omega
  have z7 := kp_cell k17 c7 h77
  have z1 := kp_cell k17 y1 (Ne.symm hne)
  have z2 := kp_cell k17 y2 (Ne.symm hne)
  have S18 := hid (s18.kp k17 (Ne.symm hne))
  have hpn : decide (xa < p) = false := by simp; omega
  have hpn2 : ¬ xa < p := by omega
  have HN := hid (eqlR ⟨xk, xa, xn⟩)
  clear hk s17 s18 k17 hY HOF
  unfold cB3 eBA
  generalize hQ : postN _ = QQ
  gi_wp2_with fail
  refine ⟨trivial, ((callsIn_wide.2 (HO.out _ K17.out)).inRound l').mono ?_⟩
  rintro e w5 ⟨rfl, b5⟩
  have hn := HN.out
  have S185 := hid (S18.out.below b5 S18.out.lt)
  have B5 := hid b5
  clear b5 z7 z1 z2 c7 y1 y2 c17 f17
  gi_wp2_with (first | (refine wpListIn_store_r (by rfl) (.tmp 19) (.tmp 142) rfl w5.heap.size rfl (e := zRn) (e' := ⟨xk, xa, xn⟩) rfl (Rn.B.new w5 zRn) ?_; intro w6 b6 j6; have k6 : Kp (fun _ => False) w5 w6 := ((Kp.refl (fun _ => False) w5).alloc _).trans j6 (fun i h1 h2 => by omega); have E6 := hid b6; have K6 := hid k6; have S186 := hid (S185.out.kp k6 (fun x => x)); clear b6 j6 k6) | (refine wpListIn_load_r (by rfl) (.tmp 19) rfl w5.heap.size rfl E6.out ?_) | (refine wpListIn_load_r (by rfl) (.tmp 18) rfl T18 rfl S186.out ?_))
  subst hQ
  have k6 := K6.out
  have b5 := B5.out
  refine ⟨(K17.out.trans (Kp.of_below (F := fun _ => False) b5) (fun _ _ x => x.elim)).trans k6 (fun _ _ x => x.elim), (S17.out.below b5 S17.out.lt).kp k6 (fun x => x)⟩
end Go.Proofs.Ytopnfjgkgoeleaa
