/- RegionsApart: the walk of the law. -/
import Derived.Test.YtopnfjgkgoeleaaZi
namespace Go.Proofs.Ytopnfjgkgoeleaa
open Go.RowKit Go.Shelf
attribute [local go_sem] Oper.semAt_some
set_option linter.unusedVariables false
set_option linter.unusedSimpArgs false
theorem kp_put1 (w : World) (D : Nat) (o : Obj) : Kp (fun i => i = D) w (w.putObj D o) := kp_putG w D o
theorem leaves_marks {F : Fence} {n : Nat} {fn : Func} {tmps : Array Value} {R : Ending → World → Prop} (Ds : List Nat) (w : World) (hD : ∀ D ∈ Ds, w.heap[D]? = some (.deferred (some []))) (hn : Ds.Nodup)
    (fin : ∀ w', Kp (fun i => i ∈ Ds) w w' → LeavesInM F n Try.prog fn tmps R [] .returning w') : LeavesInM F n Try.prog fn tmps R (Ds.map mrk) .returning w := by
  induction Ds generalizing w with
  | nil => exact fin w (Kp.refl _ _)
  | cons D Ds ih =>
    have h1 := hD D (by simp)
    have hk := kp_put1 w D (.deferred none)
    have hx := ih (w.putObj D (.deferred none)) (fun E hE => by
      have hne : E ≠ D := fun e => (List.nodup_cons.1 hn).1 (e ▸ hE)
      have h2 := hD E (by simp [hE])
      exact (hk.block E (Array.getElem?_eq_some_iff.1 h2).1 hne).trans h2) (List.nodup_cons.1 hn).2
      (fun w' k => fin w' ((hk.mono (G := fun i => i ∈ D :: Ds) (fun i _ e => by rw [e]; simp)).trans k (fun i _ h => by simp [h])))
    exact ⟨by simp, .inl ⟨_, _, rfl, run_takeDeferred h1, hx⟩⟩
theorem load_bool4 {w : World} {g : Nat} {v : Bool} (h : w.cell? ⟨g, 0, none⟩ = some (.bool v)) : (loadVar 4 ⟨g, 0, none⟩).run Try.prog w = .ok (.bool v) w := by
  simp [go_sem, h]
theorem fin_bool {F : Fence} {m : Nat} {tmps : Array Value} {T6 : Nat} {w Z : World} (h6 : tmps.getD 6 undef = .pointer (some ⟨T6, 0, none⟩)) (s6 : St 4 Z T6 #[.bool true]) (b : Below w.heap.size w Z) :
    LeavesInM F m Try.prog Try.f4 tmps (fun e w' => e = .returned (.bool true) ∧ Below w.heap.size w w') [] .returning Z := by
  exact ⟨_, results_cell1 Try.results4 _ _ T6 h6 (load_bool4 (s6.cell 0)), rfl, b⟩
set_option maxRecDepth 100000 in
set_option maxHeartbeats 8000000 in
theorem apart_walk (l : List Rn) (bo : Option Addr) (n cb : Nat) (nn st : Int) (w : World) (hn : n = l.length) (hc : n ≤ cb) (hn2 : n ≤ 60) (hi6 : ∀ x ∈ l, x.i6) (hS : Srcr w bo l) (hnn : I6 nn) (hst : I6 st) : Calls Try.prog 4 #[.slice bo n cb, .int .i64 nn, .int .i64 st] w fun e w' => e = .returned (.bool true) ∧ Below w.heap.size w w' := by
  have HS := hid hS
  have H6 := hid hi6
  have HN := hid hn
  have HI1 := hid hnn
  have HI2 := hid hst
  clear hS hi6 hn hnn hst
  refine (callsIn_wide (n := 20)).1 ?_
  refine callsIn_of_wp_marks (c := cA) Try.func4 (by kernel_rfl) trivial ?_ rfl
  simp only [Try.ntmps4, List.size_toArray, List.length_cons, List.length_nil, Nat.reduceAdd, Nat.reduceSub, Array.replicate_succ, Array.replicate_zero, List.push_toArray, List.append_toArray, List.nil_append, List.cons_append]
  refine wpIn_wide.2 ?_
  unfold cA
  generalize hQ : bodyPostM _ _ _ _ _ = QQ
  have hn0 : ¬ (60 : Int) < (n : Int) := by omega
  have d60 : decide ((60 : Int) < (n : Int)) = false := by simpa using hn0
  have d61 : decide (60 < n) = false := by simp; omega
  go_wp2_with (first | (go_at_call 9; refine (new_has _).mono ?_; rintro e w1 ⟨rfl, rg1, b1, hz1⟩; have R1 := hid rg1; have B1 := hid b1; have HZ := hid hz1; clear rg1 b1 hz1))
  have hz1 := HZ.out
  rw [World.size_alloc] at hz1 R1 B1
  have a6 := (St.new 4 w #[.bool false]).below B1.out (by omega)
  have a7 := (St.new 24 w1 #[.pointer (some ⟨w.heap.size + 1, 0, none⟩)]).kp ((Kp.refl (fun _ => False) _).alloc (.cells #[.int .i64 0] 2)) (fun x => x)
  have a8 := St.new 2 (w1.alloc (.cells #[.pointer (some ⟨w.heap.size + 1, 0, none⟩)] 24)) #[.int .i64 0]
  rw [World.size_alloc] at a8
  have kx : Kp (fun _ => False) w1 ((w1.alloc (.cells #[.pointer (some ⟨w.heap.size + 1, 0, none⟩)] 24)).alloc (.cells #[.int .i64 0] 2)) := ((Kp.refl _ _).alloc _).alloc _
  have b0 : Below w.heap.size w w1 := ((Below.refl _ w).alloc (Nat.le_refl _) _).trans (B1.out.mono (by omega))
  have L0 : Hid (LI w w.heap.size (w.heap.size + 1) w1.heap.size (w1.heap.size + 1) none 0 [] 0 ((w1.alloc (.cells #[.pointer (some ⟨w.heap.size + 1, 0, none⟩)] 24)).alloc (.cells #[.int .i64 0] 2))) :=
    ⟨b0.trans (kx.below b0.size (fun _ x => x.elim)), a6.kp kx (fun x => x), a7, a8, R1.out.kp kx (fun x => x) (fun _ _ _ _ x => x), by omega, by omega, by omega, fun k off e => by cases e⟩
  clear a6 a7 a8 kx b0 R1 B1
  refine wp_mono (wpIn_wide.1 (loop_wp w _ l bo n cb nn st w.heap.size (w.heap.size + 1) w1.heap.size (w1.heap.size + 1) _ ?h1 rfl HN.out hc hn2 H6.out HS.out L0.out)) ?_
  case h1 => kernel_rfl
  intro e a1 X1 hh
  cases e with
  | normal =>
    obtain ⟨⟨f1, rfl⟩, ao, c, L, li, hl⟩ := hh
    have LX := hid li
    clear li L0
    generalize w1.heap.size + 1 = T8 at *
    generalize w1.heap.size = T7 at *
    generalize hT6 : w.heap.size + 1 = B at *
    obtain ⟨T6, hT⟩ : ∃ T6, T6 = w.heap.size := ⟨_, rfl⟩
    have HW : Hid (w.heap.size ≤ T6) := Nat.le_of_eq hT.symm
    rw [← hT] at LX ⊢
    clear HZ hz1 hT6 hT
    go_wp2_with fail
    refine wp_mono (wpIn_wide.1 (c17_wp X1 bo n cb nn st T6 T7 T8 B ao c L _ ?h2 rfl LX.out.s7 LX.out.rg)) ?_
    case h2 => kernel_rfl
    intro e a2 X2 hh
    cases e with
    | normal =>
      obtain ⟨q, q1, q2, ⟨f2, rfl⟩, b2, hq, hq1, hq2, sq, sq1, sq2⟩ := hh
      have K2 := hid (Kp.of_below (F := fun _ => False) b2)
      have L2 := hid (LX.out.same K2.out)
      have SQ := hid sq
      have SQ1 := hid sq1
      have SQ2 := hid sq2
      have HQ1 : Hid (T8 < q1) := Nat.lt_of_lt_of_le LX.out.s8.lt hq1
      have HQ2 : Hid (T8 < q2) := Nat.lt_of_lt_of_le LX.out.s8.lt hq2
      clear b2 hq hq1 hq2 sq sq1 sq2 LX K2
      have nf1 := nf57 q
      have nf2 := nf62 q1 q2
      unfold e17
      go_wp2_with fail
      have ka : Kp (fun _ => False) X2 (X2.alloc (.cells #[.int .i64 0] 2)) := (Kp.refl _ _).alloc _
      refine wp_mono (wpIn_wide.1 (rngA_wp w X2 (X2.alloc (.cells #[.int .i64 0] 2)) bo n cb nn st T6 T7 T8 B q q1 q2 X2.heap.size ao c L _ ?h3 rfl L2.out rfl ka (St.new 2 X2 _) (SQ.out.kp ka (fun x => x)) SQ.out.lt hl)) ?_
      case h3 => kernel_rfl
      intro e a3 X3 hh
      cases e with
      | normal =>
        obtain ⟨D, ⟨f3, rfl⟩, hD, hd, k3, s17⟩ := hh
        have HD : Hid (X2.heap.size < D) := by rw [World.size_alloc] at hD; exact hD
        have HDD := hid hd
        have K3 := hid k3
        have S17 := hid s17
        have L3 := hid (L2.out.same k3)
        have LT : Hid (T8 < X2.heap.size) := L2.out.s8.lt
        have LT6 : Hid (T6 < X2.heap.size) := L2.out.s6.lt
        clear ka hD hd k3 s17 nf1 nf2
        generalize X2.heap.size = T17 at *
        unfold e20
        go_wp2_with fail
        refine wp_mono (wpIn_wide.1 (rngB_wp w X3 bo n cb nn st T6 T7 T8 B q q1 q2 T17 D ao c L _ ?h4 rfl L3.out (SQ1.out.kp K3.out (fun x => x)) (SQ2.out.kp K3.out (fun x => x)) HQ1.out HQ2.out hl)) ?_
        case h4 => kernel_rfl
        intro e a4 X4 hh
        cases e with
        | normal =>
          obtain ⟨E, ⟨f4, rfl⟩, hE, he, k4, s8⟩ := hh
          have L4 := hid (L3.out.set8 k4 s8)
          have S174 := hid (S17.out.kp k4 (by have := LT.out; omega))
          have hDl : D < X3.heap.size := (Array.getElem?_eq_some_iff.1 HDD.out).1
          have HD4 : Hid (X4.heap[D]? = some (.deferred (some []))) := (k4.block D hDl (by have := LT.out; have := HD.out; omega)).trans HDD.out
          have HE4 := hid he
          have HDE : Hid (D < E) := Nat.lt_of_lt_of_le hDl hE
          clear k4 s8 he hE hDl
          go_wp2_with fail
          refine wp_mono (wpIn_wide.1 (tail_wp w X4 bo n cb nn st T6 T7 T8 B q q1 q2 T17 ao c L [mrk E, mrk D] f4 L4.out S174.out HI1.out HI2.out)) ?_
          intro e a5 X5 hh
          cases e with
          | ret =>
            obtain ⟨h6, hds, k5, s6⟩ := hh
            obtain ⟨tm, df⟩ := a5
            simp only at h6 hds
            subst hds
            subst hQ
            have hlE : E < X4.heap.size := (Array.getElem?_eq_some_iff.1 HE4.out).1
            have hlD := HDE.out
            have h1 := HD.out
            have h2 := LT6.out
            have mD : X5.heap[D]? = some (.deferred (some [])) := (k5.block D (by omega) (by omega)).trans HD4.out
            have mE : X5.heap[E]? = some (.deferred (some [])) := (k5.block E hlE (by omega)).trans HE4.out
            refine leaves_marks [E, D] X5 (fun z hz => ?_) (by simp; omega) (fun w' k => fin_bool h6 (s6.kp k (by simp; omega)) ?_)
            · simp at hz
              rcases hz with rfl | rfl
              · exact mE
              · exact mD
            · have hb := L4.out.bl
              have h3 := HW.out
              exact (hb.trans (k5.below hb.size (fun i e => by omega))).trans (k.below (Nat.le_trans hb.size k5.size) (fun i e => by simp at e; omega))
          | _ => exact hh.elim
        | _ => exact hh.elim
      | _ => exact hh.elim
    | _ => exact hh.elim
  | _ => exact hh.elim
set_option maxRecDepth 100000 in
set_option maxHeartbeats 8000000 in
theorem apart_long (bo : Option Addr) (n cb : Nat) (nn st : Int) (w : World) (hn : n ≤ 9223372036854775807) (h : 60 < n) : Calls Try.prog 4 #[.slice bo n cb, .int .i64 nn, .int .i64 st] w fun e w' => e = .returned (.bool true) ∧ Below w.heap.size w w' := by
  refine (callsIn_wide (n := 20)).1 ?_
  refine callsIn_of_wp_marks (c := cA) Try.func4 (by kernel_rfl) trivial ?_ rfl
  simp only [Try.ntmps4, List.size_toArray, List.length_cons, List.length_nil, Nat.reduceAdd, Nat.reduceSub, Array.replicate_succ, Array.replicate_zero, List.push_toArray, List.append_toArray, List.nil_append, List.cons_append]
  refine wpIn_wide.2 ?_
  unfold cA
  generalize hQ : bodyPostM _ _ _ _ _ = QQ
  have hn0 : (60 : Int) < (n : Int) := by omega
  have d60 : decide ((60 : Int) < (n : Int)) = true := by simpa using hn0
  have d61 : decide (60 < n) = true := by simpa using h
  go_wp2_with (first | (go_at_call 8; refine (works_any _).mono ?_; rintro e w1 ⟨rfl, b1⟩; have s6 := (St.new 4 w #[.bool false]).below b1 (by rw [World.size_alloc]; omega); have y6 : w1.cell? ⟨w.heap.size, 0, none⟩ = some (.bool false) := s6.cell 0; have z6 : w1.frozen? ⟨w.heap.size, 0, none⟩ = false := s6.frozen 0; have l6 := s6.lt; have S6 := hid s6; have B1 := hid b1; clear s6 b1))
  subst hQ
  have b0 : Below w.heap.size w w1 := ((Below.refl _ w).alloc (Nat.le_refl _) _).trans (B1.out.mono (by rw [World.size_alloc]; omega))
  exact fin_bool (T6 := w.heap.size) rfl (St.set S6.out 0 _) (b0.trans ((kp_setCell w1 w.heap.size 0 _ (fun i => i = w.heap.size) rfl).below b0.size (fun i e => by omega)))
theorem apart_any (l : List Rn) (bo : Option Addr) (n cb : Nat) (nn st : Int) (w : World) (hn : n = l.length) (hc : n ≤ cb) (hm : cb ≤ maxLen) (hi6 : ∀ x ∈ l, x.i6) (hS : Srcr w bo l) (hnn : I6 nn) (hst : I6 st) : Calls Try.prog 4 #[.slice bo n cb, .int .i64 nn, .int .i64 st] w fun e w' => e = .returned (.bool true) ∧ Below w.heap.size w w' := by
  unfold maxLen at hm
  by_cases h : n ≤ 60
  · exact apart_walk l bo n cb nn st w hn hc h hi6 hS hnn hst
  · exact apart_long bo n cb nn st w (by omega) (by omega)
end Go.Proofs.Ytopnfjgkgoeleaa
