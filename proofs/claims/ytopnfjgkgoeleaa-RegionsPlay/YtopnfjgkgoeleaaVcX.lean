/- RegionsPlay: nothing, of regions that are not there, and of zero ones. -/
import Derived.Test.YtopnfjgkgoeleaaVeX
import Derived.Test.YtopnfjgkgoeleaaAc
import Derived.Test.YtopnfjgkgoeleaaSm
import Derived.Test.YtopnfjgkgoeleaaVfX
namespace Go.Proofs.Ytopnfjgkgoeleaa
open Go.RowKit
set_option linter.unusedVariables false
set_option linter.unusedSimpArgs false
/-- What none answers true of, and now an empty list, whatever comes. -/
def Non (w : World) (qv : Option Addr) : Prop := ∀ U, Kp (fun _ => False) w U → Calls Try.prog 30 #[.pointer qv] U (fun e w' => e = .returned (.bool true) ∧ U = w') ∧ Calls Try.prog 33 #[.pointer qv] U (fun e w' => e = .returned (.slice none 0 0) ∧ U = w')
set_option maxRecDepth 100000 in
set_option maxHeartbeats 4000000 in
theorem non_nil (w : World) : Non w none := fun U _ => by
  refine ⟨?_, ?_⟩
  · go_enter Try.func30, Try.ntmps30
    go_wp2
    go_ret
    exact ⟨rfl, rfl⟩
  · go_enter Try.func33, Try.ntmps33
    go_wp2
    go_ret
    exact ⟨rfl, rfl⟩
set_option maxRecDepth 100000 in
set_option maxHeartbeats 4000000 in
theorem non_zero (w : World) (Q : Nat) (h : St 75 w Q #[.bool false, .slice none 0 0]) : Non w (some ⟨Q, 0, none⟩) := fun U k => by
  have c0 : U.cell? ⟨Q, 0, none⟩ = some (.bool false) := (h.kp k (fun h => h)).cell 0
  have c1 : U.cell? ⟨Q, 1, none⟩ = some (.slice none 0 0) := (h.kp k (fun h => h)).cell 1
  clear h k
  refine ⟨?_, ?_⟩
  · go_enter Try.func30, Try.ntmps30
    go_wp2
    go_ret
    exact ⟨rfl, rfl⟩
  · go_enter Try.func33, Try.ntmps33
    go_wp2
    go_ret
    exact ⟨rfl, rfl⟩
theorem Non.kp {w w' : World} {qv : Option Addr} (h : Non w qv) (k : Kp (fun _ => False) w w') : Non w' qv := fun U j => h U (k.trans j (fun _ _ h => h))
set_option maxRecDepth 100000 in
set_option maxHeartbeats 4000000 in
theorem put_none {w : World} {qv : Option Addr} (h : Non w qv) : Calls Try.prog 21 #[.pointer qv, .slice none 0 0] w fun e w' => e = .returned (.tuple #[.int .i64 0, .int .i64 1]) ∧ Kp (fun _ => False) w w' := by
  have HN := hid (h w (Kp.refl _ _)).1
  clear h
  go_enter Try.func21, Try.ntmps21
  go_wp2_with (first | (go_at_call 30; refine HN.out.mono ?_; rintro e w1 ⟨rfl, rfl⟩))
  go_ret2
  exact ⟨rfl, Kp.refl _ _⟩
set_option maxRecDepth 100000 in
set_option maxHeartbeats 4000000 in
theorem first_none {w : World} {qv : Option Addr} (h : Non w qv) (p n s : Int) : Calls Try.prog 25 #[.pointer qv, .int .i64 p, .int .i64 n, .int .i64 s] w fun e w' => e = .returned (.tuple #[.int .i64 0, .int .i64 1]) ∧ Kp (fun _ => False) w w' := by
  have HN := hid (h w (Kp.refl _ _)).1
  clear h
  go_enter Try.func25, Try.ntmps25
  go_wp2_with (first | (go_at_call 30; refine HN.out.mono ?_; rintro e w1 ⟨rfl, rfl⟩))
  go_ret2
  exact ⟨rfl, Kp.refl _ _⟩
set_option maxRecDepth 100000 in
set_option maxHeartbeats 4000000 in
theorem move_none {w : World} {qv : Option Addr} (h : Non w qv) (p t : Int) : Calls Try.prog 29 #[.pointer qv, .int .i64 p, .int .i64 t] w fun e w' => e = .returned (.int .i64 1) ∧ Kp (fun _ => False) w w' := by
  have HN := hid (h w (Kp.refl _ _)).1
  clear h
  go_enter Try.func29, Try.ntmps29
  go_wp2_with (first | (go_at_call 30; refine HN.out.mono ?_; rintro e w1 ⟨rfl, rfl⟩))
  go_ret
  exact ⟨rfl, Kp.refl _ _⟩
set_option maxRecDepth 100000 in
set_option maxHeartbeats 4000000 in
theorem end_none {w : World} {qv : Option Addr} (h : Non w qv) : Calls Try.prog 13 #[.pointer qv] w fun e w' => e = .returned (.int .i64 0) ∧ Kp (fun _ => False) w w' := by
  have HN := hid (h w (Kp.refl _ _)).2
  clear h
  go_enter Try.func13, Try.ntmps13
  go_wp2_with (first | (go_at_call 33; refine HN.out.mono ?_; rintro e w1 ⟨rfl, rfl⟩))
  go_ret
  exact ⟨rfl, Kp.refl _ _⟩
set_option maxRecDepth 100000 in
set_option maxHeartbeats 4000000 in
theorem count_none {w : World} {qv : Option Addr} (h : Non w qv) (k : Int) : Calls Try.prog 28 #[.pointer qv, .int .i64 k] w fun e w' => e = .returned (.tuple #[.int .i64 0, .int .i64 0]) ∧ Kp (fun _ => False) w w' := by
  have HN := hid (h w (Kp.refl _ _)).2
  clear h
  go_enter Try.func28, Try.ntmps28
  go_wp2_with (first | (go_at_call 33; refine HN.out.mono ?_; rintro e w1 ⟨rfl, rfl⟩))
  go_loopw [6, 7, 13] (fun a b i wr => a = .int .i64 0 ∧ b = .int .i64 0 ∧ i = .int .i64 0 ∧ wr = w) (fun _ _ _ _ => 0)
  case atStart => exact ⟨rfl, rfl, rfl, rfl⟩
  case round =>
    obtain ⟨rfl, rfl, rfl, rfl⟩ := hrel
    go_wp2_with fail
    go_ret2
    exact ⟨rfl, Kp.refl _ _⟩
set_option maxRecDepth 100000 in
set_option maxHeartbeats 4000000 in
theorem all_none {w : World} {qv : Option Addr} (h : Non w qv) : Calls Try.prog 15 #[.pointer qv] w (AlR (.slice none 0 0) w) := by
  have HN := hid (h w (Kp.refl _ _)).2
  have HV := hid (values_any none 0 0 w)
  clear h
  go_enter Try.func15, Try.ntmps15
  go_wp2_with fail
  refine HN.out.mono ?_
  rintro e w1 ⟨rfl, rfl⟩
  go_wp2_with fail
  refine HV.out.mono ?_
  rintro e w2 ⟨q, rfl, h1, h2, h3⟩
  go_wp2_with fail
  go_ret
  exact ⟨q, rfl, h1, h2, h3⟩
set_option maxRecDepth 100000 in
set_option maxHeartbeats 4000000 in
theorem gaps_none {w : World} {qv : Option Addr} (h : Non w qv) (u : Int) : Calls Try.prog 23 #[.pointer qv, .int .i64 u] w fun e w' => e = .returned (.func (.func 49) #[] #[]) ∧ Kp (fun _ => False) w w' := by
  have HN := hid (h w (Kp.refl _ _)).1
  clear h
  go_enter Try.func23, Try.ntmps23
  go_wp2_with (first | (go_at_call 30; refine HN.out.mono ?_; rintro e w1 ⟨rfl, rfl⟩))
  go_ret
  exact ⟨rfl, Kp.refl _ _⟩
set_option maxRecDepth 100000 in
set_option maxHeartbeats 4000000 in
theorem take_none {w : World} {qv : Option Addr} (h : Non w qv) (p : Int) : Calls Try.prog 27 #[.pointer qv, .int .i64 p] w fun e w' => e = .returned (.tuple #[.agg zRn.cs, .int .i64 1]) ∧ Kp (fun _ => False) w w' := by
  have ka : Kp (fun _ => False) w (w.alloc (.cells #[.int .i64 0, .int .i64 0, .int .i64 0] 46)) := (Kp.refl _ _).alloc _
  have R0 := hid (Rn.B.new w zRn)
  have HC := hid (h _ ka).1
  clear h
  go_enter Try.func27, Try.ntmps27
  go_wp2_with fail
  refine HC.out.mono ?_
  rintro e w1 ⟨rfl, rfl⟩
  clear HC
  go_wp2_with (refine wpList_store_r rfl _ _ rfl _ rfl (e' := zRn) rfl R0.out ?_; intro w6 s6 k6; have S6 := hid s6; have K6 := hid k6; clear s6 k6)
  refine bodyPost_ret (results_cell_tmp2 Try.results27 _ _ _ rfl rfl (Rn.B.load S6.out)) rfl ?_
  exact ⟨rfl, ka.trans K6.out (fun i hi e => by omega)⟩
set_option maxRecDepth 100000 in
set_option maxHeartbeats 4000000 in
theorem ask_none {w : World} {qv : Option Addr} (h : Non w qv) (p n : Int) : Calls Try.prog 20 #[.pointer qv, .int .i64 p, .int .i64 n, .slice none 0 0] w fun e w' => e = .returned (.tuple #[.agg zRn.cs, .bool false, .int .i64 1]) ∧ Kp (fun _ => False) w w' := by
  have ka : Kp (fun _ => False) w (w.alloc (.cells #[.int .i64 0, .int .i64 0, .int .i64 0] 46)) := (Kp.refl _ _).alloc _
  have R0 := hid (Rn.B.new w zRn)
  have HC := hid (h _ ka).1
  clear h
  go_enter Try.func20, Try.ntmps20
  go_wp2_with fail
  refine HC.out.mono ?_
  rintro e w1 ⟨rfl, rfl⟩
  clear HC
  go_wp2_with (refine wpList_store_r rfl _ _ rfl _ rfl (e' := zRn) rfl R0.out ?_; intro w6 s6 k6; have S6 := hid s6; have K6 := hid k6; clear s6 k6)
  refine bodyPost_ret (results_cell_tmp3 Try.results20 _ _ _ rfl rfl rfl (Rn.B.load S6.out)) rfl ?_
  exact ⟨rfl, ka.trans K6.out (fun i hi e => by omega)⟩
set_option maxRecDepth 100000 in
set_option maxHeartbeats 4000000 in
theorem of_none2 {w : World} {qv : Option Addr} (h : Non w qv) (p : Int) (hp : I6 p) : Calls Try.prog 24 #[.pointer qv, .int .i64 p] w fun e w' => e = .returned (.tuple #[.agg zRn.cs, .bool false]) ∧ Kp (fun _ => False) w w' := by
  have HO : Hid (∀ W, Below w.heap.size w W → Calls Try.prog 46 #[.slice none 0 0, .int .i64 p, .int .i64 1, .agg (mkA mz)] W (OvR [] p 1 mz W)) := fun W hW => over_any [] none 0 0 p 1 mz W rfl (by omega) (by omega) (fun _ => rfl) (by omega) (Srcr.nil _ _) Srt.nil hp (by omega)
  have HNW : Hid (∀ W, Below w.heap.size w W → Calls Try.prog 33 #[.pointer qv] W fun e w' => e = .returned (.slice none 0 0) ∧ W = w') := fun W hW => (h W (Kp.of_below hW)).2
  clear h
  obtain ⟨q, hq⟩ : ∃ q, q = w.heap.size := ⟨_, rfl⟩
  have b0 : Below w.heap.size w (w.alloc (.cells #[.int .i64 0, .int .i64 0, .int .i64 0] 46)) := (Below.refl _ _).alloc (Nat.le_refl _) _
  have r0 := Rn.B.new w zRn
  have z0 : (w.alloc (.cells #[.int .i64 0, .int .i64 0, .int .i64 0] 46)).heap.size = w.heap.size + 1 := World.size_alloc _ _
  change Rn.B (w.alloc (.cells #[.int .i64 0, .int .i64 0, .int .i64 0] 46)) w.heap.size zRn at r0
  have ho : ovr ([] : List Rn) p 1 mz = none := rfl
  unfold OvR at HO
  rw [ho] at HO
  clear ho
  go_enter Try.func24, Try.ntmps24
  generalize hC : Code.region 1 _ _ = C9
  go_wp2_with fail
  subst hC
  rw [← hq] at z0 r0 ⊢
  have HQ := hid hq
  clear hq
  generalize w.alloc (.cells #[.int .i64 0, .int .i64 0, .int .i64 0] 46) = W0 at *
  have B0 := hid b0
  clear b0
  go_wp2_with (first | (go_at_call 33; refine (HNW.out _ B0.out).mono ?_; rintro e w1 ⟨rfl, rfl⟩) | (go_at_call 46; refine (HO.out _ B0.out).mono ?_; rintro e w2 ⟨rfl, b2⟩; have r2 := r0.below b2 (by omega)) | (refine wpList_store_r rfl _ _ rfl _ rfl (e' := zRn) rfl r2 ?_; intro w3 s3 k3))
  refine bodyPost_ret (results_cell_tmp2 Try.results24 _ _ _ rfl rfl (Rn.B.load s3)) rfl ?_
  exact ⟨rfl, Kp.of_below (F := fun _ => False) (by rw [← HQ.out]; exact (B0.out.mono (Nat.le_of_eq HQ.out)).trans ((b2.mono (by omega)).trans (k3.below (by have := b2.size; omega) (fun i e => by omega))))⟩
set_option maxRecDepth 100000 in
set_option maxHeartbeats 4000000 in
theorem copy_none {w : World} {qv : Option Addr} (h : Non w qv) : Calls Try.prog 10 #[.pointer qv] w fun e w' => e = .returned (.pointer none) ∧ Kp (fun _ => False) w w' := by
  have HN := hid (h w (Kp.refl _ _)).1
  clear h
  go_enter Try.func10, Try.ntmps10
  go_wp2_with (first | (go_at_call 30; refine HN.out.mono ?_; rintro e w1 ⟨rfl, rfl⟩))
  go_ret
  exact ⟨rfl, Kp.refl _ _⟩
end Go.Proofs.Ytopnfjgkgoeleaa

namespace Go.Proofs.Ytopnfjgkgoeleaa
open Go.RowKit
set_option linter.unusedVariables false
set_option linter.unusedSimpArgs false
set_option maxRecDepth 100000 in
set_option maxHeartbeats 4000000 in
theorem same_none {w : World} {qv rv : Option Addr} (h : Non w qv) (k : Non w rv) : Calls Try.prog 11 #[.pointer qv, .pointer rv] w fun e w' => e = .returned (.bool true) ∧ Kp (fun _ => False) w w' := by
  have HN := hid (h _ (Kp.refl _ _))
  have HM := hid (k _ (Kp.refl _ _))
  have HE := hid (equal_yes [] none none 0 0 0 w rfl (by omega) (by omega) (by omega) (Srcr.nil _ _) (Srcr.nil _ _))
  clear h k
  go_enter Try.func11, Try.ntmps11
  go_wp2_with fail
  refine HN.out.1.mono ?_
  rintro e w1 ⟨rfl, rfl⟩
  go_wp2_with fail
  refine HM.out.1.mono ?_
  rintro e w1 ⟨rfl, rfl⟩
  go_wp2_with fail
  refine HN.out.2.mono ?_
  rintro e w1 ⟨rfl, rfl⟩
  go_wp2_with fail
  refine HM.out.2.mono ?_
  rintro e w1 ⟨rfl, rfl⟩
  go_wp2_with fail
  refine HE.out.mono ?_
  rintro e w1 ⟨rfl, b1⟩
  go_wp2_with fail
  go_ret
  exact ⟨rfl, Kp.of_below b1⟩
end Go.Proofs.Ytopnfjgkgoeleaa

namespace Go.Proofs.Ytopnfjgkgoeleaa
open Go.RowKit Go.Shelf
attribute [local go_sem] Oper.semAt_some
set_option linter.unusedVariables false
set_option linter.unusedSimpArgs false
set_option maxRecDepth 100000 in
theorem nf49 (w : World) : (binOp .eql 54 (.func (.func 49) #[] #[]) .nilFunc).run Try.prog w = .ok (.bool false) w := by rfl
theorem empty_seq (n : Nat) (hn : 1 ≤ n) (w : World) : SeqW Fence.wide n Try.prog 49 #[] #[] (fun x : Int × Int => #[.int .i64 x.1, .int .i64 x.2]) (fun xs W => xs = [] ∧ KR (fun _ => False) w W) (fun pre W => False) (fun l => False) (fun _ => False) w := by
  intro l J Jx W hW hA hAx hY h0
  refine callsIn_of_wp Try.func49 rfl trivial ?_ rfl
  simp only [Try.ntmps49, List.size_toArray, List.length_cons, List.length_nil, Nat.reduceAdd, Nat.reduceSub, Array.replicate_succ, Array.replicate_zero, List.push_toArray, List.append_toArray, List.nil_append, List.cons_append]
  gi_wp2_with fail
  refine bodyPost_end (results_none rfl _ _ _) rfl ?_
  first | exact ⟨⟨_, rfl⟩, .inl ⟨_, _, ⟨rfl, fun i hi => hi.elim⟩, h0⟩⟩ | exact ⟨⟨_, rfl⟩, [], ⟨rfl, fun i hi => hi.elim⟩, _, h0⟩
set_option maxRecDepth 100000 in
set_option maxHeartbeats 8000000 in
theorem gaps_empty (w : World) : Calls Try.prog 41 #[.func (.func 49) #[] #[], .slice none 0 0, .int .i64 0] w fun e w' => e = .returned (.bool true) ∧ Kp (fun _ => False) w w' := by
  obtain ⟨O0, hO0⟩ : ∃ O0 : Nat → Prop, O0 = fun _ => False := ⟨_, rfl⟩
  have LW : Hid (∀ i, O0 i → i < w.heap.size) := by rw [hO0]; exact fun i h => h.elim
  have SQ := hid (empty_seq 19 (by omega) w)
  rw [← hO0] at SQ
  have HSB : Hid (Srcg w none []) := fun h => by cases h
  have HBO : Hid (∀ b off, (none : Option Addr) = some ⟨b, off, none⟩ → 0 < ([] : List (Int × Int)).length → ¬ O0 b) := fun b off e => by cases e
  have h56 := nf49
  clear hO0
  refine (callsIn_wide (n := 20)).1 ?_
  refine callsIn_of_wp_marks Try.func41 rfl trivial ?_ rfl
  simp only [Try.ntmps41, List.size_toArray, List.length_cons, List.length_nil, Nat.reduceAdd, Nat.reduceSub, Array.replicate_succ, Array.replicate_zero, List.push_toArray, List.append_toArray, List.nil_append, List.cons_append]
  refine wpIn_wide.2 ?_
  generalize hQ : bodyPostM _ _ _ _ _ = QQ
  go_wp2_with fail
  have HX : Hid (St 86 ((((w.alloc (.cells #[.slice none 0 0] 86)).alloc (.cells #[.int .i64 0] 3)).alloc (.cells #[.bool false] 4)).alloc (.cells #[.int .i64 0] 3)) w.heap.size #[.slice none 0 0] ∧ St 3 ((((w.alloc (.cells #[.slice none 0 0] 86)).alloc (.cells #[.int .i64 0] 3)).alloc (.cells #[.bool false] 4)).alloc (.cells #[.int .i64 0] 3)) (w.heap.size + 1) #[.int .i64 0] ∧ St 4 ((((w.alloc (.cells #[.slice none 0 0] 86)).alloc (.cells #[.int .i64 0] 3)).alloc (.cells #[.bool false] 4)).alloc (.cells #[.int .i64 0] 3)) (w.heap.size + 2) #[.bool false] ∧ St 3 ((((w.alloc (.cells #[.slice none 0 0] 86)).alloc (.cells #[.int .i64 0] 3)).alloc (.cells #[.bool false] 4)).alloc (.cells #[.int .i64 0] 3)) (w.heap.size + 3) #[.int .i64 0] ∧ Below w.heap.size w ((((w.alloc (.cells #[.slice none 0 0] 86)).alloc (.cells #[.int .i64 0] 3)).alloc (.cells #[.bool false] 4)).alloc (.cells #[.int .i64 0] 3)) ∧ ((((w.alloc (.cells #[.slice none 0 0] 86)).alloc (.cells #[.int .i64 0] 3)).alloc (.cells #[.bool false] 4)).alloc (.cells #[.int .i64 0] 3)).heap.size = w.heap.size + 4) := by
    have al : ∀ (U : World) (o : Obj), Kp (fun _ => False) U (U.alloc o) := fun U o => (Kp.refl _ _).alloc _
    have n4 := St.new 86 w #[.slice none 0 0]
    have n5 := St.new 3 (w.alloc (.cells #[.slice none 0 0] 86)) #[.int .i64 0]
    have n6 := St.new 4 ((w.alloc (.cells #[.slice none 0 0] 86)).alloc (.cells #[.int .i64 0] 3)) #[.bool false]
    have n7 := St.new 3 (((w.alloc (.cells #[.slice none 0 0] 86)).alloc (.cells #[.int .i64 0] 3)).alloc (.cells #[.bool false] 4)) #[.int .i64 0]
    simp only [World.size_alloc, Nat.add_assoc, Nat.reduceAdd] at n5 n6 n7
    refine ⟨((n4.kp (al _ _) (fun h => h)).kp (al _ _) (fun h => h)).kp (al _ _) (fun h => h), (n5.kp (al _ _) (fun h => h)).kp (al _ _) (fun h => h), n6.kp (al _ _) (fun h => h), n7, ?_, by simp only [World.size_alloc]⟩
    exact ((((Kp.refl (fun _ => False) w).alloc _).alloc _).alloc _).alloc _ |>.below (Nat.le_refl _) (fun _ h => h.elim)
  simp only [World.size_alloc, Nat.add_assoc, Nat.reduceAdd]
  generalize (((w.alloc (.cells #[.slice none 0 0] 86)).alloc (.cells #[.int .i64 0] 3)).alloc (.cells #[.bool false] 4)).alloc (.cells #[.int .i64 0] 3) = X at *
  obtain ⟨T, hT⟩ : ∃ T, T = w.heap.size := ⟨_, rfl⟩
  rw [← hT] at HX ⊢
  obtain ⟨x4, x5, x6, x7, xb, xs⟩ := HX.out
  have GB : Hb w O0 T (T + 1) (T + 2) (T + 3) X.heap.size none [] := ⟨by omega, by omega, by omega, by omega, by omega, by omega, by omega, LW.out, fun b off e hp => ⟨by
    obtain ⟨g, of2, e2, hb, _⟩ := HSB.out hp
    rw [e] at e2
    cases e2
    exact hb, HBO.out b off e hp⟩⟩
  have HXB : Hid (Below w.heap.size w X) := by rw [hT] at xb; exact xb
  have HWX : Hid (w.heap.size < X.heap.size) := by show w.heap.size < X.heap.size; omega
  clear hT xs xb HX
  refine (wpIn_wide (n := 20)).1 ?_
  refine wpIn_rangeFunc_W rfl (by omega) (gf := 49) (pb := #[]) (lb := #[]) rfl trivial (enters_of Try.func49 (by kernel_rfl) rfl) SQ.out ?hS ?hSx (fun i hi => by have := LW.out i hi; have := HWX.out; omega) HXB.out (fun _ => rfl)
    (Hi8 w O0 T (T + 1) (T + 2) (T + 3) X.heap.size none 0 [] 0) (fun c _ O Z => c = .ret ∧ Hx w O0 (T + 2) X.heap.size O Z) (Hi8.abw GB) (Hx.abw GB) ?hI2 ?hIx2 ?h0
    (fun x a' Z => ∃ f', a' = { tmps := g41 T (T + 1) (T + 2) (T + 3) x.1 x.2 f', defers := [] }) ?hAx ?assign ?body ?done ?stop
  case hS =>
    intro xs Z r o' hs hl
    exact ⟨hs.1, fun i hi => ((kp_putC Z (X.heap.size + 1) o').block i (kr_lt hs.2 hi (LW.out i hi)) (by have := LW.out i hi; have := HWX.out; omega)).trans (hs.2 i hi)⟩
  case hSx =>
    intro xs Z r o' hs hl
    exact hs.elim
  case hI2 => exact fun s O Z o' hi hlt => hi.kp GB (kp_putC Z _ o') (fun i _ e => Or.inr (Or.inr e))
  case hIx2 => exact fun c s O Z o' h hlt => ⟨h.1, h.2.kp GB (kp_putC Z _ o') (fun i _ e => Or.inr (Or.inr e))⟩
  case h0 =>
    intro r
    have ka : Kp (fun _ => False) X ((X.alloc (.deferred (some []))).alloc (.loop r)) := ((Kp.refl _ _).alloc _).alloc _
    have xb2 : Kp O0 w X := Kp.of_below HXB.out
    exact ⟨xb2.trans ka (fun _ _ h => h.elim), x4.kp ka (fun h => h), x5.kp ka (fun h => h), x6.kp ka (fun h => h), x7.kp ka (fun h => h), (HSB.out.kp (F := fun _ => False) (Kp.of_below HXB.out) (fun _ _ _ _ h => h)).kp ka (fun _ _ _ _ h => h), fun i hi => Or.inl hi, by simp only [World.size_alloc]; omega⟩
  case hAx =>
    rintro x a' Z o' h
    exact h
  case assign =>
    intro l' pre O x Z1 Kk hll hsz hi hK
    have HK := hid hK
    have HI := hid hi
    clear hK hi hll hsz
    obtain ⟨xa, xn⟩ := x
    gi_wp2_with fail
    exact HK.out _ _ (Kp.refl _ _) HI.out (act_of (by kernel_rfl) rfl)
  case body =>
    rintro l' pre O x a' Z hll hsz n1 n2 hi _ hsp
    exact hsp.elim
  case done =>
    rintro D xs O Z hD ⟨hS1, hKR⟩ hi hdd
    subst hS1
    have c4 : Z.cell? ⟨T, 0, none⟩ = some (.slice none 0 0) := hi.s4.cell 0
    have c7 : Z.cell? ⟨T + 3, 0, none⟩ = some (.int .i64 0) := hi.s7.cell 0
    have c6 : Z.cell? ⟨T + 2, 0, none⟩ = some (.bool false) := hi.s6.cell 0
    have f6 := hi.s6.frozen 0
    have HI := hid hi
    have HD := hid hD
    have HDD := hid hdd
    have HKR := hid hKR
    clear hi hD hdd hKR
    gi_wp2_with fail
    go_wp2_with fail
    subst hQ
    have hz := kp_setCell Z (T + 2) 0 (.bool true) (fun i => i = T + 2) rfl
    refine leaves_marksc D _ ?_ (fun w' k => fin_bool41 rfl ((HI.out.s6.set 0 _).kp k ?_) ?_)
    · rw [← HDD.out]; exact heap_setCell_other Z ⟨T + 2, 0, none⟩ D _ (by have := GB.b6; have := HD.out; show ¬ D = T + 2; omega)
    · have := GB.b6; have := HD.out; omega
    · exact ((kr_kp HI.out.k HKR.out).trans hz (fun i hi e => by have := GB.b6; omega)).trans k (fun i hi e => by have := HWX.out; have := HD.out; omega)
  case stop =>
    rintro D c pre O Z hD hS1 hx hdd
    exact hS1.elim
end Go.Proofs.Ytopnfjgkgoeleaa

namespace Go.Proofs.Ytopnfjgkgoeleaa
open Go.RowKit Go.Shelf
attribute [local go_sem] Oper.semAt_some
set_option linter.unusedVariables false
set_option linter.unusedSimpArgs false
set_option maxRecDepth 100000 in
set_option maxHeartbeats 16000000 in
theorem nothing_any (w : World) : Calls Try.prog 18 #[] w fun e w' => e = .returned (.bool true) ∧ Kp (fun _ => False) w w' := by
  have HNU := hid num_any
  go_enter Try.func18, Try.ntmps18
  go_wp2_with fail
  have HX : Hid (St 75 ((w.alloc (.cells #[.bool false, .slice none 0 0] 75)).alloc (.cells #[.pointer none, .pointer (some ⟨w.heap.size, 0, none⟩)] 24)) w.heap.size #[.bool false, .slice none 0 0] ∧ St 24 ((w.alloc (.cells #[.bool false, .slice none 0 0] 75)).alloc (.cells #[.pointer none, .pointer (some ⟨w.heap.size, 0, none⟩)] 24)) (w.heap.size + 1) #[.pointer none, .pointer (some ⟨w.heap.size, 0, none⟩)] ∧ Kp (fun _ => False) w ((w.alloc (.cells #[.bool false, .slice none 0 0] 75)).alloc (.cells #[.pointer none, .pointer (some ⟨w.heap.size, 0, none⟩)] 24))) := by
    have n1 := St.new 75 w #[.bool false, .slice none 0 0]
    have n2 := St.new 24 (w.alloc (.cells #[.bool false, .slice none 0 0] 75)) #[.pointer none, .pointer (some ⟨w.heap.size, 0, none⟩)]
    rw [World.size_alloc] at n2
    exact ⟨n1.kp ((Kp.refl (fun _ => False) _).alloc _) (fun h => h), n2, ((Kp.refl _ _).alloc _).alloc _⟩
  generalize (w.alloc (.cells #[.bool false, .slice none 0 0] 75)).alloc (.cells #[.pointer none, .pointer (some ⟨w.heap.size, 0, none⟩)] 24) = X at *
  generalize w.heap.size = T at *
  go_loopw [20] (fun i wr => ∃ k : Nat, i = .int .i64 (k : Int) ∧ k ≤ 2 ∧ Hid (Kp (fun _ => False) X wr)) (fun i _ => 2 - (intOf i).toNat)
  case atStart => exact ⟨0, rfl, by omega, Kp.refl _ _⟩
  case round =>
    obtain ⟨k, rfl, hk, HK⟩ := hrel
    by_cases hlt : k < 2
    · obtain ⟨qv, hcq, hN⟩ : ∃ qv, wr.cell? ⟨T + 1, 0 + k, none⟩ = some (.pointer qv) ∧ Non wr qv := by
        have h1 := HX.out.2.1.kp HK.out (fun h => h)
        rcases (show k = 0 ∨ k = 1 by omega) with rfl | rfl
        · exact ⟨none, h1.cell 0, non_nil _⟩
        · exact ⟨_, h1.cell 1, non_zero wr T (HX.out.1.kp HK.out (fun h => h))⟩
      simp only [Nat.zero_add] at hcq
      have HN := hid hN
      clear hN
      go_wp2_with fail
      refine (put_none HN.out).mono ?_
      rintro e w1 ⟨rfl, k1⟩
      have N1 := hid (HN.out.kp k1)
      have K1 := hid (HK.out.trans k1 (fun _ _ h => h))
      clear k1 HN HK hcq
      go_wp2_with fail
      refine (take_none N1.out 0).mono ?_
      rintro e w2 ⟨rfl, k1⟩
      have N2 := hid (N1.out.kp k1)
      have K2 := hid (K1.out.trans k1 (fun _ _ h => h))
      clear k1 N1 K1
      go_wp2_with (first | (refine wpList_store_r rfl _ _ rfl _ rfl (e' := zRn) rfl (Rn.B.new w2 zRn) ?_; intro w4 s4 k4; have S4 := hid s4; have k5 := ((Kp.refl (fun _ => False) w2).alloc (.cells zRn.cs 46)).trans k4 (fun i hi e => by omega); have N4 := hid (N2.out.kp k5); have K4 := hid (K2.out.trans k5 (fun _ _ h => h)); clear s4 k4 k5))
      refine (ask_none N4.out (-1) 0).mono ?_
      rintro e w5 ⟨rfl, k1⟩
      have N5 := hid (N4.out.kp k1)
      have K5 := hid (K4.out.trans k1 (fun _ _ h => h))
      have S5 := hid (S4.out.kp k1 (fun h => h))
      clear k1 N2 K2 N4 K4 S4
      go_wp2_with (first | (refine wpList_store_r rfl _ _ rfl _ rfl (e' := zRn) rfl (Rn.B.new w5 zRn) ?_; intro w6 s6 k6; have S6 := hid s6; have k7 := ((Kp.refl (fun _ => False) w5).alloc (.cells zRn.cs 46)).trans k6 (fun i hi e => by omega); have N6 := hid (N5.out.kp k7); have K6 := hid (K5.out.trans k7 (fun _ _ h => h)); have S56 := hid (S5.out.kp k7 (fun h => h)); clear s6 k6 k7))
      refine (of_none2 N6.out 0 (by unfold I6; omega)).mono ?_
      rintro e w7 ⟨rfl, k1⟩
      have N7 := hid (N6.out.kp k1)
      have K7 := hid (K6.out.trans k1 (fun _ _ h => h))
      have S57 := hid (S56.out.kp k1 (fun h => h))
      have S67 := hid (S6.out.kp k1 (fun h => h))
      clear k1 N5 K5 N6 K6 S5 S6 S56
      go_wp2_with (first | (refine wpList_store_r rfl _ _ rfl _ rfl (e' := zRn) rfl (Rn.B.new w7 zRn) ?_; intro w8 s8 k8; have S8 := hid s8; have k9 := ((Kp.refl (fun _ => False) w7).alloc (.cells zRn.cs 46)).trans k8 (fun i hi e => by omega); have N8 := hid (N7.out.kp k9); have K8 := hid (K7.out.trans k9 (fun _ _ h => h)); have S58 := hid (S57.out.kp k9 (fun h => h)); have S68 := hid (S67.out.kp k9 (fun h => h)); clear s8 k8 k9))
      refine (first_none N8.out (-1) 0 0).mono ?_
      rintro e w9 ⟨rfl, k1⟩
      have N9 := hid (N8.out.kp k1)
      have K9 := hid (K8.out.trans k1 (fun _ _ h => h))
      have S59 := hid (S58.out.kp k1 (fun h => h))
      have S69 := hid (S68.out.kp k1 (fun h => h))
      have S89 := hid (S8.out.kp k1 (fun h => h))
      clear k1 N7 K7 N8 K8 S57 S67 S58 S68 S8
      go_wp2_with fail
      refine (count_none N9.out 1).mono ?_
      rintro e wa ⟨rfl, k1⟩
      have Na := hid (N9.out.kp k1)
      have Ka := hid (K9.out.trans k1 (fun _ _ h => h))
      have S5a := hid (S59.out.kp k1 (fun h => h))
      have S6a := hid (S69.out.kp k1 (fun h => h))
      have S8a := hid (S89.out.kp k1 (fun h => h))
      clear k1 N9 K9 S59 S69 S89
      have a0 : wa.cell? ⟨w2.heap.size, 0, none⟩ = some (.int .i64 0) := S5a.out.cell 0
      have a1 : wa.cell? ⟨w2.heap.size, 1, none⟩ = some (.int .i64 0) := S5a.out.cell 1
      have a2 : wa.cell? ⟨w2.heap.size, 2, none⟩ = some (.int .i64 0) := S5a.out.cell 2
      have hnq : ∀ U : World, (binOp .neq 46 (.agg #[.int .i64 0, .int .i64 0, .int .i64 0]) (.agg #[.int .i64 0, .int .i64 0, .int .i64 0])).run Try.prog U = .ok (.bool false) U := fun U => neq_r zRn zRn U
      go_wp2_with (first | (go_at_call 22; refine (HNU.out _ _).mono ?_; rintro e1 wx ⟨rfl, rfl⟩))
      refine (move_none Na.out 0 (-1)).mono ?_
      rintro e wb ⟨rfl, k1⟩
      have Nb := hid (Na.out.kp k1)
      have Kb := hid (Ka.out.trans k1 (fun _ _ h => h))
      have b0 : wb.cell? ⟨w5.heap.size, 0, none⟩ = some (.int .i64 0) := (S6a.out.kp k1 (fun h => h)).cell 0
      have b1 : wb.cell? ⟨w5.heap.size, 1, none⟩ = some (.int .i64 0) := (S6a.out.kp k1 (fun h => h)).cell 1
      have b2 : wb.cell? ⟨w5.heap.size, 2, none⟩ = some (.int .i64 0) := (S6a.out.kp k1 (fun h => h)).cell 2
      have d0 : wb.cell? ⟨w7.heap.size, 0, none⟩ = some (.int .i64 0) := (S8a.out.kp k1 (fun h => h)).cell 0
      have d1 : wb.cell? ⟨w7.heap.size, 1, none⟩ = some (.int .i64 0) := (S8a.out.kp k1 (fun h => h)).cell 1
      have d2 : wb.cell? ⟨w7.heap.size, 2, none⟩ = some (.int .i64 0) := (S8a.out.kp k1 (fun h => h)).cell 2
      clear k1 Na Ka S5a S6a S8a a0 a1 a2
      go_wp2_with (first | (go_at_call 22; refine (HNU.out _ _).mono ?_; rintro e1 wx ⟨rfl, rfl⟩))
      refine (end_none Nb.out).mono ?_
      rintro e wc ⟨rfl, k1⟩
      have Nc := hid (Nb.out.kp k1)
      have Kc := hid (Kb.out.trans k1 (fun _ _ h => h))
      clear k1 Nb Kb b0 b1 b2 d0 d1 d2
      go_wp2_with fail
      refine (all_none Nc.out).mono ?_
      rintro e wd ⟨bt, rfl, hbt, sbt, bd⟩
      have kd : Kp (fun _ => False) wc wd := Kp.of_below bd
      have Nd := hid (Nc.out.kp kd)
      have Kd := hid (Kc.out.trans kd (fun _ _ h => h))
      have HG := hid (goes_val wd bt none 0 [] (by simp) (Srcr.nil _ _) sbt none 0 (Srcr.nil _ _) (fun b off e => by cases e) 0)
      clear kd Nc Kc hbt sbt bd
      go_wp2_with fail
      refine HG.out.mono ?_
      rintro e we ⟨rfl, k1⟩
      have Ne := hid (Nd.out.kp k1)
      have Ke := hid (Kd.out.trans k1 (fun _ _ h => h))
      clear k1 Nd Kd HG
      go_wp2_with fail
      refine (gaps_none Ne.out 9).mono ?_
      rintro e wf ⟨rfl, k1⟩
      have Nf := hid (Ne.out.kp k1)
      have Kf := hid (Ke.out.trans k1 (fun _ _ h => h))
      clear k1 Ne Ke
      go_wp2_with fail
      refine (gaps_empty wf).mono ?_
      rintro e wg ⟨rfl, k1⟩
      have Ng := hid (Nf.out.kp k1)
      have Kg := hid (Kf.out.trans k1 (fun _ _ h => h))
      clear k1 Nf Kf
      go_wp2_with fail
      refine (same_none Ng.out (non_nil _)).mono ?_
      rintro e wh ⟨rfl, k1⟩
      have Nh := hid (Ng.out.kp k1)
      have Kh := hid (Kg.out.trans k1 (fun _ _ h => h))
      clear k1 Ng Kg
      go_wp2_with fail
      have ka : Kp (fun _ => False) wh (wh.alloc (.cells #[.bool false, .slice none 0 0] 75)) := (Kp.refl _ _).alloc _
      refine (same_none (Nh.out.kp ka) (non_zero _ _ (St.new 75 wh #[.bool false, .slice none 0 0]))).mono ?_
      rintro e wi ⟨rfl, k1⟩
      have Ni := hid ((Nh.out.kp ka).kp k1)
      have Ki := hid ((Kh.out.trans ka (fun _ _ h => h)).trans k1 (fun _ _ h => h))
      clear k1 Nh Kh ka
      go_wp2_with fail
      refine (copy_none Ni.out).mono ?_
      rintro e wj ⟨rfl, k1⟩
      have Kj := hid (Ki.out.trans k1 (fun _ _ h => h))
      clear k1 Ni Ki
      go_wp2_with fail
      go_roundw
      case rel => exact ⟨k + 1, by go_num, by omega, Kj⟩
      case measure => simp [intOf]; omega
    · obtain rfl : k = 2 := by omega
      go_wp2_with fail
      go_ret
      exact ⟨rfl, HX.out.2.2.trans HK.out (fun _ _ h => h)⟩
end Go.Proofs.Ytopnfjgkgoeleaa
