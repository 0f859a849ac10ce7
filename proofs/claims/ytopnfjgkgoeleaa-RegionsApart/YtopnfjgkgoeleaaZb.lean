/- RegionsApart: regions that draw. -/
import Derived.Test.YtopnfjgkgoeleaaZa
namespace Go.Proofs.Ytopnfjgkgoeleaa
open Go.RowKit
set_option linter.unusedVariables false
set_option linter.unusedSimpArgs false
set_option maxRecDepth 100000 in
set_option maxHeartbeats 4000000 in
theorem c11_wp (X : World) (n cb : Nat) (nn st : Int) (T6 T7 T8 B k gb off : Nat) (ao : Option Addr) (c : Nat) (L : List Rn) (x : Rn) (f : Nat → Value) (hk : k < n) (hn : n ≤ 60) (s7 : St 24 X T7 #[.pointer (some ⟨B, 0, none⟩)]) (h : Rg X B ao c L) (hl : L.length < 65536) (hx : Mayr x) (hgb : gb < X.heap.size) (x1 : X.cell? ⟨gb, off + k * 3 + 1, none⟩ = some (.int .i64 x.a)) (x2 : X.cell? ⟨gb, off + k * 3 + 2, none⟩ = some (.int .i64 x.n)) :
    c11.wpIn Fence.wide 20 Try.prog (postN (fun a' Z => (∃ f', a' = { tmps := e11 (some ⟨gb, off, none⟩) n cb nn st T6 T7 T8 k (!okp L x) f', defers := [] }) ∧ Below X.heap.size X Z)) { tmps := eL (some ⟨gb, off, none⟩) n cb nn st T6 T7 T8 k f, defers := [] } X := by
  have c7 : X.cell? ⟨T7, 0, none⟩ = some (.pointer (some ⟨B, 0, none⟩)) := s7.cell 0
  have h7 := s7.lt
  have hm := hid hx
  unfold Mayr at hx
  have HASK : Hid (∀ U, Below X.heap.size X U → Calls Try.prog 20 #[.pointer (some ⟨B, 0, none⟩), .int .i64 x.a, .int .i64 x.n, .slice none 0 0] U fun e w' => (∃ y : Rn, e = .returned (.tuple #[.agg y.cs, .bool (!okp L x), .int .i64 0])) ∧ Below U.heap.size U w') := fun U hU => by
    refine (ask_any U B ao none c 0 0 L [] x.a x.n (h.below hU) (by unfold I6; omega) (by unfold I6; omega) rfl (by omega) (by omega) (Src.nil _ _ _)).mono fun e w' ⟨h1, h2⟩ => ⟨⟨orz (askO L [] x.a x.n), ?_⟩, h2⟩
    obtain ⟨e1, e2⟩ := ask_may h.srt hl hm.out
    rw [h1, e1, e2]
  have HKE : Hid (∀ U, Below X.heap.size X U → (fun U : World => U.cell? ⟨T7, 0, none⟩ = some (.pointer (some ⟨B, 0, none⟩)) ∧ U.cell? ⟨gb, off + k * 3 + 1, none⟩ = some (.int .i64 x.a) ∧ U.cell? ⟨gb, off + k * 3 + 2, none⟩ = some (.int .i64 x.n)) U) := fun U hU => ⟨(hU.cell (p := ⟨T7, 0, none⟩) h7).trans c7, (hU.cell (p := ⟨gb, off + k * 3 + 1, none⟩) hgb).trans x1, (hU.cell (p := ⟨gb, off + k * 3 + 2, none⟩) hgb).trans x2⟩
  have hki : (k : Int) < (n : Int) := by omega
  generalize (!okp L x) = ob at HASK ⊢
  clear s7 h
  refine wpIn_wide.2 ?_
  unfold c11 eL
  generalize hQ : postN _ = QQ
  have H0 : Hid (Below X.heap.size X X.drew) := ⟨rfl, rfl, rfl, Nat.le_refl _, fun _ _ => rfl⟩
  have cc := HKE.out X.drew H0.out
  have HAL : Hid (∀ (U : World) (ob : Obj), Below X.heap.size X U → Below X.heap.size X (U.alloc ob)) := fun U ob h => h.alloc h.size ob
  have HTR : Hid (∀ U V : World, Below X.heap.size X U → Below U.heap.size U V → Below X.heap.size X V) := fun U V h k => h.trans (k.mono h.size)
  have HSC : Hid (∀ (U : World) (g i : Nat) (v : Value), Below X.heap.size X U → X.heap.size ≤ g → Below X.heap.size X (U.setCell ⟨g, i, none⟩ v)) := fun U g i v h hg => bel_kp h (kp_setCell U g i v (fun k => k = g) rfl) h.size (fun k e => by omega)
  go_region_held3 (fun U : World => U.cell? ⟨T7, 0, none⟩ = some (.pointer (some ⟨B, 0, none⟩)) ∧ U.cell? ⟨gb, off + k * 3 + 1, none⟩ = some (.int .i64 x.a) ∧ U.cell? ⟨gb, off + k * 3 + 2, none⟩ = some (.int .i64 x.n)) (first | exact cc | exact cd | exact HKE.out _ (HAL.out _ _ H0.out) | exact HKE.out _ (HAL.out _ _ B5.out) | exact HKE.out _ (HSC.out _ _ _ _ (HSC.out _ _ _ _ (HSC.out _ _ _ _ B5.out (Nat.le_refl _)) (Nat.le_refl _)) (Nat.le_refl _))) (first | (go_at_call 20; refine (HASK.out _ (by first | exact H0.out | exact HAL.out _ _ H0.out)).mono ?_; rintro e w5 ⟨⟨⟨yk, ya, yn⟩, rfl⟩, b5⟩; simp only [Rn.cs]; have B5 : Hid (Below X.heap.size X w5) := HTR.out _ _ (by first | exact H0.out | exact HAL.out _ _ H0.out) b5; have cd := HKE.out w5 B5.out; try (have rN : Rn.B w5 X.heap.size zRn := (Rn.B.new X.drew zRn).below b5 (by simp); have y0 : w5.cell? ⟨X.heap.size, 0, none⟩ = some (.int .i64 0) := rN.cell 0; have y1 : w5.cell? ⟨X.heap.size, 1, none⟩ = some (.int .i64 0) := rN.cell 1; have y2 : w5.cell? ⟨X.heap.size, 2, none⟩ = some (.int .i64 0) := rN.cell 2; have f0 := St.frozen rN 0; have f1 := St.frozen rN 1; have f2 := St.frozen rN 2); clear b5))
  · subst hQ
    exact ⟨act_of (by kernel_rfl) rfl, HAL.out _ _ B5.out⟩
  · subst hQ
    exact ⟨act_of (by kernel_rfl) rfl, HSC.out _ _ _ _ (HSC.out _ _ _ _ (HSC.out _ _ _ _ B5.out (Nat.le_refl _)) (Nat.le_refl _)) (Nat.le_refl _)⟩
theorem Chg.drew {X Z : World} {B : Nat} {ao : Option Addr} {n c : Nat} {L : List Rn} (h : Chg X.drew B ao n c L Z) : Chg X B ao n c L Z := by
  obtain ⟨a, c', h1, h2, h3⟩ := h
  exact ⟨a, c', h1, (((Kp.refl _ X).drew).trans h2 (fun _ _ x => x)), h3⟩
set_option maxRecDepth 100000 in
set_option maxHeartbeats 4000000 in
theorem c12_wp (X : World) (n cb : Nat) (nn st : Int) (T6 T7 T8 B k gb off : Nat) (ob : Bool) (ao : Option Addr) (c : Nat) (L : List Rn) (x : Rn) (f : Nat → Value) (hk : k < n) (hn : n ≤ 60) (s7 : St 24 X T7 #[.pointer (some ⟨B, 0, none⟩)]) (h : Rg X B ao c L) (hx : x.i6) (hgb : gb < X.heap.size) (x0 : X.cell? ⟨gb, off + k * 3, none⟩ = some (.int .i64 x.k)) (x1 : X.cell? ⟨gb, off + k * 3 + 1, none⟩ = some (.int .i64 x.a)) (x2 : X.cell? ⟨gb, off + k * 3 + 2, none⟩ = some (.int .i64 x.n)) (n7 : ¬ (T7 = B ∨ Rmb ao L.length c T7)) (ng : ¬ (gb = B ∨ Rmb ao L.length c gb)) :
    c12.wpIn Fence.wide 20 Try.prog (postN (fun a' Z => (∃ f', a' = { tmps := e12 (some ⟨gb, off, none⟩) n cb nn st T6 T7 T8 k ob ((puN L [x] : Nat) : Int) (puE L [x]) f', defers := [] }) ∧ Chg X B ao L.length c (puL L [x]) Z)) { tmps := e11 (some ⟨gb, off, none⟩) n cb nn st T6 T7 T8 k ob f, defers := [] } X := by
  have c7 : X.cell? ⟨T7, 0, none⟩ = some (.pointer (some ⟨B, 0, none⟩)) := s7.cell 0
  have h7 := s7.lt
  obtain ⟨xk, xa, xn⟩ := x
  have HPU : Hid (Calls Try.prog 21 #[.pointer (some ⟨B, 0, none⟩), .slice (some ⟨X.heap.size, 0, none⟩) 1 1] (X.drew.alloc (.cells #[.int .i64 xk, .int .i64 xa, .int .i64 xn] 46)) fun e w' => e = .returned (.tuple #[.int .i64 ((puN L [⟨xk, xa, xn⟩] : Nat) : Int), .int .i64 (puE L [⟨xk, xa, xn⟩])]) ∧ Chg X B ao L.length c (puL L [⟨xk, xa, xn⟩]) w') := by
    refine (put_new X.drew B ao c L [⟨xk, xa, xn⟩] 1 (h.below ⟨rfl, rfl, rfl, Nat.le_refl _, fun _ _ => rfl⟩) rfl (by omega) (fun y hy => by simp at hy; rw [hy]; exact hx)).mono fun e w' ⟨h1, h2⟩ => ⟨h1, h2.drew⟩
  have HKC : Hid (∀ U, Kp (fun i => i = B ∨ Rmb ao L.length c i) X U → (fun U : World => U.cell? ⟨T7, 0, none⟩ = some (.pointer (some ⟨B, 0, none⟩)) ∧ U.cell? ⟨gb, off + k * 3, none⟩ = some (.int .i64 xk) ∧ U.cell? ⟨gb, off + k * 3 + 1, none⟩ = some (.int .i64 xa) ∧ U.cell? ⟨gb, off + k * 3 + 2, none⟩ = some (.int .i64 xn)) U) := fun U hU => ⟨kp_cell hU c7 n7, kp_cell hU x0 ng, kp_cell hU x1 ng, kp_cell hU x2 ng⟩
  have hki : (k : Int) < (n : Int) := by omega
  have HKG : Hid (∀ U, Chg X B ao L.length c (puL L [⟨xk, xa, xn⟩]) U → (fun U : World => U.cell? ⟨T7, 0, none⟩ = some (.pointer (some ⟨B, 0, none⟩)) ∧ U.cell? ⟨gb, off + k * 3, none⟩ = some (.int .i64 xk) ∧ U.cell? ⟨gb, off + k * 3 + 1, none⟩ = some (.int .i64 xa) ∧ U.cell? ⟨gb, off + k * 3 + 2, none⟩ = some (.int .i64 xn)) U) := fun U hU => by obtain ⟨_, _, _, kk, _⟩ := hU; exact HKC.out U kk
  generalize ((puN L [⟨xk, xa, xn⟩] : Nat) : Int) = pn at HPU ⊢
  generalize puE L [⟨xk, xa, xn⟩] = pe at HPU ⊢
  generalize puL L [⟨xk, xa, xn⟩] = L' at HPU HKG ⊢
  clear s7 h x0 x1 x2 c7
  refine wpIn_wide.2 ?_
  unfold c12 e11
  generalize hQ : postN _ = QQ
  have cc := HKC.out X.drew (Kp.refl _ X).drew
  have ca := HKC.out (X.drew.alloc (.cells #[.int .i64 xk, .int .i64 xa, .int .i64 xn] 46)) ((Kp.refl _ X).drew.alloc _)
  go_region_held3 (fun U : World => U.cell? ⟨T7, 0, none⟩ = some (.pointer (some ⟨B, 0, none⟩)) ∧ U.cell? ⟨gb, off + k * 3, none⟩ = some (.int .i64 xk) ∧ U.cell? ⟨gb, off + k * 3 + 1, none⟩ = some (.int .i64 xa) ∧ U.cell? ⟨gb, off + k * 3 + 2, none⟩ = some (.int .i64 xn)) (first | exact cc | exact ca | exact cd) (first | (go_at_call 21; refine HPU.out.mono ?_; rintro e w5 ⟨rfl, b5⟩; have cd := HKG.out w5 b5; have B5 := hid b5; clear b5))
  subst hQ
  exact ⟨act_of (by kernel_rfl) rfl, B5.out⟩
set_option maxRecDepth 100000 in
set_option maxHeartbeats 4000000 in
theorem c16_wp (X : World) (n cb : Nat) (nn st : Int) (T6 T7 T8 k gb off : Nat) (ob : Bool) (pn pe tot : Int) (x : Rn) (f : Nat → Value) (hk : k < n) (hn : n ≤ 60) (s8 : St 2 X T8 #[.int .i64 tot]) (ht : 0 ≤ tot ∧ tot ≤ 72057594037927936) (hx : Mayr x) (x2 : X.cell? ⟨gb, off + k * 3 + 2, none⟩ = some (.int .i64 x.n)) :
    c16.wpIn Fence.wide 20 Try.prog (postN (fun a' Z => (∃ f', a' = { tmps := e12 (some ⟨gb, off, none⟩) n cb nn st T6 T7 T8 k ob pn pe f', defers := [] }) ∧ Kp (fun i => i = T8) X Z ∧ St 2 Z T8 #[.int .i64 (tot + x.n)])) { tmps := e12 (some ⟨gb, off, none⟩) n cb nn st T6 T7 T8 k ob pn pe f, defers := [] } X := by
  have c8 : X.cell? ⟨T8, 0, none⟩ = some (.int .i64 tot) := s8.cell 0
  have f8 : X.frozen? ⟨T8, 0, none⟩ = false := s8.frozen 0
  have h8 := s8.lt
  unfold Mayr at hx
  have hki : (k : Int) < (n : Int) := by omega
  have hw : IntKind.i64.wrap (tot + x.n) = tot + x.n := by rw [IntKind.wrap_i64]; omega
  have S8 := hid s8
  clear s8
  refine wpIn_wide.2 ?_
  unfold c16 e12
  generalize hQ : postN _ = QQ
  refine wp_region_tail hmix (by kernel_rfl) ?_
  dsimp only [List.dropLast, List.getLast]
  repeat (gi_big_quiet_step (fail))
  refine wpQuietIn_nil ?_
  intro _ hw'
  obtain ⟨nq, hw2⟩ := hw'
  subst hw2
  have kq := drewN_kp (fun _ => False) X nq
  generalize X.drewN nq = X8 at kq ⊢
  have S9 := hid (S8.out.kp kq (fun x => x))
  have y8 : X8.cell? ⟨T8, 0, none⟩ = some (.int .i64 tot) := S9.out.cell 0
  have z8 : X8.frozen? ⟨T8, 0, none⟩ = false := S9.out.frozen 0
  have KQ := hid kq
  clear kq c8 f8 x2
  gi_wp2_with fail
  subst hQ
  exact ⟨act_of (by kernel_rfl) rfl, (KQ.out.mono (fun _ _ x => x.elim)).trans (kp_setCell X8 T8 0 _ (fun i => i = T8) rfl) (fun _ _ x => x), St.set S9.out 0 _⟩
end Go.Proofs.Ytopnfjgkgoeleaa
