/- LaterPlays: the law. -/
import Derived.Test.YtgfondgejimkkaaOp
import Derived.Test.YtgfondgejimkkaaPcX
import Derived.Test.YtgfondgejimkkaaPdX
import Derived.Deep.CutRange
namespace Go.Proofs.Ytgfondgejimkkaa
open Go.ChangeShapes Go.WideShapes Go.ChangeAt Go.RowKit
set_option linter.unusedVariables false
/-- A step. -/
structure Sp where
  kd : Int
  lv : Int
  ao : Option Addr
  n : Nat
  cap : Nat
  L : List Rn
  x : Rn
  m : Int
def zSp : Sp := ⟨0, 0, none, 0, 0, [], zRn, 0⟩
def Sp.cs (s : Sp) : Array Value := #[.int .i64 s.kd, .int .i64 s.lv, .slice s.ao s.n s.cap, .int .i64 s.x.a, .int .i64 s.x.n, .int .i64 s.m]
structure Sp.ok (W : World) (s : Sp) : Prop where
  ln : s.n = s.L.length
  sr : Srcr W s.ao s.L
  i6 : ∀ e ∈ s.L, e.i6
  lc : s.n ≤ s.cap
  cm : s.cap ≤ maxLen
  no : s.ao = none → s.cap = 0
  x6 : s.x.i6
  m6 : I6 s.m
  k6 : I6 s.kd
  l6 : I6 s.lv
def Srcs (W : World) (bo : Option Addr) (S : List Sp) : Prop := 0 < S.length → ∃ b off, bo = some ⟨b, off, none⟩ ∧ b < W.heap.size ∧ ∀ i, i < S.length → ∀ j u, (S.getD i zSp).cs[j]? = some u → W.cell? ⟨b, off + i * 6 + j, none⟩ = some u
set_option maxRecDepth 100000 in
theorem open_steps {H : Type} {enc : TypeId × Value → H} {W : World} {spare : Nat → Bool} {held : Bool} {fuel : Nat} {a0 : Option Addr} {len0 cap0 : Nat} {x : DataW H × List MemPlace} (hf : DataW.trod enc Try.prog W 0 spare held fuel 23 [.slice a0 len0 cap0] = some x) : ∃ S : List Sp, len0 = S.length ∧ Srcs W a0 S ∧ (∀ s ∈ S, s.ok W) ∧ len0 ≤ cap0 ∧ cap0 ≤ maxLen := by
  rcases Go.Deep.open_slice Try.underlying23 hf with ⟨hcs, _⟩ | ⟨x, l, c, m, n, D, Pl, hcs, _, hl, hm, hmm, _, hx⟩
  · simp at hcs
    obtain ⟨rfl, rfl, rfl⟩ := hcs
    exact ⟨[], rfl, fun h => absurd h (by simp), fun t ht => by simp at ht, Nat.le_refl _, by unfold maxLen; omega⟩
  · simp at hcs
    obtain ⟨rfl, rfl, rfl⟩ := hcs
    have hlm : len0 ≤ m := by rw [hmm]; split <;> omega
    have each : ∀ i, i < len0 → ∃ t : Sp, (∀ j, j < 6 → W.cell? (x.add (i * 6 + j)) = t.cs[j]?) ∧ t.ok W := by
      intro i hi
      obtain ⟨cs', g1, g2⟩ := hx i (by omega)
      rw [show Try.prog.cellsOf 40 = 6 by kernel_rfl] at g1
      obtain ⟨_, hlen, hcell⟩ := World.cells?_some g1
      obtain ⟨xs, k, hk, hxy, _, hxl, hfld⟩ := DataW.trod_struct Try.underlying40 g2
      have o2 : Try.prog.cellsOf 2 = 1 := by kernel_rfl
      have o3 : Try.prog.cellsOf 3 = 1 := by kernel_rfl
      have o22 : Try.prog.cellsOf 22 = 1 := by kernel_rfl
      have o38 : Try.prog.cellsOf 38 = 2 := by kernel_rfl
      match xs, hxl, cs', hlen with
      | [y0, y1, y2, y3, y4], _, [u0, u1, u2, u3, u4, u5], _ =>
        have f0 := hfld 0 _ rfl
        have f1 := hfld 1 _ rfl
        have f2 := hfld 2 _ rfl
        have f3 := hfld 3 _ rfl
        have f4 := hfld 4 _ rfl
        simp [o2, o3, o22, o38] at f0 f1 f2 f3 f4
        obtain ⟨n0, e0, _, q0⟩ := DataW.trod_int Try.underlying3 f0
        obtain ⟨n1, e1, _, q1⟩ := DataW.trod_int Try.underlying3 f1
        obtain ⟨n5, e5, _, q5⟩ := DataW.trod_int Try.underlying2 f4
        injection e0 with e0
        injection e1 with e1
        injection e5 with e5
        obtain ⟨a2, l2, c2, rfl⟩ : ∃ a l c, u2 = .slice a l c := by
          rcases Go.Deep.open_slice Try.underlying22 f2 with ⟨hcs, _⟩ | ⟨x, l, c, m, n, D, Pl, hcs, _⟩
          · simp at hcs; exact ⟨_, _, _, hcs⟩
          · simp at hcs; exact ⟨_, _, _, hcs⟩
        obtain ⟨M, ln, src, i6, lc, cm, no⟩ := open_r f2
        obtain ⟨r, hr, r6⟩ := open_run (cs := #[u3, u4]) f3
        simp [Rn.cs] at hr
        obtain ⟨rfl, rfl⟩ := hr
        subst e0 e1 e5
        refine ⟨⟨n0, n1, a2, l2, c2, M, r, n5⟩, fun j hj => ?_, ⟨ln, src, i6, lc, cm, no, r6, bounds_i64 q5, bounds_i64 q0, bounds_i64 q1⟩⟩
        have c0 := hcell j (by omega)
        rw [Go.Deep.add_add] at c0
        rw [c0]
        simp [Sp.cs]
    obtain ⟨f, hf⟩ := choose_ltr zSp each
    refine ⟨(List.range len0).map f, by simp, ?_, fun t ht => ?_, hl, hm⟩
    · intro hp
      simp at hp
      obtain ⟨b, off, spot⟩ := x
      have hc := (hf 0 hp).1 0 (by omega)
      have hc2 : W.cell? (Addr.add ⟨b, off, spot⟩ (0 * 6 + 0)) = some (.int .i64 (f 0).kd) := hc
      have hspot : spot = none := by simpa [Addr.add] using World.cell?_spot hc2
      subst hspot
      have hbl : b < W.heap.size := by
        rw [add_o] at hc2
        exact block_lt_of_cell hc2
      refine ⟨b, off, rfl, hbl, fun i hi j u hu => ?_⟩
      simp at hi
      have e : ((List.range len0).map f).getD i zSp = f i := by simp [List.getD, hi]
      rw [e] at hu
      have hj : j < 6 := (Array.getElem?_eq_some_iff.1 hu).1
      have g0 := (hf i hi).1 j hj
      rw [add_o, hu] at g0
      rw [← g0, Nat.add_assoc]
    · obtain ⟨i, hi, rfl⟩ := List.mem_map.1 ht
      exact (hf i (by simpa using hi)).2
theorem Srcs.at {W : World} {bo : Option Addr} {S : List Sp} (h : Srcs W bo S) {i : Nat} (hi : i < S.length) : ∃ b off, bo = some ⟨b, off, none⟩ ∧ b < W.heap.size ∧ ∀ j u, (S.getD i zSp).cs[j]? = some u → W.cell? ⟨b, off + i * 6 + j, none⟩ = some u := by
  obtain ⟨b, off, e, hb, hc⟩ := h (by omega)
  exact ⟨b, off, e, hb, hc i hi⟩
theorem Srcs.kp {F : Nat → Prop} {w w' : World} {bo : Option Addr} {S : List Sp} (h : Srcs w bo S) (k : Kp F w w') (hf : ∀ b, b < w.heap.size → ¬ F b) : Srcs w' bo S := by
  intro hp
  obtain ⟨b, off, rfl, hb, hc⟩ := h hp
  exact ⟨b, off, rfl, Nat.lt_of_lt_of_le hb k.size, fun i hi j u hu => kp_cell k (hc i hi j u hu) (hf b hb)⟩
end Go.Proofs.Ytgfondgejimkkaa

namespace Go.Proofs.Ytgfondgejimkkaa
open Go.RowKit
set_option linter.unusedVariables false
set_option linter.unusedSimpArgs false
theorem Try.inf30 : (Try.prog.info? 30).map (fun i => (i.zero, i.size, i.bytes)) = some (some (.pointer none), 1, 8) := by kernel_rfl
theorem Try.inf27 : (Try.prog.info? 27).map (fun i => (i.zero, i.size, i.bytes)) = some (some (.agg #[.slice none 0 0]), 1, 24) := by kernel_rfl
theorem own_appq {w : World} {base b : Nat} {v u : Value} {D : List Value} {ty : TypeId} (h : w.ownsRow base 30 1 v D.length D) (hb : St 30 w b #[u]) (hu : u.oneCell' = true) (hl : D.length ≤ 100000) (hbase : base ≤ w.heap.size) :
    ∃ v' w', (Builtin.append_ #[35, 35] ty #[v, .slice (some ⟨b, 0, none⟩) 1 1]).run Try.prog w = .ok v' w' ∧ w'.ownsRow base 30 1 v' (D ++ [u]).length (D ++ [u]) ∧ Kp (fun i => v.ownBlock = some i) w w' := by
  obtain ⟨i0, hi, hz0, hz1, hz2⟩ := info_parts Try.inf30
  obtain ⟨v', w', h1, h2, h3, h4, h5⟩ := run_append_own_at (P := Try.prog) w base 35 ty 30 i0 _ 1 8 Try.underlying35 hi hz0 hz1 hz2 rfl (by decide) v D.length D h ⟨b, 0, none⟩ 1 1 [u] rfl (fun j x hx => by rw [add_z, hb.cell j]; simpa using hx) (fun x hx => by simp at hx; subst hx; exact hu) (by unfold maxLen; omega) (by omega) hbase
  refine ⟨v', w', h1, ?_, Kp.of_grown h3 (fun i e => e)⟩
  simpa using h2
theorem own_appw {w : World} {base b : Nat} {v u : Value} {D : List Value} {ty : TypeId} (h : w.ownsRow base 27 1 v D.length D) (hb : St 27 w b #[u]) (hu : u.oneCell' = true) (hl : D.length ≤ 100000) (hbase : base ≤ w.heap.size) :
    ∃ v' w', (Builtin.append_ #[36, 36] ty #[v, .slice (some ⟨b, 0, none⟩) 1 1]).run Try.prog w = .ok v' w' ∧ w'.ownsRow base 27 1 v' (D ++ [u]).length (D ++ [u]) ∧ Kp (fun i => v.ownBlock = some i) w w' := by
  obtain ⟨i0, hi, hz0, hz1, hz2⟩ := info_parts Try.inf27
  obtain ⟨v', w', h1, h2, h3, h4, h5⟩ := run_append_own_at (P := Try.prog) w base 36 ty 27 i0 _ 1 24 Try.underlying36 hi hz0 hz1 hz2 rfl (by decide) v D.length D h ⟨b, 0, none⟩ 1 1 [u] rfl (fun j x hx => by rw [add_z, hb.cell j]; simpa using hx) (fun x hx => by simp at hx; subst hx; exact hu) (by unfold maxLen; omega) (by omega) hbase
  refine ⟨v', w', h1, ?_, Kp.of_grown h3 (fun i e => e)⟩
  simpa using h2
end Go.Proofs.Ytgfondgejimkkaa

namespace Go.Proofs.Ytgfondgejimkkaa
open Go.RowKit Go.Shelf
attribute [local go_sem] Oper.semAt_some
set_option linter.unusedVariables false
set_option linter.unusedSimpArgs false
set_option maxRecDepth 100000 in
theorem nf40 (w : World) : (binOp .eql 45 (.func (.func 40) #[] #[]) .nilFunc).run Try.prog w = .ok (.bool false) w := by rfl
set_option maxRecDepth 100000 in
theorem goes_all_none (w : World) : Calls Try.prog 18 #[.func (.func 40) #[] #[], .slice none 0 0, .int .i64 0] w fun e w' => e = .returned (.bool true) ∧ Kp (fun _ => False) w w' :=
  goes_none w 40 #[] (fun _ => False) (fun i h => h.elim) (empty_seq 19 (by omega) w) (enters_of Try.func40 (by kernel_rfl) rfl) nf40
set_option maxRecDepth 100000 in
theorem goes_drain_none {w : World} {qv : Option Addr} (h : Non w qv) : Calls Try.prog 18 #[.func (.func 50) #[] #[.pointer (some ⟨w.heap.size, 0, none⟩), .pointer (some ⟨w.heap.size + 1, 0, none⟩)], .slice none 0 0, .int .i64 0] ((w.alloc (.cells #[.pointer qv] 30)).alloc (.cells #[.int .i64 1] 2)) fun e w' => e = .returned (.bool true) ∧ Kp (fun _ => False) w w' := by
  have ka : Kp (fun _ => False) w ((w.alloc (.cells #[.pointer qv] 30)).alloc (.cells #[.int .i64 1] 2)) := ((Kp.refl _ _).alloc _).alloc _
  have s1 := (St.new 30 w #[.pointer qv]).kp ((Kp.refl (fun _ => False) _).alloc (.cells #[.int .i64 1] 2)) (fun h => h)
  have s2 := St.new 2 (w.alloc (.cells #[.pointer qv] 30)) #[.int .i64 1]
  rw [World.size_alloc] at s2
  have hN := h.kp ka
  refine (goes_none _ 50 _ (fun i => i = w.heap.size ∨ i = w.heap.size + 1) (fun i hi => ?_) (drain_stop1 19 (by omega) w.heap.size (w.heap.size + 1) qv 1 _ (fun U k => next_none (hN.kp k) 1) s1 s2) (enters_of Try.func50 (by kernel_rfl) rfl) (fun U => nf50 _ _ U)).mono ?_
  · simp only [World.size_alloc]; omega
  · rintro e w' ⟨rfl, k⟩
    exact ⟨rfl, ka.trans k (fun _ _ h => h)⟩
set_option maxRecDepth 100000 in
set_option maxHeartbeats 16000000 in
theorem nothing_any (w : World) : Calls Try.prog 20 #[] w fun e w' => e = .returned (.bool true) ∧ Kp (fun _ => False) w w' := by
  have HNU := hid num_any
  go_enter Try.func20, Try.ntmps20
  go_wp2_with fail
  have HX : Hid (St 73 ((w.alloc (.cells #[.pointer none, .map none, .map none, .int .i64 0] 73)).alloc (.cells #[.pointer none, .pointer (some ⟨w.heap.size, 0, none⟩)] 30)) w.heap.size #[.pointer none, .map none, .map none, .int .i64 0] ∧ St 30 ((w.alloc (.cells #[.pointer none, .map none, .map none, .int .i64 0] 73)).alloc (.cells #[.pointer none, .pointer (some ⟨w.heap.size, 0, none⟩)] 30)) (w.heap.size + 1) #[.pointer none, .pointer (some ⟨w.heap.size, 0, none⟩)] ∧ Kp (fun _ => False) w ((w.alloc (.cells #[.pointer none, .map none, .map none, .int .i64 0] 73)).alloc (.cells #[.pointer none, .pointer (some ⟨w.heap.size, 0, none⟩)] 30))) := by
    have n1 := St.new 73 w #[.pointer none, .map none, .map none, .int .i64 0]
    have n2 := St.new 30 (w.alloc (.cells #[.pointer none, .map none, .map none, .int .i64 0] 73)) #[.pointer none, .pointer (some ⟨w.heap.size, 0, none⟩)]
    rw [World.size_alloc] at n2
    exact ⟨n1.kp ((Kp.refl (fun _ => False) _).alloc _) (fun h => h), n2, ((Kp.refl _ _).alloc _).alloc _⟩
  generalize (w.alloc (.cells #[.pointer none, .map none, .map none, .int .i64 0] 73)).alloc (.cells #[.pointer none, .pointer (some ⟨w.heap.size, 0, none⟩)] 30) = X at *
  generalize w.heap.size = T at *
  go_loopw [19] (fun i wr => ∃ k : Nat, i = .int .i64 (k : Int) ∧ k ≤ 2 ∧ Hid (Kp (fun _ => False) X wr)) (fun i _ => 2 - (intOf i).toNat)
  case atStart => exact ⟨0, rfl, by omega, Kp.refl _ _⟩
  case round =>
    obtain ⟨k, rfl, hk, HK⟩ := hrel
    by_cases hlt : k < 2
    · obtain ⟨qv, hcq, hN⟩ : ∃ qv, wr.cell? ⟨T + 1, 0 + k, none⟩ = some (.pointer qv) ∧ Non wr qv := by
        have h1 := HX.out.2.1.kp HK.out (fun h => h)
        rcases (show k = 0 ∨ k = 1 by omega) with rfl | rfl
        · exact ⟨none, h1.cell 0, non_nil _⟩
        · exact ⟨_, h1.cell 1, non_zero wr T _ _ _ (HX.out.1.kp HK.out (fun h => h))⟩
      simp only [Nat.zero_add] at hcq
      have HN := hid hN
      clear hN
      go_wp2_with fail
      refine (put_none HN.out).mono ?_
      rintro e w1 ⟨rfl, k1⟩
      have N1 := hid (HN.out.kp k1)
      have K1 := hid (HK.out.trans k1 (fun _ _ h => h))
      clear k1 HN HK hcq
      go_wp2_with fail
      refine (cut_none N1.out zRn).mono ?_
      rintro e w2 ⟨rfl, k1⟩
      have N2 := hid (N1.out.kp k1)
      have K2 := hid (K1.out.trans k1 (fun _ _ h => h))
      clear k1 N1 K1
      go_wp2_with fail
      refine (next_none N2.out 0).mono ?_
      rintro e w3 ⟨rfl, k1⟩
      have N3 := hid (N2.out.kp k1)
      have K3 := hid (K2.out.trans k1 (fun _ _ h => h))
      clear k1 N2 K2
      go_wp2_with (first | (refine wpList_store_r rfl _ _ rfl _ rfl (e' := zRn) rfl (Rn.B.new w3 zRn) ?_; intro w4 s4 k4; have S4 := hid s4; have k5 := ((Kp.refl (fun _ => False) w3).alloc (.cells zRn.cs 38)).trans k4 (fun i hi e => by omega); have N4 := hid (N3.out.kp k5); have K4 := hid (K3.out.trans k5 (fun _ _ h => h)); clear s4 k4 k5))
      refine (greatest_none N4.out).mono ?_
      rintro e w5 ⟨rfl, k1⟩
      have N5 := hid (N4.out.kp k1)
      have K5 := hid (K4.out.trans k1 (fun _ _ h => h))
      have S5 := hid (S4.out.kp k1 (fun h => h))
      clear k1 N3 K3 N4 K4 S4
      go_wp2_with (first | (refine wpList_store_r rfl _ _ rfl _ rfl (e' := zRn) rfl (Rn.B.new w5 zRn) ?_; intro w6 s6 k6; have S6 := hid s6; have k7 := ((Kp.refl (fun _ => False) w5).alloc (.cells zRn.cs 38)).trans k6 (fun i hi e => by omega); have N6 := hid (N5.out.kp k7); have K6 := hid (K5.out.trans k7 (fun _ _ h => h)); have S56 := hid (S5.out.kp k7 (fun h => h)); clear s6 k6 k7))
      refine (over_none N6.out zRn).mono ?_
      rintro e w7 ⟨rfl, k1⟩
      have N7 := hid (N6.out.kp k1)
      have K7 := hid (K6.out.trans k1 (fun _ _ h => h))
      have S57 := hid (S56.out.kp k1 (fun h => h))
      have S67 := hid (S6.out.kp k1 (fun h => h))
      clear k1 N5 K5 N6 K6 S5 S6 S56
      go_wp2_with fail
      refine (size_none N7.out).mono ?_
      rintro e w8 ⟨rfl, k1⟩
      have N8 := hid (N7.out.kp k1)
      have K8 := hid (K7.out.trans k1 (fun _ _ h => h))
      have a0 : w8.cell? ⟨w3.heap.size, 0, none⟩ = some (.int .i64 0) := (S57.out.kp k1 (fun h => h)).cell 0
      have a1 : w8.cell? ⟨w3.heap.size, 1, none⟩ = some (.int .i64 0) := (S57.out.kp k1 (fun h => h)).cell 1
      have b0 : w8.cell? ⟨w5.heap.size, 0, none⟩ = some (.int .i64 0) := (S67.out.kp k1 (fun h => h)).cell 0
      have b1 : w8.cell? ⟨w5.heap.size, 1, none⟩ = some (.int .i64 0) := (S67.out.kp k1 (fun h => h)).cell 1
      have hnq : ∀ U : World, (binOp .neq 38 (.agg #[.int .i64 0, .int .i64 0]) (.agg #[.int .i64 0, .int .i64 0])).run Try.prog U = .ok (.bool false) U := fun U => neq_r zRn zRn U
      clear k1 N7 K7 S57 S67
      go_wp2_with (first | (go_at_call 11; refine (HNU.out _ _).mono ?_; rintro e1 w9 ⟨rfl, rfl⟩))
      refine (all_none N8.out).mono ?_
      rintro e w9 ⟨rfl, k1⟩
      have N9 := hid (N8.out.kp k1)
      have K9 := hid (K8.out.trans k1 (fun _ _ h => h))
      clear k1 N8 K8 a0 a1 b0 b1
      go_wp2_with fail
      refine (goes_all_none w9).mono ?_
      rintro e wa ⟨rfl, k1⟩
      have Na := hid (N9.out.kp k1)
      have Ka := hid (K9.out.trans k1 (fun _ _ h => h))
      clear k1 N9 K9
      go_wp2_with fail
      refine (drain_valv wa qv 1).mono ?_
      rintro e wb ⟨rfl, rfl⟩
      go_wp2_with fail
      refine (goes_drain_none Na.out).mono ?_
      rintro e wc ⟨rfl, k1⟩
      have Nc := hid (Na.out.kp k1)
      have Kc := hid (Ka.out.trans k1 (fun _ _ h => h))
      clear k1 Na Ka
      go_wp2_with fail
      refine (same_none Nc.out (non_nil _)).mono ?_
      rintro e wd ⟨rfl, k1⟩
      have Nd := hid (Nc.out.kp k1)
      have Kd := hid (Kc.out.trans k1 (fun _ _ h => h))
      clear k1 Nc Kc
      go_wp2_with fail
      have ka : Kp (fun _ => False) wd (wd.alloc (.cells #[.pointer none, .map none, .map none, .int .i64 0] 73)) := (Kp.refl _ _).alloc _
      refine (same_none (Nd.out.kp ka) (non_zero _ _ _ _ _ (St.new 73 wd #[.pointer none, .map none, .map none, .int .i64 0]))).mono ?_
      rintro e we ⟨rfl, k1⟩
      have Ne := hid ((Nd.out.kp ka).kp k1)
      have Ke := hid ((Kd.out.trans ka (fun _ _ h => h)).trans k1 (fun _ _ h => h))
      clear k1 Nd Kd ka
      go_wp2_with fail
      refine (copy_none Ne.out).mono ?_
      rintro e wf ⟨rfl, k1⟩
      have Kf := hid (Ke.out.trans k1 (fun _ _ h => h))
      clear k1 Ne Ke
      go_wp2_with fail
      go_roundw
      case rel => exact ⟨k + 1, by go_num, by omega, Kf⟩
      case measure => simp [intOf]; omega
    · obtain rfl : k = 2 := by omega
      go_wp2_with fail
      go_ret
      exact ⟨rfl, HX.out.2.2.trans HK.out (fun _ _ h => h)⟩
end Go.Proofs.Ytgfondgejimkkaa

namespace Go.Proofs.Ytgfondgejimkkaa
open Go.RowKit
set_option linter.unusedVariables false
set_option linter.unusedSimpArgs false
theorem step_any (W : World) (Q rq : Nat) (l : List Rn) (F : Nat → Prop) (s : Sp) (hn : s.n ≤ 40) (ln : s.n = s.L.length) (sr : Srcr W s.ao s.L) (i6 : ∀ e ∈ s.L, e.i6) (no : s.ao = none → s.cap = 0) (x6 : s.x.i6) (m6 : I6 s.m) (hlow : ∀ b off, s.ao = some ⟨b, off, none⟩ → 0 < s.L.length → ¬ F b ∧ b ≠ rq) (hL : Lw Q l F W) (hR : RL rq W l) :
    Calls Try.prog 14 #[.pointer (some ⟨Q, 0, none⟩), .pointer (some ⟨rq, 0, none⟩), .agg s.cs] W fun e w' => e = .returned (.bool true) ∧ ∃ l', Ch F Q rq W l' w' := by
  obtain ⟨kd, lv, ao, n, cap, L, x, m⟩ := s
  dsimp only at *
  have hm : m ≤ 9223372036854775807 := by unfold I6 at m6; omega
  unfold Sp.cs
  dsimp only
  by_cases h : kd < 0 ∨ 8 < kd
  · exact step_else W Q rq l F kd lv _ x m h hL hR
  · have hc : kd = 0 ∨ kd = 1 ∨ kd = 2 ∨ kd = 3 ∨ kd = 4 ∨ kd = 5 ∨ kd = 6 ∨ kd = 7 ∨ kd = 8 := by omega
    rcases hc with rfl | rfl | rfl | rfl | rfl | rfl | rfl | rfl | rfl
    · exact step_put0 W Q rq l L F lv ao n cap x m ln.symm hn i6 no sr hlow hL hR
    · exact step_put1 W Q rq l L F lv ao n cap x m ln.symm hn i6 no sr hlow hL hR
    · exact step_put2 W Q rq l L F lv ao n cap x m ln.symm hn i6 no sr hlow hL hR
    · exact step_cut W Q rq l F 3 lv _ x m (.inl rfl) x6 hL hR
    · exact step_cut W Q rq l F 4 lv _ x m (.inr rfl) x6 hL hR
    · exact step_next W Q rq l F lv _ x m hm hL hR
    · exact step_great W Q rq l F lv _ x m hL hR
    · exact step_drain W Q rq l F lv _ x m hm hL hR
    · exact step_over W Q rq l F lv _ x m x6 hL hR
/-- One that was put aside. -/
structure Od where
  Q : Nat
  l : List Rn
  ao : Option Addr
  cap : Nat
def Od.p (o : Od) : Value := .pointer (some ⟨o.Q, 0, none⟩)
def Od.v (o : Od) : Value := .slice o.ao o.l.length o.cap
structure Pj (w : World) (rq b0 Q : Nat) (l : List Rn) (vo vw : Value) (OL : List Od) (Z : World) : Prop where
  k : Kp (fun _ => False) w Z
  two : ∃ F, Lw Q l F Z ∧ (∀ i, F i → w.heap.size ≤ i) ∧ ∀ o ∈ OL, ∃ Fo, Lw o.Q o.l Fo Z ∧ ∀ i, Fo i → w.heap.size ≤ i ∧ ¬ F i
  rl : RL rq Z l
  lo : w.heap.size ≤ rq
  po : Z.ownsRow b0 30 1 vo (OL.map Od.p).length (OL.map Od.p)
  pw : Z.ownsRow b0 27 1 vw (OL.map Od.v).length (OL.map Od.v)
  pr : ∀ o ∈ OL, Srcr Z o.ao o.l ∧ Tb Z o.ao
  b0 : rq < b0 ∧ b0 ≤ Z.heap.size
theorem Pj.same {w : World} {rq b0 Q : Nat} {l : List Rn} {vo vw : Value} {OL : List Od} {Z Y : World} (p : Pj w rq b0 Q l vo vw OL Z) (k : Kp (fun _ => False) Z Y) : Pj w rq b0 Q l vo vw OL Y := by
  obtain ⟨F, h1, h2, h3⟩ := p.two
  exact ⟨p.k.trans k (fun _ _ h => h), ⟨F, h1.kp0 k, h2, fun o ho => by obtain ⟨Fo, g1, g2⟩ := h3 o ho; exact ⟨Fo, g1.kp0 k, g2⟩⟩, p.rl.kp k (fun _ h => h), p.lo, own_kp p.po k (fun _ _ h => h), own_kp p.pw k (fun _ _ h => h), fun o ho => ⟨(p.pr o ho).1.kp k (fun _ _ _ _ h => h), (p.pr o ho).2.kp k (fun _ _ _ h => h)⟩, ⟨p.b0.1, Nat.le_trans p.b0.2 k.size⟩⟩
/-- A call of the two. -/
theorem Pj.ch {w : World} {rq b0 Q : Nat} {l l' : List Rn} {vo vw : Value} {OL : List Od} {Z Y : World} {F : Nat → Prop} (p : Pj w rq b0 Q l vo vw OL Z) (hL : Lw Q l F Z) (hF : ∀ i, F i → w.heap.size ≤ i) (hO : ∀ o ∈ OL, ∃ Fo, Lw o.Q o.l Fo Z ∧ ∀ i, Fo i → w.heap.size ≤ i ∧ ¬ F i) (c : Ch F Q rq Z l' Y) : Pj w rq b0 Q l' vo vw OL Y := by
  obtain ⟨k, r, F', h1, h2⟩ := c
  have hlo := p.lo
  have n30 : ∀ g cur, Z.heap[g]? = some (.cells cur 30 (0, 0)) → ¬ (F g ∨ g = rq) := fun g cur s e => by
    rcases e with e | rfl
    · exact hL.box (t := 30) (by unfold bxt; decide) s e
    · obtain ⟨ao, cp, g1, _⟩ := p.rl.mem
      exact apart_types s g1 (by decide)
  have n27 : ∀ g cur, Z.heap[g]? = some (.cells cur 27 (0, 0)) → b0 ≤ g → ¬ (F g ∨ g = rq) := fun g cur s hb e => by
    rcases e with e | rfl
    · exact hL.box (t := 27) (by unfold bxt; decide) s e
    · have := p.b0.1; omega
  have n38 : ∀ b cur, St 38 Z b cur → ¬ (F b ∨ b = rq) := fun b cur s e => by
    rcases e with e | rfl
    · exact hL.no38 b cur s e
    · obtain ⟨ao, cp, g1, _⟩ := p.rl.mem
      exact apart_types s g1 (by decide)
  refine ⟨p.k.trans k (fun i hi e => ?_), ⟨F', h1, fun i hi => ?_, fun o ho => ?_⟩, r, hlo, own_kp p.po k (fun g e => ?_), own_kp p.pw k (fun g e => ?_), fun o ho => ⟨(p.pr o ho).1.kp k (fun b off e _ => ?_), (p.pr o ho).2.kp k n38⟩, ⟨p.b0.1, Nat.le_trans p.b0.2 k.size⟩⟩
  · rcases e with e | e
    · have := hF i e; omega
    · omega
  · rcases h2 i hi with e | e
    · exact hF i e
    · have := p.k.size; omega
  · obtain ⟨Fo, g1, g2⟩ := hO o ho
    refine ⟨Fo, g1.kp k (fun i hi e => ?_), fun i hi => ⟨(g2 i hi).1, fun e => ?_⟩⟩
    · rcases e with e | rfl
      · exact (g2 i hi).2 e
      · exact p.rl.noF g1 hi
    · rcases h2 i e with e | e
      · exact (g2 i hi).2 e
      · have := g1.lt hi; omega
  · obtain ⟨cur, hc, _⟩ := ownb p.po e
    exact n30 g cur hc
  · obtain ⟨cur, hc, hb⟩ := ownb p.pw e
    exact n27 g cur hc hb
  · obtain ⟨cur, hc⟩ := (p.pr o ho).2 b off e
    exact n38 b cur hc
/-- What changes where one is put aside: the two rows alone. -/
def Rws (vo vw : Value) (i : Nat) : Prop := vo.ownBlock = some i ∨ vw.ownBlock = some i
theorem Pj.rows {w : World} {rq b0 Q : Nat} {l : List Rn} {vo vw vo' vw' : Value} {OL : List Od} {Z Y Y2 : World} {Q2 : Nat} {F2 : Nat → Prop} {ao : Option Addr} {cap : Nat} (p : Pj w rq b0 Q l vo vw OL Z) (ha : Z.cell? ⟨rq, 0, none⟩ = some (.slice ao l.length cap)) (k : Kp (Rws vo vw) Z Y)
    (po : Y.ownsRow b0 30 1 vo' (OL.map Od.p ++ [Od.p ⟨Q, l, ao, cap⟩]).length (OL.map Od.p ++ [Od.p ⟨Q, l, ao, cap⟩])) (pw : Y.ownsRow b0 27 1 vw' (OL.map Od.v ++ [Od.v ⟨Q, l, ao, cap⟩]).length (OL.map Od.v ++ [Od.v ⟨Q, l, ao, cap⟩]))
    (k2 : Kp (fun _ => False) Y Y2) (l2 : Lw Q2 l F2 Y2) (f2 : ∀ i, F2 i → Y.heap.size ≤ i) : Pj w rq b0 Q2 l vo' vw' (OL ++ [⟨Q, l, ao, cap⟩]) Y2 := by
  obtain ⟨F, h1, h2, h3⟩ := p.two
  have hlo := p.lo
  have rb : ∀ i, Rws vo vw i → b0 ≤ i ∧ ((∃ cur, Z.heap[i]? = some (.cells cur 30 (0, 0))) ∨ ∃ cur, Z.heap[i]? = some (.cells cur 27 (0, 0))) := fun i e => by
    rcases e with e | e
    · obtain ⟨cur, hc, hb⟩ := ownb p.po e
      exact ⟨hb, .inl ⟨cur, hc⟩⟩
    · obtain ⟨cur, hc, hb⟩ := ownb p.pw e
      exact ⟨hb, .inr ⟨cur, hc⟩⟩
  have nL : ∀ {Qo lo Fo}, Lw Qo lo Fo Z → ∀ i, Fo i → ¬ Rws vo vw i := fun g i hi e => by
    rcases (rb i e).2 with ⟨cur, hc⟩ | ⟨cur, hc⟩
    · exact g.box (t := 30) (by unfold bxt; decide) hc hi
    · exact g.box (t := 27) (by unfold bxt; decide) hc hi
  have n38 : ∀ b cur, St 38 Z b cur → ¬ Rws vo vw b := fun b cur s e => by
    rcases (rb b e).2 with ⟨cur, hc⟩ | ⟨cur, hc⟩
    · exact apart_types s hc (by decide)
    · exact apart_types s hc (by decide)
  have nq : ¬ Rws vo vw rq := fun e => by have := (rb rq e).1; have := p.b0.1; omega
  have kk : Kp (Rws vo vw) Z Y2 := k.trans k2 (fun _ _ x => x.elim)
  have hsz : w.heap.size ≤ Y.heap.size := Nat.le_trans p.k.size k.size
  refine ⟨p.k.trans kk (fun i hi e => by have := (rb i e).1; have := p.b0.1; omega), ⟨F2, l2, fun i hi => Nat.le_trans hsz (f2 i hi), fun o ho => ?_⟩, p.rl.kpt kk nq n38, hlo, ?_, ?_, fun o ho => ?_, ⟨p.b0.1, Nat.le_trans p.b0.2 kk.size⟩⟩
  · rcases List.mem_append.1 ho with ho | ho
    · obtain ⟨Fo, g1, g2⟩ := h3 o ho
      refine ⟨Fo, g1.kp kk (nL g1), fun i hi => ⟨(g2 i hi).1, fun e => ?_⟩⟩
      have := f2 i e
      have := g1.lt hi
      have := k.size
      omega
    · simp only [List.mem_singleton] at ho
      subst ho
      refine ⟨F, h1.kp kk (nL h1), fun i hi => ⟨h2 i hi, fun e => ?_⟩⟩
      have := f2 i e
      have := h1.lt hi
      have := k.size
      omega
  · rw [List.map_append]
    exact own_kp po k2 (fun _ _ h => h)
  · rw [List.map_append]
    exact own_kp pw k2 (fun _ _ h => h)
  · rcases List.mem_append.1 ho with ho | ho
    · exact ⟨(p.pr o ho).1.kp kk (fun b off e _ => by obtain ⟨cur, hc⟩ := (p.pr o ho).2 b off e; exact n38 b cur hc), (p.pr o ho).2.kp kk n38⟩
    · simp only [List.mem_singleton] at ho
      subst ho
      obtain ⟨a1, c1, g1, g2, g3, g4⟩ := p.rl.mem
      have h5 : Z.cell? ⟨rq, 0, none⟩ = some (.slice a1 l.length c1) := g1.cell 0
      rw [ha] at h5
      simp only [Option.some.injEq, Value.slice.injEq] at h5
      obtain ⟨rfl, _, rfl⟩ := h5
      exact ⟨g2.kp kk (fun b off e _ => by obtain ⟨cur, hc⟩ := g3 b off e; exact n38 b cur hc), g3.kp kk n38⟩
end Go.Proofs.Ytgfondgejimkkaa

namespace Go.Proofs.Ytgfondgejimkkaa
open Go.RowKit
set_option linter.unusedVariables false
set_option linter.unusedSimpArgs false
theorem Pj.core {w : World} {rq b0 Q : Nat} {l : List Rn} {vo vw : Value} {OL : List Od} {Z Y : World} (p : Pj w rq b0 Q l vo vw OL Z) (k : Kp (Rws vo vw) Z Y) : (∀ F, Lw Q l F Z → Lw Q l F Y) ∧ RL rq Y l ∧ Y.cell? ⟨rq, 0, none⟩ = Z.cell? ⟨rq, 0, none⟩ := by
  have rb : ∀ i, Rws vo vw i → b0 ≤ i ∧ ((∃ cur, Z.heap[i]? = some (.cells cur 30 (0, 0))) ∨ ∃ cur, Z.heap[i]? = some (.cells cur 27 (0, 0))) := fun i e => by
    rcases e with e | e
    · obtain ⟨cur, hc, hb⟩ := ownb p.po e
      exact ⟨hb, .inl ⟨cur, hc⟩⟩
    · obtain ⟨cur, hc, hb⟩ := ownb p.pw e
      exact ⟨hb, .inr ⟨cur, hc⟩⟩
  have nq : ¬ Rws vo vw rq := fun e => by have := (rb rq e).1; have := p.b0.1; omega
  refine ⟨fun F g => g.kp k (fun i hi e => ?_), p.rl.kpt k nq (fun b cur s e => ?_), cell_kp k p.rl.lt nq⟩
  · rcases (rb i e).2 with ⟨cur, hc⟩ | ⟨cur, hc⟩
    · exact g.box (t := 30) (by unfold bxt; decide) hc hi
    · exact g.box (t := 27) (by unfold bxt; decide) hc hi
  · rcases (rb b e).2 with ⟨cur, hc⟩ | ⟨cur, hc⟩
    · exact apart_types s hc (by decide)
    · exact apart_types s hc (by decide)
theorem Pj.pw1 {w : World} {rq b0 Q : Nat} {l : List Rn} {vo vw : Value} {OL : List Od} {Z Y : World} (p : Pj w rq b0 Q l vo vw OL Z) (k : Kp (fun i => vo.ownBlock = some i) Z Y) : Y.ownsRow b0 27 1 vw (OL.map Od.v).length (OL.map Od.v) := own_kp p.pw k (fun g e h => by
  obtain ⟨cur, hc, _⟩ := ownb p.po h
  obtain ⟨cur2, hc2, _⟩ := ownb p.pw e
  exact apart_types hc hc2 (by decide))
set_option maxRecDepth 100000 in
set_option maxHeartbeats 8000000 in
theorem plays_short (a1 a2 : Option Addr) (n1 c1 n2 c2 : Nat) (w : World) (h : 40 < n1 ∨ 40 < n2) (hn1 : n1 ≤ 9223372036854775807) (hn2 : n2 ≤ 9223372036854775807) : Calls Try.prog 3 #[.slice a1 n1 c1, .slice a2 n2 c2] w fun e w' => e = .returned (.bool true) ∧ Kp (fun _ => False) w w' := by
  have HW := hid (works_any w)
  by_cases h2 : 40 < n2
  · have d1 : (40 : Int) < (n2 : Int) := by omega
    have d2 : decide ((40 : Int) < (n2 : Int)) = true := by simpa using d1
    go_enter Try.func3, Try.ntmps3
    go_wp2_with fail
    refine HW.out.mono ?_
    rintro e w1 ⟨rfl, b1⟩
    go_wp2_with fail
    go_ret
    exact ⟨rfl, b1⟩
  · have h1 : 40 < n1 := by omega
    have d1 : ¬ (40 : Int) < (n2 : Int) := by omega
    have d2 : decide ((40 : Int) < (n2 : Int)) = false := by simpa using d1
    have d3 : (40 : Int) < (n1 : Int) := by omega
    have d4 : decide ((40 : Int) < (n1 : Int)) = true := by simpa using d3
    go_enter Try.func3, Try.ntmps3
    go_wp2_with fail
    refine HW.out.mono ?_
    rintro e w1 ⟨rfl, b1⟩
    go_wp2_with fail
    go_ret
    exact ⟨rfl, b1⟩
set_option maxRecDepth 100000 in
set_option maxHeartbeats 8000000 in
theorem plays_bad (a1 a2 : Option Addr) (n1 c1 n2 c2 : Nat) (M : List Rn) (w : World) (hM : M.length = n1) (hn1 : n1 ≤ 40) (hn2 : n2 ≤ 40) (h6 : ∀ x ∈ M, x.i6) (hz : a1 = none → c1 = 0) (hs : Srcr w a1 M) (hb : ∃ x ∈ M, ¬ Mayr x) : Calls Try.prog 3 #[.slice a1 n1 c1, .slice a2 n2 c2] w fun e w' => e = .returned (.bool true) ∧ Kp (fun _ => False) w w' := by
  have ka : Kp (fun _ => False) w (w.alloc (.cells #[.slice none 0 0] 27)) := (Kp.refl _ _).alloc _
  have HNU := hid num_any
  have HRP := hid (rput_bad _ w.heap.size a1 n1 c1 M hM (by omega) h6 (hs.kp ka (fun _ _ _ _ h => h)) hb)
  have HNW : Hid (∀ U, Kp (fun _ => False) w U → Calls Try.prog 10 #[.slice a1 n1 c1] U fun e w' => e = .returned (.tuple #[.pointer none, .int .i64 2]) ∧ Kp (fun _ => False) U w') := fun U k => (new_w U a1 n1 c1 M hM (by omega) h6 hz (hs.kp k (fun _ _ _ _ h => h))).mono (by
    rintro e w' ⟨k2, (⟨_, h2⟩ | ⟨h1, _⟩ | ⟨h1, _⟩)⟩
    · exact ⟨h2, k2⟩
    · obtain ⟨x, hx, hn⟩ := hb; exact absurd (h1 x hx) hn
    · obtain ⟨x, hx, hn⟩ := hb; exact absurd (h1 x hx) hn)
  have KA := hid ka
  have HWK := hid works_any
  clear ka h6 hz hs hb hM
  have d1 : ¬ (40 : Int) < (n2 : Int) := by omega
  have d2 : decide ((40 : Int) < (n2 : Int)) = false := by simpa using d1
  have d3 : ¬ (40 : Int) < (n1 : Int) := by omega
  have d4 : decide ((40 : Int) < (n1 : Int)) = false := by simpa using d3
  go_enter Try.func3, Try.ntmps3
  go_wp2_with fail
  refine HRP.out.mono ?_
  rintro e w1 ⟨rfl, k1⟩
  have K1 := hid (KA.out.trans k1 (fun _ _ h => h))
  have HN1 := hid (HNW.out w1 K1.out)
  clear k1 HRP HNW
  go_wp2_with fail
  refine HN1.out.mono ?_
  rintro e w2 ⟨rfl, k2⟩
  have K2 := hid (K1.out.trans k2 (fun _ _ h => h))
  have HW2 := hid (HWK.out w2)
  clear k2 HN1 HWK
  go_wp2_with (first | (go_at_call 11; refine (HNU.out _ _).mono ?_; rintro e1 w9 ⟨rfl, rfl⟩))
  refine HW2.out.mono ?_
  rintro e w3 ⟨rfl, b3⟩
  have K3 : Hid (Kp (fun _ => False) w w3) := K2.out.trans b3 (fun _ _ h => h)
  clear b3 HW2
  go_wp2_with fail
  go_ret
  exact ⟨rfl, K3.out⟩
end Go.Proofs.Ytgfondgejimkkaa
