/- The document: Bytes. -/
import Derived.Test.YtejdmnhdjeogaaaTa
import Derived.Test.YtejdmnhdjeogaaaLaws3
import Derived.Lib.SlBytesConst
namespace Go.Proofs.Ytejdmnhdjeogaaa
open Go.RowKit
set_option linter.unusedVariables false
theorem run_append_full {P : Program} (w : World) (base : Nat) (t ty : TypeId) (i : TypeInfo) (ht : P.underlying t = some (.slice 5)) (hi : P.info? 5 = some i) (hz : i.zero = some (.int .u8 0)) (hsize : i.size = 1) (hby : i.bytes = 1)
    (g cap : Nat) (xs : List Int) (hxs : ∀ j, j < xs.length → w.cell? ⟨g, j, none⟩ = some (.int .u8 (xs.getD j 0))) (ad : Addr) (c : Nat) (news : List Int) (hsrc : Src w (some ad) news) (hp : 0 < news.length)
    (hroom : ¬ xs.length + news.length ≤ cap) (hb : xs.length + news.length ≤ 140737488355328) (hbase : base ≤ w.heap.size) :
    ∃ v' w', (Builtin.append_ #[t, t] ty #[.slice (some ⟨g, 0, none⟩) xs.length cap, .slice (some ad) news.length c]).run P w = .ok v' w' ∧ OwnI w' base v' (xs ++ news) ∧ w.grownBy w' none := by
  have hnews : ∀ j u, (news.map (Value.int .u8))[j]? = some u → w.cell? (ad.add j) = some u := srcs (by
    intro j hj
    obtain ⟨b, off, e, hc⟩ := hsrc (by omega)
    cases e
    rw [add_o]
    exact hc j hj)
  have holds : ∀ j u, (xs.map (Value.int .u8))[j]? = some u → w.cell? ((⟨g, 0, none⟩ : Addr).add j) = some u := srcs (by
    intro j hj
    rw [add_z]
    exact hxs j hj)
  have hrun := run_append_grow (P := P) w t ty 5 i (.int .u8 0) ht hi hz ⟨g, 0, none⟩ xs.length cap (xs.map (Value.int .u8)) (by simp [hsize]) holds ad news.length c (news.map (Value.int .u8)) (by simp [hsize]) hnews (by omega) (by omega) (growslice_fits (by omega) (by rw [hby]; omega))
  have hge := grownCap_ge w (xs.length + news.length) cap 5
  refine ⟨_, _, hrun, .inr ⟨w.heap.size, grownCap w (xs.length + news.length) cap 5, List.replicate (grownCap w (xs.length + news.length) cap 5 - (xs.length + news.length)) 0, by simp, hbase, ?_, by simp; omega, grownCap_le_maxLen w _ cap 5 (by unfold maxLen; omega)⟩, ⟨rfl, rfl, rfl, by simp, fun k hk _ => Below.heap_alloc w.drew _ k hk⟩⟩
  show (w.drew.alloc _).heap[w.heap.size]? = _
  rw [show w.heap.size = w.drew.heap.size from rfl, heap_alloc_new, show (Value.int IntKind.u8 0).cells = #[.int .u8 0] from rfl, show (List.map (Value.int IntKind.u8) xs).toArray ++ (List.map (Value.int IntKind.u8) news).toArray = (List.map (Value.int IntKind.u8) (xs ++ news)).toArray from by simp, arr_rest]
theorem wpList_append_full {w : World} {ops : Array Oper} {rest : List Oper} {o : Oper} {a : Act} {Q : Exit → Act → World → Prop} (hgd : o.guard = none) (s x : Operand)
    (ho : o.op = .call { callee := .builtin .append, args := #[s, x], argTypes := #[26, 26] })
    (base g cap : Nat) (n : Nat) (xs : List Int) (hs : a.eval s = .slice (some ⟨g, 0, none⟩) n cap) (hnx : xs.length = n) (hxs : ∀ j, j < xs.length → w.cell? ⟨g, j, none⟩ = some (.int .u8 (xs.getD j 0)))
    (ad : Addr) (m c : Nat) (news : List Int) (hx : a.eval x = .slice (some ad) m c) (hl : news.length = m) (hsrc : Src w (some ad) news) (hp : 0 < news.length)
    (hroom : ¬ xs.length + news.length ≤ cap) (hb : xs.length + news.length ≤ 140737488355328) (hbase : base ≤ w.heap.size)
    (h : ∀ v' w', OwnI w' base v' (xs ++ news) → Below base w w' → wpList Try.prog ops Q rest (a.put o.dst v') w') : wpList Try.prog ops Q (o :: rest) a w := by
  obtain ⟨i0, hi, hz0, hz1, hz2⟩ := info_parts Try.info5
  subst hl hnx
  refine wpList_plain hgd fun K hK => ?_
  obtain ⟨v', w', hrun, h1, h2⟩ := run_append_full (P := Try.prog) w base 26 o.type i0 Try.underlying26 hi hz0 hz1 hz2 g cap xs hxs ad c news hsrc hp hroom hb hbase
  unfold Oper.wp execOp
  simp only [ho, resolve, invoke, builtin, Sem.run_bind, Sem.run_pure, Result.andThen_ok, List.map_toArray, List.map_cons, List.map_nil, hs, hx, hrun]
  exact hK _ _ (h v' w' h1 (below_of_grown h2 _ hbase fun k hk => by cases hk))
def lenV : Value → Nat
  | .slice _ n _ => n
  | _ => 0
theorem pre_le (h : Hd) {k : Nat} (hk : k ≤ 14) : (pre h k).length ≤ 84 := by
  rw [pre_len h hk]
  by_cases e : k = 14
  · subst e; decide
  · have := pos_le (show k < 14 by omega); omega
set_option maxRecDepth 100000 in
set_option maxHeartbeats 8000000 in
theorem rbytes (h : Hd) (w : World) (m : May h) (hf : 0 ≤ h.flags) : Calls Try.prog 14 #[.agg h.cs] w fun e w' => ∃ v, e = .returned v ∧ OwnI w' (w.heap.size + 1) v (secL h) ∧ Kp (fun _ => False) w w' := by
  have HB := hid (Hb.new w h)
  have HK : Hid (Kp (fun _ => False) w (w.alloc (.cells h.cs 24))) := (Kp.refl _ _).alloc _
  have hz : (w.alloc (.cells h.cs 24)).heap.size = w.heap.size + 1 := by simp
  have MM := hid m
  clear m
  have x0 : 0 ≤ h.bits ∧ h.bits ≤ 268435456 := xk_small MM.out hf (show 0 < 14 by omega)
  have x1 : 0 ≤ h.flags ∧ h.flags ≤ 268435456 := xk_small MM.out hf (show 1 < 14 by omega)
  have x2 : 0 ≤ h.size ∧ h.size ≤ 268435456 := xk_small MM.out hf (show 2 < 14 by omega)
  have x3 : 0 ≤ h.l1 ∧ h.l1 ≤ 268435456 := xk_small MM.out hf (show 3 < 14 by omega)
  have x4 : 0 ≤ h.l1len ∧ h.l1len ≤ 268435456 := xk_small MM.out hf (show 4 < 14 by omega)
  have x5 : 0 ≤ h.order ∧ h.order ≤ 268435456 := xk_small MM.out hf (show 5 < 14 by omega)
  have x6 : 0 ≤ h.counts ∧ h.counts ≤ 268435456 := xk_small MM.out hf (show 6 < 14 by omega)
  have x7 : 0 ≤ h.countslen ∧ h.countslen ≤ 268435456 := xk_small MM.out hf (show 7 < 14 by omega)
  have x8 : 0 ≤ h.snaps ∧ h.snaps ≤ 268435456 := xk_small MM.out hf (show 8 < 14 by omega)
  have x9 : 0 ≤ h.snapsat ∧ h.snapsat ≤ 268435456 := xk_small MM.out hf (show 9 < 14 by omega)
  have x10 : 0 ≤ h.snapslen ∧ h.snapslen ≤ 268435456 := xk_small MM.out hf (show 10 < 14 by omega)
  have x11 : 0 ≤ h.maps ∧ h.maps ≤ 268435456 := xk_small MM.out hf (show 11 < 14 by omega)
  have x12 : 0 ≤ h.mapsat ∧ h.mapsat ≤ 268435456 := xk_small MM.out hf (show 12 < 14 by omega)
  have x13 : 0 ≤ h.mapslen ∧ h.mapslen ≤ 268435456 := xk_small MM.out hf (show 13 < 14 by omega)
  have hcv := Go.Lib.run_convert_bytes_const (P := Try.prog) (w.alloc (.cells h.cs 24)) 26 5 #[.int .u8 80, .int .u8 65, .int .u8 76, .int .u8 49] 4 4 Try.underlying26 Try.underlying5
  have b0 : Below (w.heap.size + 1) (w.alloc (.cells h.cs 24)) ((w.alloc (.cells h.cs 24)).alloc (.cells #[.int .u8 80, .int .u8 65, .int .u8 76, .int .u8 49] 5 (4, 5))) := (Below.refl _ _).alloc (by rw [hz]; exact Nat.le_refl _) _
  have hblk : ((w.alloc (.cells h.cs 24)).alloc (.cells #[.int .u8 80, .int .u8 65, .int .u8 76, .int .u8 49] 5 (4, 5))).heap[w.heap.size + 1]? = some (.cells #[.int .u8 80, .int .u8 65, .int .u8 76, .int .u8 49] 5 (4, 5)) := by rw [← hz]; exact heap_alloc_new _ _
  have CE : Hid (∀ i, i < (pre h 0).length → ((w.alloc (.cells h.cs 24)).alloc (.cells #[.int .u8 80, .int .u8 65, .int .u8 76, .int .u8 49] 5 (4, 5))).cell? ⟨w.heap.size + 1, i, none⟩ = some (.int .u8 ((pre h 0).getD i 0))) := fun i hi => by
    rw [cell_of_row _ _ i _ 5 _ hblk]
    have hi4 : i < 4 := hi
    have : i = 0 ∨ i = 1 ∨ i = 2 ∨ i = 3 := by omega
    rcases this with rfl | rfl | rfl | rfl <;> rfl
  have B0 := hid b0
  have C0 : ((w.alloc (.cells h.cs 24)).alloc (.cells #[.int .u8 80, .int .u8 65, .int .u8 76, .int .u8 49] 5 (4, 5))).cell? ⟨w.heap.size, 0, none⟩ = some (.int .i64 h.bits) := (St.below HB.out b0 (by omega)).cell 0
  have sz : ((w.alloc (.cells h.cs 24)).alloc (.cells #[.int .u8 80, .int .u8 65, .int .u8 76, .int .u8 49] 5 (4, 5))).heap.size = w.heap.size + 1 + 1 := by simp
  rw [hz] at hcv
  clear b0 hblk
  go_enter Try.func14, Try.ntmps14
  go_wp2_with fail
  generalize hW : w.alloc (.cells h.cs 24) = W at *
  generalize hU : W.alloc (.cells #[.int .u8 80, .int .u8 65, .int .u8 76, .int .u8 49] 5 (4, 5)) = u0 at *
  generalize hBB : w.heap.size = B at *
  have Z0 : Hid (B + 1 ≤ u0.heap.size) := by show _ ≤ _; omega
  clear hW hU sz hcv
  refine (number_own (xk h 0) 4 _ x0.1 (by have : xk h 0 = h.bits := rfl; omega) (by omega) (by omega)).mono ?_
  rintro e a0 ⟨g0, c0, rfl, s0, n0⟩
  have N0 : Hid (Below (B + 1) u0 a0) := n0.mono Z0.out
  have P0 : Hid (∀ i, i < (pre h 0).length → a0.cell? ⟨B + 1, i, none⟩ = some (.int .u8 ((pre h 0).getD i 0))) := fun i hi => (by rw [← CE.out i hi]; exact n0.cell (block_lt_of_cell (CE.out i hi)))
  have Y0 : Hid (B + 1 ≤ a0.heap.size) := Nat.le_trans Z0.out n0.size
  have S0 := hid s0
  clear s0 n0 C0
  have R1 : Hid (0 < (num (xk h 0) 4).length) := by show _ < _; rw [num_length]; decide
  have R2 : Hid (¬ (pre h 0).length + (num (xk h 0) 4).length ≤ 4) := by show ¬ _; rw [num_length, pre_len h (by omega)]; decide
  have R3 : Hid ((pre h 0).length + (num (xk h 0) 4).length ≤ 140737488355328) := by show _ ≤ _; rw [num_length, pre_len h (by omega)]; decide
  go_wp2_with (at_builtin; refine wpList_append_full rfl (.tmp 6) (.tmp 10) rfl (B + 1) (B + 1) 4 4 (pre h 0) rfl rfl P0.out _ _ _ (num (xk h 0) 4) rfl (num_length _ _) S0.out R1.out R2.out R3.out Y0.out ?_; intro v1 u1 o1 b1; have O1 : Hid (OwnI u1 (B + 1) v1 (pre h (0 + 1))) := (by rw [pre_step h (show 0 < 14 by omega)]; exact o1); have B1 := hid ((B0.out.trans N0.out).trans b1); have Z1 : Hid (B + 1 ≤ u1.heap.size) := Nat.le_trans Y0.out b1.size; have C1 : u1.cell? ⟨B, 1, none⟩ = some (.int .u64 h.flags) := (St.below HB.out B1.out (by omega)).cell 1; clear o1 b1)
  clear P0 Y0 S0 N0 CE B0 Z0
  refine (number_own (xk h 1) 8 _ x1.1 (by have : xk h 1 = h.flags := rfl; omega) (by omega) (by omega)).mono ?_
  rintro e a1 ⟨g1, c1, rfl, s1, n1⟩
  have N1 : Hid (Below (B + 1) u1 a1) := n1.mono Z1.out
  have P1 := hid (O1.out.below n1)
  have Y1 : Hid (B + 1 ≤ a1.heap.size) := Nat.le_trans Z1.out n1.size
  have S1 := hid s1
  clear s1 n1 C1
  go_wp2_with (at_builtin; refine wpList_append_i rfl (.tmp 12) (.tmp 15) rfl (B + 1) v1 (pre h 1) rfl P1.out _ _ _ (num (xk h 1) 8) rfl (num_length _ _) (fun e => by cases e) S1.out (by have h1 := pre_le h (show 1 ≤ 14 by omega); rw [num_length]; omega) Y1.out ?_; intro v2 u2 o2 q2 b2; have O2 : Hid (OwnI u2 (B + 1) v2 (pre h (1 + 1))) := (by rw [pre_step h (show 1 < 14 by omega)]; exact o2); have B2 := hid ((B1.out.trans N1.out).trans b2); have Z2 : Hid (B + 1 ≤ u2.heap.size) := Nat.le_trans Y1.out b2.size; have C2 : u2.cell? ⟨B, 2, none⟩ = some (.int .i64 h.size) := (St.below HB.out B2.out (by omega)).cell 2; clear o2 q2 b2)
  clear P1 Y1 S1 N1 O1 B1 Z1
  refine (number_own (xk h 2) 8 _ x2.1 (by have : xk h 2 = h.size := rfl; omega) (by omega) (by omega)).mono ?_
  rintro e a2 ⟨g2, c2, rfl, s2, n2⟩
  have N2 : Hid (Below (B + 1) u2 a2) := n2.mono Z2.out
  have P2 := hid (O2.out.below n2)
  have Y2 : Hid (B + 1 ≤ a2.heap.size) := Nat.le_trans Z2.out n2.size
  have S2 := hid s2
  clear s2 n2 C2
  go_wp2_with (at_builtin; refine wpList_append_i rfl (.tmp 17) (.tmp 21) rfl (B + 1) v2 (pre h 2) rfl P2.out _ _ _ (num (xk h 2) 8) rfl (num_length _ _) (fun e => by cases e) S2.out (by have h1 := pre_le h (show 2 ≤ 14 by omega); rw [num_length]; omega) Y2.out ?_; intro v3 u3 o3 q3 b3; have O3 : Hid (OwnI u3 (B + 1) v3 (pre h (2 + 1))) := (by rw [pre_step h (show 2 < 14 by omega)]; exact o3); have B3 := hid ((B2.out.trans N2.out).trans b3); have Z3 : Hid (B + 1 ≤ u3.heap.size) := Nat.le_trans Y2.out b3.size; have C3 : u3.cell? ⟨B, 3, none⟩ = some (.int .i64 h.l1) := (St.below HB.out B3.out (by omega)).cell 3; clear o3 q3 b3)
  clear P2 Y2 S2 N2 O2 B2 Z2
  refine (number_own (xk h 3) 8 _ x3.1 (by have : xk h 3 = h.l1 := rfl; omega) (by omega) (by omega)).mono ?_
  rintro e a3 ⟨g3, c3, rfl, s3, n3⟩
  have N3 : Hid (Below (B + 1) u3 a3) := n3.mono Z3.out
  have P3 := hid (O3.out.below n3)
  have Y3 : Hid (B + 1 ≤ a3.heap.size) := Nat.le_trans Z3.out n3.size
  have S3 := hid s3
  clear s3 n3 C3
  go_wp2_with (at_builtin; refine wpList_append_i rfl (.tmp 23) (.tmp 27) rfl (B + 1) v3 (pre h 3) rfl P3.out _ _ _ (num (xk h 3) 8) rfl (num_length _ _) (fun e => by cases e) S3.out (by have h1 := pre_le h (show 3 ≤ 14 by omega); rw [num_length]; omega) Y3.out ?_; intro v4 u4 o4 q4 b4; have O4 : Hid (OwnI u4 (B + 1) v4 (pre h (3 + 1))) := (by rw [pre_step h (show 3 < 14 by omega)]; exact o4); have B4 := hid ((B3.out.trans N3.out).trans b4); have Z4 : Hid (B + 1 ≤ u4.heap.size) := Nat.le_trans Y3.out b4.size; have C4 : u4.cell? ⟨B, 4, none⟩ = some (.int .i64 h.l1len) := (St.below HB.out B4.out (by omega)).cell 4; clear o4 q4 b4)
  clear P3 Y3 S3 N3 O3 B3 Z3
  refine (number_own (xk h 4) 4 _ x4.1 (by have : xk h 4 = h.l1len := rfl; omega) (by omega) (by omega)).mono ?_
  rintro e a4 ⟨g4, c4, rfl, s4, n4⟩
  have N4 : Hid (Below (B + 1) u4 a4) := n4.mono Z4.out
  have P4 := hid (O4.out.below n4)
  have Y4 : Hid (B + 1 ≤ a4.heap.size) := Nat.le_trans Z4.out n4.size
  have S4 := hid s4
  clear s4 n4 C4
  go_wp2_with (at_builtin; refine wpList_append_i rfl (.tmp 29) (.tmp 33) rfl (B + 1) v4 (pre h 4) rfl P4.out _ _ _ (num (xk h 4) 4) rfl (num_length _ _) (fun e => by cases e) S4.out (by have h1 := pre_le h (show 4 ≤ 14 by omega); rw [num_length]; omega) Y4.out ?_; intro v5 u5 o5 q5 b5; have O5 : Hid (OwnI u5 (B + 1) v5 (pre h (4 + 1))) := (by rw [pre_step h (show 4 < 14 by omega)]; exact o5); have B5 := hid ((B4.out.trans N4.out).trans b5); have Z5 : Hid (B + 1 ≤ u5.heap.size) := Nat.le_trans Y4.out b5.size; have C5 : u5.cell? ⟨B, 5, none⟩ = some (.int .i64 h.order) := (St.below HB.out B5.out (by omega)).cell 5; clear o5 q5 b5)
  clear P4 Y4 S4 N4 O4 B4 Z4
  refine (number_own (xk h 5) 4 _ x5.1 (by have : xk h 5 = h.order := rfl; omega) (by omega) (by omega)).mono ?_
  rintro e a5 ⟨g5, c5, rfl, s5, n5⟩
  have N5 : Hid (Below (B + 1) u5 a5) := n5.mono Z5.out
  have P5 := hid (O5.out.below n5)
  have Y5 : Hid (B + 1 ≤ a5.heap.size) := Nat.le_trans Z5.out n5.size
  have S5 := hid s5
  clear s5 n5 C5
  go_wp2_with (at_builtin; refine wpList_append_i rfl (.tmp 35) (.tmp 39) rfl (B + 1) v5 (pre h 5) rfl P5.out _ _ _ (num (xk h 5) 4) rfl (num_length _ _) (fun e => by cases e) S5.out (by have h1 := pre_le h (show 5 ≤ 14 by omega); rw [num_length]; omega) Y5.out ?_; intro v6 u6 o6 q6 b6; have O6 : Hid (OwnI u6 (B + 1) v6 (pre h (5 + 1))) := (by rw [pre_step h (show 5 < 14 by omega)]; exact o6); have B6 := hid ((B5.out.trans N5.out).trans b6); have Z6 : Hid (B + 1 ≤ u6.heap.size) := Nat.le_trans Y5.out b6.size; have C6 : u6.cell? ⟨B, 6, none⟩ = some (.int .i64 h.counts) := (St.below HB.out B6.out (by omega)).cell 6; clear o6 q6 b6)
  clear P5 Y5 S5 N5 O5 B5 Z5
  refine (number_own (xk h 6) 8 _ x6.1 (by have : xk h 6 = h.counts := rfl; omega) (by omega) (by omega)).mono ?_
  rintro e a6 ⟨g6, c6, rfl, s6, n6⟩
  have N6 : Hid (Below (B + 1) u6 a6) := n6.mono Z6.out
  have P6 := hid (O6.out.below n6)
  have Y6 : Hid (B + 1 ≤ a6.heap.size) := Nat.le_trans Z6.out n6.size
  have S6 := hid s6
  clear s6 n6 C6
  go_wp2_with (at_builtin; refine wpList_append_i rfl (.tmp 41) (.tmp 45) rfl (B + 1) v6 (pre h 6) rfl P6.out _ _ _ (num (xk h 6) 8) rfl (num_length _ _) (fun e => by cases e) S6.out (by have h1 := pre_le h (show 6 ≤ 14 by omega); rw [num_length]; omega) Y6.out ?_; intro v7 u7 o7 q7 b7; have O7 : Hid (OwnI u7 (B + 1) v7 (pre h (6 + 1))) := (by rw [pre_step h (show 6 < 14 by omega)]; exact o7); have B7 := hid ((B6.out.trans N6.out).trans b7); have Z7 : Hid (B + 1 ≤ u7.heap.size) := Nat.le_trans Y6.out b7.size; have C7 : u7.cell? ⟨B, 7, none⟩ = some (.int .i64 h.countslen) := (St.below HB.out B7.out (by omega)).cell 7; clear o7 q7 b7)
  clear P6 Y6 S6 N6 O6 B6 Z6
  refine (number_own (xk h 7) 4 _ x7.1 (by have : xk h 7 = h.countslen := rfl; omega) (by omega) (by omega)).mono ?_
  rintro e a7 ⟨g7, c7, rfl, s7, n7⟩
  have N7 : Hid (Below (B + 1) u7 a7) := n7.mono Z7.out
  have P7 := hid (O7.out.below n7)
  have Y7 : Hid (B + 1 ≤ a7.heap.size) := Nat.le_trans Z7.out n7.size
  have S7 := hid s7
  clear s7 n7 C7
  go_wp2_with (at_builtin; refine wpList_append_i rfl (.tmp 47) (.tmp 51) rfl (B + 1) v7 (pre h 7) rfl P7.out _ _ _ (num (xk h 7) 4) rfl (num_length _ _) (fun e => by cases e) S7.out (by have h1 := pre_le h (show 7 ≤ 14 by omega); rw [num_length]; omega) Y7.out ?_; intro v8 u8 o8 q8 b8; have O8 : Hid (OwnI u8 (B + 1) v8 (pre h (7 + 1))) := (by rw [pre_step h (show 7 < 14 by omega)]; exact o8); have B8 := hid ((B7.out.trans N7.out).trans b8); have Z8 : Hid (B + 1 ≤ u8.heap.size) := Nat.le_trans Y7.out b8.size; have C8 : u8.cell? ⟨B, 8, none⟩ = some (.int .i64 h.snaps) := (St.below HB.out B8.out (by omega)).cell 8; clear o8 q8 b8)
  clear P7 Y7 S7 N7 O7 B7 Z7
  refine (number_own (xk h 8) 4 _ x8.1 (by have : xk h 8 = h.snaps := rfl; omega) (by omega) (by omega)).mono ?_
  rintro e a8 ⟨g8, c8, rfl, s8, n8⟩
  have N8 : Hid (Below (B + 1) u8 a8) := n8.mono Z8.out
  have P8 := hid (O8.out.below n8)
  have Y8 : Hid (B + 1 ≤ a8.heap.size) := Nat.le_trans Z8.out n8.size
  have S8 := hid s8
  clear s8 n8 C8
  go_wp2_with (at_builtin; refine wpList_append_i rfl (.tmp 53) (.tmp 57) rfl (B + 1) v8 (pre h 8) rfl P8.out _ _ _ (num (xk h 8) 4) rfl (num_length _ _) (fun e => by cases e) S8.out (by have h1 := pre_le h (show 8 ≤ 14 by omega); rw [num_length]; omega) Y8.out ?_; intro v9 u9 o9 q9 b9; have O9 : Hid (OwnI u9 (B + 1) v9 (pre h (8 + 1))) := (by rw [pre_step h (show 8 < 14 by omega)]; exact o9); have B9 := hid ((B8.out.trans N8.out).trans b9); have Z9 : Hid (B + 1 ≤ u9.heap.size) := Nat.le_trans Y8.out b9.size; have C9 : u9.cell? ⟨B, 9, none⟩ = some (.int .i64 h.snapsat) := (St.below HB.out B9.out (by omega)).cell 9; clear o9 q9 b9)
  clear P8 Y8 S8 N8 O8 B8 Z8
  refine (number_own (xk h 9) 8 _ x9.1 (by have : xk h 9 = h.snapsat := rfl; omega) (by omega) (by omega)).mono ?_
  rintro e a9 ⟨g9, c9, rfl, s9, n9⟩
  have N9 : Hid (Below (B + 1) u9 a9) := n9.mono Z9.out
  have P9 := hid (O9.out.below n9)
  have Y9 : Hid (B + 1 ≤ a9.heap.size) := Nat.le_trans Z9.out n9.size
  have S9 := hid s9
  clear s9 n9 C9
  go_wp2_with (at_builtin; refine wpList_append_i rfl (.tmp 59) (.tmp 63) rfl (B + 1) v9 (pre h 9) rfl P9.out _ _ _ (num (xk h 9) 8) rfl (num_length _ _) (fun e => by cases e) S9.out (by have h1 := pre_le h (show 9 ≤ 14 by omega); rw [num_length]; omega) Y9.out ?_; intro v10 u10 o10 q10 b10; have O10 : Hid (OwnI u10 (B + 1) v10 (pre h (9 + 1))) := (by rw [pre_step h (show 9 < 14 by omega)]; exact o10); have B10 := hid ((B9.out.trans N9.out).trans b10); have Z10 : Hid (B + 1 ≤ u10.heap.size) := Nat.le_trans Y9.out b10.size; have C10 : u10.cell? ⟨B, 10, none⟩ = some (.int .i64 h.snapslen) := (St.below HB.out B10.out (by omega)).cell 10; clear o10 q10 b10)
  clear P9 Y9 S9 N9 O9 B9 Z9
  refine (number_own (xk h 10) 4 _ x10.1 (by have : xk h 10 = h.snapslen := rfl; omega) (by omega) (by omega)).mono ?_
  rintro e a10 ⟨g10, c10, rfl, s10, n10⟩
  have N10 : Hid (Below (B + 1) u10 a10) := n10.mono Z10.out
  have P10 := hid (O10.out.below n10)
  have Y10 : Hid (B + 1 ≤ a10.heap.size) := Nat.le_trans Z10.out n10.size
  have S10 := hid s10
  clear s10 n10 C10
  go_wp2_with (at_builtin; refine wpList_append_i rfl (.tmp 65) (.tmp 69) rfl (B + 1) v10 (pre h 10) rfl P10.out _ _ _ (num (xk h 10) 4) rfl (num_length _ _) (fun e => by cases e) S10.out (by have h1 := pre_le h (show 10 ≤ 14 by omega); rw [num_length]; omega) Y10.out ?_; intro v11 u11 o11 q11 b11; have O11 : Hid (OwnI u11 (B + 1) v11 (pre h (10 + 1))) := (by rw [pre_step h (show 10 < 14 by omega)]; exact o11); have B11 := hid ((B10.out.trans N10.out).trans b11); have Z11 : Hid (B + 1 ≤ u11.heap.size) := Nat.le_trans Y10.out b11.size; have C11 : u11.cell? ⟨B, 11, none⟩ = some (.int .i64 h.maps) := (St.below HB.out B11.out (by omega)).cell 11; clear o11 q11 b11)
  clear P10 Y10 S10 N10 O10 B10 Z10
  refine (number_own (xk h 11) 4 _ x11.1 (by have : xk h 11 = h.maps := rfl; omega) (by omega) (by omega)).mono ?_
  rintro e a11 ⟨g11, c11, rfl, s11, n11⟩
  have N11 : Hid (Below (B + 1) u11 a11) := n11.mono Z11.out
  have P11 := hid (O11.out.below n11)
  have Y11 : Hid (B + 1 ≤ a11.heap.size) := Nat.le_trans Z11.out n11.size
  have S11 := hid s11
  clear s11 n11 C11
  go_wp2_with (at_builtin; refine wpList_append_i rfl (.tmp 71) (.tmp 75) rfl (B + 1) v11 (pre h 11) rfl P11.out _ _ _ (num (xk h 11) 4) rfl (num_length _ _) (fun e => by cases e) S11.out (by have h1 := pre_le h (show 11 ≤ 14 by omega); rw [num_length]; omega) Y11.out ?_; intro v12 u12 o12 q12 b12; have O12 : Hid (OwnI u12 (B + 1) v12 (pre h (11 + 1))) := (by rw [pre_step h (show 11 < 14 by omega)]; exact o12); have B12 := hid ((B11.out.trans N11.out).trans b12); have Z12 : Hid (B + 1 ≤ u12.heap.size) := Nat.le_trans Y11.out b12.size; have C12 : u12.cell? ⟨B, 12, none⟩ = some (.int .i64 h.mapsat) := (St.below HB.out B12.out (by omega)).cell 12; clear o12 q12 b12)
  clear P11 Y11 S11 N11 O11 B11 Z11
  refine (number_own (xk h 12) 8 _ x12.1 (by have : xk h 12 = h.mapsat := rfl; omega) (by omega) (by omega)).mono ?_
  rintro e a12 ⟨g12, c12, rfl, s12, n12⟩
  have N12 : Hid (Below (B + 1) u12 a12) := n12.mono Z12.out
  have P12 := hid (O12.out.below n12)
  have Y12 : Hid (B + 1 ≤ a12.heap.size) := Nat.le_trans Z12.out n12.size
  have S12 := hid s12
  clear s12 n12 C12
  go_wp2_with (at_builtin; refine wpList_append_i rfl (.tmp 77) (.tmp 81) rfl (B + 1) v12 (pre h 12) rfl P12.out _ _ _ (num (xk h 12) 8) rfl (num_length _ _) (fun e => by cases e) S12.out (by have h1 := pre_le h (show 12 ≤ 14 by omega); rw [num_length]; omega) Y12.out ?_; intro v13 u13 o13 q13 b13; have O13 : Hid (OwnI u13 (B + 1) v13 (pre h (12 + 1))) := (by rw [pre_step h (show 12 < 14 by omega)]; exact o13); have B13 := hid ((B12.out.trans N12.out).trans b13); have Z13 : Hid (B + 1 ≤ u13.heap.size) := Nat.le_trans Y12.out b13.size; have C13 : u13.cell? ⟨B, 13, none⟩ = some (.int .i64 h.mapslen) := (St.below HB.out B13.out (by omega)).cell 13; clear o13 q13 b13)
  clear P12 Y12 S12 N12 O12 B12 Z12
  refine (number_own (xk h 13) 4 _ x13.1 (by have : xk h 13 = h.mapslen := rfl; omega) (by omega) (by omega)).mono ?_
  rintro e a13 ⟨g13, c13, rfl, s13, n13⟩
  have N13 : Hid (Below (B + 1) u13 a13) := n13.mono Z13.out
  have P13 := hid (O13.out.below n13)
  have Y13 : Hid (B + 1 ≤ a13.heap.size) := Nat.le_trans Z13.out n13.size
  have S13 := hid s13
  clear s13 n13 C13
  go_wp2_with (at_builtin; refine wpList_append_i rfl (.tmp 83) (.tmp 87) rfl (B + 1) v13 (pre h 13) rfl P13.out _ _ _ (num (xk h 13) 4) rfl (num_length _ _) (fun e => by cases e) S13.out (by have h1 := pre_le h (show 13 ≤ 14 by omega); rw [num_length]; omega) Y13.out ?_; intro v14 u14 o14 q14 b14; have O14 : Hid (OwnI u14 (B + 1) v14 (pre h (13 + 1))) := (by rw [pre_step h (show 13 < 14 by omega)]; exact o14); have B14 := hid ((B13.out.trans N13.out).trans b14); have Z14 : Hid (B + 1 ≤ u14.heap.size) := Nat.le_trans Y13.out b14.size; have C14 : u14.cell? ⟨B, 14, none⟩ = some (.string h.name) := (St.below HB.out B14.out (by omega)).cell 14; clear o14 q14 b14)
  clear P13 Y13 S13 N13 O13 B13 Z13
  have hl := MM.out.long
  rw [show IntKind.u64.wrap (h.name.size : Int) = (h.name.size : Int) by rw [IntKind.wrap_u64]; omega]
  refine (number_own (h.name.size : Int) 4 _ (by omega) (by omega) (by omega) (by omega)).mono ?_
  rintro e a14 ⟨g14, c14, rfl, s14, n14⟩
  have N14 : Hid (Below (B + 1) u14 a14) := n14.mono Z14.out
  have P14 := hid (O14.out.below n14)
  have Y14 : Hid (B + 1 ≤ a14.heap.size) := Nat.le_trans Z14.out n14.size
  have S14 := hid s14
  clear s14 n14 C14
  have hp84 : (pre h 14).length = 84 := pre_len h (by omega)
  have HP84 := hid hp84
  clear hp84
  have hnm := byts_length h.name
  have HNM := hid hnm
  clear hnm
  go_wp2_with (first | (at_builtin; refine wpList_append_i rfl (.tmp 89) (.tmp 94) rfl (B + 1) v14 (pre h 14) rfl P14.out _ _ _ (num h.name.size 4) rfl (num_length _ _) (fun e => by cases e) S14.out (by rw [num_length, HP84.out]; omega) Y14.out ?_; intro v15 u15 o15 q15 b15; have B15 := hid ((B14.out.trans N14.out).trans b15); have Z15 : Hid (B + 1 ≤ u15.heap.size) := Nat.le_trans Y14.out b15.size; have C15 : u15.cell? ⟨B, 14, none⟩ = some (.string h.name) := (St.below HB.out B15.out (by omega)).cell 14; obtain ⟨g15, cap15, tl15, rfl, hg15, hr15, h315, h415⟩ := o15.some (by rw [List.length_append, num_length]; omega); have HR15 := hid hr15; have H315 := hid h315; clear q15 b15 hr15 h315 o15) | (at_builtin; refine wpList_append_str rfl (.tmp 96) (.tmp 98) rfl (B + 1) g15 cap15 (pre h 14 ++ num h.name.size 4) tl15 h.name rfl rfl hg15 HR15.out H315.out h415 (by rw [List.length_append, num_length, HP84.out]; omega) Z15.out ?_; intro v16 u16 o16 b16; have O16 := hid o16; have B16 := hid (B15.out.trans b16); have Z16 : Hid (B + 1 ≤ u16.heap.size) := Nat.le_trans Z15.out b16.size; clear o16 b16))
  obtain ⟨X, hX⟩ : ∃ X, X = pre h 14 ++ num h.name.size 4 ++ byts h.name := ⟨_, rfl⟩
  have hXl : X.length = 88 + h.name.size := by rw [hX, List.length_append, List.length_append, num_length, HP84.out, HNM.out]
  have HX := hid hX
  rw [← hX] at O16
  clear hX HR15 H315 P14 Y14 S14 N14 O14 B14 Z14 B15 Z15 C15
  have HXL := hid hXl
  clear hXl
  have HEND : Hid (X ++ List.replicate (512 - (88 + h.name.size)) 0 = secL h) := (by show _ = _; rw [HX.out]; unfold secL; rw [show 512 - (88 + h.name.size) = 424 - h.name.size by omega]; simp only [List.append_assoc])
  go_loopw [3] (fun v wr => ∃ n : Nat, 88 + h.name.size ≤ n ∧ n ≤ 512 ∧ lenV v = n ∧ OwnI wr (B + 1) v (X ++ List.replicate (n - (88 + h.name.size)) 0) ∧ Below (B + 1) W wr) (fun v _ => 512 - lenV v)
  case atStart =>
    refine ⟨88 + h.name.size, Nat.le_refl _, by omega, ?_, ?_, B16.out⟩
    · obtain ⟨g1, c1, t1, e1, _⟩ := O16.out.some (by rw [HXL.out]; omega)
      rw [e1]
      exact HXL.out
    · rw [Nat.sub_self, List.replicate_zero, List.append_nil]
      exact O16.out
  case round =>
    obtain ⟨n, hn0, hn1, hlv, hown, hbel⟩ := hrel
    obtain ⟨gk, capk, tlk, rfl, hgk, hrk, h3k, h4k⟩ := hown.some (by rw [List.length_append, HXL.out]; omega)
    have hlv2 : (X ++ List.replicate (n - (88 + h.name.size)) 0).length = n := hlv
    have HBE := hid hbel
    have hge : B + 1 ≤ wr.heap.size := by have := hbel.size; omega
    have HOW := hid hown
    have HLV := hid hlv2
    rw [hlv2] at HOW ⊢
    clear hown hbel hrk h3k hlv hlv2
    have HALL : Hid (OwnI (wr.alloc (.cells #[.int .u8 0] 5)) (B + 1) (.slice (some ⟨gk, 0, none⟩) n capk) (X ++ List.replicate (n - (88 + h.name.size)) 0)) := HOW.out.below ((Below.refl _ _).alloc (Nat.le_refl _) _)
    have HSR : Hid (Src (wr.alloc (.cells #[.int .u8 0] 5)) (some ⟨wr.heap.size, 0, none⟩) [0]) := Src.mk (Rw.new 5 wr [0]).cells
    have HGE : Hid (B + 1 ≤ (wr.alloc (.cells #[.int .u8 0] 5)).heap.size) := (by show _ ≤ _; simp; omega)
    have HB2 : Hid (Below (B + 1) W (wr.alloc (.cells #[.int .u8 0] 5))) := HBE.out.alloc hge _
    by_cases hk2 : n < 512
    · have hki : (n : Int) < 512 := by omega
      go_wp2_with (at_builtin; refine wpList_append_i rfl (.tmp 103) (.tmp 104) rfl (B + 1) (.slice (some ⟨gk, 0, none⟩) n capk) (X ++ List.replicate (n - (88 + h.name.size)) 0) rfl HALL.out _ 1 _ [0] rfl rfl (fun e => by cases e) HSR.out (by rw [HLV.out]; simp; omega) HGE.out ?_; intro v' u' o' q' b')
      refine ⟨⟨n + 1, by omega, by omega, ?_, ?_, HB2.out.trans b'⟩, ?_⟩
      · obtain ⟨g1, c1, t1, e1, _⟩ := o'.some (by rw [List.length_append]; exact Nat.lt_of_lt_of_le (show 0 < 1 by decide) (Nat.le_add_left 1 _))
        rw [e1]
        show _ = _
        rw [List.length_append, HLV.out]
        rfl
      · rw [show n + 1 - (88 + h.name.size) = (n - (88 + h.name.size)) + 1 by omega, List.replicate_succ', ← List.append_assoc]
        exact o'
      · obtain ⟨g1, c1, t1, e1, _⟩ := o'.some (by rw [List.length_append]; exact Nat.lt_of_lt_of_le (show 0 < 1 by decide) (Nat.le_add_left 1 _))
        rw [e1]
        show 512 - (X ++ List.replicate (n - (88 + h.name.size)) 0 ++ [0]).length < 512 - n
        rw [List.length_append, HLV.out]
        simp
        omega
    · have hki : ¬ (n : Int) < 512 := by omega
      go_wp2_with fail
      go_ret
      refine ⟨_, rfl, ?_, HK.out.trans (Kp.of_below (by rw [hz]; exact HBE.out)) (fun _ _ x => x)⟩
      have e5 : n = 512 := by omega
      rw [← HEND.out, ← e5]
      exact HOW.out
end Go.Proofs.Ytejdmnhdjeogaaa
