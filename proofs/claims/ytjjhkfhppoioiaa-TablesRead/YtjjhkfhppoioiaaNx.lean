/- tables: the document's take and number; what bytes are a list's, step by step. -/
import Derived.Test.YtjjhkfhppoioiaaOwnI
import Derived.Test.YtjjhkfhppoioiaaNc
import Derived.Test.YtjjhkfhppoioiaaRe
import Derived.Test.YtjjhkfhppoioiaaTn
import Derived.BigQuiet
namespace Go.Proofs.Ytjjhkfhppoioiaa
open Go.RowKit

theorem grown_row {w : World} {base : Nat} (hbase : base ≤ w.heap.size) (L : List Int) (xs : List Int) (cap : Nat) (row : Option Nat) (hL : L = xs) (hc : xs.length ≤ grownCap w xs.length cap 5) (hm : xs.length ≤ maxLen) :
    OwnI (w.drew.alloc (.cells (((L ++ List.replicate (grownCap w xs.length cap 5 - xs.length) 0).map (Value.int .u8)).toArray) 5)) base (.slice (some ⟨w.heap.size, 0, none⟩) xs.length (grownCap w xs.length cap 5)) xs ∧
      w.grownBy (w.drew.alloc (.cells (((L ++ List.replicate (grownCap w xs.length cap 5 - xs.length) 0).map (Value.int .u8)).toArray) 5)) row := by
  subst hL
  refine ⟨.inr ⟨w.heap.size, _, List.replicate (grownCap w L.length cap 5 - L.length) 0, rfl, hbase, ?_, by simp; omega, grownCap_le_maxLen w _ cap 5 hm⟩, ⟨rfl, rfl, rfl, by simp, fun k hk _ => Below.heap_alloc w.drew _ k hk⟩⟩
  exact heap_alloc_new w.drew _

theorem run_first_str {P : Program} (w : World) (s : ByteArray) : (Builtin.firstCells 1 s.size (.string s)).run P w = .ok ((byts s).map (Value.int .u8)).toArray w := by
  simp [Builtin.firstCells]
  apply Array.ext'
  simp [byts]

theorem run_append_str {P : Program} (w : World) (base : Nat) (t u ty : TypeId) (i : TypeInfo) (ht : P.underlying t = some (.slice 5)) (hu : P.underlying u = some .string) (hi : P.info? 5 = some i) (hz : i.zero = some (.int .u8 0)) (hsize : i.size = 1) (hby : i.bytes = 1)
    (g cap : Nat) (xs tl : List Int) (s : ByteArray) (hbg : base ≤ g) (hr : Rw 5 w g (xs ++ tl)) (h3 : (xs ++ tl).length = cap) (h4 : cap ≤ maxLen)
    (hb : xs.length + s.size ≤ 140737488355328) (hbase : base ≤ w.heap.size) :
    ∃ v' w', (Builtin.append_ #[t, u] ty #[.slice (some ⟨g, 0, none⟩) xs.length cap, .string s]).run P w = .ok v' w' ∧ OwnI w' base v' (xs ++ byts s) ∧ w.grownBy w' (some g) := by
  have hbl := byts_length s
  have hcells := byts_cells s
  by_cases hroom : xs.length + s.size ≤ cap
  · have hst := run_storeCells_at P g xs.length 5 ((byts s).map (Value.int .u8)) 0 _ w hr (by simp [hbl]; simp at h3; omega) (ones _)
    simp only [Nat.add_zero] at hst
    have hrun : (Builtin.append_ #[t, u] ty #[.slice (some ⟨g, 0, none⟩) xs.length cap, .string s]).run P w = .ok (.slice (some ⟨g, 0, none⟩) (xs.length + s.size) cap) (w.setRow g ((xs ++ byts s ++ tl.drop s.size).map (Value.int .u8)).toArray) := by
      have e : (List.take xs.length (List.map (Value.int IntKind.u8) (xs ++ tl)).toArray.toList ++ List.map (Value.int IntKind.u8) (byts s) ++ List.drop (xs.length + (List.map (Value.int IntKind.u8) (byts s)).length) (List.map (Value.int IntKind.u8) (xs ++ tl)).toArray.toList).toArray = ((xs ++ byts s ++ tl.drop s.size).map (Value.int .u8)).toArray := by
        simp [hbl, List.drop_append]
      rw [e] at hst
      simp [Builtin.append_, run_underlying ht, run_underlying hu, sizeOf, typeInfo, hi, hsize, Builtin.lenOf, hroom, Builtin.firstCells, hcells, Addr.add_lit, hst]
    refine ⟨_, _, hrun, .inr ⟨g, cap, tl.drop s.size, by simp [hbl], hbg, hr.setRow _, by simp [hbl] at h3 ⊢; omega, h4⟩, grown_setRow _ _⟩
  · have hn : ¬ (xs.length + s.size ≤ cap) := hroom
    have h63' : ¬ (9223372036854775807 < ((xs.length : Int) + (s.size : Int))) := by omega
    have hfit := growslice_fits (need := xs.length + s.size) (old := cap) (bytes := i.bytes) (by omega) (by rw [hby]; omega)
    have h48' : ¬ (281474976710656 < Builtin.nextslicecap (xs.length + s.size) cap * i.bytes) := by omega
    have holds : ∀ j v, (xs.map (Value.int .u8))[j]? = some v → w.cell? ((⟨g, 0, none⟩ : Addr).add j) = some v := srcs (by
      intro j hj
      rw [add_z, hr.cell j (by simp; omega)]
      simp [List.getD, List.getElem?_append_left hj])
    have hfo := run_firstCells_some (P := P) w.drew i.size xs.length ⟨g, 0, none⟩ xs.length cap (xs.map (Value.int .u8)) (by simp [hsize]) (by simpa using holds)
    have hx : (xs ++ byts s).length = xs.length + s.size := by simp [hbl]
    have hgc := grownCap_ge w (xs.length + s.size) cap 5
    have hown := grown_row hbase (xs ++ byts s) (xs ++ byts s) cap (some g) rfl (by rw [hx]; exact hgc) (by rw [hx]; unfold maxLen; omega)
    rw [hx] at hown
    refine ⟨_, _, ?_, hown.1, hown.2⟩
    rw [← arr_rest]
    simp [Builtin.append_, run_underlying ht, run_underlying hu, sizeOf, typeInfo, zeroValue, hi, hz, hsize, Builtin.lenOf, hn, h63', h48', Question.forced, newRow, grownCap]
    rw [hsize] at hfo
    rw [hfo]
    simp only [Result.andThen_ok, run_first_str]
    congr 3
    apply Array.ext'
    simp [Value.cells]

theorem run_append_zeros {P : Program} (w : World) (base : Nat) (t u ty : TypeId) (i : TypeInfo) (ht : P.underlying t = some (.slice 5)) (hu : P.underlying u = some (.int .i64)) (hi : P.info? 5 = some i) (hz : i.zero = some (.int .u8 0)) (hsize : i.size = 1) (hby : i.bytes = 1)
    (g cap : Nat) (xs tl : List Int) (n : Nat) (hbg : base ≤ g) (hr : Rw 5 w g (xs ++ tl)) (h3 : (xs ++ tl).length = cap) (h4 : cap ≤ maxLen)
    (hb : xs.length + n ≤ 140737488355328) (hbase : base ≤ w.heap.size) :
    ∃ v' w', (Builtin.append_ #[t, u] ty #[.slice (some ⟨g, 0, none⟩) xs.length cap, .int .i64 n]).run P w = .ok v' w' ∧ OwnI w' base v' (xs ++ List.replicate n 0) ∧ w.grownBy w' (some g) := by
  have hwn : IntKind.i64.wrap (n : Int) = (n : Int) := by rw [IntKind.wrap_i64]; omega
  have hzc := zero_cells n
  have h48z : ¬ (281474976710656 < (n : Int)) := by omega
  by_cases hroom : xs.length + n ≤ cap
  · have hst := run_storeCells_at P g xs.length 5 ((List.replicate n (0 : Int)).map (Value.int .u8)) 0 _ w hr (by simp; simp at h3; omega) (ones _)
    simp only [Nat.add_zero] at hst
    have hrun : (Builtin.append_ #[t, u] ty #[.slice (some ⟨g, 0, none⟩) xs.length cap, .int .i64 n]).run P w = .ok (.slice (some ⟨g, 0, none⟩) (xs.length + n) cap) (w.setRow g ((xs ++ List.replicate n 0 ++ tl.drop n).map (Value.int .u8)).toArray) := by
      have e : (List.take xs.length (List.map (Value.int IntKind.u8) (xs ++ tl)).toArray.toList ++ List.map (Value.int IntKind.u8) (List.replicate n 0) ++ List.drop (xs.length + (List.map (Value.int IntKind.u8) (List.replicate n 0)).length) (List.map (Value.int IntKind.u8) (xs ++ tl)).toArray.toList).toArray = ((xs ++ List.replicate n 0 ++ tl.drop n).map (Value.int .u8)).toArray := by
        simp [List.drop_append]
      rw [e] at hst
      by_cases h0 : n = 0
      · subst h0
        have hw0 : IntKind.i64.wrap 0 = 0 := by rw [IntKind.wrap_i64]; rfl
        simp at hst
        simp at hroom
        simp [Builtin.append_, run_underlying ht, run_underlying hu, sizeOf, typeInfo, hi, hsize, asInt, asIntOf, hw0, hroom, Addr.add_lit, hst]
      · simp [Builtin.append_, run_underlying ht, run_underlying hu, sizeOf, typeInfo, zeroValue, hi, hz, hsize, hby, asInt, asIntOf, hwn, hroom, h0, h48z, Addr.add_lit, Value.cells, hzc]
        simp at hst
        rw [if_neg (by omega), hst]
        simp
    refine ⟨_, _, hrun, .inr ⟨g, cap, tl.drop n, by simp, hbg, hr.setRow _, by simp at h3 ⊢; omega, h4⟩, grown_setRow _ _⟩
  · have hlx : xs.length ≤ cap := by rw [← h3]; simp
    have h0 : ¬ n = 0 := by omega
    have hn : ¬ (xs.length + n ≤ cap) := hroom
    have h63' : ¬ (9223372036854775807 < ((xs.length : Int) + (n : Int))) := by omega
    have hfit := growslice_fits (need := xs.length + n) (old := cap) (bytes := i.bytes) (by omega) (by rw [hby]; omega)
    have h48' : ¬ (281474976710656 < Builtin.nextslicecap (xs.length + n) cap) := by rw [hby] at hfit; omega
    have holds : ∀ j v, (xs.map (Value.int .u8))[j]? = some v → w.cell? ((⟨g, 0, none⟩ : Addr).add j) = some v := srcs (by
      intro j hj
      rw [add_z, hr.cell j (by simp; omega)]
      simp [List.getD, List.getElem?_append_left hj])
    have hfo := run_firstCells_some (P := P) w.drew i.size xs.length ⟨g, 0, none⟩ xs.length cap (xs.map (Value.int .u8)) (by simp [hsize]) (by simpa using holds)
    have hx : (xs ++ List.replicate n 0).length = xs.length + n := by simp
    have hgc := grownCap_ge w (xs.length + n) cap 5
    have hown := grown_row hbase (xs ++ List.replicate n 0) (xs ++ List.replicate n 0) cap (some g) rfl (by rw [hx]; exact hgc) (by rw [hx]; unfold maxLen; omega)
    rw [hx] at hown
    refine ⟨_, _, ?_, hown.1, hown.2⟩
    rw [← arr_rest]
    rw [hsize] at hfo
    simp [Builtin.append_, run_underlying ht, run_underlying hu, sizeOf, typeInfo, zeroValue, hi, hz, hsize, hby, asInt, asIntOf, hwn, hn, h0, h48z, h63', h48', Question.forced, newRow, grownCap, hfo]
    rw [if_neg (by omega)]
    congr 3
    apply Array.ext'
    have hzc2 := hzc
    simp at hzc2
    simp [Value.cells, hzc2]

/-- append of a string's bytes, as one step. -/
theorem wpList_append_str {w : World} {ops : Array Oper} {rest : List Oper} {o : Oper} {a : Act} {Q : Exit → Act → World → Prop} (hgd : o.guard = none) (s x : Operand)
    (ho : o.op = .call { callee := .builtin .append, args := #[s, x], argTypes := #[26, 9] })
    (base : Nat) (g cap : Nat) (xs tl : List Int) (str : ByteArray) (hs : a.eval s = .slice (some ⟨g, 0, none⟩) xs.length cap) (hx : a.eval x = .string str)
    (hbg : base ≤ g) (hr : Rw 5 w g (xs ++ tl)) (h3 : (xs ++ tl).length = cap) (h4 : cap ≤ maxLen) (hb : xs.length + str.size ≤ 140737488355328) (hbase : base ≤ w.heap.size)
    (h : ∀ v' w', OwnI w' base v' (xs ++ byts str) → Below base w w' → wpList Try.prog ops Q rest (a.put o.dst v') w') : wpList Try.prog ops Q (o :: rest) a w := by
  obtain ⟨i0, hi, hz0, hz1, hz2⟩ := info_parts Try.info5
  refine wpList_plain hgd fun K hK => ?_
  obtain ⟨v', w', hrun, h1, h2⟩ := run_append_str (P := Try.prog) w base 26 9 o.type i0 Try.underlying26 Try.underlying9 hi hz0 hz1 hz2 g cap xs tl str hbg hr h3 h4 hb hbase
  unfold Oper.wp execOp
  simp only [ho, resolve, invoke, builtin, Sem.run_bind, Sem.run_pure, Result.andThen_ok, List.map_toArray, List.map_cons, List.map_nil, hs, hx, hrun]
  exact hK _ _ (h v' w' h1 (below_of_grown h2 _ hbase fun k hk => by cases hk; exact hbg))

/-- append of noughts ('append(out, make([]byte, n)...)'), as one step. -/
theorem wpList_append_zeros {w : World} {ops : Array Oper} {rest : List Oper} {o : Oper} {a : Act} {Q : Exit → Act → World → Prop} (hgd : o.guard = none) (s x : Operand)
    (ho : o.op = .call { callee := .builtin .append, args := #[s, x], argTypes := #[26, 3] })
    (base : Nat) (g cap : Nat) (xs tl : List Int) (n : Nat) (z : Int) (hzn : z = (n : Int)) (hs : a.eval s = .slice (some ⟨g, 0, none⟩) xs.length cap) (hx : a.eval x = .int .i64 z)
    (hbg : base ≤ g) (hr : Rw 5 w g (xs ++ tl)) (h3 : (xs ++ tl).length = cap) (h4 : cap ≤ maxLen) (hb : xs.length + n ≤ 140737488355328) (hbase : base ≤ w.heap.size)
    (h : ∀ v' w', OwnI w' base v' (xs ++ List.replicate n 0) → Below base w w' → wpList Try.prog ops Q rest (a.put o.dst v') w') : wpList Try.prog ops Q (o :: rest) a w := by
  obtain ⟨i0, hi, hz0, hz1, hz2⟩ := info_parts Try.info5
  refine wpList_plain hgd fun K hK => ?_
  subst hzn
  obtain ⟨v', w', hrun, h1, h2⟩ := run_append_zeros (P := Try.prog) w base 26 3 o.type i0 Try.underlying26 Try.underlying3 hi hz0 hz1 hz2 g cap xs tl n hbg hr h3 h4 hb hbase
  unfold Oper.wp execOp
  simp only [ho, resolve, invoke, builtin, Sem.run_bind, Sem.run_pure, Result.andThen_ok, List.map_toArray, List.map_cons, List.map_nil, hs, hx, hrun]
  exact hK _ _ (h v' w' h1 (below_of_grown h2 _ hbase fun k hk => by cases hk; exact hbg))

/-- What is owned and not empty, written out. -/
theorem OwnI.some {w : World} {base : Nat} {v : Value} {xs : List Int} (h : OwnI w base v xs) (hp : 0 < xs.length) : ∃ g cap tl, v = .slice (Option.some ⟨g, 0, none⟩) xs.length cap ∧ base ≤ g ∧ Rw 5 w g (xs ++ tl) ∧ (xs ++ tl).length = cap ∧ cap ≤ maxLen := by
  rcases h with ⟨_, rfl⟩ | h
  · simp at hp
  · exact h

end Go.Proofs.Ytjjhkfhppoioiaa

namespace Go.Proofs.Ytjjhkfhppoioiaa
open Go.RowKit
set_option linter.unusedVariables false
theorem rnamed_yes {s : ByteArray} (h : Nm s) (hs : s.size ≤ 9223372036854775807) (w : World) : Calls Try.prog 48 #[.string s] w fun e w' => e = .returned (.bool true) ∧ w = w' := by
  refine (rnamed s w hs).mono ?_
  rintro e w' ⟨⟨_, rfl⟩ | ⟨q, _⟩, ew⟩
  · exact ⟨rfl, ew⟩
  · exact absurd h q
theorem rnamed_no {s : ByteArray} (h : ¬ Nm s) (hs : s.size ≤ 9223372036854775807) (w : World) : Calls Try.prog 48 #[.string s] w fun e w' => e = .returned (.bool false) ∧ w = w' := by
  refine (rnamed s w hs).mono ?_
  rintro e w' ⟨⟨q, _⟩ | ⟨_, rfl⟩, ew⟩
  · exact absurd q h
  · exact ⟨rfl, ew⟩
theorem rplace_yes {x b : Int} (p : Plc (clu b) x) (hx : I6 x) (hb : Bt b) (w : World) : Calls Try.prog 47 #[.int .i64 x, .int .i64 b] w fun e w' => e = .returned (.bool true) ∧ w = w' := by
  refine (rplace x b w hx hb).mono ?_
  rintro e w' ⟨⟨_, rfl⟩ | ⟨q, _⟩, ew⟩
  · exact ⟨rfl, ew⟩
  · exact absurd p q
theorem rplace_no {x b : Int} (p : ¬ Plc (clu b) x) (hx : I6 x) (hb : Bt b) (w : World) : Calls Try.prog 47 #[.int .i64 x, .int .i64 b] w fun e w' => e = .returned (.bool false) ∧ w = w' := by
  refine (rplace x b w hx hb).mono ?_
  rintro e w' ⟨⟨q, _⟩ | ⟨_, rfl⟩, ew⟩
  · exact absurd q p
  · exact ⟨rfl, ew⟩
set_option maxHeartbeats 1000000 in
theorem rnmb_ok (s : ByteArray) (w : World) (hs : s.size ≤ 64) : Calls Try.prog 24 #[.string s] w fun e w' => ∃ v, e = .returned v ∧ OwnI w' w.heap.size v (nmb s) ∧ Below w.heap.size w w' := by
  have hw : IntKind.u8.wrap (s.size : Int) = (s.size : Int) := by rw [IntKind.wrap_u8]; omega
  have hr : Hid (Rw 5 (w.alloc (.cells #[.int .u8 (s.size : Int)] 5)) w.heap.size ([(s.size : Int)] ++ [])) := by
    show Rw _ _ _ _
    rw [List.append_nil]
    exact Rw.new 5 w [(s.size : Int)]
  have hb : Hid (Below w.heap.size w (w.alloc (.cells #[.int .u8 (s.size : Int)] 5))) := (Below.refl _ _).alloc (Nat.le_refl _) _
  go_enter Try.func24, Try.ntmps24
  go_wp2_with (first | (at_builtin; refine wpList_append_str rfl (.tmp 6) (.tmp 7) rfl w.heap.size w.heap.size 1 [(s.size : Int)] [] s rfl rfl (Nat.le_refl _) hr.out rfl (by unfold maxLen; omega) (by simp; omega) (by simp) ?_; intro v1 w1 o1 b1))
  go_ret
  exact ⟨v1, rfl, o1, hb.out.trans b1⟩
end Go.Proofs.Ytjjhkfhppoioiaa

namespace Go.Proofs.Ytjjhkfhppoioiaa
open Go.RowKit
set_option linter.unusedVariables false
/-- A number of 62 bits; a greater one: -1. -/
def nn (zs : List Int) : Int := if val zs < 4611686018427387904 then val zs else -1
theorem nn_i6 (zs : List Int) (h : Byt zs) : I6 (nn zs) := by
  have := val_bound zs h
  unfold nn I6
  split <;> omega
theorem nn_num {x : Int} {n : Nat} (h0 : 0 ≤ x) (h1 : x < 256 ^ n) (h2 : x ≤ 268435456) : nn (num x n) = x := by
  unfold nn
  rw [val_num_of_lt x n h0 h1, if_pos (by omega)]
set_option maxHeartbeats 1000000 in
theorem rnumb (g off cap : Nat) (zs : List Int) (L : Nat) (w : World) (hL : L = zs.length) (hb : Byt zs) (h8 : L ≤ 8) (hc : ∀ i, i < zs.length → w.cell? ⟨g, off + i, none⟩ = some (.int .u8 (zs.getD i 0))) :
    Calls Try.prog 32 #[.slice (some ⟨g, off, none⟩) L cap] w fun e w' => e = .returned (.int .i64 (nn zs)) ∧ w = w' := by
  subst hL
  have HV := hid (value_any g off cap zs w hb h8 hc)
  have hv := val_bound zs hb
  have hp := pow256_le h8
  rw [pow256_8] at hp
  obtain ⟨y, hy⟩ : ∃ y, y = val zs := ⟨_, rfl⟩
  rw [← hy] at HV hv
  have HN : Hid (nn zs = if y < 4611686018427387904 then y else -1) := by show _ = _; unfold nn; rw [← hy]
  by_cases h : y < 4611686018427387904
  · have hw : IntKind.i64.wrap y = y := by rw [IntKind.wrap_i64]; omega
    go_enter Try.func32, Try.ntmps32
    go_wp2_with (first | (go_at_call 57; refine HV.out.mono ?_; rintro e w' ⟨rfl, rfl⟩))
    go_ret
    refine ⟨ret_int ?_, rfl⟩
    rw [HN.out, if_pos h]
    try exact hy.symm
  · go_enter Try.func32, Try.ntmps32
    go_wp2_with (first | (go_at_call 57; refine HV.out.mono ?_; rintro e w' ⟨rfl, rfl⟩))
    go_ret
    refine ⟨ret_int ?_, rfl⟩
    rw [HN.out, if_neg (by omega)]
set_option maxHeartbeats 1000000 in
theorem rtake (g off n cap K : Nat) (w : World) (h1 : K < n) (h2 : n ≤ cap) (h3 : cap ≤ 9223372036854775807) :
    Calls Try.prog 31 #[.slice (some ⟨g, off, none⟩) n cap, .int .i64 (K : Int)] w fun e w' => e = .returned (.tuple #[.slice (some ⟨g, off, none⟩) K cap, .slice (some ⟨g, off + K, none⟩) (n - K) (cap - K), .bool true]) ∧ Below w.heap.size w w' := by
  have hk : ¬ cap = K := by omega
  go_enter Try.func31, Try.ntmps31
  go_wp2_with fail
  go_quiet (fail)
  go_wp2_with fail
  refine bodyPost_ret (v := .tuple #[.slice (some ⟨g, off, none⟩) K cap, .slice (some ⟨g, off + K, none⟩) (n - K) (cap - K), .bool true]) (by simp [results, Try.results31]) rfl ⟨rfl, (drewN_kp (fun _ => False) w _).below (Nat.le_refl _) (fun _ x => x.elim)⟩
end Go.Proofs.Ytjjhkfhppoioiaa
