/- LzLong: the bounds, and one past them. -/
import Derived.Test.YtofmoggejfopiaaWks
import Derived.Test.YtofmoggejfopiaaMth
namespace Go.Proofs.Ytofmoggejfopiaa
open Go.RowKit

set_option maxRecDepth 100000 in
set_option maxHeartbeats 1000000 in
theorem tokens_long (ao : Option Addr) (N cap : Nat) (w : World) (hN : 1048576 < N) :
    Calls Try.prog 13 #[.slice ao N cap] w fun e w' => e = .returned (.tuple #[.nilFunc, .int .i64 3]) ∧ w' = w := by
  have hgt : (1048576 : Int) < (N : Int) := by omega
  go_enter Try.func13, Try.ntmps13
  go_wp2
  go_ret2
  exact ⟨rfl, rfl⟩
set_option maxRecDepth 100000 in
set_option maxHeartbeats 1000000 in
theorem longest_long (ao : Option Addr) (N cap : Nat) (at0 : Int) (w : World) (hN : 1048576 < N) :
    Calls Try.prog 10 #[.slice ao N cap, .int .i64 at0] w fun e w' => e = .returned (.tuple #[.agg #[.int .u8 0, .int .i64 0, .int .i64 0], .bool false]) ∧ Below w.heap.size w w' := by
  have hgt : (1048576 : Int) < (N : Int) := by omega
  go_enter Try.func10, Try.ntmps10
  go_wp2
  exact bodyPost_ret (v := .tuple #[.agg #[.int .u8 0, .int .i64 0, .int .i64 0], .bool false]) (by simp [results, Try.results10, go_sem]) rfl ⟨rfl, (Below.refl _ _).alloc (Nat.le_refl _) _⟩
theorem made_tok (n j : Nat) (hj : j < n * 3) : (madeCells #[.int .u8 0, .int .i64 0, .int .i64 0] (n * 3))[j]? = (#[.int .u8 0, .int .i64 0, .int .i64 0] : Array Value)[j % 3]? := by
  have h3 : j % 3 = 0 ∨ j % 3 = 1 ∨ j % 3 = 2 := by omega
  rcases h3 with h | h | h <;> simp [madeCells, hj, h]
theorem wpList_make_tok {w : World} {ops : Array Oper} {rest : List Oper} {o : Oper} {a : Act} {Q : Exit → Act → World → Prop} (hgd : o.guard = none) (l c : Operand) (ho : o.op = Op.makeSlice 28 l c)
    (n : Nat) (hl : a.eval l = .int .i64 n) (hc : a.eval c = .int .i64 n) (hn : n ≤ 4000000000)
    (h : ∀ w', TSrc w' (some ⟨w.heap.size, 0, none⟩) (List.replicate n zt) → Below w.heap.size w w' → wpList Try.prog ops Q rest (a.put o.dst (.slice (some ⟨w.heap.size, 0, none⟩) n n)) w') : wpList Try.prog ops Q (o :: rest) a w := by
  obtain ⟨i0, hi, hz0, hz1, hz2⟩ := info_parts Try.info25
  refine wpList_plain hgd fun K hK => ?_
  have hr := run_make (P := Try.prog) w 28 25 i0 (.agg #[.int .u8 0, .int .i64 0, .int .i64 0]) Try.underlying28 hi hz0 .i64 .i64 n n (by omega) (Int.le_refl _) (by rw [hz2]; omega) (by omega)
  rw [hz1, Int.toNat_natCast, show (Value.agg #[.int .u8 0, .int .i64 0, .int .i64 0]).cells = #[.int .u8 0, .int .i64 0, .int .i64 0] from rfl] at hr
  unfold Oper.wp
  simp only [execOp, ho, hl, hc, hr, Sem.run_bind, Sem.run_pure, Result.andThen_ok]
  refine hK _ _ (h _ ?_ ((Below.refl _ _).alloc (Nat.le_refl _) _))
  intro _
  refine ⟨w.heap.size, 0, rfl, fun i hin => ?_⟩
  have hin' : i < n := by simpa using hin
  have hg : (List.replicate n zt).getD i zt = zt := by simp [List.getD, hin']
  rw [hg, Nat.zero_add]
  have st := St.new 25 w (madeCells #[.int .u8 0, .int .i64 0, .int .i64 0] (n * 3))
  refine ⟨?_, ?_, ?_⟩
  · rw [st.cell, made_tok n _ (by omega)]; simp [zt]
  · rw [st.cell, made_tok n _ (by omega)]; simp [zt, show (i * 3 + 1) % 3 = 1 by omega]
  · rw [st.cell, made_tok n _ (by omega)]; simp [zt, show (i * 3 + 2) % 3 = 2 by omega]
/-- As many bytes as there may be, all 0. -/
theorem long_parse (g : Nat) (w : World) (h : Rw .u8 5 w g (List.replicate 1048577 0)) :
    Calls Try.prog 12 #[.slice (some ⟨g, 0, none⟩) 1048576 1048577, .bool false] w fun e w' => ∃ ao cap ts zs, e = .returned (.tuple #[.slice ao 4066 cap, .int .i64 0]) ∧ TSrc w' ao ts ∧ 4066 = ts.length ∧ okK ts 4066 ∧ xpR 1048576 ts = (zs, 4066, 0) ∧ zs.length = 1048576 ∧ Below w.heap.size w w' := by
  have hm := max_zeros false
  have hs : Src .u8 w (some ⟨g, 0, none⟩) (List.replicate 1048576 0) := by
    have h1 : List.replicate 1048577 (0 : Int) = List.replicate 1048576 0 ++ [0] := List.replicate_succ'
    rw [h1] at h
    exact row_src h
  obtain ⟨zs, hz⟩ : ∃ zs : List Int, zs = List.replicate 1048576 0 := ⟨_, rfl⟩
  have hl : zs.length = 1048576 := by rw [hz, List.length_replicate]
  have hb : Byt zs := by rw [hz]; intro z hz; have := List.eq_of_mem_replicate hz; omega
  rw [← hz] at hm hs
  clear hz
  have hp := parse_any zs (some ⟨g, 0, none⟩) 1048577 false w hb (by omega) (by omega) (by unfold maxLen; omega) hs
  rw [hl] at hp
  refine hp.mono ?_
  rintro e w' ⟨v, K, rfl, hK, hrow, b1⟩
  obtain rfl : K = 4066 := hK.uniq hm
  obtain ⟨ao, cap, rfl, _, _, hts, _⟩ := tsrc_of_owns hrow (tks_len _ _ _ _)
  refine ⟨ao, cap, _, zs, rfl, hts, (tks_len _ _ _ _).symm, ?_, ?_, hl, b1⟩
  · have := toks_ok zs false 4066
    rw [hl] at this
    exact this
  · have := toks_exp zs false 4066 (by rw [hl]; exact hm) 1048576 (by omega)
    rw [hl] at this
    exact this
theorem zt_ref (n : Nat) (h : 1048576 < n) : refN (List.replicate n zt) = 3 := by
  unfold refN
  rw [if_pos, if_pos (by simpa using h)]
  intro t ht
  rw [List.eq_of_mem_replicate ht]
  rfl
set_option maxRecDepth 100000 in
set_option maxHeartbeats 2000000 in
theorem long_walk (w : World) : Calls Try.prog 8 #[] w fun e w' => e = .returned (.bool true) ∧ Below w.heap.size w w' := by
  go_enter Try.func8, Try.ntmps8
  go_wp2_with (first | (at_make; refine wpList_make_rw (κ := .u8) 22 5 1 Try.underlying22 Try.info5 (by decide) rfl (.const (.int .i64 1048577)) (.const (.int .i64 1048577)) rfl 1048577 rfl rfl (by omega) ?_; intro w1 r1 b1))
  refine (long_parse w.heap.size w1 r1).mono ?_
  rintro e w2 ⟨ao, cap, ts, zs, rfl, hts, hn, hok, hx, hl, b2⟩
  have HB2 : Hid (Below w.heap.size w w2) := b1.trans (b2.mono b1.size)
  have HTS : Hid (TSrc w2 ao ts ∧ 4066 = ts.length ∧ okK ts 4066 ∧ xpR 1048576 ts = (zs, 4066, 0) ∧ zs.length = 1048576) := ⟨hts, hn, hok, hx, hl⟩
  clear r1 b1 b2 hts hn hok hx hl
  go_wp2_with fail
  refine (expand_ok ts ao 4066 cap 1048576 w2 HTS.out.2.1 (by omega) (by omega) (by omega) HTS.out.1 HTS.out.2.2.1).mono ?_
  rintro e w3 ⟨v, rfl, ho, b3⟩
  rw [HTS.out.2.2.2.1] at ho ⊢
  dsimp only at ho ⊢
  obtain ⟨a3, c3, rfl, _, _, _, _⟩ := ho.parts
  rw [HTS.out.2.2.2.2]
  have HB3 : Hid (Below w.heap.size w w3) := HB2.out.trans (b3.mono HB2.out.size)
  clear ho b3 HTS HB2
  go_wp2_with fail
  refine (parse_long (some ⟨w.heap.size, 0, none⟩) 1048577 1048577 false w3 (by omega)).mono ?_
  rintro e w4 ⟨rfl, rfl⟩
  go_wp2_with fail
  refine (tokens_long (some ⟨w.heap.size, 0, none⟩) 1048577 1048577 _ (by omega)).mono ?_
  rintro e w5 ⟨rfl, rfl⟩
  go_wp2_with fail
  refine (longest_long (some ⟨w.heap.size, 0, none⟩) 1048577 1048577 5 _ (by omega)).mono ?_
  rintro e w6 ⟨rfl, b6⟩
  have HB6 : Hid (Below w.heap.size w w6) := HB3.out.trans (b6.mono HB3.out.size)
  clear b6 HB3
  have hst := St.new 25 w6 #[.int .u8 0, .int .i64 0, .int .i64 0]
  go_wp2_with (first | (at_make; refine wpList_make_tok rfl (.const (.int .i64 1048577)) (.const (.int .i64 1048577)) rfl 1048577 rfl rfl (by omega) ?_; intro w7 t7 b7))
  have hst7 := hst.below b7 (by simp)
  have HB7 : Hid (Below w.heap.size w w7) := (HB6.out.alloc HB6.out.size _).trans (b7.mono (by have := HB6.out.size; simp; omega))
  obtain ⟨zz, hzz⟩ : ∃ zz, zz = List.replicate 1048577 zt := ⟨_, rfl⟩
  rw [← hzz, World.size_alloc] at t7
  have hr : refN zz = 3 := by rw [hzz]; exact zt_ref _ (by omega)
  have hl : 1048577 = zz.length := by rw [hzz, List.length_replicate]
  clear hzz hst b7
  refine (expand_bad zz (some ⟨w6.heap.size + 1, 0, none⟩) 1048577 1048577 1048577 3 w7 hl (by omega) (by omega) t7 hr (by omega)).mono ?_
  rintro e w8 ⟨rfl, b8⟩
  have hst8 := hst7.below b8 hst7.lt
  have c0 : w8.cell? ⟨w6.heap.size, 0, none⟩ = some (.int .u8 0) := hst8.cell 0
  have c1 : w8.cell? ⟨w6.heap.size, 1, none⟩ = some (.int .i64 0) := hst8.cell 1
  have c2 : w8.cell? ⟨w6.heap.size, 2, none⟩ = some (.int .i64 0) := hst8.cell 2
  have HB8 : Hid (Below w.heap.size w w8) := HB7.out.trans (b8.mono HB7.out.size)
  clear hst7 hst8 b8 HB7 HB6 hl hr t7
  have hne : ∀ W : World, (binOp .eql 33 .nilFunc .nilFunc).run Try.prog W = .ok (.bool true) W := fun _ => rfl
  go_wp2_with (first | (go_at_call 14; refine (num_any _ _).mono ?_; rintro e w' ⟨rfl, rfl⟩) | (go_at_call 9; refine (works_any _).mono ?_; rintro e w9 ⟨rfl, b9⟩))
  go_ret
  exact ⟨rfl, HB8.out.trans (b9.mono HB8.out.size)⟩
end Go.Proofs.Ytofmoggejfopiaa
