/- Contracts of the reference's Of, and of its Bytes for whatever bits. -/
import Derived.Test.YtfeokjbmobmabaaRefC
namespace Go.Proofs.Ytfeokjbmobmabaa
open Go.RowKit

set_option maxHeartbeats 400000 in
theorem rbytes_none (ao : Option Addr) (cap : Nat) (w : World) :
    Calls Try.prog 15 #[.slice ao 0 cap] w fun e w' => ∃ u, e = .returned u ∧ OwnI w' w.heap.size u [] ∧ Below w.heap.size w w' := by
  go_enter Try.func15, Try.ntmps15
  go_wp2
  refine wp_loop_rounds 1 ?_
  rw [rounds_succ]
  go_wp2
  go_ret
  exact ⟨_, rfl, OwnI.nil _ _, Below.refl _ _⟩
theorem rbytes_any (ao : Option Addr) (cap N v : Nat) (w : World) (hN : N ≤ 1000000000) (hv : v < 2 ^ N) (hcap : N ≤ cap) (hsrc : Src w ao (dig 2 v N)) :
    Calls Try.prog 15 #[.slice ao N cap] w fun e w' => ∃ u, e = .returned u ∧ OwnI w' w.heap.size u (dig 256 v ((N + 7) / 8)) ∧ Below w.heap.size w w' := by
  by_cases h0 : N = 0
  · subst h0
    exact rbytes_none ao cap w
  · obtain ⟨b, off, rfl, hc⟩ := hsrc (by rw [dig_length]; omega)
    exact rbytes_some b off cap N v w hN hv hcap (Src.mk hc)

theorem wpList_make_cap {w : World} {ops : Array Oper} {rest : List Oper} {o : Oper} {a : Act} {Q : Exit → Act → World → Prop} (hgd : o.guard = none) (l c : Operand) (ho : o.op = Op.makeSlice 26 l c)
    (n : Nat) (z : Int) (hz : z = (n : Int)) (hl : a.eval l = .int .i64 0) (hc : a.eval c = .int .i64 z) (hn : n ≤ 140737488355328)
    (h : ∀ w', OwnI w' w.heap.size (.slice (some ⟨w.heap.size, 0, none⟩) 0 n) [] → Below w.heap.size w w' → wpList Try.prog ops Q rest (a.put o.dst (.slice (some ⟨w.heap.size, 0, none⟩) 0 n)) w') : wpList Try.prog ops Q (o :: rest) a w := by
  subst hz
  obtain ⟨i0, hi, hz0, hz1, hz2⟩ := info_parts Try.info5
  refine wpList_plain hgd fun K hK => ?_
  have hr := run_make (P := Try.prog) w 26 5 i0 (.int .u8 0) Try.underlying26 hi hz0 .i64 .i64 0 n (by omega) (by omega) (by rw [hz2]; omega) (by omega)
  rw [hz1, Int.toNat_natCast, Nat.mul_one, show (Value.int IntKind.u8 0).cells = #[.int .u8 0] from rfl, made_cells] at hr
  unfold Oper.wp
  simp only [execOp, ho, hl, hc, hr, Sem.run_bind, Sem.run_pure, Result.andThen_ok]
  exact hK _ _ (h _ (.inr ⟨w.heap.size, n, List.replicate n 0, rfl, Nat.le_refl _, Rw.new 5 w _, by simp, by unfold maxLen; omega⟩) ((Below.refl _ _).alloc (Nat.le_refl _) _))

theorem of_step (B : List Int) (hb : Byt B) (k : Nat) (hk : k < B.length) : dig 2 (und 256 B) (8 * (k + 1)) = dig 2 (und 256 B) (8 * k) ++ dig 2 (B.getD k 0).toNat 8 := by
  rw [Nat.mul_add, dig_add, und_get B hb k hk, Int.toNat_natCast]
  congr 1
  rw [show (256 : Nat) = 2 ^ 8 from rfl, dig_mod 2 _ 8 8 (Nat.le_refl _)]

set_option maxHeartbeats 1000000 in
theorem rof_any (ao : Option Addr) (cap : Nat) (B : List Int) (w : World) (hl : B.length ≤ 1000000) (hb : Byt B) (hsrc : Src w ao B) :
    Calls Try.prog 22 #[.slice ao B.length cap] w fun e w' => ∃ g c, e = .returned (.slice (some ⟨g, 0, none⟩) (8 * B.length) c) ∧ OwnI w' w.heap.size (.slice (some ⟨g, 0, none⟩) (8 * B.length) c) (dig 2 (und 256 B) (8 * B.length)) ∧ Below w.heap.size w w' := by
  obtain ⟨n8, hn8⟩ : ∃ n8, n8 = 8 * B.length := ⟨_, rfl⟩
  have hm : (8 : Int) * (B.length : Int) = (n8 : Int) := by omega
  have hn8b : n8 ≤ 140737488355328 := by omega
  have HN8 : Hid (n8 = 8 * B.length) := hn8
  clear hn8
  go_enter Try.func22, Try.ntmps22
  go_wp2_with (at_make; refine wpList_make_cap rfl _ _ rfl n8 _ (by omega) rfl rfl hn8b ?_; intro w1 o1 b1)
  go_loopw [3, 4] (fun lv iv wr => ∃ k : Nat, k ≤ B.length ∧ iv = .int .i64 k ∧ OwnI wr w.heap.size lv (dig 2 (und 256 B) (8 * k)) ∧ Below w.heap.size w wr ∧ ∃ g c, lv = .slice (some ⟨g, 0, none⟩) (8 * k) c) (fun _ i _ => B.length - (intOf i).toNat)
  case atStart => exact ⟨0, Nat.zero_le _, rfl, o1, b1, _, _, rfl⟩
  case round =>
    clear o1 hm
    obtain ⟨k, hk, rfl, ho, hbl, gg, cc, rfl⟩ := hrel
    by_cases hlt : k < B.length
    · obtain ⟨b, off, rfl, hc⟩ := (hsrc.below hbl) (by omega)
      have hcell := hc k hlt
      have hg := hb.get k
      obtain ⟨z, hz⟩ : ∃ z : Nat, (z : Int) = B.getD k 0 := ⟨(B.getD k 0).toNat, by omega⟩
      have hst := of_step B hb k hlt
      rw [← hz] at hcell hst
      rw [Int.toNat_natCast] at hst
      have hz2 : z < 256 := by omega
      have hwz : IntKind.u64.wrap (z : Int) = (z : Int) := by rw [IntKind.wrap_u64]; omega
      have HST : Hid (dig 2 (und 256 B) (8 * (k + 1)) = dig 2 (und 256 B) (8 * k) ++ dig 2 z 8) := hst
      have HL : Hid ((dig 2 (und 256 B) (8 * k)).length + (dig 2 z 8).length ≤ 140737488355328) := by show _ ≤ _; rw [dig_length, dig_length]; omega
      have BF : Hid (∀ w', Calls Try.prog 38 #[.int .u64 z, .int .i64 8] w' fun e w'' => ∃ ao cap, e = .returned (.slice ao 8 cap) ∧ Src w'' ao (dig 2 z 8) ∧ (ao = none → cap = 0) ∧ (∀ b off, ao = some ⟨b, off, none⟩ → w'.heap.size ≤ b) ∧ Below w'.heap.size w' w'') := fun w' => bits_form z 8 w' (by omega) (by omega)
      have HD8 : Hid ((dig 2 z 8).length = 8) := dig_length _ _ _
      clear hz hg hst hc
      go_wp2_with fail
      refine (BF.out _).mono ?_
      rintro e w2 ⟨a2, c2, rfl, s2, n2, _, b2⟩
      have o2 := ho.below (b2.mono (Nat.le_refl _))
      have HNIL : Hid (a2 = none → c2 = 0) := n2
      clear n2
      go_wp2_with (at_builtin; refine wpList_append_i rfl (.tmp 15) (.tmp 21) rfl w.heap.size (.slice (some ⟨gg, 0, none⟩) (8 * k) cc) (dig 2 (und 256 B) (8 * k)) rfl o2 _ _ _ (dig 2 z 8) rfl HD8.out HNIL.out s2 HL.out (Nat.le_trans hbl.size b2.size) ?_; intro v3 w3 o3 g3 n3 b3)
      go_roundw
      case rel =>
        rw [← HST.out] at o3
        obtain ⟨g4, c4, tl4, e4, _⟩ := o3.some (by rw [dig_length]; omega)
        rw [dig_length] at e4
        exact ⟨k + 1, by omega, by go_num, o3, (hbl.trans (b2.mono hbl.size)).trans b3, g4, c4, e4⟩
      case measure => simp [intOf]; omega
    · obtain rfl : k = B.length := by omega
      go_wp2
      go_ret
      exact ⟨_, _, rfl, ho, hbl⟩

end Go.Proofs.Ytfeokjbmobmabaa
