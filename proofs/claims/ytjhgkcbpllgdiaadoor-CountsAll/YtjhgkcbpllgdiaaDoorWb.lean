/- counts: Clone, All, room. -/
import Derived.Test.YtjhgkcbpllgdiaaDoorWa
import Derived.Test.YtjhgkcbpllgdiaaDoorRb
namespace Go.Proofs.YtjhgkcbpllgdiaaDoor
open Go.RowKit Go.Shelf
set_option linter.unusedVariables false
theorem kp_base {w w1 w2 : World} {base : Nat} (h : Kp (fun _ => False) w w1) (hb : w.heap.size ≤ base) (b : Below base w1 w2) : Kp (fun _ => False) w w2 :=
  ⟨b.os.trans h.os, b.tape.trans h.tape, b.output.trans h.output, Nat.le_trans h.size b.size, fun i hi hf => (b.block i (Nat.lt_of_lt_of_le hi hb)).trans (h.block i hi hf)⟩
set_option maxHeartbeats 1000000 in
theorem clone_nil (w : World) : Calls Tryd.prog 30 #[.slice none 0 0] w fun e w' => e = .returned (.slice none 0 0) ∧ w = w' := by
  have hq : ∀ w, (binOp .eql 22 (.slice none 0 0) (.slice none 0 0)).run Tryd.prog w = .ok (.bool true) w := fun _ => rfl
  go_enter Tryd.func30, Tryd.ntmps30
  go_wp2_with fail
  go_ret
  exact ⟨rfl, rfl⟩
set_option maxHeartbeats 1000000 in
theorem clone_some (g off cap : Nat) (zs : List Int) (w : World) (hl : zs.length ≤ 1000000000) (hs : Src .u8 w (some ⟨g, off, none⟩) zs) : Calls Tryd.prog 30 #[.slice (some ⟨g, off, none⟩) zs.length cap] w fun e w' => ∃ v, e = .returned v ∧ OwnI .u8 5 w' w.heap.size v zs ∧ Kp (fun _ => False) w w' := by
  have T1 : Hid (([] : List Int).length + zs.length ≤ 17592186044416) := by show _ ≤ _; simp; omega
  have HS := hid (hs.kp0 ((Kp.refl (fun _ => False) w).alloc (.cells #[] 5)))
  have O1 : Hid (OwnI .u8 5 (w.alloc (.cells #[] 5)) w.heap.size (.slice (some ⟨w.heap.size, 0, none⟩) 0 0) []) := Or.inr ⟨w.heap.size, 0, [], rfl, Nat.le_refl _, Rw.new .u8 5 w [], rfl, by decide⟩
  have Z1 : Hid (w.heap.size ≤ (w.alloc (.cells #[] 5)).heap.size) := (by show _ ≤ _; simp)
  have hq : ∀ (n c : Nat) w, (binOp .eql 22 (.slice (some ⟨g, off, none⟩) n c) (.slice none 0 0)).run Tryd.prog w = .ok (.bool false) w := fun _ _ _ => rfl
  go_enter Tryd.func30, Tryd.ntmps30
  go_wp2_with (at_builtin; refine wpList_append_i 22 5 1 Tryd.underlying22 info5 (by decide) rfl (.tmp 5) (.tmp 6) rfl w.heap.size (.slice (some ⟨w.heap.size, 0, none⟩) 0 0) [] rfl O1.out _ _ _ zs rfl rfl (fun e => by cases e) HS.out T1.out Z1.out ?_; intro v1 w1 o1 q1 nb1 b1)
  go_ret
  exact ⟨v1, rfl, by simpa using o1, kp_base ((Kp.refl (fun _ => False) w).alloc _) (Nat.le_refl _) b1⟩
theorem clone_any (ao : Option Addr) (cap : Nat) (zs : List Int) (w : World) (hl : zs.length ≤ 1000000000) (hnil : ao = none → cap = 0) (hs : Src .u8 w ao zs) (hp : ∀ x, ao = some x → x.spot = none) : Calls Tryd.prog 30 #[.slice ao zs.length cap] w fun e w' => ∃ v, e = .returned v ∧ OwnI .u8 5 w' w.heap.size v zs ∧ Kp (fun _ => False) w w' := by
  cases ao with
  | none =>
    obtain rfl := hnil rfl
    have hz : zs = [] := by
      by_cases h : 0 < zs.length
      · obtain ⟨_, _, e, _⟩ := hs h; cases e
      · exact List.eq_nil_of_length_eq_zero (by omega)
    subst hz
    refine (clone_nil w).mono ?_
    rintro e w' ⟨rfl, rfl⟩
    exact ⟨_, rfl, OwnI.nil _ _ _ _, Kp.refl _ _⟩
  | some x =>
    obtain ⟨g, off, sp⟩ := x
    have := hp _ rfl
    simp at this
    subst this
    exact clone_some g off cap zs w hl hs
theorem own_slice {w : World} {base : Nat} {v : Value} {zs : List Int} (h : OwnI .u8 5 w base v zs) : ∃ ao c, v = .slice ao zs.length c ∧ Src .u8 w ao zs ∧ (∀ i off, ao = some ⟨i, off, none⟩ → base ≤ i ∧ i < w.heap.size) := by
  rcases h with ⟨rfl, rfl⟩ | ⟨g, cap, tl, rfl, hb, hr, h3, h4⟩
  · exact ⟨none, 0, rfl, Src.nil _ _ _, fun i off e => by cases e⟩
  · exact ⟨_, cap, rfl, row_src hr, fun i off e => by cases e; exact ⟨hb, hr.lt⟩⟩
set_option maxHeartbeats 1000000 in
theorem all_no (ao : Option Addr) (n cap : Nat) (o : Int) (w : World) (ho : ¬ Ord o) : Calls Tryd.prog 19 #[.slice ao n cap, .int .i64 o] w fun e w' => e = .returned (.func (.func 29) #[] #[]) ∧ Kp (fun _ => False) w w' := by
  have LN := hid (laid_no ao n cap o w ho)
  clear ho
  go_enter Tryd.func19, Tryd.ntmps19
  go_wp2_with fail
  refine LN.out.mono ?_
  rintro e w1 ⟨rfl, k1⟩
  have K1 := hid k1
  have B2 := hid (Rb.new w1 (.slice none 0 0) 0)
  have K2 : Hid (Kp (fun _ => False) w (w1.alloc (.cells (rc (.slice none 0 0) 0) 58))) := K1.out.alloc _
  clear k1
  go_wp2_with (refine wpList_store_rb rfl (.tmp 5) (.tmp 11) rfl w1.heap.size rfl (W' := 0) rfl B2.out ?_; intro w2 b2 k2; have K3 := hid (K2.out.trans k2 (fun i h1 h2 => by have := k2.size; have := K1.out.size; omega)); clear k2 b2)
  go_ret
  exact ⟨rfl, K3.out⟩
set_option maxHeartbeats 1000000 in
theorem all_ok (ao : Option Addr) (cap o : Nat) (zs : List Int) (w : World) (hl : zs.length ≤ 1000000000) (hnil : ao = none → cap = 0) (hs : Src .u8 w ao zs) (hp : ∀ x, ao = some x → x.spot = none) (ho : o < 7) (hw : Wd w) : Calls Tryd.prog 19 #[.slice ao zs.length cap, .int .i64 (o : Int)] w fun e w' => ∃ ao' c', e = .returned (.func (.func 31) #[.agg (rc (.slice ao' zs.length c') (2 ^ o))] #[]) ∧ Src .u8 w' ao' zs ∧ (∀ i off, ao' = some ⟨i, off, none⟩ → w.heap.size ≤ i ∧ i < w'.heap.size) ∧ Kp (fun _ => False) w w' := by
  have LN := hid (laid_ok ao zs.length cap o w ho hw)
  have CL := hid (fun (X : World) (k : Kp (fun _ => False) w X) => clone_any ao cap zs X hl hnil (hs.kp0 k) hp)
  clear hs hw hp hnil
  generalize 2 ^ o = W at *
  go_enter Tryd.func19, Tryd.ntmps19
  go_wp2_with fail
  refine LN.out.mono ?_
  rintro e w1 ⟨rfl, k1⟩
  have K1 := hid k1
  have B2 := hid (Rb.new w1 (.slice none 0 0) 0)
  have K2 : Hid (Kp (fun _ => False) w (w1.alloc (.cells (rc (.slice none 0 0) 0) 58))) := K1.out.alloc _
  clear k1
  go_wp2_with (refine wpList_store_rb rfl (.tmp 5) (.tmp 11) rfl w1.heap.size rfl (W' := W) rfl B2.out ?_; intro w2 b2 k2; have K3 := hid (K2.out.trans k2 (fun i h1 h2 => by have := k2.size; have := K1.out.size; omega)); have B3 := hid b2; clear k2 b2)
  refine (CL.out _ K3.out).mono ?_
  rintro e w3 ⟨v, rfl, ov, k3⟩
  obtain ⟨ao', c', rfl, hs', hlt⟩ := own_slice ov
  have K4 := hid (K3.out.trans k3 (fun _ _ x => x))
  have B4 := hid (B3.out.kp k3 (fun x => x))
  have S4 := hid hs'
  have L4 := hid hlt
  have f0 := St.frozen B4.out 0
  have hB := B4.out.lt
  have hB2 : Hid (w1.heap.size < w2.heap.size) := B3.out.lt
  have c0 := B4.out.c0
  clear ov k3 hs' hlt
  have B5 : Hid (Rb (w3.setCell ⟨w1.heap.size, 0, none⟩ (.slice ao' zs.length c')) w1.heap.size (.slice ao' zs.length c') W) := by
    have h := St.set B4.out 0 (.slice ao' zs.length c')
    exact h
  have k5 := kp_setCell w3 w1.heap.size 0 (.slice ao' zs.length c') (fun i => i = w1.heap.size) rfl
  have K5 := hid (K4.out.trans k5 (fun i h1 h2 => by have := K1.out.size; omega))
  have S5 := hid (S4.out.kp k5 (fun b off e h => by have h1 := (L4.out b off e).1; have h2 := hB2.out; omega))
  have L5 : Hid (∀ i off, ao' = some ⟨i, off, none⟩ → w.heap.size ≤ i ∧ i < (w3.setCell ⟨w1.heap.size, 0, none⟩ (.slice ao' zs.length c')).heap.size) := fun i off e => (by have h1 := L4.out i off e; have h2 := K3.out.size; have h3 := k5.size; omega)
  clear k5
  go_wp2_with (refine wpList_load_rb rfl (.tmp 5) rfl w1.heap.size rfl B5.out ?_)
  go_ret
  exact ⟨ao', c', rfl, S5.out, L5.out, K5.out⟩
theorem none_seq (n : Nat) (hn : 1 ≤ n) (zs : List Int) (W : Nat) (w : World) : SeqP Fence.wide n Tryd.prog 29 #[] #[] (xenc (zs := zs) (W := W) (M := 0)) (fun ys => idx ys = nzs zs W 0) (fun pre => ∃ j, j ≤ 0 ∧ idx pre = nzs zs W j) 0 (fun _ => False) w := by
  intro l J Jx X hX hA hAx hY h0
  refine callsIn_of_wp Tryd.func29 rfl trivial ?_ rfl
  simp only [Tryd.ntmps29, List.size_toArray, List.length_cons, List.length_nil, Nat.reduceAdd, Nat.reduceSub, Array.replicate_succ, Array.replicate_zero, List.push_toArray, List.append_toArray, List.nil_append, List.cons_append]
  gi_wp2_with fail
  go_end0
  exact ⟨⟨_, rfl⟩, .inl ⟨[], rfl, _, h0⟩⟩
set_option maxHeartbeats 1000000 in
theorem room_any (v : Value) (V M : Nat) (w : World) (hv : ∃ ao n c, v = .slice ao n c) (hV : V ≤ 64) (hM : M ≤ 8000000000) : Calls Tryd.prog 32 #[.agg (rc v V), .int .i64 (M : Int)] w fun e w' => ∃ G, e = .returned (.slice (some ⟨G, 0, none⟩) (rm M V) (rm M V)) ∧ w.heap.size ≤ G ∧ Rw .u8 5 w' G (List.replicate (rm M V) 0) ∧ Kp (fun _ => False) w w' := by
  obtain ⟨ao, n, c, rfl⟩ := hv
  have hS := Rb.new w (.slice ao n c) V
  have c1 := hS.c1
  have KP : Hid (Kp (fun _ => False) w (w.alloc (.cells (rc (.slice ao n c) V) 58))) := (Kp.refl _ _).alloc _
  have hm : (M : Int) * (V : Int) = ((M * V : Nat) : Int) := (Int.natCast_mul _ _).symm
  have hle : M * V ≤ 8000000000 * 64 := Nat.mul_le_mul hM hV
  have hq : ((M * V : Nat) : Int) + 8 - 1 = ((M * V + 7 : Nat) : Int) := by omega
  have hq1 : ((M * V + 7 : Nat) : Int).tdiv 8 = ((rm M V : Nat) : Int) := by rw [show (8 : Int) = ((8 : Nat) : Int) from rfl, tdiv_nat]; rfl
  have hr : rm M V ≤ 64000000001 := by unfold rm; omega
  have hw1 := wrap_nat (rm M V) (by omega)
  have HR : Hid (rm M V ≤ 17592186044416) := by show _ ≤ _; omega
  clear hS
  unfold rc at *
  generalize rm M V = R at *
  generalize hA : M * V = A at *
  have hq2 : (A : Int) + 8 - 1 = (A : Int) + 7 := by omega
  have hq3 : ((A : Int) + 7).tdiv 8 = (R : Int) := by rw [show (A : Int) + 7 = ((A + 7 : Nat) : Int) by omega]; exact hq1
  clear hA hq hq1
  go_enter Tryd.func32, Tryd.ntmps32
  go_wp2_with (refine wpList_make_rw 22 5 1 Tryd.underlying22 info5 (by decide) rfl _ _ rfl R rfl rfl HR.out ?_; intro w1 r1 b1)
  go_ret
  rw [World.size_alloc] at r1
  exact ⟨_, rfl, by omega, r1, KP.out.trans (Kp.of_below b1) (fun _ _ x => x)⟩
end Go.Proofs.YtjhgkcbpllgdiaaDoor
