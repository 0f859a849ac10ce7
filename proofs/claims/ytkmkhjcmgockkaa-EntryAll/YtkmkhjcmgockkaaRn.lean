/- entry: Clone, All. -/
import Derived.Test.YtkmkhjcmgockkaaRm
import Derived.Test.YtkmkhjcmgockkaaEx
namespace Go.Proofs.Ytkmkhjcmgockkaa
open Go.RowKit Go.Shelf
set_option linter.unusedVariables false
set_option maxHeartbeats 1000000 in
theorem clone_nil (w : World) : Calls Try.prog 33 #[.slice none 0 0] w fun e w' => e = .returned (.slice none 0 0) ∧ w = w' := by
  have hq : ∀ w, (binOp .eql 39 (.slice none 0 0) (.slice none 0 0)).run Try.prog w = .ok (.bool true) w := fun _ => rfl
  go_enter Try.func33, Try.ntmps33
  go_wp2_with fail
  go_ret
  exact ⟨rfl, rfl⟩
set_option maxHeartbeats 1000000 in
theorem clone_some (g off cap : Nat) (zs : List Int) (w : World) (hl : zs.length ≤ 1000000000) (hs : Src w (some ⟨g, off, none⟩) zs) : Calls Try.prog 33 #[.slice (some ⟨g, off, none⟩) zs.length cap] w fun e w' => ∃ v, e = .returned v ∧ OwnI w' w.heap.size v zs ∧ Kp (fun _ => False) w w' := by
  have T1 : Hid (([] : List Int).length + zs.length ≤ 140737488355328) := by show _ ≤ _; simp; omega
  have HS := hid (hs.kp ((Kp.refl (fun _ => False) w).alloc (.cells #[] 5)))
  have O1 : Hid (OwnI (w.alloc (.cells #[] 5)) w.heap.size (.slice (some ⟨w.heap.size, 0, none⟩) 0 0) []) := Or.inr ⟨w.heap.size, 0, [], rfl, Nat.le_refl _, Rw.new 5 w [], rfl, by decide⟩
  have Z1 : Hid (w.heap.size ≤ (w.alloc (.cells #[] 5)).heap.size) := (by show _ ≤ _; simp)
  have hq : ∀ (n c : Nat) w, (binOp .eql 39 (.slice (some ⟨g, off, none⟩) n c) (.slice none 0 0)).run Try.prog w = .ok (.bool false) w := fun _ _ _ => rfl
  go_enter Try.func33, Try.ntmps33
  go_wp2_with (at_builtin; refine wpList_append_i rfl (.tmp 5) (.tmp 6) rfl w.heap.size (.slice (some ⟨w.heap.size, 0, none⟩) 0 0) [] rfl O1.out _ _ _ zs rfl rfl (fun e => by cases e) HS.out T1.out Z1.out ?_; intro v1 w1 o1 q1 b1)
  go_ret
  exact ⟨v1, rfl, by simpa using o1, kp_base ((Kp.refl (fun _ => False) w).alloc _) (Nat.le_refl _) b1⟩
theorem clone_any (ao : Option Addr) (cap : Nat) (zs : List Int) (w : World) (hl : zs.length ≤ 1000000000) (hnil : ao = none → cap = 0) (hs : Src w ao zs) (hp : ∀ x, ao = some x → x.spot = none) : Calls Try.prog 33 #[.slice ao zs.length cap] w fun e w' => ∃ v, e = .returned v ∧ OwnI w' w.heap.size v zs ∧ Kp (fun _ => False) w w' := by
  cases ao with
  | none =>
    obtain rfl := hnil rfl
    have hz : zs = [] := by
      by_cases h : 0 < zs.length
      · obtain ⟨_, _, e, _⟩ := hs h; cases e
      · exact List.eq_nil_of_length_eq_zero (by omega)
    subst hz
    refine (clone_nil w).mono ?_
    rintro e w' ⟨rfl, rfl⟩
    exact ⟨_, rfl, OwnI.nil _ _, Kp.refl _ _⟩
  | some x =>
    obtain ⟨g, off, sp⟩ := x
    have := hp _ rfl
    simp at this
    subst this
    exact clone_some g off cap zs w hl hs
/-- What All hands out. -/
structure AllP (w w' : World) (zs : List Int) (b : Int) (bk bb : Nat) (v : Value) : Prop where
  own : OwnI w' w.heap.size v zs
  s1 : St 39 w' bk #[v]
  s2 : St 3 w' bb #[.int .i64 b]
  l1 : w.heap.size ≤ bk
  l2 : w.heap.size ≤ bb
  ne : ∀ g, v.ownBlock = some g → g ≠ bk ∧ g ≠ bb
  kp : Kp (fun _ => False) w w'
set_option maxHeartbeats 1000000 in
theorem all_any (ao : Option Addr) (cap : Nat) (zs : List Int) (b : Int) (w : World) (hl : zs.length ≤ 1000000000) (hnil : ao = none → cap = 0) (hs : Src w ao zs) (hp : ∀ x, ao = some x → x.spot = none) : Calls Try.prog 20 #[.slice ao zs.length cap, .int .i64 b] w fun e w' => ∃ bk bb v, e = .returned (.func (.func 34) #[] #[.pointer (some ⟨bk, 0, none⟩), .pointer (some ⟨bb, 0, none⟩)]) ∧ AllP w w' zs b bk bb v := by
  have K0 : Hid (Kp (fun _ => False) w (w.alloc (.cells #[.int .i64 b] 3))) := (Kp.refl _ _).alloc _
  have S0 := hid (St.new 3 w #[.int .i64 b])
  have CL := hid (clone_any ao cap zs _ hl hnil (hs.kp K0.out) hp)
  have Z0 : Hid ((w.alloc (.cells #[.int .i64 b] 3)).heap.size = w.heap.size + 1) := World.size_alloc _ _
  go_enter Try.func20, Try.ntmps20
  go_wp2_with fail
  refine CL.out.mono ?_
  rintro r w1 ⟨v, rfl, o1, k1⟩
  have hv : ∃ a1 n1 c1, v = .slice a1 n1 c1 := by
    rcases o1 with ⟨rfl, _⟩ | ⟨g, c, tl, rfl, _⟩
    · exact ⟨_, _, _, rfl⟩
    · exact ⟨_, _, _, rfl⟩
  obtain ⟨a1, n1, c1, rfl⟩ := hv
  have O1 := hid o1
  have K1 := hid (K0.out.trans k1 (fun _ _ x => x))
  have S1 := hid (S0.out.kp k1 (fun x => x))
  clear o1 k1
  have LT := hid O1.out.lt
  have KX : Hid (Kp (fun _ => False) w1 (w1.alloc (.cells #[.slice a1 n1 c1] 39))) := (Kp.refl _ _).alloc _
  have SX := hid (St.new 39 w1 #[.slice a1 n1 c1])
  have OX : Hid (OwnI (w1.alloc (.cells #[.slice a1 n1 c1] 39)) w.heap.size (.slice a1 n1 c1) zs) := by
    have h := O1.out.kept (row := none) (World.grownBy_alloc w1 (.cells #[.slice a1 n1 c1] 39) none) (by cases hq : (Value.slice a1 n1 c1).ownBlock <;> simp)
    rcases h with h | ⟨g, c, tl, h1, h2, h3⟩
    · exact Or.inl h
    · exact Or.inr ⟨g, c, tl, h1, by have := Z0.out; omega, h3⟩
  have ZL : Hid (w.heap.size + 1 ≤ w1.heap.size) := (by have h := K1.out.size; have h2 := S1.out.lt; show _ ≤ _; omega)
  go_wp2_with fail
  go_ret
  refine ⟨w1.heap.size, w.heap.size, .slice a1 n1 c1, rfl, ⟨OX.out, SX.out, S1.out.kp KX.out (fun x => x), by have := ZL.out; omega, Nat.le_refl _, fun g hg => ?_, K1.out.trans KX.out (fun _ _ x => x)⟩⟩
  have h1 := LT.out g hg
  have h2 := Z0.out
  omega
end Go.Proofs.Ytkmkhjcmgockkaa
