/- huff: New of lengths that are no code; Lengths; nil and zero codes. -/
import Derived.Test.YthpocbpleffdpaaDn
import Derived.Test.YthpocbpleffdpaaDc
import Derived.Test.YthpocbpleffdpaaDp
import Derived.Test.YthpocbpleffdpaaCf
namespace Go.Proofs.Ythpocbpleffdpaa
open Go.RowKit Go.Shelf
attribute [local go_sem] Oper.semAt_some
set_option linter.unusedVariables false
set_option linter.unusedSimpArgs false
set_option maxRecDepth 100000 in
set_option maxHeartbeats 4000000 in
theorem new_bad (a : Option Addr) (cap : Nat) (zs : List Int) (w : World) (hs : Src .i64 w a zs) (hm : may zs ≠ 0) (hl : zs.length ≤ 4000000000000000000) :
    Calls Try.prog 26 #[.slice a zs.length cap] w fun e w' => e = .returned (.tuple #[.pointer none, .int .i64 (may zs)]) ∧ Below w.heap.size w w' := by
  have HC := hid (codes_bad a cap zs w hs hm hl)
  have h1 : (may zs != 0) = true := by simpa using hm
  have h2 : (may zs == 0) = false := by simpa using hm
  generalize may zs = m at *
  clear hs
  go_enter Try.func26, Try.ntmps26
  go_wp2_with (first | (go_at_call 10; refine HC.out.mono ?_; rintro e w1 ⟨rfl, b1⟩))
  go_ret2
  exact ⟨rfl, b1⟩
theorem put_nil (p : Option Addr) (v : Value) (w : World) : Calls Try.prog 33 #[.pointer none, .pointer p, v] w fun e w' => e = .returned (.tuple #[.int .i64 0, .int .i64 1]) ∧ w = w' := by
  go_enter Try.func33, Try.ntmps33
  go_wp2_with fail
  go_ret2
  exact ⟨rfl, rfl⟩
theorem put_nilw (g : Nat) (v : Value) (w : World) : Calls Try.prog 33 #[.pointer (some ⟨g, 0, none⟩), .pointer none, v] w fun e w' => e = .returned (.tuple #[.int .i64 0, .int .i64 1]) ∧ w = w' := by
  go_enter Try.func33, Try.ntmps33
  go_wp2_with fail
  go_ret2
  exact ⟨rfl, rfl⟩
theorem take_nil (p : Option Addr) (w : World) : Calls Try.prog 41 #[.pointer none, .pointer p] w fun e w' => e = .returned (.tuple #[.int .i64 0, .int .i64 1]) ∧ w = w' := by
  go_enter Try.func41, Try.ntmps41
  go_wp2_with fail
  go_ret2
  exact ⟨rfl, rfl⟩
theorem take_nilr (g : Nat) (w : World) : Calls Try.prog 41 #[.pointer (some ⟨g, 0, none⟩), .pointer none] w fun e w' => e = .returned (.tuple #[.int .i64 0, .int .i64 1]) ∧ w = w' := by
  go_enter Try.func41, Try.ntmps41
  go_wp2_with fail
  go_ret2
  exact ⟨rfl, rfl⟩
set_option maxRecDepth 100000 in
theorem clone_none (c : Nat) (w : World) : Calls Try.prog 54 #[.slice none 0 c] w fun e w' => e = .returned (.slice none 0 0) ∧ w = w' := by
  have hnn : ∀ U : World, (binOp .eql 22 (.slice none 0 c) (.slice none 0 0)).run Try.prog U = .ok (.bool true) U := fun _ => rfl
  go_enter Try.func54, Try.ntmps54
  go_wp2_with fail
  go_ret
  exact ⟨rfl, rfl⟩
theorem lengths_nil (w : World) : Calls Try.prog 28 #[.pointer none] w fun e w' => e = .returned (.slice none 0 0) ∧ w = w' := by
  go_enter Try.func28, Try.ntmps28
  go_wp2_with fail
  go_ret
  exact ⟨rfl, rfl⟩
theorem lengths_any (g : Nat) (la ca sa : Option Addr) (lc cc sc : Nat) (zs S : List Int) (w : World) (hc : Cd w g la ca sa lc cc sc zs S) :
    Calls Try.prog 28 #[.pointer (some ⟨g, 0, none⟩)] w fun e w' => ∃ ao c, e = .returned (.slice ao zs.length c) ∧ Src .i64 w' ao zs ∧ Below w.heap.size w w' := by
  have c0 := hc.cell.1
  have HCL : Hid (Calls Try.prog 54 #[.slice la zs.length lc] w fun e w' => ∃ ao c, e = .returned (.slice ao zs.length c) ∧ Src .i64 w' ao zs ∧ Below w.heap.size w w') := by
    cases la with
    | none =>
      have h0 : zs.length = 0 := by
        rcases Nat.eq_zero_or_pos zs.length with h | h
        · exact h
        · obtain ⟨b, off, e, _⟩ := hc.sl h; cases e
      rw [h0]
      refine (clone_none lc w).mono ?_
      rintro e w' ⟨rfl, rfl⟩
      exact ⟨none, 0, rfl, fun hp => by omega, Below.refl _ _⟩
    | some ad =>
      refine (clone_some ad lc zs w (by have := hc.hl; omega) hc.sl).mono ?_
      rintro e w' ⟨ao, c, h1, _, h2, _, h3⟩
      exact ⟨ao, c, h1, h2, h3⟩
  clear hc
  go_enter Try.func28, Try.ntmps28
  go_wp2_with (first | (go_at_call 54; refine HCL.out.mono ?_; rintro e w1 ⟨ao, c, rfl, s1, b1⟩))
  go_ret
  exact ⟨ao, c, rfl, s1, b1⟩
/-- A zero code is a code of no lengths. -/
theorem cd_zero (w : World) (g : Nat) (h : Sc 89 w g (cdc none none none 0 0 0 [] [])) : Cd w g none none none 0 0 0 [] [] := by
  refine ⟨h, Src.nil _ _ _, ?_, Src.nil _ _ _, ?_, by simp, ?_, by simp, by simp, by simp⟩
  · intro hp; rw [codes_len] at hp; simp at hp
  · intro x hx; simp at hx
  · refine ⟨by decide, ?_⟩
    intro k n h1 h2 h3
    simp at h3
    omega
set_option maxRecDepth 100000 in
set_option maxHeartbeats 4000000 in
theorem all_none (n : Nat) (hn : 3 ≤ n) (bk : Nat) (w : World) (s1 : Sc 53 w bk #[.pointer none]) :
    SeqW Fence.wide n Try.prog 56 #[] #[.pointer (some ⟨bk, 0, none⟩)] (fun x : Nat × Int => #[.int .i64 (x.1 : Int), .int .u64 x.2]) (fun ys Y => ys = [] ∧ KR (fun i => i = bk) w Y) (fun pre Y => KR (fun i => i = bk) w Y) (fun pre => False) (fun i => i = bk) w := by
  intro l J Jx W hW hA hAx hY h0
  have KW : Kp (fun _ => False) w W := Kp.of_below hW
  have K0 : Kp (fun _ => False) W (W.alloc (.cells #[.func (.yield l) #[] #[]] 90)) := (Kp.refl _ _).alloc _
  have T1 := (s1.kp KW (fun h => h)).kp K0 (fun h => h)
  have c1 : (W.alloc (.cells #[.func (.yield l) #[] #[]] 90)).cell? ⟨bk, 0, none⟩ = some (.pointer none) := T1.cell 0
  have J2 := hid (hA [] _ W _ h0 (K0.mono (fun _ _ x => x.elim)))
  have KR2 : Hid (KR (fun i => i = bk) w (W.alloc (.cells #[.func (.yield l) #[] #[]] 90))) := fun i hi => by
    rw [hi]
    exact (K0.block bk (by have := s1.lt; have := KW.size; omega) (fun h => h)).trans (KW.block bk s1.lt (fun h => h))
  clear s1 hW T1 KW K0 hY h0 hA hAx
  refine callsIn_of_wp Try.func56 rfl trivial ?_ rfl
  simp only [Try.ntmps56, List.size_toArray, List.length_cons, List.length_nil, Nat.reduceAdd, Nat.reduceSub, Array.replicate_succ, Array.replicate_zero, List.push_toArray, List.append_toArray, List.nil_append, List.cons_append]
  gi_wp2_with fail
  refine bodyPost_ret (results_none rfl _ _ _) rfl ?_
  exact ⟨⟨_, rfl⟩, .inl ⟨_, _, ⟨rfl, KR2.out⟩, J2.out⟩⟩
end Go.Proofs.Ythpocbpleffdpaa
