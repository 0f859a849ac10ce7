/- regions: All, Gaps (what they answer), End, Count. -/
import Derived.Test.YtopnfjgkgoeleaaPu
namespace Go.Proofs.Ytopnfjgkgoeleaa
open Go.RowKit
set_option linter.unusedVariables false
set_option linter.unusedSimpArgs false
/-- What All answers. -/
def AlR (v : Value) (w : World) (e : Ending) (w' : World) : Prop := ∃ q, e = .returned (.func (.func 57) #[] #[.pointer (some ⟨q, 0, none⟩)]) ∧ w.heap.size ≤ q ∧ St 73 w' q #[v] ∧ Below w.heap.size w w'
set_option maxRecDepth 100000 in
set_option maxHeartbeats 4000000 in
theorem values_any (ao : Option Addr) (n c : Nat) (w : World) : Calls Try.prog 43 #[.slice ao n c] w (AlR (.slice ao n c) w) := by
  go_enter Try.func43, Try.ntmps43
  go_wp2
  go_ret
  exact ⟨w.heap.size, rfl, Nat.le_refl _, St.new 73 w _, (Below.refl _ _).alloc (Nat.le_refl _) _⟩
set_option maxRecDepth 100000 in
set_option maxHeartbeats 4000000 in
theorem all_any (w : World) (B : Nat) (ao : Option Addr) (n c : Nat) (h : Rb w B (.slice ao n c)) : Calls Try.prog 15 #[.pointer (some ⟨B, 0, none⟩)] w (AlR (.slice ao n c) w) := by
  have HNW := hid (now_yes B (.slice ao n c) w h)
  have HV := hid (values_any ao n c)
  go_enter Try.func15, Try.ntmps15
  go_wp2_with (first | (go_at_call 33; refine HNW.out.mono ?_; rintro e w1 ⟨rfl, rfl⟩) | (go_at_call 43; refine (HV.out _).mono ?_; rintro e w2 ⟨q, rfl, h1, h2, h3⟩))
  go_ret
  exact ⟨q, rfl, h1, h2, h3⟩
/-- What Gaps answers. -/
def GaR (v : Value) (u : Int) (w : World) (e : Ending) (w' : World) : Prop := ∃ q q2, e = .returned (.func (.func 62) #[] #[.pointer (some ⟨q, 0, none⟩), .pointer (some ⟨q2, 0, none⟩)]) ∧ w.heap.size ≤ q ∧ w.heap.size ≤ q2 ∧ St 73 w' q #[v] ∧ St 2 w' q2 #[.int .i64 u] ∧ Below w.heap.size w w'
set_option maxRecDepth 100000 in
set_option maxHeartbeats 4000000 in
theorem lgaps_any (ao : Option Addr) (n c : Nat) (u : Int) (w : World) : Calls Try.prog 50 #[.slice ao n c, .int .i64 u] w (GaR (.slice ao n c) u w) := by
  have s1 : St 73 ((w.alloc (.cells #[.slice ao n c] 73)).alloc (.cells #[.int .i64 u] 2)) w.heap.size #[.slice ao n c] := (St.new 73 w #[.slice ao n c]).kp (F := fun _ => False) ((Kp.refl _ _).alloc _) (fun x => x)
  have s2 : St 2 ((w.alloc (.cells #[.slice ao n c] 73)).alloc (.cells #[.int .i64 u] 2)) (w.heap.size + 1) #[.int .i64 u] := by
    have := St.new 2 (w.alloc (.cells #[.slice ao n c] 73)) #[.int .i64 u]
    rwa [World.size_alloc] at this
  have HS := hid (And.intro s1 s2)
  clear s1 s2
  go_enter Try.func50, Try.ntmps50
  go_wp2
  go_ret
  exact ⟨w.heap.size, w.heap.size + 1, rfl, Nat.le_refl _, by omega, HS.out.1, HS.out.2, ((Below.refl _ _).alloc (Nat.le_refl _) _).alloc (by rw [World.size_alloc]; omega) _⟩
def mn (u : Int) : Int := if 72057594037927936 < u then 72057594037927936 else u
set_option maxRecDepth 100000 in
set_option maxHeartbeats 4000000 in
theorem gaps_any (w : World) (B : Nat) (ao : Option Addr) (n c : Nat) (u : Int) (h : Rb w B (.slice ao n c)) : Calls Try.prog 23 #[.pointer (some ⟨B, 0, none⟩), .int .i64 u] w (GaR (.slice ao n c) (mn u) w) := by
  have HNO := hid (none_yes B (.slice ao n c) w h)
  have c1 := St.cell h 1
  change w.cell? _ = some (.slice ao n c) at c1
  by_cases hu : 72057594037927936 < u
  · have HV := hid (lgaps_any ao n c 72057594037927936)
    rw [show mn u = 72057594037927936 by unfold mn; rw [if_pos hu]]
    go_enter Try.func23, Try.ntmps23
    go_wp2_with (first | (go_at_call 30; refine HNO.out.mono ?_; rintro e w1 ⟨rfl, rfl⟩) | (go_at_call 50; refine (HV.out _).mono ?_; rintro e w2 ⟨q, q2, rfl, h1⟩))
    go_ret
    exact ⟨q, q2, rfl, h1⟩
  · have HV := hid (lgaps_any ao n c u)
    rw [show mn u = u by unfold mn; rw [if_neg hu]]
    go_enter Try.func23, Try.ntmps23
    go_wp2_with (first | (go_at_call 30; refine HNO.out.mono ?_; rintro e w1 ⟨rfl, rfl⟩) | (go_at_call 50; refine (HV.out _).mono ?_; rintro e w2 ⟨q, q2, rfl, h1⟩))
    go_ret
    exact ⟨q, q2, rfl, h1⟩
set_option maxRecDepth 100000 in
set_option maxHeartbeats 4000000 in
theorem end_call (w : World) (B : Nat) (ao : Option Addr) (c : Nat) (L : List Rn) (h : Rg w B ao c L) : Calls Try.prog 13 #[.pointer (some ⟨B, 0, none⟩)] w fun e w' => e = .returned (.int .i64 (endL L)) ∧ Below w.heap.size w w' := by
  have HNW := hid (now_yes B _ w h.rb)
  obtain ⟨n, hn⟩ : ∃ n, n = L.length := ⟨_, rfl⟩
  rw [← hn] at HNW
  have hn6 : n ≤ 65536 := by have := h.len; omega
  have hnc : n ≤ c := by have := h.lst.2.1; omega
  by_cases h0 : n = 0
  · obtain rfl : L = [] := List.eq_nil_of_length_eq_zero (by omega)
    subst h0
    clear hn h hn6 hnc
    go_enter Try.func13, Try.ntmps13
    go_wp2_with (first | (go_at_call 33; refine HNW.out.mono ?_; rintro e w1 ⟨rfl, rfl⟩))
    go_ret
    exact ⟨rfl, Below.refl _ _⟩
  · obtain ⟨gb, off, rfl, hgb, x0, x1, x2⟩ := h.lst.1.at (i := n - 1) (by omega)
    have HM := h.srt.may (i := n - 1) (by omega)
    have HE : Hid (endL L = (L.getD (n - 1) zRn).e) := by
      show _ = _
      unfold endL
      congr 1
      rw [List.getLastD_eq_getLast?, List.getLast?_eq_getElem?, hn]
      rfl
    generalize L.getD (n - 1) zRn = x at *
    have HEN : Hid (∀ W, Calls Try.prog 42 #[.agg x.cs] W fun e w' => e = .returned (.int .i64 x.e) ∧ Below W.heap.size W w') := fun W => end_any x W HM
    have hn1 : (n : Int) - 1 = ((n - 1 : Nat) : Int) := by omega
    have hn2 : n - 1 < n := by omega
    have HN := hid hn
    clear hn h HM
    have hw1 : IntKind.i64.wrap ((n : Int) - 1) = ((n - 1 : Nat) : Int) := by rw [IntKind.wrap_i64]; omega
    generalize n - 1 = n1 at *
    go_enter Try.func13, Try.ntmps13
    go_wp2_with (first | (go_at_call 33; refine HNW.out.mono ?_; rintro e w1 ⟨rfl, rfl⟩) | (go_at_call 42; refine (HEN.out _).mono ?_; rintro e w2 ⟨rfl, b2⟩))
    go_ret
    exact ⟨ret_int HE.out.symm, b2⟩
end Go.Proofs.Ytopnfjgkgoeleaa
