/- stops: what is asked of no store. -/
import Derived.Test.YtlnknkeagonmpaaGreatNl
import Derived.Test.YtlnknkeagonmpaaGreatRe
import Derived.Test.YtlnknkeagonmpaaGreatOw
import Derived.Test.YtlnknkeagonmpaaGreatRt
import Derived.RangeFuncNested
import Derived.Laws.EntriesVeiled
namespace Go.Proofs.YtlnknkeagonmpaaGreat
open Go.RowKit

set_option maxRecDepth 100000 in
theorem snone_nos (v : Value) (w : World) (h : Nos w v) : Calls Tryz.prog 45 #[v] w fun e w' => e = .returned (.bool true) ∧ w' = w := by
  have H := hid h
  clear h
  go_enter Tryz.func45, Tryz.ntmps45
  go_wp2_with (first | (go_at_call 71; refine (same_nos v (.pointer none) w H.out (.inl rfl)).mono ?_; rintro e w' ⟨rfl, h⟩; replace h := h.symm; subst h))
  go_ret
  exact ⟨rfl, rfl⟩
set_option maxRecDepth 100000 in
theorem copy_nos (v : Value) (w : World) (h : Nos w v) : Calls Tryz.prog 30 #[v] w fun e w' => e = .returned (.pointer none) ∧ w' = w := by
  have H := hid h
  clear h
  go_enter Tryz.func30, Tryz.ntmps30
  go_wp2_with (first | (go_at_call 57; refine (none_nos _ _ H.out).mono ?_; rintro e w' ⟨rfl, h⟩; replace h := h.symm; subst h))
  go_ret
  exact ⟨rfl, rfl⟩
set_option maxRecDepth 100000 in
theorem some_nos (v : Value) (seed n : Int) (w : World) (h : Nos w v) : Calls Tryz.prog 17 #[v, .int .u64 seed, .int .i64 n] w fun e w' => e = .returned (.tuple #[.slice none 0 0, .int .i64 1]) ∧ w' = w := by
  have H := hid h
  clear h
  go_enter Tryz.func17, Tryz.ntmps17
  go_wp2_with (first | (go_at_call 45; refine (snone_nos _ _ H.out).mono ?_; rintro e w' ⟨rfl, h⟩; replace h := h.symm; subst h))
  go_ret2
  exact ⟨rfl, rfl⟩
set_option maxRecDepth 100000 in
theorem count_nos (v : Value) (w : World) (h : Nos w v) : Calls Tryz.prog 18 #[v] w fun e w' => e = .returned (.tuple #[.int .i64 0, .int .i64 1]) ∧ w' = w := by
  have H := hid h
  clear h
  go_enter Tryz.func18, Tryz.ntmps18
  go_wp2_with (first | (go_at_call 45; refine (snone_nos _ _ H.out).mono ?_; rintro e w' ⟨rfl, h⟩; replace h := h.symm; subst h))
  go_ret2
  exact ⟨rfl, rfl⟩
set_option maxRecDepth 100000 in
theorem plain_nos (v : Value) (ao : Option Addr) (n c : Nat) (w : World) (h : Nos w v) : Calls Tryz.prog 19 #[v, .slice ao n c] w fun e w' => e = .returned (.tuple #[.slice none 0 0, .int .i64 1]) ∧ w' = w := by
  have H := hid h
  clear h
  go_enter Tryz.func19, Tryz.ntmps19
  go_wp2_with (first | (go_at_call 45; refine (snone_nos _ _ H.out).mono ?_; rintro e w' ⟨rfl, h⟩; replace h := h.symm; subst h))
  go_ret2
  exact ⟨rfl, rfl⟩
set_option maxRecDepth 100000 in
theorem ways_nos (v : Value) (w : World) (h : Nos w v) : Calls Tryz.prog 28 #[v] w fun e w' => e = .returned (.func (.func 55) #[] #[]) ∧ w' = w := by
  have H := hid h
  clear h
  go_enter Tryz.func28, Tryz.ntmps28
  go_wp2_with (first | (go_at_call 45; refine (snone_nos _ _ H.out).mono ?_; rintro e w' ⟨rfl, h⟩; replace h := h.symm; subst h))
  go_ret
  exact ⟨rfl, rfl⟩
set_option maxRecDepth 100000 in
theorem all_nos (v : Value) (w : World) (h : Nos w v) : Calls Tryz.prog 9 #[v] w fun e w' => e = .returned (.func (.func 29) #[] #[.pointer (some ⟨w.heap.size, 0, none⟩)]) ∧ w' = w.alloc (.cells #[.func (.func 55) #[] #[]] 77) := by
  have H := hid h
  clear h
  go_enter Tryz.func9, Tryz.ntmps9
  go_wp2_with (first | (go_at_call 28; refine (ways_nos _ _ H.out).mono ?_; rintro e w' ⟨rfl, h⟩; replace h := h.symm; subst h))
  go_ret
  exact ⟨rfl, rfl⟩
set_option maxRecDepth 100000 in
theorem images_nos (w : World) : Calls Tryz.prog 10 #[.pointer none] w fun e w' => e = .returned (.func (.func 31) #[] #[.pointer (some ⟨w.heap.size + 1, 0, none⟩), .pointer (some ⟨w.heap.size, 0, none⟩)]) ∧ w' = (w.alloc (.cells #[.pointer none] 25)).alloc (.cells #[.func (.func 55) #[] #[]] 77) := by
  go_enter Tryz.func10, Tryz.ntmps10
  go_wp2_with (first
    | (go_at_call 30; refine (copy_nos _ _ (.inl rfl)).mono ?_; rintro e w' ⟨rfl, h⟩; replace h := h.symm; subst h)
    | (go_at_call 28; refine (ways_nos _ _ (.inl rfl)).mono ?_; rintro e w' ⟨rfl, h⟩; replace h := h.symm; subst h))
  go_ret
  exact ⟨rfl, rfl⟩
attribute [local go_sem] Oper.semAt_some
theorem grown_kp {A B : World} (k : Kp (fun _ => False) A B) : A.grownBy B none := ⟨k.os, k.tape, k.output, k.size, fun i hi _ => k.block i hi (fun h => h)⟩
set_option maxRecDepth 100000 in
theorem ways1_stops0 (F : Fence) (n : Nat) (h55 : F.fn 55) (hro : F.round = none) (w : World) :
    SeqStopsK F n Tryz.prog 55 #[] (fun _ : Unit => #[undef, undef]) (fun _ _ => True) (fun xs => xs = []) (fun _ => False) 0 w := by
  intro l J Jx W hW _ _ hY h0
  clear hY
  refine callsIn_of_wp Tryz.func55 rfl h55 ?_ hro
  simp only [Tryz.ntmps55, List.size_toArray, List.length_cons, List.length_nil, Nat.reduceAdd, Nat.reduceSub, Array.replicate_succ, Array.replicate_zero, List.push_toArray, List.append_toArray, List.nil_append, List.cons_append]
  gi_wp2
  go_end0
  exact ⟨⟨_, rfl⟩, .inl ⟨[], rfl, h0⟩⟩
set_option maxRecDepth 100000 in
set_option maxHeartbeats 1000000 in
theorem all1_stops0 (F : Fence) (n : Nat) (hn : 2 ≤ n) (h29 : F.fn 29) (h55 : F.fn 55) (hro : F.round = none) (Bp : Nat) (w : World) (hc : w.cell? ⟨Bp, 0, none⟩ = some (.func (.func 55) #[] #[])) :
    SeqStopsK F n Tryz.prog 29 #[.pointer (some ⟨Bp, 0, none⟩)] (fun _ : Unit => #[undef]) (fun _ _ => True) (fun xs => xs = []) (fun _ => False) 0 w := by
  intro l J Jx W hW hJ _ hY h0
  have c0 : W.cell? ⟨Bp, 0, none⟩ = some (.func (.func 55) #[] #[]) := (hW.cell (block_lt_of_cell hc)).trans hc
  have c1 : ∀ o, (W.alloc o).cell? ⟨Bp, 0, none⟩ = some (.func (.func 55) #[] #[]) := fun o => kp_cell ((Kp.refl (fun _ => False) _).alloc o) c0 (fun h => h)
  clear hY c0
  have HJ := hid hJ
  have H0 := hid h0
  clear hJ h0
  refine callsIn_of_wp_marks Tryz.func29 rfl h29 ?_ hro
  simp only [Tryz.ntmps29, List.size_toArray, List.length_cons, List.length_nil, Nat.reduceAdd, Nat.reduceSub, Array.replicate_succ, Array.replicate_zero, List.push_toArray, List.append_toArray, List.nil_append, List.cons_append]
  gi_wp2_with fail
  have k1 : Kp (fun _ => False) W (W.alloc (.cells #[.func (.yield l) #[] #[]] 79)) := (Kp.refl _ _).alloc _
  clear c1
  generalize W.alloc (.cells #[.func (.yield l) #[] #[]] 79) = W1 at k1 ⊢
  refine wpIn_rangeFunc_ownH hro (by omega) (gf := 55) (lb := #[]) rfl h55 (enters_of Tryz.func55 (by kernel_rfl) rfl)
    (ways1_stops0 F (n - 1) h55 hro W1) (fun _ _ => trivial) (fun _ _ _ _ _ _ _ _ => trivial) (Below.refl _ _) (fun _ => rfl)
    (fun _ X => Kp (fun _ => False) W X) (fun _ _ _ => False)
    (fun pp A B row hs hg hr => hs.trans (turns_own hg hr).kp (fun i hi h => by have := k1.size; omega)) (fun cc pp A B row hs hg hr => hs) k1 (fun _ _ _ => True) (fun _ _ _ _ _ _ _ _ _ => trivial)
    ?assign (fun l pre x a' W _ _ _ _ hl => absurd hl (Nat.not_lt_zero _)) ?done (fun D c pre W hD hs => hs.elim)
  case assign =>
    intro l pre x W K hi hK
    gi_wp2
    exact hK _ _ (KeepsFrom.refl _ _) trivial hi trivial
  rintro Dd xs W2 hD hxs hkp hKd
  gi_wp2
  refine ⟨by simp, .inl ⟨_, _, rfl, run_takeDeferred hKd, ?_⟩⟩
  have k3 := hkp.trans (kp_put1 W2 Dd (.deferred none)) (fun i h1 h2 => by have := k1.size; omega)
  exact ⟨_, results_none rfl _ _ _, ⟨_, rfl⟩, .inl ⟨[], rfl, HJ.out [] W _ none H0.out (grown_kp k3) (fun r e => by cases e)⟩⟩
set_option maxRecDepth 100000 in
set_option maxHeartbeats 1000000 in
theorem images1_stops0 (F : Fence) (n : Nat) (hn : 2 ≤ n) (h31 : F.fn 31) (h55 : F.fn 55) (hro : F.round = none) (Bp Bq : Nat) (w : World) (hc : w.cell? ⟨Bp, 0, none⟩ = some (.func (.func 55) #[] #[])) :
    SeqStopsK F n Tryz.prog 31 #[.pointer (some ⟨Bp, 0, none⟩), .pointer (some ⟨Bq, 0, none⟩)] (fun _ : Unit => #[undef, undef]) (fun _ _ => True) (fun xs => xs = []) (fun _ => False) 0 w := by
  intro l J Jx W hW hJ _ hY h0
  have c0 : W.cell? ⟨Bp, 0, none⟩ = some (.func (.func 55) #[] #[]) := (hW.cell (block_lt_of_cell hc)).trans hc
  have c1 : ∀ o, (W.alloc o).cell? ⟨Bp, 0, none⟩ = some (.func (.func 55) #[] #[]) := fun o => kp_cell ((Kp.refl (fun _ => False) _).alloc o) c0 (fun h => h)
  clear hY c0
  have HJ := hid hJ
  have H0 := hid h0
  clear hJ h0
  refine callsIn_of_wp_marks Tryz.func31 rfl h31 ?_ hro
  simp only [Tryz.ntmps31, List.size_toArray, List.length_cons, List.length_nil, Nat.reduceAdd, Nat.reduceSub, Array.replicate_succ, Array.replicate_zero, List.push_toArray, List.append_toArray, List.nil_append, List.cons_append]
  gi_wp2_with fail
  have k1 : Kp (fun _ => False) W (W.alloc (.cells #[.func (.yield l) #[] #[]] 81)) := (Kp.refl _ _).alloc _
  clear c1
  generalize W.alloc (.cells #[.func (.yield l) #[] #[]] 81) = W1 at k1 ⊢
  refine wpIn_rangeFunc_ownH hro (by omega) (gf := 55) (lb := #[]) rfl h55 (enters_of Tryz.func55 (by kernel_rfl) rfl)
    (ways1_stops0 F (n - 1) h55 hro W1) (fun _ _ => trivial) (fun _ _ _ _ _ _ _ _ => trivial) (Below.refl _ _) (fun _ => rfl)
    (fun _ X => Kp (fun _ => False) W X) (fun _ _ _ => False)
    (fun pp A B row hs hg hr => hs.trans (turns_own hg hr).kp (fun i hi h => by have := k1.size; omega)) (fun cc pp A B row hs hg hr => hs) k1 (fun _ _ _ => True) (fun _ _ _ _ _ _ _ _ _ => trivial)
    ?assign (fun l pre x a' W _ _ _ _ hl => absurd hl (Nat.not_lt_zero _)) ?done (fun D c pre W hD hs => hs.elim)
  case assign =>
    intro l pre x W K hi hK
    gi_wp2
    exact hK _ _ (KeepsFrom.refl _ _) trivial hi trivial
  rintro Dd xs W2 hD hxs hkp hKd
  gi_wp2
  refine ⟨by simp, .inl ⟨_, _, rfl, run_takeDeferred hKd, ?_⟩⟩
  have k3 := hkp.trans (kp_put1 W2 Dd (.deferred none)) (fun i h1 h2 => by have := k1.size; omega)
  exact ⟨_, results_none rfl _ _ _, ⟨_, rfl⟩, .inl ⟨[], rfl, HJ.out [] W _ none H0.out (grown_kp k3) (fun r e => by cases e)⟩⟩
end Go.Proofs.YtlnknkeagonmpaaGreat
