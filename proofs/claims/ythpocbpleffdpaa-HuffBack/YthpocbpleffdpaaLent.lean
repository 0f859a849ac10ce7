/- The statements' own lent, ints and kept. -/
import Derived.Test.YthpocbpleffdpaaMay
import Derived.Deep.QuietTactic
import Derived.BigQuiet
namespace Go.Proofs.Ythpocbpleffdpaa
open Go.RowKit

theorem infoI : (Try.prog.info? 3).map (fun i => (i.zero, i.size, i.bytes)) = some (some (.int .i64 0), 1, 8) := by kernel_rfl
theorem OwnI.alloc {k : IntKind} {ε : TypeId} {w : World} {base : Nat} {v : Value} {xs : List Int} (h : OwnI k ε w base v xs) (o : Obj) : OwnI k ε (w.alloc o) base v xs := h.kp ((Kp.refl (fun _ => False) w).alloc o) (fun _ _ e => e)
theorem OwnI.drew {k : IntKind} {ε : TypeId} {w : World} {base : Nat} {v : Value} {xs : List Int} (h : OwnI k ε w base v xs) : OwnI k ε w.drew base v xs := h
theorem below_drewN (B : Nat) (w : World) (n : Nat) : Below B w (w.drewN n) := by
  induction n generalizing w with
  | zero => exact Below.refl _ _
  | succ n ih => exact (ih w).drew
theorem own_empty (k : IntKind) (ε : TypeId) (w : World) : OwnI k ε (w.alloc (.cells #[] ε)) w.heap.size (.slice (some ⟨w.heap.size, 0, none⟩) 0 0) [] :=
  .inr ⟨w.heap.size, 0, [], rfl, Nat.le_refl _, Rw.new k ε w [], rfl, by decide⟩
theorem own_form2 {k : IntKind} {ε : TypeId} {w : World} {base : Nat} {v : Value} {zs : List Int} {z : Int} (h : OwnI k ε w base v ([] ++ zs ++ [z])) :
    ∃ G c tl, v = .slice (some ⟨G, 0, none⟩) (zs.length + 1) c ∧ base ≤ G ∧ Rw k ε w G (zs ++ (z :: tl)) ∧ zs.length + 1 ≤ c ∧ c ≤ maxLen := by
  rcases h with ⟨_, h2⟩ | ⟨g, cap, tl, rfl, hb, hr, h3, h4⟩
  · simp at h2
  · exact ⟨g, cap, tl, by simp, hb, by simpa using hr, by simp at h3; omega, h4⟩
set_option maxRecDepth 100000 in
set_option maxHeartbeats 2000000 in
theorem lent_any (a0 : Option Addr) (c0 : Nat) (zs : List Int) (w : World) (hl : zs.length ≤ 17592186044400) (hs : Src .i64 w a0 zs) (hnil : a0 = none → c0 = 0) :
    Calls Try.prog 8 #[.slice a0 zs.length c0] w fun e w' => ∃ G c tl, e = .returned (.slice (some ⟨G, 0, none⟩) zs.length c) ∧ w.heap.size ≤ G ∧ Rw .i64 3 w' G (zs ++ (77 :: tl)) ∧ zs.length + 1 ≤ c ∧ c ≤ maxLen ∧ Below w.heap.size w w' := by
  have T1 : Hid (([] : List Int).length + zs.length ≤ 17592186044416) := by show _ ≤ _; simp; omega
  have T2 : Hid (([] ++ zs : List Int).length + ([77] : List Int).length ≤ 17592186044416) := by show _ ≤ _; simp; omega
  have HNIL : Hid (a0 = none → c0 = 0) := hnil
  have hsrc0 : Src .i64 (w.alloc (.cells #[] 3)) a0 zs := hs.below ((Below.refl _ _).alloc (Nat.le_refl _) _)
  clear hnil hs
  go_enter Try.func8, Try.ntmps8
  go_wp2_with (first | (at_builtin; refine wpList_append_i 22 3 8 Try.underlying22 infoI (by decide) rfl (.tmp 3) (.tmp 4) rfl w.heap.size (.slice (some ⟨w.heap.size, 0, none⟩) 0 0) [] rfl (own_empty .i64 3 w) _ _ _ zs rfl rfl HNIL.out hsrc0 T1.out (by simp) ?_; intro v1 w1 o1 q1 n1 b1) | (at_builtin; refine wpList_append_i 22 3 8 Try.underlying22 infoI (by decide) rfl (.tmp 5) (.tmp 6) rfl w.heap.size v1 ([] ++ zs) rfl (o1.alloc _) _ _ _ [77] rfl rfl (fun e => by cases e) (row_src (tl := []) (Rw.new .i64 3 w1 [77])) T2.out (by have := b1.size; simp at this ⊢; omega) ?_; intro v2 w2 o2 q2 n2 b2; obtain ⟨G, c, tl, rfl, hG, hrow, hc1, hc2⟩ := own_form2 o2))
  have k2 : Below w.heap.size w w2 := (((Below.refl w.heap.size w).alloc (Nat.le_refl _) _).trans b1).alloc (by have := b1.size; simp at this ⊢; omega) _ |>.trans b2
  go_ret
  exact ⟨G, c, tl, rfl, hG, hrow, hc1, hc2, k2⟩
set_option maxRecDepth 100000 in
set_option maxHeartbeats 2000000 in
theorem ints_eq (a0 a1 : Option Addr) (c0 c1 : Nat) (zs : List Int) (w : World) (hl : zs.length ≤ 17592186044400) (h0 : Src .i64 w a0 zs) (h1 : Src .i64 w a1 zs) :
    Calls Try.prog 27 #[.slice a0 zs.length c0, .slice a1 zs.length c1] w fun e w' => e = .returned (.bool true) ∧ Below w.heap.size w w' := by
  have HS : Hid (Src .i64 w a0 zs ∧ Src .i64 w a1 zs) := ⟨h0, h1⟩
  clear h0 h1
  go_enter Try.func27, Try.ntmps27
  go_wp2_with fail
  go_loopw [5] (fun iv wr => ∃ j : Nat, j ≤ zs.length ∧ iv = .int .i64 j ∧ Below w.heap.size w wr) (fun i _ => zs.length - (intOf i).toNat)
  case atStart => exact ⟨0, Nat.zero_le _, rfl, Below.refl _ _⟩
  case round =>
    obtain ⟨j, hj, rfl, hB⟩ := hrel
    by_cases hjl : j < zs.length
    · obtain ⟨b, off, rfl, hc⟩ := (HS.out.1.below hB) (by omega)
      obtain ⟨b', off', rfl, hc'⟩ := (HS.out.2.below hB) (by omega)
      have e1 := hc j hjl
      have e2 := hc' j hjl
      generalize zs.getD j 0 = z at e1 e2
      clear hc hc'
      have HB : Hid (Below w.heap.size w wr) := hB
      clear hB
      go_wp2_with fail
      go_quiet (fail)
      go_wp2_with fail
      go_roundw
      case rel => exact ⟨j + 1, by omega, by go_num, HB.out.trans (below_drewN _ _ _)⟩
      case measure => simp [intOf]; omega
    · go_wp2_with fail
      go_ret
      exact ⟨rfl, hB⟩
set_option maxRecDepth 100000 in
set_option maxHeartbeats 2000000 in
theorem kept_eq (G c : Nat) (a1 : Option Addr) (c1 : Nat) (zs tl : List Int) (w : World) (hl : zs.length ≤ 17592186044400) (hc : zs.length + 1 ≤ c) (hrow : Rw .i64 3 w G (zs ++ (77 :: tl))) (h1 : Src .i64 w a1 zs) :
    Calls Try.prog 11 #[.slice (some ⟨G, 0, none⟩) zs.length c, .slice a1 zs.length c1] w fun e w' => e = .returned (.bool true) ∧ Below w.heap.size w w' := by
  have T := ints_eq (some ⟨G, 0, none⟩) a1 c c1 zs w hl (row_src hrow) h1
  have HR : Hid (Rw .i64 3 w G (zs ++ (77 :: tl))) := hrow
  clear hrow h1
  go_enter Try.func11, Try.ntmps11
  go_wp2_with fail
  refine T.mono ?_
  rintro e w1 ⟨rfl, b1⟩
  clear T
  have hrow1 : Rw .i64 3 w1 G (zs ++ (77 :: tl)) := HR.out.below b1 HR.out.lt
  have h77 : w1.cell? ⟨G, zs.length, none⟩ = some (.int .i64 77) := by
    rw [hrow1.cell zs.length (by simp)]
    simp [List.getD]
  clear hrow1
  go_wp2_with fail
  go_ret
  exact ⟨rfl, b1⟩
end Go.Proofs.Ythpocbpleffdpaa
