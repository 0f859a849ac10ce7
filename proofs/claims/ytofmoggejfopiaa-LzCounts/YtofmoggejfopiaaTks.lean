/- Tokens, and slices.Clone; rows of tokens as they are read. -/
import Derived.Test.YtofmoggejfopiaaPrs
import Derived.Test.YtofmoggejfopiaaXp
namespace Go.Proofs.Ytofmoggejfopiaa
open Go.RowKit

theorem tcs_get (ts : List Tok) (i : Nat) (hi : i < ts.length) : (tcs ts)[i * 3]? = some (.int .u8 (ts.getD i zt).1) ∧ (tcs ts)[i * 3 + 1]? = some (.int .i64 (ts.getD i zt).2.1) ∧ (tcs ts)[i * 3 + 2]? = some (.int .i64 (ts.getD i zt).2.2) := by
  induction ts generalizing i with
  | nil => simp at hi
  | cons t ts ih =>
    have e : tcs (t :: ts) = [.int .u8 t.1, .int .i64 t.2.1, .int .i64 t.2.2] ++ tcs ts := by simp [tcs]
    rw [e]
    cases i with
    | zero => simp [List.getD]
    | succ i =>
      have := ih i (by simpa using hi)
      rw [List.getElem?_append_right (by simp; omega), List.getElem?_append_right (by simp; omega), List.getElem?_append_right (by simp; omega)]
      simp only [List.length_cons, List.length_nil]
      rw [show (i + 1) * 3 - (0 + 1 + 1 + 1) = i * 3 by omega, show (i + 1) * 3 + 1 - (0 + 1 + 1 + 1) = i * 3 + 1 by omega, show (i + 1) * 3 + 2 - (0 + 1 + 1 + 1) = i * 3 + 2 by omega]
      simpa [List.getD] using this
/-- A row of tokens of one's own is read so. -/
theorem tsrc_of_owns {w : World} {base n : Nat} {v : Value} {ts : List Tok} (h : w.ownsRow base 25 3 v n (tcs ts)) (hn : ts.length = n) : ∃ ao cap, v = .slice ao n cap ∧ n ≤ cap ∧ cap ≤ maxLen ∧ TSrc w ao ts ∧ (∀ b off, ao = some ⟨b, off, none⟩ → off = 0 ∧ base ≤ b ∧ b < w.heap.size) := by
  have hc := fun g hg => h.cells (g := g) hg
  have hl := h.lt
  rcases h.2 with ⟨rfl, rfl⟩ | ⟨g, cap, cur, rfl, hb, hgg, h1, h2, _⟩
  · obtain rfl : ts = [] := List.eq_nil_of_length_eq_zero hn
    exact ⟨none, 0, rfl, Nat.le_refl _, by unfold maxLen; omega, TSrc.nil _ _, fun b off e => by cases e⟩
  · refine ⟨_, cap, rfl, h1, h2, fun _ => ⟨g, 0, rfl, fun i hi => ?_⟩, fun b off e => ?_⟩
    · obtain ⟨h3, h4, h5⟩ := tcs_get ts i hi
      have a3 := hc g rfl _ _ h3
      have a4 := hc g rfl _ _ h4
      have a5 := hc g rfl _ _ h5
      rw [add_z] at a3 a4 a5
      rw [Nat.zero_add]
      exact ⟨a3, a4, a5⟩
    · cases e
      exact ⟨rfl, hl g rfl⟩
set_option maxRecDepth 100000 in
set_option maxHeartbeats 1000000 in
theorem clone_nil (w : World) : Calls Try.prog 37 #[.slice none 0 0] w fun e w' => e = .returned (.slice none 0 0) ∧ w' = w := by
  have he : ∀ w : World, (binOp .eql 22 (.slice none 0 0) (.slice none 0 0)).run Try.prog w = .ok (.bool true) w := fun _ => rfl
  go_enter Try.func37, Try.ntmps37
  go_wp2
  go_ret
  exact ⟨rfl, rfl⟩
set_option maxRecDepth 100000 in
set_option maxHeartbeats 1000000 in
theorem clone_some (zs : List Int) (ad : Addr) (N cap : Nat) (w : World) (hNe : N = zs.length) (hN : N ≤ 10000000000) (hS : Src .u8 w (some ad) zs) :
    Calls Try.prog 37 #[.slice (some ad) N cap] w fun e w' => ∃ v, e = .returned v ∧ OwnI .u8 5 w' w.heap.size v zs ∧ Below w.heap.size w w' := by
  have he : ∀ w : World, (binOp .eql 22 (.slice (some ad) N cap) (.slice none 0 0)).run Try.prog w = .ok (.bool false) w := fun _ => rfl
  have HNE : Hid (N = zs.length) := hNe
  have HS : Hid (Src .u8 w (some ad) zs) := hS
  have hb0 : Below w.heap.size w (w.alloc (.cells #[] 5)) := (Below.refl _ _).alloc (Nat.le_refl _) _
  have HB0 : Hid (Below w.heap.size w (w.alloc (.cells #[] 5))) := hb0
  have HO : Hid (OwnI .u8 5 (w.alloc (.cells #[] 5)) w.heap.size (.slice (some ⟨w.heap.size, 0, none⟩) 0 0) []) := .inr ⟨w.heap.size, 0, [], rfl, Nat.le_refl _, St.new 5 w #[], rfl, by unfold maxLen; omega⟩
  clear hNe hS hb0
  go_enter Try.func37, Try.ntmps37
  go_wp2_with (first | (at_builtin; refine wpList_append_i (κ := .u8) 22 5 1 Try.underlying22 Try.info5 (by decide) rfl (.tmp 5) (.tmp 6) rfl w.heap.size (.slice (some ⟨w.heap.size, 0, none⟩) 0 0) [] rfl HO.out (some ad) N cap zs rfl HNE.out.symm (fun e => by cases e) (HS.out.below HB0.out) (by have := HNE.out; simp; omega) (by simp) ?_; intro v' w1 h1 h2 h3 h4))
  go_ret
  exact ⟨v', rfl, h1, HB0.out.trans h4⟩
theorem OwnI.parts {κ : IntKind} {ε : TypeId} {w : World} {base : Nat} {v : Value} {xs : List Int} (h : OwnI κ ε w base v xs) : ∃ ao cap, v = .slice ao xs.length cap ∧ xs.length ≤ cap ∧ cap ≤ maxLen ∧ Src κ w ao xs ∧ ∀ b off, ao = some ⟨b, off, none⟩ → base ≤ b ∧ b < w.heap.size := by
  have hs := h.str
  have hl := h.lt
  rcases h with ⟨rfl, rfl⟩ | ⟨g, cap, tl, rfl, hb, hr, h3, h4⟩
  · exact ⟨none, 0, rfl, Nat.le_refl _, by unfold maxLen; omega, Src.nil _ _ _, fun b off e => by cases e⟩
  · obtain ⟨ao, c, e1, e2⟩ := hs
    cases e1
    exact ⟨_, _, rfl, by rw [← h3]; simp, h4, e2, fun b off e => by cases e; exact hl g rfl⟩
set_option maxRecDepth 100000 in
set_option maxHeartbeats 2000000 in
/-- Tokens: a function over bytes of its own. -/
theorem tokens_call (zs : List Int) (ao : Option Addr) (N cap : Nat) (w : World) (hNe : N = zs.length) (hN : N ≤ 1048576) (hB : Byt zs) (hS : Src .u8 w ao zs) (hcap : ao = none → cap = 0) :
    Calls Try.prog 13 #[.slice ao N cap] w fun e w' => ∃ Bp Ba ao' cap' bo bl bc, e = .returned (.tuple #[.func (.func 50) #[] #[.pointer (some ⟨Bp, 0, none⟩), .pointer (some ⟨Ba, 0, none⟩)], .int .i64 0]) ∧ Its zs w' Bp Ba ao' cap' bo bl bc false ∧ zs.length ≤ cap' ∧ cap' ≤ maxLen ∧ (∀ i, Oz zs Bp Ba ao' bo i → w.heap.size ≤ i) ∧ Below w.heap.size w w' := by
  have HNE : Hid (N = zs.length) := hNe
  have HB : Hid (Byt zs) := hB
  have hgt : ¬ (1048576 : Int) < (N : Int) := by omega
  have key : Calls Try.prog 37 #[.slice ao N cap] w fun e w' => ∃ v, e = .returned v ∧ OwnI .u8 5 w' w.heap.size v zs ∧ Below w.heap.size w w' := by
    cases ao with
    | none =>
      have hz : zs.length = 0 := by
        by_cases h0 : 0 < zs.length
        · obtain ⟨_, _, e, _⟩ := hS h0; cases e
        · omega
      obtain rfl : cap = 0 := hcap rfl
      obtain rfl : N = 0 := by omega
      obtain rfl : zs = [] := List.eq_nil_of_length_eq_zero hz
      exact (clone_nil w).mono fun e w' ⟨h1, h2⟩ => ⟨_, h1, OwnI.nil _ _ _ _, by rw [h2]; exact Below.refl _ _⟩
    | some ad => exact clone_some zs ad N cap w hNe (by omega) hS
  have HKEY : Hid (Calls Try.prog 37 #[.slice ao N cap] w fun e w' => ∃ v, e = .returned v ∧ OwnI .u8 5 w' w.heap.size v zs ∧ Below w.heap.size w w') := key
  clear key hNe hB hS hcap
  go_enter Try.func13, Try.ntmps13
  go_wp2_with fail
  refine HKEY.out.mono ?_
  rintro e w1 ⟨v, rfl, ho1, b1⟩
  obtain ⟨ao', cap', rfl, hcl, hcm, hsrc, hlow⟩ := ho1.parts
  rw [← HNE.out]
  have HSRC : Hid (Src .u8 w1 ao' zs) := hsrc
  have HLOW : Hid (∀ b off, ao' = some ⟨b, off, none⟩ → w.heap.size ≤ b ∧ b < w1.heap.size) := hlow
  have HB1 : Hid (Below w.heap.size w w1) := b1
  have HC : Hid (zs.length ≤ cap' ∧ cap' ≤ maxLen) := ⟨hcl, hcm⟩
  clear ho1 b1 hcl hcm hsrc hlow
  go_wp2_with fail
  refine (linked_n zs N HNE.out ao' cap' w1 HB.out (by omega) HSRC.out).mono ?_
  rintro e w2 ⟨bo, bl, bc, rfl, hlk, b2, hbo⟩
  have HLK : Hid (LkV w2 zs.length (.slice bo bl bc) (lkf (bf zs))) := hlk
  have HB2 : Hid (Below w1.heap.size w1 w2) := b2
  have HBO : Hid (3 ≤ zs.length → ∃ B, bo = some ⟨B, 0, none⟩ ∧ w1.heap.size ≤ B) := hbo
  clear hlk b2 hbo
  go_wp2_with fail
  refine (tokens_any ao' N cap' bo bl bc false w2).mono ?_
  rintro e w3 ⟨rfl, rfl⟩
  go_wp2
  go_ret2
  have hbw : Below w2.heap.size w2 ((w2.alloc (.cells #[.slice ao' N cap', .slice bo bl bc] 71)).alloc (.cells #[.bool false] 4)) := ((Below.refl _ w2).alloc (Nat.le_refl _) _).alloc (by simp) _
  have h12 := HB2.out.size
  have h01 := HB1.out.size
  refine ⟨w2.heap.size, w2.heap.size + 1, ao', cap', bo, bl, bc, rfl, ⟨?_, ?_, (HSRC.out.below HB2.out).below hbw, HLK.out.below hbw⟩, HC.out.1, HC.out.2, ?_, (HB1.out.trans (HB2.out.mono h01)).trans (hbw.mono (by omega))⟩
  · have := (St.new 71 w2 #[.slice ao' N cap', .slice bo bl bc]).below (B := w2.heap.size + 1) ((Below.refl _ _).alloc (by simp) (.cells #[.bool false] 4)) (by omega)
    rw [HNE.out] at this ⊢
    exact this
  · have := St.new 4 (w2.alloc (.cells #[.slice ao' N cap', .slice bo bl bc] 71)) #[.bool false]
    rw [World.size_alloc] at this
    exact this
  · rintro i (rfl | rfl | ⟨_, off, e⟩ | ⟨h3, off, e⟩)
    · omega
    · omega
    · exact (HLOW.out i off e).1
    · obtain ⟨B, e1, e2⟩ := HBO.out h3
      rw [e] at e1
      cases e1
      omega
end Go.Proofs.Ytofmoggejfopiaa
