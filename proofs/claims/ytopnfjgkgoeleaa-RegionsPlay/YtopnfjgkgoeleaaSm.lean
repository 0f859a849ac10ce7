/- regions: Same, Copy, Count. -/
import Derived.Test.YtopnfjgkgoeleaaAc
import Derived.BigQuiet
namespace Go.Proofs.Ytopnfjgkgoeleaa
open Go.RowKit
set_option linter.unusedVariables false
set_option linter.unusedSimpArgs false
set_option maxRecDepth 100000 in
set_option maxHeartbeats 4000000 in
theorem equal_yes (L : List Rn) (ao bo : Option Addr) (n c d : Nat) (w : World) (hn : n = L.length) (hc : n ≤ c) (hd : n ≤ d) (hn2 : n ≤ 65536) (hA : Srcr w ao L) (hB : Srcr w bo L) :
    Calls Try.prog 32 #[.slice ao n c, .slice bo n d] w fun e w' => e = .returned (.bool true) ∧ Below w.heap.size w w' := by
  have HN := hid hn
  have HA := hid hA
  have HB := hid hB
  clear hn hA hB
  go_enter Try.func32, Try.ntmps32
  go_wp2_with fail
  go_loopw [13] (fun i wr => ∃ k : Nat, k ≤ n ∧ i = .int .i64 (k : Int) ∧ Hid (Below w.heap.size w wr)) (fun i _ => n - (intOf i).toNat)
  case atStart => exact ⟨0, Nat.zero_le _, rfl, Below.refl _ _⟩
  case round =>
    obtain ⟨k, hk, rfl, HBL⟩ := hrel
    by_cases hlt : k < n
    · obtain ⟨ga, oa, rfl, _, x0, x1, x2⟩ := (HA.out.below HBL.out).at (i := k) (by have := HN.out; omega)
      obtain ⟨gb, ob, rfl, _, y0, y1, y2⟩ := (HB.out.below HBL.out).at (i := k) (by have := HN.out; omega)
      generalize L.getD k zRn = e at *
      obtain ⟨xk, xa, xn⟩ := e
      dsimp only at x0 x1 x2 y0 y1 y2
      go_wp2_with fail
      go_quiet (fail)
      go_wp2_with fail
      go_roundw
      case rel => exact ⟨k + 1, by omega, by go_num, HBL.out.trans ((drewN_kp (fun _ => False) wr _).below HBL.out.size (fun _ x => x.elim))⟩
      case measure => simp [intOf]; omega
    · go_wp2_with fail
      go_ret
      exact ⟨rfl, HBL.out⟩
set_option maxRecDepth 100000 in
set_option maxHeartbeats 4000000 in
theorem equal_no (L M : List Rn) (ao bo : Option Addr) (n m c d : Nat) (w : World) (hn : n = L.length) (hm : m = M.length) (hc : n ≤ c) (hd : m ≤ d) (hn2 : n ≤ 65536) (hm2 : m ≤ 65536) (hne : L ≠ M) (hA : Srcr w ao L) (hB : Srcr w bo M) :
    Calls Try.prog 32 #[.slice ao n c, .slice bo m d] w fun e w' => e = .returned (.bool false) ∧ Below w.heap.size w w' := by
  by_cases hnm : n = m
  · subst hnm
    have HN := hid hn
    have HM := hid hm
    have HA := hid hA
    have HB := hid hB
    have HNE : Hid (¬ ∀ t, t < n → L.getD t zRn = M.getD t zRn) := fun h => hne (by
      apply List.ext_getElem (by omega)
      intro i h1 h2
      have := h i (by omega)
      rwa [gd h1, gd h2] at this)
    clear hn hm hA hB hne
    go_enter Try.func32, Try.ntmps32
    go_wp2_with fail
    go_loopw [13] (fun i wr => ∃ k : Nat, k ≤ n ∧ i = .int .i64 (k : Int) ∧ Hid (Below w.heap.size w wr) ∧ Hid (∀ t, t < k → L.getD t zRn = M.getD t zRn)) (fun i _ => n - (intOf i).toNat)
    case atStart => exact ⟨0, Nat.zero_le _, rfl, Below.refl _ _, fun t ht => by omega⟩
    case round =>
      obtain ⟨k, hk, rfl, HBL, HT⟩ := hrel
      by_cases hlt : k < n
      · obtain ⟨ga, oa, rfl, _, x0, x1, x2⟩ := (HA.out.below HBL.out).at (i := k) (by have := HN.out; omega)
        obtain ⟨gb, ob, rfl, _, y0, y1, y2⟩ := (HB.out.below HBL.out).at (i := k) (by have := HM.out; omega)
        have HNX : Hid (L.getD k zRn = M.getD k zRn → ∀ t, t < k + 1 → L.getD t zRn = M.getD t zRn) := fun h t ht => by
          by_cases e : t = k
          · rw [e]; exact h
          · exact HT.out t (by omega)
        generalize L.getD k zRn = e at *
        generalize M.getD k zRn = f at *
        obtain ⟨xk, xa, xn⟩ := e
        obtain ⟨yk, ya, yn⟩ := f
        dsimp only at x0 x1 x2 y0 y1 y2
        have HDR : Hid (∀ j, Below w.heap.size w (wr.drewN j)) := fun j => HBL.out.trans ((drewN_kp (fun _ => False) wr j).below HBL.out.size (fun _ x => x.elim))
        by_cases e0 : xk = yk
        · by_cases e1 : xa = ya
          · by_cases e2 : xn = yn
            · subst e0 e1 e2
              go_wp2_with fail
              go_quiet (fail)
              go_wp2_with fail
              go_roundw
              case rel => exact ⟨k + 1, by omega, by go_num, HDR.out _, HNX.out (by first | trivial | rfl)⟩
              case measure => simp [intOf]; omega
            · subst e0 e1
              go_wp2_with fail
              go_quiet (fail)
              go_wp2_with fail
              go_ret
              exact ⟨rfl, HDR.out _⟩
          · subst e0
            go_wp2_with fail
            go_quiet (fail)
            go_wp2_with fail
            go_ret
            exact ⟨rfl, HDR.out _⟩
        · go_wp2_with fail
          go_quiet (fail)
          go_wp2_with fail
          go_ret
          exact ⟨rfl, HDR.out _⟩
      · exact absurd (fun t ht => HT.out t (by omega)) HNE.out
  · clear hA hB
    go_enter Try.func32, Try.ntmps32
    go_wp2_with fail
    go_ret
    exact ⟨rfl, Below.refl _ _⟩
def SmR (w : World) (b : Bool) (e : Ending) (w' : World) : Prop := e = .returned (.bool b) ∧ Below w.heap.size w w'
set_option maxRecDepth 100000 in
set_option maxHeartbeats 4000000 in
theorem same_call (w : World) (B C : Nat) (ao bo : Option Addr) (c d : Nat) (L M : List Rn) (b : Bool) (h : Rg w B ao c L) (k : Rg w C bo d M) (hb : (b = true ∧ L = M) ∨ (b = false ∧ L ≠ M)) : Calls Try.prog 11 #[.pointer (some ⟨B, 0, none⟩), .pointer (some ⟨C, 0, none⟩)] w (SmR w b) := by
  have HN1 := hid (none_yes B _ w h.rb)
  have HN2 := hid (none_yes C _ w k.rb)
  have HW1 := hid (now_yes B _ w h.rb)
  have HW2 := hid (now_yes C _ w k.rb)
  have HEQ : Hid (Calls Try.prog 32 #[.slice ao L.length c, .slice bo M.length d] w (SmR w b)) := by
    rcases hb with ⟨rfl, rfl⟩ | ⟨rfl, hne⟩
    · exact equal_yes L ao bo L.length c d w rfl h.lst.2.1 k.lst.2.1 h.len h.lst.1 k.lst.1
    · exact equal_no L M ao bo L.length M.length c d w rfl rfl h.lst.2.1 k.lst.2.1 h.len k.len hne h.lst.1 k.lst.1
  generalize L.length = n at *
  generalize M.length = m at *
  clear h k hb
  go_enter Try.func11, Try.ntmps11
  go_wp2_with (first | (go_at_call 30; refine HN1.out.mono ?_; rintro e w1 ⟨rfl, rfl⟩; clear HN1) | (go_at_call 30; refine HN2.out.mono ?_; rintro e w1 ⟨rfl, rfl⟩; clear HN2) | (go_at_call 33; refine HW1.out.mono ?_; rintro e w1 ⟨rfl, rfl⟩; clear HW1) | (go_at_call 33; refine HW2.out.mono ?_; rintro e w1 ⟨rfl, rfl⟩; clear HW2) | (go_at_call 32; refine HEQ.out.mono ?_; rintro e w2 ⟨rfl, b2⟩))
  go_ret
  exact ⟨rfl, b2⟩
end Go.Proofs.Ytopnfjgkgoeleaa
