/- regions: Copy. -/
import Derived.Test.YtopnfjgkgoeleaaOb
namespace Go.Proofs.Ytopnfjgkgoeleaa
open Go.RowKit
set_option linter.unusedVariables false
set_option linter.unusedSimpArgs false
/-- What Copy leaves. -/
def CyR (w : World) (ao : Option Addr) (L : List Rn) (e : Ending) (w' : World) : Prop := ∃ C, e = .returned (.pointer (some ⟨C, 0, none⟩)) ∧ w.heap.size ≤ C ∧ Rg w' C ao L.length L ∧ Below w.heap.size w w'
set_option maxRecDepth 100000 in
set_option maxHeartbeats 4000000 in
theorem copy_any (w : World) (B : Nat) (ao : Option Addr) (c : Nat) (L : List Rn) (h : Rg w B ao c L) : Calls Try.prog 10 #[.pointer (some ⟨B, 0, none⟩)] w (CyR w ao L) := by
  have HNO := hid (none_yes B _ w h.rb)
  have c1 := St.cell h.rb 1
  change w.cell? _ = some (.slice ao L.length c) at c1
  have hBw := St.lt h.rb
  have HCU : Hid (∀ W, Calls Try.prog 31 #[.slice ao L.length c, .int .i64 ((L.length : Nat) : Int)] W fun e w' => (e = .returned (.slice ao L.length L.length)) ∧ W = w') := fun W => cut_any ao L.length c L.length W (Nat.le_refl _) h.lst.2.1 (by have := h.lst.2.2.1; unfold maxLen at this; omega) h.lst.2.2.2.1
  have HF : Hid (∀ W, Below w.heap.size w W → CyR w ao L (.returned (.pointer (some ⟨W.heap.size, 0, none⟩))) (W.alloc (.cells #[.bool true, .slice ao L.length L.length] 75))) := fun W hW => by
    have hb : Below W.heap.size W (W.alloc (.cells #[.bool true, .slice ao L.length L.length] 75)) := (Below.refl _ _).alloc (Nat.le_refl _) _
    have hg := (h.below hW).below hb
    refine ⟨_, rfl, hW.size, ⟨St.new 75 W _, ?_, h.srt, h.len⟩, hW.trans (hb.mono hW.size)⟩
    have := hg.lst.cut L.length (Nat.le_refl _)
    rwa [List.take_length] at this
  generalize L.length = n at *
  clear h
  have cc : (fun U : World => U.cell? ⟨B, 1, none⟩ = some (.slice ao n c)) w.drew := c1
  go_enter Try.func10, Try.ntmps10
  go_wp2_with (first | (go_at_call 30; refine HNO.out.mono ?_; rintro e w0 ⟨rfl, rfl⟩))
  go_region_held3 (fun U : World => U.cell? ⟨B, 1, none⟩ = some (.slice ao n c)) (first | exact cc | exact (kp_cell (F := fun _ => False) ((Kp.refl _ _).alloc _) cc (fun x => x))) (first | (go_at_call 31; refine (HCU.out _).mono ?_; rintro e w1 ⟨rfl, rfl⟩))
  go_wp2_with fail
  go_ret
  exact HF.out w.drew ⟨rfl, rfl, rfl, Nat.le_refl _, fun _ _ => rfl⟩
end Go.Proofs.Ytopnfjgkgoeleaa
