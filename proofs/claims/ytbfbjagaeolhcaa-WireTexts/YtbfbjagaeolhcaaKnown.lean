/- Contract of the statements' own known(): the chapter's rows that it asks are met; it makes memory and turns none that was there. -/
import Derived.Test.YtbfbjagaeolhcaaSetText
namespace Go.Proofs.Ytbfbjagaeolhcaa
open Go.RowKit

theorem byt_lit {l : List Int} (h : l.all (fun z => decide (0 ≤ z) && decide (z ≤ 255)) = true) : Byt l := by
  intro z hz
  have := List.all_eq_true.1 h z hz
  simpa using this

theorem k_set (g : Nat) (w : World) (h : Rw 5 w g [0, 0, 0, 0]) :
    Calls Try.prog 10 #[.slice (some ⟨g, 0, none⟩) 4 4, .int .i64 1, .int .i64 2, .int .u64 258] w fun e w' => e = .returned (.int .i64 0) ∧ Rw 5 w' g [0, 2, 1, 0] ∧ w.grownBy w' (some g) :=
  set_any g 4 [0, 0, 0, 0] [] 1 2 258 w (by decide) (by decide) (by decide) (by decide) h
theorem k_get (g : Nat) (w : World) (h : Rw 5 w g [0, 2, 1, 0]) :
    Calls Try.prog 7 #[.slice (some ⟨g, 0, none⟩) 4 4, .int .i64 1, .int .i64 2] w fun e w' => e = .returned (.tuple #[.int .u64 258, .int .i64 0]) ∧ w = w' :=
  get_any g 0 4 [0, 2, 1, 0] 1 2 w (by decide) (byt_lit (by decide)) h.cells
theorem k_get9 (g : Nat) (w : World) (h : Rw 5 w g [0, 2, 1, 0]) :
    Calls Try.prog 7 #[.slice (some ⟨g, 0, none⟩) 4 4, .int .i64 0, .int .i64 9] w fun e w' => e = .returned (.tuple #[.int .u64 0, .int .i64 2]) ∧ w = w' :=
  get_any g 0 4 [0, 2, 1, 0] 0 9 w (by decide) (byt_lit (by decide)) h.cells
theorem k_stext (g : Nat) (w : World) (h : Rw 5 w g [0, 0, 0, 0, 0, 0, 0]) :
    Calls Try.prog 14 #[.slice (some ⟨g, 0, none⟩) 7 7, .int .i64 0, .int .i64 3, .string ⟨#[97, 98]⟩] w fun e w' => e = .returned (.int .i64 0) ∧ Rw 5 w' g [2, 0, 0, 0, 97, 98, 0] ∧ w.grownBy w' (some g) :=
  stext_any g 7 [0, 0, 0, 0, 0, 0, 0] [] 0 3 ⟨#[97, 98]⟩ w (by decide) (by decide) h
theorem k_text (g : Nat) (w : World) (h : Rw 5 w g [2, 0, 0, 0, 97, 98, 0]) :
    Calls Try.prog 11 #[.slice (some ⟨g, 0, none⟩) 7 7, .int .i64 0, .int .i64 3] w fun e w' => e = .returned (.tuple #[.string ⟨#[97, 98]⟩, .int .i64 0]) ∧ w = w' :=
  textW_any g 0 7 [2, 0, 0, 0, 97, 98, 0] 0 3 w (by decide) (byt_lit (by decide)) h.cells (by decide)

set_option maxHeartbeats 400000 in
theorem known_any (w : World) : Calls Try.prog 6 #[] w fun e w' => e = .returned (.bool true) ∧ Below w.heap.size w w' := by
  have hm4 : ∀ w, (Instr.makeSlice 22 (.int .i64 4) (.int .i64 4)).run Try.prog w = .ok (.slice (some ⟨w.heap.size, 0, none⟩) 4 4) (w.alloc (.cells #[.int .u8 0, .int .u8 0, .int .u8 0, .int .u8 0] 5)) := fun _ => by kernel_rfl
  have hm7 : ∀ w, (Instr.makeSlice 22 (.int .i64 7) (.int .i64 7)).run Try.prog w = .ok (.slice (some ⟨w.heap.size, 0, none⟩) 7 7) (w.alloc (.cells #[.int .u8 0, .int .u8 0, .int .u8 0, .int .u8 0, .int .u8 0, .int .u8 0, .int .u8 0] 5)) := fun _ => by kernel_rfl
  go_enter Try.func6, Try.ntmps6
  go_wp2_with fail
  refine (k_set _ _ (Rw.new 5 w [0, 0, 0, 0])).mono ?_
  rintro e w1 ⟨rfl, r1, g1⟩
  go_wp2_with fail
  refine (k_get _ _ r1).mono ?_
  rintro e w' ⟨rfl, rfl⟩
  go_wp2_with fail
  refine (k_get9 _ _ r1).mono ?_
  rintro e w' ⟨rfl, rfl⟩
  go_wp2_with fail
  refine (k_stext _ _ (Rw.new 5 w1 [0, 0, 0, 0, 0, 0, 0])).mono ?_
  rintro e w2 ⟨rfl, r2, g2⟩
  go_wp2_with fail
  refine (k_text _ _ r2).mono ?_
  rintro e w' ⟨rfl, rfl⟩
  have r3 : Rw 5 w2 w.heap.size [0, 2, 1, 0] := (r1.alloc _).grown g2 (by have := r1.lt; intro e; have e2 := Option.some.inj e; omega)
  have hcv : (convert 22 9 (.slice (some ⟨w.heap.size, 0, none⟩) 4 4)).run Try.prog w2 = .ok (.string ⟨#[0, 2, 1, 0]⟩) w2 :=
    run_convert_rw w2 22 9 5 Try.underlying22 Try.underlying5 Try.underlying9 _ 4 4 [0, 2, 1, 0] rfl (fun _ => ⟨w.heap.size, 0, rfl, r3.cells⟩)
  have B : Below w.heap.size w w2 := by
    have b1 : Below w.heap.size w w1 := ((Below.refl _ _).alloc (Nat.le_refl _) _).grown g1 (by simp) (by intro k hk; cases hk; exact Nat.le_refl _)
    exact (b1.alloc b1.size _).grown g2 (by have := b1.size; simp; omega) (by intro k hk; cases hk; exact b1.size)
  clear r1 g1 r2 g2 r3
  go_wp2
  go_ret
  exact ⟨rfl, B⟩

end Go.Proofs.Ytbfbjagaeolhcaa
