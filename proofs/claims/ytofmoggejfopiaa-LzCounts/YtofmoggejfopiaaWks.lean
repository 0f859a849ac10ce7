/- The statement's own works: a text with something that comes again. -/
import Derived.Test.YtofmoggejfopiaaTks
import Derived.Lib.SmallJoins
namespace Go.Proofs.Ytofmoggejfopiaa
open Go.RowKit

def wz : List Int := [97, 98, 99, 97, 98, 99, 97, 98, 99, 100]
def wt : List Tok := [(97, 0, 0), (98, 0, 0), (99, 0, 0), (0, 6, 3), (100, 0, 0)]
theorem wz_many : Many (bf wz) 10 false 5 := by unfold Many; decide +kernel
theorem wz_toks : tks (bf wz) 10 false 5 = wt := by decide +kernel
theorem wt_ok : okK wt 5 := by unfold okK; decide +kernel
theorem wt_exp : xpR 10 wt = (wz, 5, 0) := by decide +kernel
theorem wz_byt : Byt wz := by unfold Byt; decide
set_option maxRecDepth 100000 in
set_option maxHeartbeats 2000000 in
theorem works_any (w : World) : Calls Try.prog 9 #[] w fun e w' => e = .returned (.bool true) ∧ Below w.heap.size w w' := by
  have hcv := Joins.run_convert_bytes_const_at (P := Try.prog) w 22 5 #[.int .u8 97, .int .u8 98, .int .u8 99, .int .u8 97, .int .u8 98, .int .u8 99, .int .u8 97, .int .u8 98, .int .u8 99, .int .u8 100] 10 10 w.heap.size rfl Try.underlying22 Try.underlying5
  simp only [List.size_toArray, List.length_cons, List.length_nil, Nat.reduceAdd] at hcv
  have hb0 : Below w.heap.size w (w.alloc (.cells #[.int .u8 97, .int .u8 98, .int .u8 99, .int .u8 97, .int .u8 98, .int .u8 99, .int .u8 97, .int .u8 98, .int .u8 99, .int .u8 100] 5 (10, 11))) := (Below.refl _ _).alloc (Nat.le_refl _) _
  have hsrc : Src .u8 (w.alloc (.cells #[.int .u8 97, .int .u8 98, .int .u8 99, .int .u8 97, .int .u8 98, .int .u8 99, .int .u8 97, .int .u8 98, .int .u8 99, .int .u8 100] 5 (10, 11))) (some ⟨w.heap.size, 0, none⟩) wz := by
    refine Src.mk fun i hi => ?_
    rw [Nat.zero_add, World.cell?_alloc_mark]
    have : ∀ i, i < wz.length → (#[.int .u8 97, .int .u8 98, .int .u8 99, .int .u8 97, .int .u8 98, .int .u8 99, .int .u8 97, .int .u8 98, .int .u8 99, .int .u8 100] : Array Value)[i]? = some (.int .u8 (wz.getD i 0)) := by
      intro i hi
      have h10 : i < 10 := hi
      rcases (show i = 0 ∨ i = 1 ∨ i = 2 ∨ i = 3 ∨ i = 4 ∨ i = 5 ∨ i = 6 ∨ i = 7 ∨ i = 8 ∨ i = 9 by omega) with rfl | rfl | rfl | rfl | rfl | rfl | rfl | rfl | rfl | rfl <;> rfl
    exact this i hi
  have HB0 : Hid (Below w.heap.size w (w.alloc (.cells #[.int .u8 97, .int .u8 98, .int .u8 99, .int .u8 97, .int .u8 98, .int .u8 99, .int .u8 97, .int .u8 98, .int .u8 99, .int .u8 100] 5 (10, 11)))) := hb0
  have HSRC : Hid (Src .u8 (w.alloc (.cells #[.int .u8 97, .int .u8 98, .int .u8 99, .int .u8 97, .int .u8 98, .int .u8 99, .int .u8 97, .int .u8 98, .int .u8 99, .int .u8 100] 5 (10, 11))) (some ⟨w.heap.size, 0, none⟩) wz) := hsrc
  clear hb0 hsrc
  go_enter Try.func9, Try.ntmps9
  go_wp2_with fail
  refine (parse_any wz (some ⟨w.heap.size, 0, none⟩) 10 false _ wz_byt (by decide) (by decide) (by unfold maxLen; omega) HSRC.out).mono ?_
  rintro e w1 ⟨v, K, rfl, hm, hrow, b1⟩
  obtain rfl : K = 5 := hm.uniq wz_many
  rw [show wz.length = 10 from rfl, wz_toks] at hrow
  obtain ⟨ao, cap, rfl, hc1, hc2, hts, hlow⟩ := tsrc_of_owns hrow rfl
  have HTS : Hid (TSrc w1 ao wt) := hts
  have HB1 : Hid (Below w.heap.size w w1) := HB0.out.trans (b1.mono (by simp))
  obtain ⟨g, off, hao, hcells⟩ := hts (by decide)
  subst hao
  obtain ⟨x0, x1, x2⟩ := hcells 3 (by decide)
  have HX : Hid (w1.cell? ⟨g, off + 9, none⟩ = some (.int .u8 0) ∧ w1.cell? ⟨g, off + 10, none⟩ = some (.int .i64 6) ∧ w1.cell? ⟨g, off + 11, none⟩ = some (.int .i64 3)) := ⟨x0, x1, x2⟩
  clear HB0 HSRC hm hrow b1 hts hlow hcells x0 x1 x2
  go_wp2_with fail
  refine (expand_ok wt (some ⟨g, off, none⟩) 5 cap 10 w1 rfl (by omega) (by omega) (by omega) HTS.out wt_ok).mono ?_
  rintro e w2 ⟨v, rfl, ho, b2⟩
  rw [wt_exp] at ho ⊢
  dsimp only at ho ⊢
  obtain ⟨a2, c2, rfl, _, _, hs2, _⟩ := ho.parts
  have hw2 := cv (c := c2) (show wz.length = 10 from rfl) hs2
  have hstr : strOfNums wz = ⟨#[97, 98, 99, 97, 98, 99, 97, 98, 99, 100]⟩ := by decide +kernel
  have HSR2 : Hid (Src .u8 w2 a2 wz) := hs2
  have HB2 : Hid (Below w.heap.size w w2) := HB1.out.trans (b2.mono HB1.out.size)
  have HX2 : Hid (w2.cell? ⟨g, off + 9, none⟩ = some (.int .u8 0) ∧ w2.cell? ⟨g, off + 10, none⟩ = some (.int .i64 6) ∧ w2.cell? ⟨g, off + 11, none⟩ = some (.int .i64 3)) := by
    obtain ⟨h0, h1, h2⟩ := HX.out
    exact ⟨(b2.cell (block_lt_of_cell h0)).trans h0, (b2.cell (block_lt_of_cell h1)).trans h1, (b2.cell (block_lt_of_cell h2)).trans h2⟩
  rw [show wz.length = 10 from rfl]
  clear ho b2 hs2 hw2 HX HTS
  go_wp2_with fail
  refine (tokens_call [] none 0 0 w2 rfl (by omega) (fun z hz => by cases hz) (Src.nil _ _ _) (fun _ => rfl)).mono ?_
  rintro e w3 ⟨Bp, Ba, ao', cap', bo, bl, bc, rfl, _, _, _, _, b3⟩
  have hw3 := cv (w := w3) (c := c2) (show wz.length = 10 from rfl) (HSR2.out.below b3)
  rw [hstr] at hw3
  obtain ⟨h0, h1, h2⟩ := HX2.out
  have z0 := (b3.cell (block_lt_of_cell h0)).trans h0
  have z1 := (b3.cell (block_lt_of_cell h1)).trans h1
  have z2 := (b3.cell (block_lt_of_cell h2)).trans h2
  have HB3 : Hid (Below w.heap.size w w3) := HB2.out.trans (b3.mono HB2.out.size)
  clear h0 h1 h2 b3 hstr HX2 HSR2
  have hne : ∀ W : World, (binOp .neq 33 (.func (.func 50) #[] #[.pointer (some ⟨Bp, 0, none⟩), .pointer (some ⟨Ba, 0, none⟩)]) .nilFunc).run Try.prog W = .ok (.bool true) W := fun _ => rfl
  go_wp2_with (first | (go_at_call 14; refine (num_any _ _).mono ?_; rintro e w' ⟨rfl, rfl⟩))
  go_ret
  exact ⟨rfl, HB3.out⟩
end Go.Proofs.Ytofmoggejfopiaa
