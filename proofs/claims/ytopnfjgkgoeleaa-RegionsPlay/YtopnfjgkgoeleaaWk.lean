/- regions: the law's works. -/
import Derived.Test.YtopnfjgkgoeleaaFr
import Derived.Test.YtopnfjgkgoeleaaAc
namespace Go.Proofs.Ytopnfjgkgoeleaa
open Go.RowKit
set_option linter.unusedVariables false
set_option linter.unusedSimpArgs false
theorem Srcr.newl (w : World) (M : List Rn) : Srcr (w.alloc (.cells (flr M).toArray 46)) (some ⟨w.heap.size, 0, none⟩) M := by
  intro hp
  refine ⟨w.heap.size, 0, rfl, by simp, fun j u hu => ?_⟩
  rw [cell_of_row _ _ _ _ 46 (0, 0) (heap_alloc_new w _), Nat.zero_add]
  simpa using hu
theorem Lst.rmb_lt {w : World} {ao : Option Addr} {c k : Nat} {L : List Rn} (h : Lst w ao c L) (hr : Rmb ao L.length c k) : k < w.heap.size := by
  obtain ⟨h1, off, e⟩ := hr
  obtain ⟨g, cur, e2, hg, _⟩ := h.2.2.2.2 h1
  rw [e] at e2
  cases e2
  exact (Array.getElem?_eq_some_iff.1 hg).1
/-- Regions, wherever their list lies. -/
def Has (w : World) (B : Nat) (L : List Rn) : Prop := ∃ ao c, Rg w B ao c L
theorem Has.below {w w' : World} {B : Nat} {L : List Rn} (h : Has w B L) (b : Below w.heap.size w w') : Has w' B L := by obtain ⟨ao, c, h⟩ := h; exact ⟨ao, c, h.below b⟩
theorem new_has (w : World) : Calls Try.prog 9 #[] w fun e w' => e = .returned (.pointer (some ⟨w.heap.size, 0, none⟩)) ∧ Rg w' w.heap.size none 0 [] ∧ Below w.heap.size w w' ∧ w'.heap.size = w.heap.size + 1 :=
  (new_any w).mono fun e w' ⟨h1, h2, h3, h4⟩ => ⟨h1, ⟨h2, Lst.nil _, Srt.nil, by simp⟩, h3, h4⟩
def wkM : List Rn := [⟨1, 0, 512⟩, ⟨2, 1024, 512⟩]
def wkN : List Rn := [⟨3, 1535, 1⟩]
theorem wk1 : puN [] wkM = 2 ∧ puE [] wkM = 0 ∧ puL [] wkM = wkM := ⟨by decide +kernel, by decide +kernel, by rfl⟩
theorem wk2 : puN wkM wkN = 0 ∧ puE wkM wkN = 220 ∧ puL wkM wkN = wkM := ⟨by decide +kernel, by decide +kernel, by rfl⟩
theorem wk3 : askO wkM [] 500 600 = some ⟨1, 0, 512⟩ ∧ askE [] 500 600 = 0 := ⟨by rfl, by decide +kernel⟩
theorem wk4 : fsV wkM 0 100 512 = 512 ∧ fsE wkM 0 100 512 = 0 := ⟨by decide +kernel, by decide +kernel⟩
/-- Put of new ones. -/
theorem put_new (w : World) (B : Nat) (ao : Option Addr) (c : Nat) (L M : List Rn) (m : Nat) (h : Rg w B ao c L) (hm : m = M.length) (hm6 : m ≤ 1000000) (hi6 : ∀ x ∈ M, x.i6) :
    Calls Try.prog 21 #[.pointer (some ⟨B, 0, none⟩), .slice (some ⟨w.heap.size, 0, none⟩) m m] (w.alloc (.cells (flr M).toArray 46)) fun e w' => e = .returned (.tuple #[.int .i64 ((puN L M : Nat) : Int), .int .i64 (puE L M)]) ∧ Chg w B ao L.length c (puL L M) w' := by
  have bb : Below w.heap.size w (w.alloc (.cells (flr M).toArray 46)) := (Below.refl _ _).alloc (Nat.le_refl _) _
  refine (put_any _ B ao _ c m m L M (h.below bb) hm (Nat.le_refl _) hm6 hi6 (Srcr.newl w M) ?_).mono ?_
  · rintro b off e hr
    cases e
    have := h.lst.rmb_lt hr
    omega
  · rintro e w' ⟨h1, ao', c', h2, h3, h4⟩
    exact ⟨h1, ao', c', h2, (Kp.of_below bb).trans h3 (fun _ _ x => x), h4.lower bb.size⟩
set_option maxRecDepth 100000 in
theorem nf57 (q : Nat) (w : World) : (binOp .eql 39 (.func (.func 57) #[] #[.pointer (some ⟨q, 0, none⟩)]) .nilFunc).run Try.prog w = .ok (.bool false) w := by rfl
set_option maxRecDepth 100000 in
theorem nf62 (q r : Nat) (w : World) : (binOp .eql 54 (.func (.func 62) #[] #[.pointer (some ⟨q, 0, none⟩), .pointer (some ⟨r, 0, none⟩)]) .nilFunc).run Try.prog w = .ok (.bool false) w := by rfl
theorem wki : ∀ x ∈ wkM, x.i6 := by
  intro x hx
  refine Mayr.i6 ((mayb_iff x).1 ?_)
  simp only [wkM, List.mem_cons, List.not_mem_nil, or_false] at hx
  rcases hx with rfl | rfl <;> rfl
theorem wkj : ∀ x ∈ wkN, x.i6 := by
  intro x hx
  refine Mayr.i6 ((mayb_iff x).1 ?_)
  simp only [wkN, List.mem_cons, List.not_mem_nil, or_false] at hx
  rcases hx with rfl
  rfl
theorem Chg.bel {w w0 w' : World} {B c n : Nat} {ao : Option Addr} {L' : List Rn} (h : Chg w B ao n c L' w') (b : Below B w0 w) (hB : B ≤ w0.heap.size) (hl : ∀ k, Rmb ao n c k → k < w.heap.size → B ≤ k) : Below B w0 w' := by
  obtain ⟨ao', c', _, h2, _⟩ := h
  exact ⟨h2.os.trans b.os, h2.tape.trans b.tape, h2.output.trans b.output, Nat.le_trans b.size h2.size, fun i hi => (h2.block i (by have := b.size; omega) (fun x => x.elim (fun e => by omega) (fun e => by have := hl i e (by have := b.size; omega); omega))).trans (b.block i hi)⟩
set_option maxRecDepth 100000 in
set_option maxHeartbeats 4000000 in
theorem works_any (w : World) : Calls Try.prog 8 #[] w fun e w' => e = .returned (.bool true) ∧ Below w.heap.size w w' := by
  obtain ⟨B, hB⟩ : ∃ B, B = w.heap.size := ⟨_, rfl⟩
  have HNEW := hid (new_has w)
  rw [← hB] at HNEW
  have HB := hid hB
  clear hB
  have hf1 := nf57
  have hf2 := nf62
  have HP1 : Hid (∀ W, Rg W B none 0 [] → Below B w W → Calls Try.prog 21 #[.pointer (some ⟨B, 0, none⟩), .slice (some ⟨W.heap.size, 0, none⟩) 2 2] (W.alloc (.cells #[.int .i64 1, .int .i64 0, .int .i64 512, .int .i64 2, .int .i64 1024, .int .i64 512] 46)) fun e w' => e = .returned (.tuple #[.int .i64 2, .int .i64 0]) ∧ (∃ ao c, Rg w' B ao c wkM ∧ (∀ k off, ao = some ⟨k, off, none⟩ → B ≤ k)) ∧ Below B w w') := fun W hR hb => (put_new W B none 0 [] wkM 2 hR rfl (by omega) wki).mono fun e w' ⟨h1, h2⟩ => by
    obtain ⟨e1, e2, e3⟩ := wk1
    rw [e1, e2] at h1
    rw [e3] at h2
    have hbb := h2.bel hb (Nat.le_of_eq HB.out) (fun k hk => absurd hk.1 (by simp))
    obtain ⟨ao', c', g1, g2, g3⟩ := h2
    refine ⟨h1, ⟨ao', c', g1, fun k off e => ?_⟩, hbb⟩
    rcases g3 k off e with h | ⟨⟨_, h⟩, _⟩
    · have := hb.size; have := HB.out; omega
    · cases h
  have HP2 : Hid (∀ W ao c, Rg W B ao c wkM → (∀ k off, ao = some ⟨k, off, none⟩ → B ≤ k) → Below B w W → Calls Try.prog 21 #[.pointer (some ⟨B, 0, none⟩), .slice (some ⟨W.heap.size, 0, none⟩) 1 1] (W.alloc (.cells #[.int .i64 3, .int .i64 1535, .int .i64 1] 46)) fun e w' => e = .returned (.tuple #[.int .i64 0, .int .i64 220]) ∧ (∃ ao c, Rg w' B ao c wkM) ∧ Below B w w') := fun W ao c hR hk hb => (put_new W B ao c wkM wkN 1 hR rfl (by omega) wkj).mono fun e w' ⟨h1, h2⟩ => by
    obtain ⟨e1, e2, e3⟩ := wk2
    rw [e1, e2] at h1
    rw [e3] at h2
    have hbb := h2.bel hb (Nat.le_of_eq HB.out) (fun k ⟨_, off, e⟩ _ => hk k off e)
    obtain ⟨ao', c', g1, g2, g3⟩ := h2
    exact ⟨h1, ⟨ao', c', g1⟩, hbb⟩
  have HAS : Hid (∀ W ao c, Rg W B ao c wkM → Calls Try.prog 20 #[.pointer (some ⟨B, 0, none⟩), .int .i64 500, .int .i64 600, .slice none 0 0] W fun e w' => e = .returned (.tuple #[.agg #[.int .i64 1, .int .i64 0, .int .i64 512], .bool true, .int .i64 0]) ∧ Below W.heap.size W w') := fun W ao c hR => (ask_any W B ao none c 0 0 wkM [] 500 600 hR (by unfold I6; omega) (by unfold I6; omega) rfl (Nat.le_refl _) (by omega) (Src.nil _ _ _)).mono fun e w' ⟨h1, h2⟩ => by
    obtain ⟨e1, e2⟩ := wk3
    rw [e1, e2] at h1
    exact ⟨h1, h2⟩
  have HFS : Hid (∀ W ao c, Rg W B ao c wkM → Calls Try.prog 25 #[.pointer (some ⟨B, 0, none⟩), .int .i64 0, .int .i64 100, .int .i64 512] W fun e w' => e = .returned (.tuple #[.int .i64 512, .int .i64 0]) ∧ Below W.heap.size W w') := fun W ao c hR => (first_any W B ao c wkM 0 100 512 hR (by unfold I6; omega) (by unfold I6; omega) (by unfold I6; omega)).mono fun e w' ⟨h1, h2⟩ => by
    obtain ⟨e1, e2⟩ := wk4
    rw [e1, e2] at h1
    exact ⟨h1, h2⟩
  go_enter Try.func8, Try.ntmps8
  go_wp2_with (first | (go_at_call 9; refine HNEW.out.mono ?_; rintro e w1 ⟨rfl, h1, b1, z1⟩; have H1 := hid h1; have B1 : Hid (Below B w w1) := b1; clear h1 b1 z1) | (go_at_call 15; refine (all_any w1 B none 0 0 H1.out.rb).mono ?_; rintro e w2 ⟨q, rfl, _, _, b2⟩; have H2 := hid (H1.out.below b2); have B2 := hid (B1.out.trans (b2.mono (by have := B1.out.size; have := HB.out; omega))); clear b2) | (go_at_call 23; refine (gaps_any w2 B none 0 0 1 H2.out.rb).mono ?_; rintro e w3 ⟨q3, q4, rfl, _, _, _, _, b3⟩; have H3 := hid (H2.out.below b3); have B3 := hid (B2.out.trans (b3.mono (by have := B2.out.size; have := HB.out; omega))); clear b3) | (go_at_call 21; refine (HP1.out w3 H3.out B3.out).mono ?_; rintro e w4 ⟨rfl, ⟨ao4, c4, h4, p4⟩, b4⟩; have H4 := hid h4; have P4 := hid p4; have B4 := hid b4; clear h4 p4 b4 HP1) | (go_at_call 21; refine (HP2.out w4 ao4 c4 H4.out P4.out B4.out).mono ?_; rintro e w5 ⟨rfl, ⟨ao5, c5, h5⟩, b5⟩; have H5 := hid h5; have B5 := hid b5; clear h5 b5 HP2) | (go_at_call 20; refine (HAS.out w5 ao5 c5 H5.out).mono ?_; rintro e w6 ⟨rfl, b6⟩; have H6 := hid (H5.out.below b6); have B6 := hid (B5.out.trans (b6.mono (by have := B5.out.size; have := HB.out; omega))); clear b6) | (refine wpList_store_r rfl _ _ rfl _ rfl (e' := ⟨1, 0, 512⟩) rfl (Rn.B.new w6 zRn) ?_; intro w7 s7 k7; have b7 : Below w6.heap.size w6 w7 := ((Below.refl _ w6).alloc (Nat.le_refl _) _).trans (k7.below (by rw [World.size_alloc]; omega) (fun i e => by omega)); have H7 := hid (H6.out.below b7); have B7 := hid (B6.out.trans (b7.mono (by have := B6.out.size; have := HB.out; omega))); obtain ⟨t, ht⟩ : ∃ t, t = w6.heap.size := ⟨_, rfl⟩; rw [← ht] at s7 ⊢; have HT := hid ht; clear ht k7 b7) | (go_at_call 25; refine (HFS.out w7 ao5 c5 H7.out).mono ?_; rintro e w8 ⟨rfl, b8⟩; have s8 := s7.below b8 s7.lt; have B8 := hid (B7.out.trans (b8.mono (by have := B7.out.size; have := HB.out; omega))); clear b8; have y0 : w8.cell? ⟨t, 0, none⟩ = some (.int .i64 1) := s8.cell 0; have y1 : w8.cell? ⟨t, 1, none⟩ = some (.int .i64 0) := s8.cell 1; have y2 : w8.cell? ⟨t, 2, none⟩ = some (.int .i64 512) := s8.cell 2) | (go_at_call 22; refine (num_any _ _).mono ?_; rintro e w9 ⟨rfl, rfl⟩))
  go_ret
  exact ⟨rfl, by rw [← HB.out]; exact B8.out⟩
end Go.Proofs.Ytopnfjgkgoeleaa
