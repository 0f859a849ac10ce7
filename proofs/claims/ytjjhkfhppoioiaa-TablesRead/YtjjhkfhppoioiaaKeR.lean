/- tables: one's bytes (Rn). -/
import Derived.Test.YtjjhkfhppoioiaaKdR
import Derived.Deep.RegionHeld3
namespace Go.Proofs.Ytjjhkfhppoioiaa
open Go.RowKit
set_option linter.unusedVariables false
theorem below_drewr {w w' : World} (h : Below w.drew.heap.size w.drew w') : Below w.heap.size w w' := ⟨h.os, h.tape, h.output, h.size, h.block⟩
theorem cells_br {w w' : World} {g : Nat} {nm : ByteArray} {a bb c d : Int} (s : St 38 w g #[.string nm, .int .i64 a, .int .i64 bb, .int .i64 c, .int .i64 d]) (k : Below w.heap.size w w') (hg : g < w.heap.size) :
    w'.cell? ⟨g, 0, none⟩ = some (.string nm) ∧ w'.cell? ⟨g, 1, none⟩ = some (.int .i64 a) ∧ w'.cell? ⟨g, 2, none⟩ = some (.int .i64 bb) ∧ w'.cell? ⟨g, 3, none⟩ = some (.int .i64 c) ∧ w'.cell? ⟨g, 4, none⟩ = some (.int .i64 d) :=
  have t := s.below k hg
  ⟨t.cell 0, t.cell 1, t.cell 2, t.cell 3, t.cell 4⟩
theorem Rn.enc_cat (e : Rn) (h : e.nm.size ≤ 64) (a0 a1 a2 a3 a4 : Option Addr) (c0 c1 c2 c3 c4 : Nat) : e.enc = fcat [(a0, nmb e.nm, c0), (a1, num e.a 1, c1), (a2, num e.b 1, c2), (a3, num e.c 8, c3), (a4, num e.d 4, c4)]  := by
  simp [fcat, Rn.enc]
theorem pjoin_r (nm : ByteArray) (a bb c d : Int) (g1 : Nat) (w1 w2 w3 w4 w5 : World) (hn : nm.size ≤ 64) (R1 : Rw 5 w1 g1 (nmb nm)) (R2 : Rw 5 w2 w1.heap.size (num a 1)) (B2 : Below w1.heap.size w1 w2) (R3 : Rw 5 w3 w2.heap.size (num bb 1)) (B3 : Below w2.heap.size w2 w3) (R4 : Rw 5 w4 w3.heap.size (num c 8)) (B4 : Below w3.heap.size w3 w4) (R5 : Rw 5 w5 w4.heap.size (num d 4)) (B5 : Below w4.heap.size w4 w5) :
    Calls Try.prog 41 #[.slice (some ⟨w5.heap.size, 0, none⟩) 5 5] (w5.alloc (.cells #[.slice (some ⟨g1, 0, none⟩) (nmb nm).length (nmb nm).length, .slice (some ⟨w1.heap.size, 0, none⟩) 1 1, .slice (some ⟨w2.heap.size, 0, none⟩) 1 1, .slice (some ⟨w3.heap.size, 0, none⟩) 8 8, .slice (some ⟨w4.heap.size, 0, none⟩) 4 4] 26)) fun x w' => ∃ g, x = .returned (.slice (some ⟨g, 0, none⟩) (Rn.mk nm a bb c d).enc.length (Rn.mk nm a bb c d).enc.length) ∧ w5.heap.size < g ∧ Rw 5 w' g (Rn.mk nm a bb c d).enc ∧ Below w5.heap.size w5 w' := by
  have hb : Below w5.heap.size w5 (w5.alloc (.cells #[.slice (some ⟨g1, 0, none⟩) (nmb nm).length (nmb nm).length, .slice (some ⟨w1.heap.size, 0, none⟩) 1 1, .slice (some ⟨w2.heap.size, 0, none⟩) 1 1, .slice (some ⟨w3.heap.size, 0, none⟩) 8 8, .slice (some ⟨w4.heap.size, 0, none⟩) 4 4] 26)) := (Below.refl _ _).alloc (Nat.le_refl _) _
  refine (joinC [(some ⟨g1, 0, none⟩, nmb nm, (nmb nm).length), (some ⟨w1.heap.size, 0, none⟩, num a 1, 1), (some ⟨w2.heap.size, 0, none⟩, num bb 1, 1), (some ⟨w3.heap.size, 0, none⟩, num c 8, 8), (some ⟨w4.heap.size, 0, none⟩, num d 4, 4)] #[.slice (some ⟨g1, 0, none⟩) (nmb nm).length (nmb nm).length, .slice (some ⟨w1.heap.size, 0, none⟩) 1 1, .slice (some ⟨w2.heap.size, 0, none⟩) 1 1, .slice (some ⟨w3.heap.size, 0, none⟩) 8 8, .slice (some ⟨w4.heap.size, 0, none⟩) 4 4] 5 (Rn.mk nm a bb c d).enc w5.heap.size 5 _ rfl (by simp [Fd.v, num_length]) (Rn.enc_cat (Rn.mk nm a bb c d) hn _ _ _ _ none _ _ _ _ 0) (by omega) (by omega) ?_ (St.new 26 _ _) ?_).mono ?_
  · intro f hf
    simp only [List.mem_cons, List.not_mem_nil, or_false] at hf
    rcases hf with rfl | rfl | rfl | rfl | rfl <;> simp [num_length, nmb_len] <;> omega
  · intro f hf
    simp only [List.mem_cons, List.not_mem_nil, or_false] at hf
    rcases hf with rfl | rfl | rfl | rfl | rfl
    · exact ⟨(((((R1.src).below B2).below B3).below B4).below B5).below hb, fun e => by cases e⟩
    · exact ⟨((((R2.src).below B3).below B4).below B5).below hb, fun e => by cases e⟩
    · exact ⟨(((R3.src).below B4).below B5).below hb, fun e => by cases e⟩
    · exact ⟨((R4.src).below B5).below hb, fun e => by cases e⟩
    · exact ⟨(R5.src).below hb, fun e => by cases e⟩
  · rintro x w9 ⟨g9, rfl, h9, r9, b9⟩
    rw [World.size_alloc] at h9
    exact ⟨g9, rfl, by omega, r9, hb.trans (b9.mono (by rw [World.size_alloc]; omega))⟩
set_option maxRecDepth 100000 in
set_option maxHeartbeats 4000000 in
theorem put_r (b : Int) (e : Rn) (w : World) (hm : e.May b) :
    Calls Try.prog 54 #[.agg e.cs] w fun x w' => ∃ g, x = .returned (.slice (some ⟨g, 0, none⟩) e.enc.length e.enc.length) ∧ w.heap.size ≤ g ∧ Rw 5 w' g e.enc ∧ Below w.heap.size w w' := by
  have hbd := Rn.bd hm
  have hn := hm.1.2.1
  have hz : e.a ≤ 31 ∧ e.b ≤ 3 ∧ e.c ≤ 268435456 ∧ e.d ≤ 16777216 := by
    have := hm.2.1.bd (by omega)
    obtain ⟨_, _, h1, h2, h3, h4⟩ := hm
    omega
  have HEL := hid (Rn.enc_cat e hn)
  clear hm
  obtain ⟨nm, a, bb, c, d⟩ := e
  dsimp only at *
  obtain ⟨⟨ka0, ka1⟩, ⟨kb0, kb1⟩, ⟨kc0, kc1⟩, ⟨kd0, kd1⟩⟩ := hbd
  obtain ⟨ka2, kb2, kc2, kd2⟩ := hz
  have Ha := hid ka1
  have Hb := hid kb1
  have Hc := hid kc1
  have Hd := hid kd1
  clear ka1 kb1 kc1 kd1
  unfold Rn.cs
  dsimp only
  go_enter Try.func54, Try.ntmps54
  go_wp2_with fail
  obtain ⟨g, hg⟩ : ∃ g, g = w.heap.size := ⟨_, rfl⟩
  have s0 : St 38 (w.alloc (.cells #[.string nm, .int .i64 a, .int .i64 bb, .int .i64 c, .int .i64 d] 38)) g #[.string nm, .int .i64 a, .int .i64 bb, .int .i64 c, .int .i64 d] := by rw [hg]; exact St.new 38 w _
  have B0 : Hid (Below g w (w.alloc (.cells #[.string nm, .int .i64 a, .int .i64 bb, .int .i64 c, .int .i64 d] 38))) := by rw [hg]; exact (Below.refl _ _).alloc (Nat.le_refl _) _
  have L0 : Hid ((w.alloc (.cells #[.string nm, .int .i64 a, .int .i64 bb, .int .i64 c, .int .i64 d] 38)).heap.size = g + 1) := by rw [hg]; exact World.size_alloc _ _
  have HG := hid hg
  rw [← hg]
  clear hg
  generalize w.alloc (.cells #[.string nm, .int .i64 a, .int .i64 bb, .int .i64 c, .int .i64 d] 38) = w0 at *
  have c0 : (fun W : World => W.cell? ⟨g, 0, none⟩ = some (.string nm) ∧ W.cell? ⟨g, 1, none⟩ = some (.int .i64 a) ∧ W.cell? ⟨g, 2, none⟩ = some (.int .i64 bb) ∧ W.cell? ⟨g, 3, none⟩ = some (.int .i64 c) ∧ W.cell? ⟨g, 4, none⟩ = some (.int .i64 d)) w0.drew := ⟨s0.cell 0, s0.cell 1, s0.cell 2, s0.cell 3, s0.cell 4⟩
  have S0 := hid s0
  clear s0
  go_region_held3 (fun W : World => W.cell? ⟨g, 0, none⟩ = some (.string nm) ∧ W.cell? ⟨g, 1, none⟩ = some (.int .i64 a) ∧ W.cell? ⟨g, 2, none⟩ = some (.int .i64 bb) ∧ W.cell? ⟨g, 3, none⟩ = some (.int .i64 c) ∧ W.cell? ⟨g, 4, none⟩ = some (.int .i64 d)) (first | (exact c0) | (exact c1) | (exact c2) | (exact c3) | (exact c4) | (exact c5) | (exact c9) | (exact cells_br S0.out ((((((B1.out).trans (B2.out.mono (by (have := B1.out.size; omega)))).trans (B3.out.mono (by (have := B1.out.size; have := B2.out.size; omega)))).trans (B4.out.mono (by (have := B1.out.size; have := B2.out.size; have := B3.out.size; omega)))).trans (B5.out.mono (by (have := B1.out.size; have := B2.out.size; have := B3.out.size; have := B4.out.size; omega)))).alloc (by (have := B1.out.size; have := B2.out.size; have := B3.out.size; have := B4.out.size; have := B5.out.size; omega)) _) (by have := L0.out; omega)) | go_keep) (first
    | (go_at_call 42; refine (text_ok nm _ (by omega)).mono ?_; rintro x w1 ⟨g1, rfl, h1, r1, b1⟩; have H1 := hid h1; have R1 := hid r1; have B1 := hid (below_drewr b1); have c1 : (fun W : World => W.cell? ⟨g, 0, none⟩ = some (.string nm) ∧ W.cell? ⟨g, 1, none⟩ = some (.int .i64 a) ∧ W.cell? ⟨g, 2, none⟩ = some (.int .i64 bb) ∧ W.cell? ⟨g, 3, none⟩ = some (.int .i64 c) ∧ W.cell? ⟨g, 4, none⟩ = some (.int .i64 d)) w1 := (cells_br S0.out B1.out (by have := L0.out; omega)); clear h1 r1 b1)
    | (go_at_call_of 43 a; refine (number_ok a 1 w1 ka0 (by omega) (by omega) (by omega) Ha.out).mono ?_; rintro x w2 ⟨rfl, r2, b2⟩; have R2 := hid r2; have B2 := hid b2; have c2 : (fun W : World => W.cell? ⟨g, 0, none⟩ = some (.string nm) ∧ W.cell? ⟨g, 1, none⟩ = some (.int .i64 a) ∧ W.cell? ⟨g, 2, none⟩ = some (.int .i64 bb) ∧ W.cell? ⟨g, 3, none⟩ = some (.int .i64 c) ∧ W.cell? ⟨g, 4, none⟩ = some (.int .i64 d)) w2 := (cells_br S0.out ((B1.out).trans (B2.out.mono (Nat.le_trans B1.out.size (by exact Nat.le_refl _)))) (by have := L0.out; omega)); clear r2 b2)
    | (go_at_call_of 43 bb; refine (number_ok bb 1 w2 kb0 (by omega) (by omega) (by omega) Hb.out).mono ?_; rintro x w3 ⟨rfl, r3, b3⟩; have R3 := hid r3; have B3 := hid b3; have c3 : (fun W : World => W.cell? ⟨g, 0, none⟩ = some (.string nm) ∧ W.cell? ⟨g, 1, none⟩ = some (.int .i64 a) ∧ W.cell? ⟨g, 2, none⟩ = some (.int .i64 bb) ∧ W.cell? ⟨g, 3, none⟩ = some (.int .i64 c) ∧ W.cell? ⟨g, 4, none⟩ = some (.int .i64 d)) w3 := (cells_br S0.out (((B1.out).trans (B2.out.mono (Nat.le_trans B1.out.size (by exact Nat.le_refl _)))).trans (B3.out.mono (Nat.le_trans B1.out.size (by have := B2.out.size; omega)))) (by have := L0.out; omega)); clear r3 b3)
    | (go_at_call_of 43 c; refine (number_ok c 8 w3 kc0 (by omega) (by omega) (by omega) Hc.out).mono ?_; rintro x w4 ⟨rfl, r4, b4⟩; have R4 := hid r4; have B4 := hid b4; have c4 : (fun W : World => W.cell? ⟨g, 0, none⟩ = some (.string nm) ∧ W.cell? ⟨g, 1, none⟩ = some (.int .i64 a) ∧ W.cell? ⟨g, 2, none⟩ = some (.int .i64 bb) ∧ W.cell? ⟨g, 3, none⟩ = some (.int .i64 c) ∧ W.cell? ⟨g, 4, none⟩ = some (.int .i64 d)) w4 := (cells_br S0.out ((((B1.out).trans (B2.out.mono (Nat.le_trans B1.out.size (by exact Nat.le_refl _)))).trans (B3.out.mono (Nat.le_trans B1.out.size (by have := B2.out.size; omega)))).trans (B4.out.mono (Nat.le_trans B1.out.size (by have := B2.out.size; have := B3.out.size; omega)))) (by have := L0.out; omega)); clear r4 b4)
    | (go_at_call_of 43 d; refine (number_ok d 4 w4 kd0 (by omega) (by omega) (by omega) Hd.out).mono ?_; rintro x w5 ⟨rfl, r5, b5⟩; have R5 := hid r5; have B5 := hid b5; have c5 : (fun W : World => W.cell? ⟨g, 0, none⟩ = some (.string nm) ∧ W.cell? ⟨g, 1, none⟩ = some (.int .i64 a) ∧ W.cell? ⟨g, 2, none⟩ = some (.int .i64 bb) ∧ W.cell? ⟨g, 3, none⟩ = some (.int .i64 c) ∧ W.cell? ⟨g, 4, none⟩ = some (.int .i64 d)) w5 := (cells_br S0.out (((((B1.out).trans (B2.out.mono (Nat.le_trans B1.out.size (by exact Nat.le_refl _)))).trans (B3.out.mono (Nat.le_trans B1.out.size (by have := B2.out.size; omega)))).trans (B4.out.mono (Nat.le_trans B1.out.size (by have := B2.out.size; have := B3.out.size; omega)))).trans (B5.out.mono (Nat.le_trans B1.out.size (by have := B2.out.size; have := B3.out.size; have := B4.out.size; omega)))) (by have := L0.out; omega)); clear r5 b5)
    | (go_at_call 41; refine (pjoin_r nm a bb c d g1 w1 w2 w3 w4 w5 hn R1.out R2.out B2.out R3.out B3.out R4.out B4.out R5.out B5.out).mono ?_; rintro x w9 ⟨g9, rfl, h9, r9, b9⟩; have R9 := hid r9; have H9 := hid h9; have B9 := hid b9; have c9 : (fun W : World => W.cell? ⟨g, 0, none⟩ = some (.string nm) ∧ W.cell? ⟨g, 1, none⟩ = some (.int .i64 a) ∧ W.cell? ⟨g, 2, none⟩ = some (.int .i64 bb) ∧ W.cell? ⟨g, 3, none⟩ = some (.int .i64 c) ∧ W.cell? ⟨g, 4, none⟩ = some (.int .i64 d)) w9 := cells_br S0.out ((((((B1.out).trans (B2.out.mono (by (have := B1.out.size; omega)))).trans (B3.out.mono (by (have := B1.out.size; have := B2.out.size; omega)))).trans (B4.out.mono (by (have := B1.out.size; have := B2.out.size; have := B3.out.size; omega)))).trans (B5.out.mono (by (have := B1.out.size; have := B2.out.size; have := B3.out.size; have := B4.out.size; omega)))).trans (b9.mono (by (have := B1.out.size; have := B2.out.size; have := B3.out.size; have := B4.out.size; have := B5.out.size; omega)))) (by have := L0.out; omega); clear r9 h9 b9))
  go_wp2_with fail
  go_ret
  have h9 := H9.out
  have z1 := B1.out.size
  have z2 := B2.out.size
  have z3 := B3.out.size
  have z4 := B4.out.size
  have z5 := B5.out.size
  have z0 := L0.out
  have zg := HG.out
  have hB : Below g w w5 := (((((B0.out.trans (B1.out.mono (by omega))).trans (B2.out.mono (by omega))).trans (B3.out.mono (by omega))).trans (B4.out.mono (by omega))).trans (B5.out.mono (by omega)))
  rw [← zg]
  exact ⟨g9, rfl, by omega, R9.out, hB.trans (B9.out.mono (by omega))⟩
end Go.Proofs.Ytjjhkfhppoioiaa
