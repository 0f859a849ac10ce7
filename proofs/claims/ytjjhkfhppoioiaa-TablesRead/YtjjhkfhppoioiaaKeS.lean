/- tables: one's bytes (Sn). -/
import Derived.Test.YtjjhkfhppoioiaaKdS
import Derived.Deep.RegionHeld3
namespace Go.Proofs.Ytjjhkfhppoioiaa
open Go.RowKit
set_option linter.unusedVariables false
theorem below_drews {w w' : World} (h : Below w.drew.heap.size w.drew w') : Below w.heap.size w w' := ⟨h.os, h.tape, h.output, h.size, h.block⟩
theorem cells_bs {w w' : World} {g : Nat} {nm : ByteArray} {a bb c : Int} (s : St 25 w g #[.string nm, .int .i64 a, .int .i64 bb, .int .i64 c]) (k : Below w.heap.size w w') (hg : g < w.heap.size) :
    w'.cell? ⟨g, 0, none⟩ = some (.string nm) ∧ w'.cell? ⟨g, 1, none⟩ = some (.int .i64 a) ∧ w'.cell? ⟨g, 2, none⟩ = some (.int .i64 bb) ∧ w'.cell? ⟨g, 3, none⟩ = some (.int .i64 c) :=
  have t := s.below k hg
  ⟨t.cell 0, t.cell 1, t.cell 2, t.cell 3⟩
theorem Sn.enc_cat (e : Sn) (h : e.nm.size ≤ 64) (a0 a1 a2 a3 a4 : Option Addr) (c0 c1 c2 c3 c4 : Nat) : e.enc = fcat [(a0, nmb e.nm, c0), (a1, num e.a 8, c1), (a2, num e.b 4, c2), (a3, num e.c 8, c3)]  := by
  simp [fcat, Sn.enc]
theorem pjoin_s (nm : ByteArray) (a bb c : Int) (g1 : Nat) (w1 w2 w3 w4 : World) (hn : nm.size ≤ 64) (R1 : Rw 5 w1 g1 (nmb nm)) (R2 : Rw 5 w2 w1.heap.size (num a 8)) (B2 : Below w1.heap.size w1 w2) (R3 : Rw 5 w3 w2.heap.size (num bb 4)) (B3 : Below w2.heap.size w2 w3) (R4 : Rw 5 w4 w3.heap.size (num c 8)) (B4 : Below w3.heap.size w3 w4) :
    Calls Try.prog 41 #[.slice (some ⟨w4.heap.size, 0, none⟩) 4 4] (w4.alloc (.cells #[.slice (some ⟨g1, 0, none⟩) (nmb nm).length (nmb nm).length, .slice (some ⟨w1.heap.size, 0, none⟩) 8 8, .slice (some ⟨w2.heap.size, 0, none⟩) 4 4, .slice (some ⟨w3.heap.size, 0, none⟩) 8 8] 26)) fun x w' => ∃ g, x = .returned (.slice (some ⟨g, 0, none⟩) (Sn.mk nm a bb c).enc.length (Sn.mk nm a bb c).enc.length) ∧ w4.heap.size < g ∧ Rw 5 w' g (Sn.mk nm a bb c).enc ∧ Below w4.heap.size w4 w' := by
  have hb : Below w4.heap.size w4 (w4.alloc (.cells #[.slice (some ⟨g1, 0, none⟩) (nmb nm).length (nmb nm).length, .slice (some ⟨w1.heap.size, 0, none⟩) 8 8, .slice (some ⟨w2.heap.size, 0, none⟩) 4 4, .slice (some ⟨w3.heap.size, 0, none⟩) 8 8] 26)) := (Below.refl _ _).alloc (Nat.le_refl _) _
  refine (joinC [(some ⟨g1, 0, none⟩, nmb nm, (nmb nm).length), (some ⟨w1.heap.size, 0, none⟩, num a 8, 8), (some ⟨w2.heap.size, 0, none⟩, num bb 4, 4), (some ⟨w3.heap.size, 0, none⟩, num c 8, 8)] #[.slice (some ⟨g1, 0, none⟩) (nmb nm).length (nmb nm).length, .slice (some ⟨w1.heap.size, 0, none⟩) 8 8, .slice (some ⟨w2.heap.size, 0, none⟩) 4 4, .slice (some ⟨w3.heap.size, 0, none⟩) 8 8] 4 (Sn.mk nm a bb c).enc w4.heap.size 4 _ rfl (by simp [Fd.v, num_length]) (Sn.enc_cat (Sn.mk nm a bb c) hn _ _ _ _ none _ _ _ _ 0) (by omega) (by omega) ?_ (St.new 26 _ _) ?_).mono ?_
  · intro f hf
    simp only [List.mem_cons, List.not_mem_nil, or_false] at hf
    rcases hf with rfl | rfl | rfl | rfl <;> simp [num_length, nmb_len] <;> omega
  · intro f hf
    simp only [List.mem_cons, List.not_mem_nil, or_false] at hf
    rcases hf with rfl | rfl | rfl | rfl
    · exact ⟨((((R1.src).below B2).below B3).below B4).below hb, fun e => by cases e⟩
    · exact ⟨(((R2.src).below B3).below B4).below hb, fun e => by cases e⟩
    · exact ⟨((R3.src).below B4).below hb, fun e => by cases e⟩
    · exact ⟨(R4.src).below hb, fun e => by cases e⟩
  · rintro x w9 ⟨g9, rfl, h9, r9, b9⟩
    rw [World.size_alloc] at h9
    exact ⟨g9, rfl, by omega, r9, hb.trans (b9.mono (by rw [World.size_alloc]; omega))⟩
set_option maxRecDepth 100000 in
set_option maxHeartbeats 4000000 in
theorem put_s (b : Int) (e : Sn) (w : World) (hm : e.May b) :
    Calls Try.prog 40 #[.agg e.cs] w fun x w' => ∃ g, x = .returned (.slice (some ⟨g, 0, none⟩) e.enc.length e.enc.length) ∧ w.heap.size ≤ g ∧ Rw 5 w' g e.enc ∧ Below w.heap.size w w' := by
  have hbd := Sn.bd hm
  have hn := hm.1.2.1
  have hz : e.a ≤ 268435456 ∧ e.b ≤ 16777216 ∧ e.c ≤ 67108864 := by
    have := hm.2.1.bd (by omega)
    have := hm.2.2.2.1
    omega
  have HEL := hid (Sn.enc_cat e hn)
  clear hm
  obtain ⟨nm, a, bb, c⟩ := e
  dsimp only at *
  obtain ⟨⟨ka0, ka1⟩, ⟨kb0, kb1⟩, ⟨kc0, kc1⟩⟩ := hbd
  obtain ⟨ka2, kb2, kc2⟩ := hz
  have Ha := hid ka1
  have Hb := hid kb1
  have Hc := hid kc1
  clear ka1 kb1 kc1
  unfold Sn.cs
  dsimp only
  go_enter Try.func40, Try.ntmps40
  go_wp2_with fail
  obtain ⟨g, hg⟩ : ∃ g, g = w.heap.size := ⟨_, rfl⟩
  have s0 : St 25 (w.alloc (.cells #[.string nm, .int .i64 a, .int .i64 bb, .int .i64 c] 25)) g #[.string nm, .int .i64 a, .int .i64 bb, .int .i64 c] := by rw [hg]; exact St.new 25 w _
  have B0 : Hid (Below g w (w.alloc (.cells #[.string nm, .int .i64 a, .int .i64 bb, .int .i64 c] 25))) := by rw [hg]; exact (Below.refl _ _).alloc (Nat.le_refl _) _
  have L0 : Hid ((w.alloc (.cells #[.string nm, .int .i64 a, .int .i64 bb, .int .i64 c] 25)).heap.size = g + 1) := by rw [hg]; exact World.size_alloc _ _
  have HG := hid hg
  rw [← hg]
  clear hg
  generalize w.alloc (.cells #[.string nm, .int .i64 a, .int .i64 bb, .int .i64 c] 25) = w0 at *
  have c0 : (fun W : World => W.cell? ⟨g, 0, none⟩ = some (.string nm) ∧ W.cell? ⟨g, 1, none⟩ = some (.int .i64 a) ∧ W.cell? ⟨g, 2, none⟩ = some (.int .i64 bb) ∧ W.cell? ⟨g, 3, none⟩ = some (.int .i64 c)) w0.drew := ⟨s0.cell 0, s0.cell 1, s0.cell 2, s0.cell 3⟩
  have S0 := hid s0
  clear s0
  go_region_held3 (fun W : World => W.cell? ⟨g, 0, none⟩ = some (.string nm) ∧ W.cell? ⟨g, 1, none⟩ = some (.int .i64 a) ∧ W.cell? ⟨g, 2, none⟩ = some (.int .i64 bb) ∧ W.cell? ⟨g, 3, none⟩ = some (.int .i64 c)) (first | (exact c0) | (exact c1) | (exact c2) | (exact c3) | (exact c4) | (exact c9) | (exact cells_bs S0.out (((((B1.out).trans (B2.out.mono (by (have := B1.out.size; omega)))).trans (B3.out.mono (by (have := B1.out.size; have := B2.out.size; omega)))).trans (B4.out.mono (by (have := B1.out.size; have := B2.out.size; have := B3.out.size; omega)))).alloc (by (have := B1.out.size; have := B2.out.size; have := B3.out.size; have := B4.out.size; omega)) _) (by have := L0.out; omega)) | go_keep) (first
    | (go_at_call 42; refine (text_ok nm _ (by omega)).mono ?_; rintro x w1 ⟨g1, rfl, h1, r1, b1⟩; have H1 := hid h1; have R1 := hid r1; have B1 := hid (below_drews b1); have c1 : (fun W : World => W.cell? ⟨g, 0, none⟩ = some (.string nm) ∧ W.cell? ⟨g, 1, none⟩ = some (.int .i64 a) ∧ W.cell? ⟨g, 2, none⟩ = some (.int .i64 bb) ∧ W.cell? ⟨g, 3, none⟩ = some (.int .i64 c)) w1 := (cells_bs S0.out B1.out (by have := L0.out; omega)); clear h1 r1 b1)
    | (go_at_call_of 43 a; refine (number_ok a 8 w1 ka0 (by omega) (by omega) (by omega) Ha.out).mono ?_; rintro x w2 ⟨rfl, r2, b2⟩; have R2 := hid r2; have B2 := hid b2; have c2 : (fun W : World => W.cell? ⟨g, 0, none⟩ = some (.string nm) ∧ W.cell? ⟨g, 1, none⟩ = some (.int .i64 a) ∧ W.cell? ⟨g, 2, none⟩ = some (.int .i64 bb) ∧ W.cell? ⟨g, 3, none⟩ = some (.int .i64 c)) w2 := (cells_bs S0.out ((B1.out).trans (B2.out.mono (Nat.le_trans B1.out.size (by exact Nat.le_refl _)))) (by have := L0.out; omega)); clear r2 b2)
    | (go_at_call_of 43 bb; refine (number_ok bb 4 w2 kb0 (by omega) (by omega) (by omega) Hb.out).mono ?_; rintro x w3 ⟨rfl, r3, b3⟩; have R3 := hid r3; have B3 := hid b3; have c3 : (fun W : World => W.cell? ⟨g, 0, none⟩ = some (.string nm) ∧ W.cell? ⟨g, 1, none⟩ = some (.int .i64 a) ∧ W.cell? ⟨g, 2, none⟩ = some (.int .i64 bb) ∧ W.cell? ⟨g, 3, none⟩ = some (.int .i64 c)) w3 := (cells_bs S0.out (((B1.out).trans (B2.out.mono (Nat.le_trans B1.out.size (by exact Nat.le_refl _)))).trans (B3.out.mono (Nat.le_trans B1.out.size (by have := B2.out.size; omega)))) (by have := L0.out; omega)); clear r3 b3)
    | (go_at_call_of 43 c; refine (number_ok c 8 w3 kc0 (by omega) (by omega) (by omega) Hc.out).mono ?_; rintro x w4 ⟨rfl, r4, b4⟩; have R4 := hid r4; have B4 := hid b4; have c4 : (fun W : World => W.cell? ⟨g, 0, none⟩ = some (.string nm) ∧ W.cell? ⟨g, 1, none⟩ = some (.int .i64 a) ∧ W.cell? ⟨g, 2, none⟩ = some (.int .i64 bb) ∧ W.cell? ⟨g, 3, none⟩ = some (.int .i64 c)) w4 := (cells_bs S0.out ((((B1.out).trans (B2.out.mono (Nat.le_trans B1.out.size (by exact Nat.le_refl _)))).trans (B3.out.mono (Nat.le_trans B1.out.size (by have := B2.out.size; omega)))).trans (B4.out.mono (Nat.le_trans B1.out.size (by have := B2.out.size; have := B3.out.size; omega)))) (by have := L0.out; omega)); clear r4 b4)
    | (go_at_call 41; refine (pjoin_s nm a bb c g1 w1 w2 w3 w4 hn R1.out R2.out B2.out R3.out B3.out R4.out B4.out).mono ?_; rintro x w9 ⟨g9, rfl, h9, r9, b9⟩; have R9 := hid r9; have H9 := hid h9; have B9 := hid b9; have c9 : (fun W : World => W.cell? ⟨g, 0, none⟩ = some (.string nm) ∧ W.cell? ⟨g, 1, none⟩ = some (.int .i64 a) ∧ W.cell? ⟨g, 2, none⟩ = some (.int .i64 bb) ∧ W.cell? ⟨g, 3, none⟩ = some (.int .i64 c)) w9 := cells_bs S0.out (((((B1.out).trans (B2.out.mono (by (have := B1.out.size; omega)))).trans (B3.out.mono (by (have := B1.out.size; have := B2.out.size; omega)))).trans (B4.out.mono (by (have := B1.out.size; have := B2.out.size; have := B3.out.size; omega)))).trans (b9.mono (by (have := B1.out.size; have := B2.out.size; have := B3.out.size; have := B4.out.size; omega)))) (by have := L0.out; omega); clear r9 h9 b9))
  go_wp2_with fail
  go_ret
  have h9 := H9.out
  have z1 := B1.out.size
  have z2 := B2.out.size
  have z3 := B3.out.size
  have z4 := B4.out.size
  have z0 := L0.out
  have zg := HG.out
  have hB : Below g w w4 := ((((B0.out.trans (B1.out.mono (by omega))).trans (B2.out.mono (by omega))).trans (B3.out.mono (by omega))).trans (B4.out.mono (by omega)))
  rw [← zg]
  exact ⟨g9, rfl, by omega, R9.out, hB.trans (B9.out.mono (by omega))⟩
end Go.Proofs.Ytjjhkfhppoioiaa
