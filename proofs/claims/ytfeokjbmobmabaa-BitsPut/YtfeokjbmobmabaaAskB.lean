/- Contract of the statements' own ask(): Skip. -/
import Derived.Test.YtfeokjbmobmabaaAsk
import Derived.Deep.RegionHeld3
namespace Go.Proofs.Ytfeokjbmobmabaa
open Go.RowKit

set_option maxRecDepth 100000 in
set_option maxHeartbeats 4000000 in
theorem ask_skip (g G cap gr bL capL : Nat) (B : List Int) (p : Nat) (N : Int) (w : World) (h : Pr w g G cap gr bL capL B p) :
    Calls Try.prog 24 #[.pointer (some ⟨g, 0, none⟩), .pointer (some ⟨gr, 0, none⟩), .agg #[.int .i64 4, .int .i64 N]] w fun e w' => e = .returned (.bool true) ∧ Asked w w' g G cap gr bL capL B := by
  obtain ⟨wA, hwA⟩ : ∃ wA, wA = (w.alloc (.cells #[.int .i64 4, .int .i64 N] 55)).drew := ⟨_, rfl⟩
  have k0 : Ok' w wA := by rw [hwA]; exact ((Kp.refl _ w).alloc _).drew
  have h0 := h.ok k0
  have k0' : Kp (fun i => i = g ∨ i = gr) w wA := k0.mono (fun _ _ x => x.elim)
  have sA : St 55 wA w.heap.size #[.int .i64 4, .int .i64 N] := by rw [hwA]; exact heap_alloc_new w _
  have hga : w.heap.size ≠ g := by have := rd_lt h.rd; omega
  have hgr : w.heap.size ≠ gr := by have := h.rf.st.lt; omega
  have c0 : wA.cell? ⟨w.heap.size, 1, none⟩ = some (.int .i64 N) := sA.cell 1
  by_cases hN : N < 0
  · have T1 := skip_bad g N wA hN
    have T2 := rskip_bad gr N wA hN
    clear hN
    subst hwA
    go_enter Try.func24, Try.ntmps24
    go_wp2_with fail
    go_region_held3 (fun w' => w'.cell? ⟨w.heap.size, 1, none⟩ = some (.int .i64 N)) (first | (exact c0) | (exact cA) | (exact cB) | go_keep) (first | (go_at_call 35; refine T1.mono ?_; rintro e w1 ⟨rfl, rfl⟩; have cA := c0) | (go_at_call 16; refine (num_any _ _).mono ?_; rintro e w' ⟨rfl, rfl⟩) | (go_at_call 43; refine T2.mono ?_; rintro e w2 ⟨rfl, rfl⟩))
    go_wp2_with fail
    go_ret
    exact ⟨rfl, asked h0 k0' (Kp.refl _ _) (Kp.refl _ _) _ h0.rd h0.rf⟩
  · obtain ⟨n, rfl⟩ := Int.eq_ofNat_of_zero_le (show 0 ≤ N by omega)
    by_cases hl : p + n ≤ 8 * B.length
    · have T1 := skip_ok g _ cap B p n wA h0.rd hl
      have T2 : Hid (∀ w1, Rf w1 gr bL capL (und 256 B) (8 * B.length) p → _) := fun w1 hf => rskip_ok gr bL capL (und 256 B) (8 * B.length) p n w1 hf hl
      clear hl hN
      subst hwA
      go_enter Try.func24, Try.ntmps24
      go_wp2_with fail
      go_region_held3 (fun w' => w'.cell? ⟨w.heap.size, 1, none⟩ = some (.int .i64 n)) (first | (exact c0) | (exact cA) | (exact cB) | go_keep) (first | (go_at_call 35; refine T1.mono ?_; rintro e w1 ⟨rfl, h1, k1⟩; have f1 := h0.rf.kp k1 (fun e => h0.n1 e.symm) h0.n3; have cA : w1.cell? ⟨w.heap.size, 1, none⟩ = some (.int .i64 n) := (sA.kp k1 hga).cell 1) | (go_at_call 16; refine (num_any _ _).mono ?_; rintro e w' ⟨rfl, rfl⟩) | (go_at_call 43; refine (T2.out w1 f1).mono ?_; rintro e w2 ⟨rfl, h2, k2⟩; have cB : w2.cell? ⟨w.heap.size, 1, none⟩ = some (.int .i64 n) := ((sA.kp k1 hga).kp k2 hgr).cell 1))
      go_wp2_with fail
      go_ret
      exact ⟨rfl, asked h0 k0' k1 k2 _ h1 h2⟩
    · have hpl := h.rd.le
      have T1 := skip_short g _ cap B p n wA (by omega) h0.rd (by omega)
      have T2 : Hid (∀ w1, Rf w1 gr bL capL (und 256 B) (8 * B.length) p → _) := fun w1 hf => rskip_short gr bL capL (und 256 B) (8 * B.length) p n w1 (by omega) hf (by omega)
      clear hl hN
      subst hwA
      go_enter Try.func24, Try.ntmps24
      go_wp2_with fail
      go_region_held3 (fun w' => w'.cell? ⟨w.heap.size, 1, none⟩ = some (.int .i64 n)) (first | (exact c0) | (exact cA) | (exact cB) | go_keep) (first | (go_at_call 35; refine T1.mono ?_; rintro e w1 ⟨rfl, k1⟩; have f1 := h0.rf.ok k1; have cA : w1.cell? ⟨w.heap.size, 1, none⟩ = some (.int .i64 n) := (sA.kp k1 (fun x => x)).cell 1) | (go_at_call 16; refine (num_any _ _).mono ?_; rintro e w' ⟨rfl, rfl⟩) | (go_at_call 43; refine (T2.out w1 f1).mono ?_; rintro e w2 ⟨rfl, k2⟩; have cB : w2.cell? ⟨w.heap.size, 1, none⟩ = some (.int .i64 n) := ((sA.kp k1 (fun x => x)).kp k2 (fun x => x)).cell 1))
      go_wp2_with fail
      go_ret
      exact ⟨rfl, asked h0 k0' (k1.mono (fun _ _ x => x.elim)) (k2.mono (fun _ _ x => x.elim)) _ (h0.rd.ok k1) (f1.ok k2)⟩

end Go.Proofs.Ytfeokjbmobmabaa
