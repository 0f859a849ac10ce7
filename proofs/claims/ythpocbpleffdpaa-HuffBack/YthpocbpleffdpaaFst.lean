/- The first codes of each length. -/
import Derived.Test.YthpocbpleffdpaaNum
import Derived.Deep.RegionHeld3
namespace Go.Proofs.Ythpocbpleffdpaa
open Go.RowKit
theorem at_worldp {P : Program} {C : Code} {Q : Exit → Act → World → Prop} {a : Act} {X : World} {R : World → Prop} (hX : R X) (h : ∀ X', R X' → C.wp P Q a X') : C.wp P Q a X := h X hX
/-- The first codes up to the length k. -/
def fL (M : List Int) : Nat → List Int
  | 0 => List.replicate 16 0
  | 1 => List.replicate 16 0
  | k + 2 => (fL M (k + 1)).set (k + 1) (wrap64 (wrap64 ((fL M (k + 1)).getD k 0 + M.getD k 0) * 2))
theorem fL_len (M : List Int) : ∀ k, (fL M k).length = 16
  | 0 => List.length_replicate
  | 1 => List.length_replicate
  | k + 2 => by
    show ((fL M (k + 1)).set _ _).length = 16
    rw [List.length_set]
    exact fL_len M (k + 1)
set_option maxRecDepth 100000 in
set_option maxHeartbeats 2000000 in
theorem firsts_any (M : List Int) (w : World) (hM : M.length = 16) :
    Calls Try.prog 46 #[.agg (M.map (Value.int .i64)).toArray] w fun e W' => e = .returned (.agg ((fL M 16).map (Value.int .i64)).toArray) ∧ Below w.heap.size w W' := by
  go_enter Try.func46, Try.ntmps46
  go_wp2_with fail
  refine at_worldp (R := fun X => Rw .i64 77 X w.heap.size M ∧ Rw .i64 77 X (w.heap.size + 1) (List.replicate 16 0) ∧ Rw .i64 77 X (w.heap.size + 1 + 1) (List.replicate 16 0) ∧ Below w.heap.size w X) ⟨?_, ?_, ?_, ?_⟩ ?_
  · exact ((Rw.new .i64 77 w M).alloc _).alloc _
  · have := Rw.new .i64 77 (w.alloc (.cells (M.map (Value.int .i64)).toArray 77)) (List.replicate 16 0)
    rw [World.size_alloc] at this
    exact this.alloc _
  · have := Rw.new .i64 77 ((w.alloc (.cells (M.map (Value.int .i64)).toArray 77)).alloc (.cells ((List.replicate 16 (0 : Int)).map (Value.int .i64)).toArray 77)) (List.replicate 16 0)
    simp only [World.size_alloc] at this
    exact this
  · exact (((Below.refl _ w).alloc (Nat.le_refl _) _).alloc (by simp) _).alloc (by simp; omega) _
  rintro X ⟨r1, r2, r3, bX⟩
  have HX : Hid (Rw .i64 77 X w.heap.size M ∧ Rw .i64 77 X (w.heap.size + 1) (List.replicate 16 0) ∧ Rw .i64 77 X (w.heap.size + 1 + 1) (List.replicate 16 0) ∧ Below w.heap.size w X) := ⟨r1, r2, r3, bX⟩
  clear r1 r2 r3 bX
  go_loopw [4] (fun u4 wr => ∃ (k : Nat) (L : List Int), 1 ≤ k ∧ k ≤ 16 ∧ u4 = .int .i64 (k : Int) ∧ L = fL M k ∧ Rw .i64 77 wr w.heap.size M ∧ Rw .i64 77 wr (w.heap.size + 1) (List.replicate 16 0) ∧ Rw .i64 77 wr (w.heap.size + 1 + 1) L ∧ Below w.heap.size w wr) (fun u4 _ => 16 - (intOf u4).toNat)
  case atStart => exact ⟨1, _, by omega, by omega, rfl, rfl, HX.out.1, HX.out.2.1, HX.out.2.2.1, HX.out.2.2.2⟩
  case round =>
    clear HX
    obtain ⟨k, L, hk1, hk, rfl, hLe, r1, r2, r3, hb⟩ := hrel
    have hL : L.length = 16 := by rw [hLe]; exact fL_len M k
    have HLE : Hid (L = fL M k) := hLe
    clear hLe
    by_cases hlt : k < 16
    · obtain ⟨q, hq⟩ : ∃ q, q = k - 1 := ⟨_, rfl⟩
      obtain ⟨x, hx⟩ : ∃ x, x = L.getD q 0 := ⟨_, rfl⟩
      obtain ⟨y, hy⟩ : ∃ y, y = M.getD q 0 := ⟨_, rfl⟩
      have c0 : wr.cell? ⟨w.heap.size + 1 + 1, q, none⟩ = some (.int .i64 x) := by rw [hx]; exact r3.cell q (by omega)
      have c1 : wr.cell? ⟨w.heap.size, q, none⟩ = some (.int .i64 y) := by rw [hy]; exact r1.cell q (by omega)
      have c2 : wr.cell? ⟨w.heap.size + 1 + 1, k, none⟩ = some (.int .i64 (L.getD k 0)) := r3.cell k (by omega)
      have f2 := r3.frozen k
      have e3 : IntKind.i64.wrap (q : Int) = (q : Int) := by rw [IntKind.wrap_i64]; omega
      have e2 : (k : Int) - 1 = (q : Int) := by omega
      have hq16 : (q : Int) < 16 := by omega
      have hq16' : q < 16 := by omega
      have hqk : k ≠ q := by omega
      have hgk : w.heap.size + 1 + 1 ≠ w.heap.size := by omega
      have HXY : Hid (q = k - 1 ∧ x = L.getD q 0 ∧ y = M.getD q 0) := ⟨hq, hx, hy⟩
      have R1 : Hid (Rw .i64 77 wr w.heap.size M) := r1
      have R2 : Hid (Rw .i64 77 wr (w.heap.size + 1) (List.replicate 16 0)) := r2
      have R3 : Hid (Rw .i64 77 wr (w.heap.size + 1 + 1) L) := r3
      have HBW : Hid (Below w.heap.size w wr) := hb
      clear hq hx hy r1 r2 r3 hb
      have hk3 : (wr.setCell ⟨w.heap.size + 1 + 1, k, none⟩ (.int .i64 (IntKind.i64.wrap (IntKind.i64.wrap (x + y) * 2)))).cell? ⟨w.heap.size + 1 + 1, q, none⟩ = some (.int .i64 x) := (World.cell?_setCell_other _ _ _ _ (by simp; try omega)).trans c0
      have hk4 : (wr.setCell ⟨w.heap.size + 1 + 1, k, none⟩ (.int .i64 (IntKind.i64.wrap (IntKind.i64.wrap (x + y) * 2)))).cell? ⟨w.heap.size, q, none⟩ = some (.int .i64 y) := (World.cell?_setCell_other _ _ _ _ (by simp)).trans c1
      go_wp2_with fail
      go_region_held3 (fun w' => w'.cell? ⟨w.heap.size + 1 + 1, q, none⟩ = some (.int .i64 x) ∧ w'.cell? ⟨w.heap.size, q, none⟩ = some (.int .i64 y)) (first | (exact ⟨c0, c1⟩) | (exact ⟨hk3, hk4⟩) | go_keep) (fail)
      go_wp2_with fail
      have kk : Kp (fun i => i = w.heap.size + 1 + 1) wr (wr.setCell ⟨w.heap.size + 1 + 1, k, none⟩ (.int .i64 (wrap64 (wrap64 (x + y) * 2)))).drew := (kp_set1 wr (w.heap.size + 1 + 1) k _).drew
      refine ⟨⟨k + 1, fL M (k + 1), by omega, by omega, by simp, rfl, R1.out.kp kk (by omega), R2.out.kp kk (by omega), ?_, HBW.out.trans (kk.below HBW.out.size (fun i e => by omega))⟩, by simp [intOf]; omega⟩
      have e : fL M (k + 1) = L.set k (wrap64 (wrap64 (x + y) * 2)) := by
        obtain ⟨k', rfl⟩ : ∃ k', k = k' + 1 := ⟨k - 1, by omega⟩
        have hq' : q = k' := by have := HXY.out.1; omega
        show (fL M (k' + 1)).set (k' + 1) _ = _
        rw [← HLE.out, HXY.out.2.1, HXY.out.2.2, hq']
      rw [e]
      exact (R3.out.set k _).drew
    · obtain rfl : k = 16 := by omega
      have R2 : Hid (Rw .i64 77 wr (w.heap.size + 1) (List.replicate 16 0)) := r2
      have R3 : Hid (Rw .i64 77 wr (w.heap.size + 1 + 1) L) := r3
      have HBW : Hid (Below w.heap.size w wr) := hb
      have hsz : ((L.map (Value.int .i64)).toArray).size = 16 := by simp [hL]
      clear r1 r2 r3 hb
      go_wp2_with (first | (refine wpList_load_mid rfl 77 (.tmp 3) rfl (w.heap.size + 1 + 1) 0 rfl (L.map (Value.int .i64)) _ R3.out.range Try.underlying77 rfl (by rw [List.length_map, hL]; exact info77) ?_) | (refine wpList_store_mid rfl 77 (.tmp 2) (.tmp 21) rfl (w.heap.size + 1) 0 (L.map (Value.int .i64)).toArray rfl rfl (by rw [hsz]; exact R2.out.there 16 (by simp)) (by rw [hsz]; exact info77) (ints_one _ _) ?_))
      have hl := run_loadVar_mid (P := Try.prog) _ (w.heap.size + 1) 0 77 (L.map (Value.int .i64)) _ (World.rangeAt_setCells_same wr (w.heap.size + 1) 0 (L.map (Value.int .i64)) (by rw [List.length_map, hL]; exact R2.out.there 16 (by simp))) Try.underlying77 rfl (by rw [List.length_map, hL]; exact info77)
      refine bodyPost_ret (v := .agg (L.map (Value.int .i64)).toArray) ?_ rfl ⟨by rw [HLE.out], HBW.out.trans ((kp_setCells (w.heap.size + 1) _ 0 _).below HBW.out.size (fun i e => by omega))⟩
      exact results_cell1 Try.results46 _ _ _ rfl hl
end Go.Proofs.Ythpocbpleffdpaa
