/- The spans of symbols. -/
import Derived.Test.YtofmoggejfopiaaChk
import Derived.Test.YtofmoggejfopiaaBst
import Derived.Deep.MidRow
namespace Go.Proofs.Ytofmoggejfopiaa
open Go.RowKit
def lw (i : Nat) : Nat := i / 4 - 1
def lf : Nat → Nat
  | 0 => 3
  | i + 1 => lf i + 2 ^ lw i
def lM : Nat → List Int
  | 0 => List.replicate 58 0
  | k + 1 => ((lM k).set (k * 2) (lf k)).set (k * 2 + 1) (lw k)
def LSP : List Int := ((lM 29).set 56 258).set 57 0
theorem lM_len (k : Nat) : (lM k).length = 58 := by
  induction k with
  | zero => simp [lM]
  | succ k ih => simp [lM, ih]
theorem lf_le {k : Nat} (h : k ≤ 29) : lf k ≤ 1000 := by
  have : ∀ k : Fin 30, lf k.1 ≤ 1000 := by decide
  exact this ⟨k, by omega⟩
theorem kp_setCells (g : Nat) : ∀ (vs : List Value) (o : Nat) (w : World), Kp (fun i => i = g) w (w.setCells g o vs)
  | [], _, w => Kp.refl _ w
  | v :: r, o, w => (kp_setCell w g o v (fun i => i = g) rfl).trans (kp_setCells g r (o + 1) _) (fun _ _ e => e)
theorem Rw.there {κ : IntKind} {t : TypeId} {w : World} {g : Nat} {L : List Int} (h : Rw κ t w g L) (n : Nat) (hn : n ≤ L.length) : w.there g 0 n := fun j hj => by
  rw [Nat.zero_add]
  exact ⟨by rw [h.cell j (by omega)]; rfl, h.frozen j⟩
theorem Rw.range {κ : IntKind} {t : TypeId} {w : World} {g : Nat} {L : List Int} (h : Rw κ t w g L) : w.rangeAt g 0 (L.map (Value.int κ)) := fun j v hv => by
  have hj : j < (L.map (Value.int κ)).length := (List.getElem?_eq_some_iff.1 hv).1
  rw [Nat.zero_add, h.cell j (by simpa using hj)]
  rw [List.length_map] at hj
  rw [← hv]
  simp [List.getD, hj]
theorem info81 : (Try.prog.info? 81).map (·.size) = some 58 := by kernel_rfl
theorem ints_one (M : List Int) : (M.map (Value.int .i64)).toArray.all (·.oneCell') = true := all_oneCell_toArray (fun v hv => by
  obtain ⟨x, _, rfl⟩ := List.mem_map.1 hv
  rfl)
theorem Rw.kp_other {κ : IntKind} {t : TypeId} {w : World} {g g' i : Nat} {v : Value} {L : List Int} (h : Rw κ t w g L) (hne : g ≠ g') : Rw κ t (w.setCell ⟨g', i, none⟩ v) g L := h.kp (kp_setCell w g' i v (fun j => j = g') rfl) hne
theorem results_cell1 {P : Program} {fn : Func} {p : Tmp} {ty : TypeId} (h : fn.results = #[.cell p ty]) (tmps : Array Value) (w : World) (b : Nat) {v : Value} (hp : tmps.getD p undef = .pointer (some ⟨b, 0, none⟩)) (hl : (loadVar ty ⟨b, 0, none⟩).run P w = .ok v w) :
    (results fn tmps).run P w = .ok v w := by
  have hp' : tmps[p]?.getD undef = .pointer (some ⟨b, 0, none⟩) := by simpa using hp
  simp [results, h, hp', asAddr, hl]
theorem lf_next {k : Nat} (h : k < 29) : wrap64 ((lf k : Int) + wrap64 (2 ^ lw k)) = (lf (k + 1) : Int) := by
  have : ∀ k : Fin 29, wrap64 ((lf k.1 : Int) + wrap64 (2 ^ lw k.1)) = (lf (k.1 + 1) : Int) := by decide +kernel
  exact this ⟨k, h⟩
set_option maxRecDepth 100000 in
set_option maxHeartbeats 2000000 in
theorem lspans_any (w : World) : Calls Try.prog 43 #[] w fun e w' => e = .returned (.agg (LSP.map (Value.int .i64)).toArray) ∧ Below w.heap.size w w' := by
  go_enter Try.func43, Try.ntmps43
  go_wp2_with fail
  refine at_worldp (R := fun X => Rw .i64 81 X w.heap.size (List.replicate 58 0) ∧ Rw .i64 81 X (w.heap.size + 1) (List.replicate 58 0) ∧ Below w.heap.size w X) ⟨?_, ?_, ?_⟩ ?_
  · exact Rw.alloc (Rw.new .i64 81 w (List.replicate 58 0)) _
  · have := Rw.new .i64 81 (w.alloc (.cells ((List.replicate 58 (0 : Int)).map (Value.int .i64)).toArray 81)) (List.replicate 58 0)
    rw [World.size_alloc] at this
    exact this
  · exact ((Below.refl _ _).alloc (Nat.le_refl _) _).alloc (by simp) _
  rintro X ⟨r0, r1, bX⟩
  have HX : Hid (Rw .i64 81 X w.heap.size (List.replicate 58 0) ∧ Rw .i64 81 X (w.heap.size + 1) (List.replicate 58 0) ∧ Below w.heap.size w X) := ⟨r0, r1, bX⟩
  clear r0 r1 bX
  go_loopw [2, 3, 4] (fun u2 _ u4 wr => ∃ k : Nat, k ≤ 29 ∧ u4 = .int .i64 (k : Int) ∧ u2 = .int .i64 (lf k : Int) ∧ Rw .i64 81 wr w.heap.size (List.replicate 58 0) ∧ Rw .i64 81 wr (w.heap.size + 1) (lM k) ∧ Below w.heap.size w wr) (fun _ _ u4 _ => 29 - (intOf u4).toNat)
  case atStart => exact ⟨0, by omega, rfl, rfl, HX.out.1, HX.out.2.1, HX.out.2.2⟩
  case round =>
    clear HX
    obtain ⟨k, hk, rfl, rfl, r0, r1, hb⟩ := hrel
    have H0 : Hid (Rw .i64 81 wr w.heap.size (List.replicate 58 0)) := r0
    have H1 : Hid (Rw .i64 81 wr (w.heap.size + 1) (lM k)) := r1
    have HBW : Hid (Below w.heap.size w wr) := hb
    by_cases hlt : k < 29
    · have c0 := r1.cell (k * 2) (by rw [lM_len]; omega)
      have c1 := r1.cell (k * 2 + 1) (by rw [lM_len]; omega)
      have f0 := r1.frozen (k * 2)
      have f1 := r1.frozen (k * 2 + 1)
      have hlf := lf_le hk
      clear r0 r1 hb
      go_wp2_with fail
      have e1 : (if 1 < (k : Int) / 4 then (k : Int) / 4 - 1 else 0) = (lw k : Int) := by unfold lw; split <;> omega
      rw [e1, Int.toNat_natCast]
      refine ⟨⟨k + 1, hlt, by simp, by rw [lf_next hlt], ?_, ?_, ?_⟩, by simp [intOf]; omega⟩
      · exact (H0.out.kp_other (by omega)).kp_other (by omega)
      · exact (H1.out.set _ _).set _ _
      · exact HBW.out.trans (((kp_setCell wr (w.heap.size + 1) (k * 2) _ (fun i => i = w.heap.size + 1) rfl).trans (kp_setCell _ (w.heap.size + 1) (k * 2 + 1) _ (fun i => i = w.heap.size + 1) rfl) (fun _ _ e => e)).below HBW.out.size (fun i e => by omega))
    · obtain rfl : k = 29 := by omega
      have c0 := r1.cell 56 (by rw [lM_len]; omega)
      have c1 := r1.cell 57 (by rw [lM_len]; omega)
      have f0 := r1.frozen 56
      have f1 := r1.frozen 57
      have R0 : Hid (Rw .i64 81 ((wr.setCell ⟨w.heap.size + 1, 56, none⟩ (.int .i64 258)).setCell ⟨w.heap.size + 1, 57, none⟩ (.int .i64 0)) w.heap.size (List.replicate 58 0)) := (H0.out.kp_other (by omega)).kp_other (by omega)
      have R1 : Hid (Rw .i64 81 ((wr.setCell ⟨w.heap.size + 1, 56, none⟩ (.int .i64 258)).setCell ⟨w.heap.size + 1, 57, none⟩ (.int .i64 0)) (w.heap.size + 1) LSP) := (H1.out.set _ _).set _ _
      have BW : Hid (Below w.heap.size w ((wr.setCell ⟨w.heap.size + 1, 56, none⟩ (.int .i64 258)).setCell ⟨w.heap.size + 1, 57, none⟩ (.int .i64 0))) := HBW.out.trans (((kp_setCell wr (w.heap.size + 1) 56 _ (fun i => i = w.heap.size + 1) rfl).trans (kp_setCell _ (w.heap.size + 1) 57 _ (fun i => i = w.heap.size + 1) rfl) (fun _ _ e => e)).below HBW.out.size (fun i e => by omega))
      clear r0 r1 hb
      go_wp2_with (first | (refine wpList_load_mid rfl 81 (.tmp 1) rfl (w.heap.size + 1) 0 rfl (LSP.map (Value.int .i64)) _ R1.out.range Try.underlying81 rfl info81 ?_) | (refine wpList_store_mid rfl 81 (.tmp 0) (.tmp 25) rfl w.heap.size 0 (LSP.map (Value.int .i64)).toArray rfl rfl (R0.out.there _ (by simp [LSP, lM_len])) info81 (ints_one _) ?_))
      have ht := R0.out.there 58 (by simp)
      have hl := run_loadVar_mid (P := Try.prog) _ w.heap.size 0 81 (LSP.map (Value.int .i64)) _ (World.rangeAt_setCells_same _ w.heap.size 0 (LSP.map (Value.int .i64)) (by simpa [LSP, lM_len] using ht)) Try.underlying81 rfl info81
      refine bodyPost_ret (v := .agg (LSP.map (Value.int .i64)).toArray) ?_ rfl ⟨rfl, BW.out.trans ((kp_setCells w.heap.size _ 0 _).below BW.out.size (fun i e => by omega))⟩
      exact results_cell1 Try.results43 _ _ _ rfl hl
/-! Distances -/
def dw (i : Nat) : Nat := i / 2 - 1
def df : Nat → Nat
  | 0 => 1
  | i + 1 => df i + 2 ^ dw i
def dM : Nat → List Int
  | 0 => List.replicate 60 0
  | k + 1 => ((dM k).set (k * 2) (df k)).set (k * 2 + 1) (dw k)
theorem dM_len (k : Nat) : (dM k).length = 60 := by
  induction k with
  | zero => simp [dM]
  | succ k ih => simp [dM, ih]
theorem df_le {k : Nat} (h : k ≤ 30) : df k ≤ 100000 := by
  have : ∀ k : Fin 31, df k.1 ≤ 100000 := by decide +kernel
  exact this ⟨k, by omega⟩
theorem info85 : (Try.prog.info? 85).map (·.size) = some 60 := by kernel_rfl
theorem df_next {k : Nat} (h : k < 30) : wrap64 ((df k : Int) + wrap64 (2 ^ dw k)) = (df (k + 1) : Int) := by
  have : ∀ k : Fin 30, wrap64 ((df k.1 : Int) + wrap64 (2 ^ dw k.1)) = (df (k.1 + 1) : Int) := by decide +kernel
  exact this ⟨k, h⟩
set_option maxRecDepth 100000 in
set_option maxHeartbeats 2000000 in
theorem dspans_any (w : World) : Calls Try.prog 45 #[] w fun e w' => e = .returned (.agg ((dM 30).map (Value.int .i64)).toArray) ∧ Below w.heap.size w w' := by
  go_enter Try.func45, Try.ntmps45
  go_wp2_with fail
  refine at_worldp (R := fun X => Rw .i64 85 X w.heap.size (List.replicate 60 0) ∧ Rw .i64 85 X (w.heap.size + 1) (List.replicate 60 0) ∧ Below w.heap.size w X) ⟨?_, ?_, ?_⟩ ?_
  · exact Rw.alloc (Rw.new .i64 85 w (List.replicate 60 0)) _
  · have := Rw.new .i64 85 (w.alloc (.cells ((List.replicate 60 (0 : Int)).map (Value.int .i64)).toArray 85)) (List.replicate 60 0)
    rw [World.size_alloc] at this
    exact this
  · exact ((Below.refl _ _).alloc (Nat.le_refl _) _).alloc (by simp) _
  rintro X ⟨r0, r1, bX⟩
  have HX : Hid (Rw .i64 85 X w.heap.size (List.replicate 60 0) ∧ Rw .i64 85 X (w.heap.size + 1) (List.replicate 60 0) ∧ Below w.heap.size w X) := ⟨r0, r1, bX⟩
  clear r0 r1 bX
  go_loopw [2, 3, 4] (fun u2 _ u4 wr => ∃ k : Nat, k ≤ 30 ∧ u4 = .int .i64 (k : Int) ∧ u2 = .int .i64 (df k : Int) ∧ Rw .i64 85 wr w.heap.size (List.replicate 60 0) ∧ Rw .i64 85 wr (w.heap.size + 1) (dM k) ∧ Below w.heap.size w wr) (fun _ _ u4 _ => 30 - (intOf u4).toNat)
  case atStart => exact ⟨0, by omega, rfl, rfl, HX.out.1, HX.out.2.1, HX.out.2.2⟩
  case round =>
    clear HX
    obtain ⟨k, hk, rfl, rfl, r0, r1, hb⟩ := hrel
    have H0 : Hid (Rw .i64 85 wr w.heap.size (List.replicate 60 0)) := r0
    have H1 : Hid (Rw .i64 85 wr (w.heap.size + 1) (dM k)) := r1
    have HBW : Hid (Below w.heap.size w wr) := hb
    by_cases hlt : k < 30
    · have c0 := r1.cell (k * 2) (by rw [dM_len]; omega)
      have c1 := r1.cell (k * 2 + 1) (by rw [dM_len]; omega)
      have f0 := r1.frozen (k * 2)
      have f1 := r1.frozen (k * 2 + 1)
      have hlf := df_le hk
      clear r0 r1 hb
      go_wp2_with fail
      have e1 : (if 1 < (k : Int) / 2 then (k : Int) / 2 - 1 else 0) = (dw k : Int) := by unfold dw; split <;> omega
      rw [e1, Int.toNat_natCast]
      refine ⟨⟨k + 1, hlt, by simp, by rw [df_next hlt], ?_, ?_, ?_⟩, by simp [intOf]; omega⟩
      · exact (H0.out.kp_other (by omega)).kp_other (by omega)
      · exact (H1.out.set _ _).set _ _
      · exact HBW.out.trans (((kp_setCell wr (w.heap.size + 1) (k * 2) _ (fun i => i = w.heap.size + 1) rfl).trans (kp_setCell _ (w.heap.size + 1) (k * 2 + 1) _ (fun i => i = w.heap.size + 1) rfl) (fun _ _ e => e)).below HBW.out.size (fun i e => by omega))
    · obtain rfl : k = 30 := by omega
      clear r0 r1 hb
      go_wp2_with (first | (refine wpList_load_mid rfl 85 (.tmp 1) rfl (w.heap.size + 1) 0 rfl ((dM 30).map (Value.int .i64)) _ H1.out.range Try.underlying85 rfl info85 ?_) | (refine wpList_store_mid rfl 85 (.tmp 0) (.tmp 23) rfl w.heap.size 0 ((dM 30).map (Value.int .i64)).toArray rfl rfl (H0.out.there _ (by simp [dM_len])) info85 (ints_one _) ?_))
      have ht := H0.out.there 60 (by simp)
      have hl := run_loadVar_mid (P := Try.prog) _ w.heap.size 0 85 ((dM 30).map (Value.int .i64)) _ (World.rangeAt_setCells_same wr w.heap.size 0 ((dM 30).map (Value.int .i64)) (by simpa [dM_len] using ht)) Try.underlying85 rfl info85
      refine bodyPost_ret (v := .agg ((dM 30).map (Value.int .i64)).toArray) ?_ rfl ⟨rfl, HBW.out.trans ((kp_setCells w.heap.size _ 0 _).below HBW.out.size (fun i e => by omega))⟩
      exact results_cell1 Try.results45 _ _ _ rfl hl
/-- The last one that is not beyond n. -/
def Ch (fs : Nat → Int) (M : Nat) (n : Int) (i : Nat) : Prop := i < M ∧ fs i ≤ n ∧ ∀ j, i < j → j < M → n < fs j
theorem Ch.uniq {fs : Nat → Int} {M : Nat} {n : Int} {i j : Nat} (h : Ch fs M n i) (k : Ch fs M n j) : i = j := by
  rcases Nat.lt_trichotomy i j with c | c | c
  · have := h.2.2 j c k.1; have := k.2.1; omega
  · exact c
  · have := k.2.2 i c h.1; have := h.2.1; omega
set_option maxRecDepth 100000 in
set_option maxHeartbeats 1000000 in
theorem holds_any (g M : Nat) (fs : Nat → Int) (n : Int) (w : World) (hM : M ≤ 1000) (hM0 : 0 < M) (hc : ∀ i, i < M → w.cell? ⟨g, i * 2, none⟩ = some (.int .i64 (fs i))) (h0 : fs 0 ≤ n) :
    Calls Try.prog 44 #[.slice (some ⟨g, 0, none⟩) M M, .int .i64 n] w fun e w' => ∃ i : Nat, e = .returned (.int .i64 (i : Int)) ∧ Ch fs M n i ∧ w' = w := by
  have HC : Hid (∀ i, i < M → w.cell? ⟨g, i * 2, none⟩ = some (.int .i64 (fs i))) := hc
  have e0 : IntKind.i64.wrap ((M : Int) - 1) = ((M - 1 : Nat) : Int) := by rw [IntKind.wrap_i64]; omega
  clear hc
  go_enter Try.func44, Try.ntmps44
  go_wp2_with fail
  go_loopw [5] (fun u5 wr => ∃ k : Nat, k < M ∧ u5 = .int .i64 (k : Int) ∧ (∀ j, k < j → j < M → n < fs j) ∧ wr = w) (fun u5 _ => (intOf u5).toNat)
  case atStart => exact ⟨M - 1, by omega, by first | rfl | simp [e0], fun j h1 h2 => by omega, rfl⟩
  case round =>
    obtain ⟨k, hk, rfl, hj, rfl⟩ := hrel
    have HJ : Hid (∀ j, k < j → j < M → n < fs j) := hj
    have c0 := HC.out k hk
    obtain ⟨x, hx⟩ : ∃ x, x = fs k := ⟨_, rfl⟩
    rw [← hx] at c0
    have HX : Hid (x = fs k) := hx
    clear hj hx
    by_cases hlt : n < x
    · have hk0 : 0 < k := by
        rcases Nat.eq_zero_or_pos k with h | h
        · rw [h] at HX; have := HX.out; omega
        · exact h
      have e1 : IntKind.i64.wrap ((k : Int) - 1) = ((k - 1 : Nat) : Int) := by rw [IntKind.wrap_i64]; omega
      go_wp2
      refine ⟨⟨k - 1, by omega, by first | rfl | simp | (congr 1; omega), fun j h1 h2 => ?_, by first | rfl | trivial⟩, by simp [intOf]; omega⟩
      by_cases e : j = k
      · rw [e, ← HX.out]; exact hlt
      · exact HJ.out j (by omega) h2
    · go_wp2
      go_ret
      exact ⟨k, rfl, ⟨hk, by rw [← HX.out]; omega, HJ.out⟩, rfl⟩
end Go.Proofs.Ytofmoggejfopiaa
