/- The weight, which ranges over the symbols that have a code. -/
import Derived.Test.YthpocbpleffdpaaIt
namespace Go.Proofs.Ythpocbpleffdpaa
open Go.RowKit Go.Shelf
attribute [local go_sem] Oper.semAt_some

theorem wrap_nat (a : Nat) (h : a ≤ 4000000000000000000) : IntKind.i64.wrap (a : Int) = (a : Int) := by rw [IntKind.wrap_i64]; omega
theorem cell_new_l (W : World) (v : Value) (t : TypeId) : (W.alloc (.cells #[v] t)).cell? ⟨W.heap.size, 0, none⟩ = some v ∧ (W.alloc (.cells #[v] t)).frozen? ⟨W.heap.size, 0, none⟩ = false :=
  ⟨cell_of_row _ _ 0 _ t _ (heap_alloc_new W _), frozen_of_row _ _ 0 _ t (heap_alloc_new W _)⟩
theorem cell_alloc_l {W : World} {a : Addr} {v : Value} (o : Obj) (h : W.cell? a = some v) : (W.alloc o).cell? a = some v := cell_kept h (World.grownBy_alloc W o none) (fun r e => by cases e)
theorem frozen_alloc_l {W : World} {a : Addr} {v : Value} (o : Obj) (h : W.cell? a = some v) (hf : W.frozen? a = false) : (W.alloc o).frozen? a = false := (frozen_kept h (World.grownBy_alloc W o none) (fun r e => by cases e)).trans hf
/-- What symbols and lengths weigh. -/
def cw : List (Nat × Int) → Nat
  | [] => 0
  | x :: l => 32768 / 2 ^ x.2.toNat + cw l
theorem cw_append (a b : List (Nat × Int)) : cw (a ++ b) = cw a + cw b := by
  induction a with
  | nil => simp [cw]
  | cons z a ih => simp [cw, ih, Nat.add_assoc]
theorem cw_le (l : List (Nat × Int)) : cw l ≤ 32768 * l.length := by
  induction l with
  | nil => simp [cw]
  | cons x l ih =>
    have : 32768 / 2 ^ x.2.toNat ≤ 32768 := Nat.div_le_self _ _
    simp only [cw, List.length_cons]
    omega
theorem src_low {k : IntKind} {w : World} {ao : Option Addr} {zs : List Int} (h : Src k w ao zs) : 0 < zs.length → ∀ b off, ao = some ⟨b, off, none⟩ → b < w.heap.size := by
  intro hp b off e
  obtain ⟨b', off', e', hc⟩ := h hp
  rw [e] at e'
  cases e'
  exact block_lt_of_cell (hc 0 hp)
theorem cw_cds (zs : List Int) (k : Nat) (hk : k ≤ zs.length) : cw (cds zs k) = wgt (zs.take k) := by
  induction k with
  | zero => simp [cds, cw, wgt]
  | succ k ih =>
    have hk2 : k < zs.length := by omega
    have e : zs[k]?.getD 0 = zs.getD k 0 := by simp [List.getD]
    rw [wgt_snoc zs k hk2, ← ih (by omega), ← e]
    by_cases h : 0 < zs[k]?.getD 0
    · rw [cds_yes h, cw_append, if_pos h]; simp [cw]
    · rw [cds_no h, if_neg h]; rfl
set_option maxRecDepth 100000 in
set_option maxHeartbeats 2000000 in
theorem weight_in (F : Fence) (n : Nat) (h44 : F.fn 44) (h48 : F.fn 48) (h70 : F.fn 70) (hro : F.round = none) (hn : 3 ≤ n) (a : Option Addr) (cap : Nat) (zs : List Int) (w : World) (hl : zs.length ≤ 1000000) (hs : Src .i64 w a zs) (hw : Wi 15 zs) :
    CallsIn F n Try.prog 44 #[.slice a zs.length cap] w fun e W' => e = .returned (.int .i64 (wgt zs : Int)) ∧ Below w.heap.size w W' := by
  have h1 : 1 ≤ n := by omega
  have HS : Hid (Src .i64 w a zs) := hs
  have HW : Hid (Wi 15 zs) := hw
  clear hs hw
  refine callsIn_of_wp_marks Try.func44 rfl h44 ?_ hro
  simp only [Try.ntmps44, List.size_toArray, List.length_cons, List.length_nil, Nat.reduceAdd, Nat.reduceSub, Array.replicate_succ, Array.replicate_zero, List.push_toArray, List.append_toArray, List.nil_append, List.cons_append]
  gi_wp2_with (gi_at_call 48; refine (coded_in F (n - 1) h48 hro _ _ _ _).mono ?_; rintro e w' ⟨rfl, rfl⟩)
  have hs := cell_new_l w (.int .i64 0) 3
  have hb := cell_new_l (w.alloc (.cells #[.int .i64 0] 3)) (.slice a zs.length cap) 22
  rw [World.size_alloc] at hb
  have hB0 : Below w.heap.size w ((w.alloc (.cells #[.int .i64 0] 3)).alloc (.cells #[.slice a zs.length cap] 22)) := ((Below.refl _ w).alloc (Nat.le_refl _) _).alloc (by simp) _
  refine wpIn_rangeFunc_ownF hro h1 (gf := 70) (lb := #[.pointer (some ⟨w.heap.size + 1, 0, none⟩)]) rfl h70 (enters_of Try.func70 (by kernel_rfl) rfl)
    (coded_stops F (n - 1) h70 hro (by omega) (w.heap.size + 1) w.heap.size a cap zs (by omega) _ (by simp) hb.1 (HS.out.below hB0) (src_low HS.out) (fun x => 1 ≤ x.2 ∧ x.2 ≤ 15) (fun k hk h0 => ⟨h0, by have := HW.out _ (List.getElem_mem hk); simpa [hk] using this.2⟩))
    belowK_t (belowK_b (by simp; omega)) (Below.refl _ _) (fun _ => rfl)
    (fun pre W => (W.cell? ⟨w.heap.size, 0, none⟩ = some (.int .i64 (cw (pre.map (·.1)) : Int)) ∧ W.frozen? ⟨w.heap.size, 0, none⟩ = false) ∧ Below w.heap.size w W)
    (fun _ _ _ => False)
    (OwnFrom.and (Own.from (fun s A B row hs hg hr => ⟨cell_kept hs.1 hg hr, (frozen_kept hs.1 hg hr).trans hs.2⟩) _) (ownFrom_below (Nat.le_refl _) (by simp; omega)))
    (fun _ _ _ _ _ hs _ _ => hs)
    ⟨⟨cell_alloc_l _ hs.1, frozen_alloc_l _ hs.1 hs.2⟩, hB0⟩
    (fun x => { tmps := #[.slice a zs.length cap, undef, .int .i64 0, .pointer (some ⟨w.heap.size, 0, none⟩), undef, .int .i64 x.1.2, .slice a zs.length cap, .func (.func 70) #[] #[.pointer (some ⟨w.heap.size + 1, 0, none⟩)], .int .i64 (x.1.1 : Int), .int .i64 x.1.2, undef, undef, undef, undef, undef], defers := [] }) ?assign ?body ?done ?stop
  case assign =>
    intro l x W K hK
    gi_wp2
    exact hK
  case body =>
    rintro l pre ⟨⟨i, z⟩, hz⟩ W ⟨⟨hc, hf⟩, hB⟩ hlen
    obtain ⟨m, rfl⟩ := Int.eq_ofNat_of_zero_le (show 0 ≤ z by have := hz.1; simp at this; omega)
    have hm : m ≤ 15 := by have := hz.2; simp at this; omega
    have hcl := cw_le (pre.map (·.1))
    rw [List.length_map] at hcl
    obtain ⟨q, hq⟩ : ∃ q, q = 32768 / 2 ^ m := ⟨_, rfl⟩
    have hq2 : (32768 : Int) / 2 ^ m = (q : Int) := by rw [hq]; exact (Int.natCast_ediv 32768 (2 ^ m)).symm ▸ by simp
    have hq3 : q ≤ 32768 := by rw [hq]; exact Nat.div_le_self _ _
    have HQ : Hid (cw ((pre ++ [(⟨(i, (m : Int)), hz⟩ : { x : Nat × Int // 1 ≤ x.2 ∧ x.2 ≤ 15 })]).map (·.1)) = cw (pre.map (·.1)) + q) := by
      show _ = _
      rw [List.map_append, cw_append, hq]
      simp [cw]
    generalize cw (pre.map (·.1)) = s at hc hcl HQ
    have hs5 : (s : Int) + (q : Int) ≤ 9000000000000000000 := by omega
    clear hq
    have hwr : IntKind.i64.wrap ((s : Int) + (q : Int)) = ((s + q : Nat) : Int) := by rw [show (s : Int) + (q : Int) = ((s + q : Nat) : Int) by omega]; exact wrap_nat _ (by omega)
    have hmix : Try.prog.follows .mixedOrders = true := by kernel_rfl
    gi_wp2
    gi_region_o
    all_goals gi_wp2
    all_goals exact ⟨(KeepsOthers.setCell _ _ _).trans (KeepsOthers.drew _), ((Below.refl w.heap.size W).setCell (p := ⟨w.heap.size, 0, none⟩) (Nat.le_refl _) _).drew, ⟨by rw [HQ.out]; exact World.cell?_setCell_same' _ _ _ (by rw [hc]; rfl), (World.frozen?_setCell _ _ _ _).trans hf⟩, (hB.setCell (p := ⟨w.heap.size, 0, none⟩) (Nat.le_refl _) _).drew⟩
  case done =>
    rintro D ys W hD hys ⟨⟨hc, _⟩, hB⟩ hK
    have hv : cw (ys.map (·.1)) = wgt zs := by rw [hys, cw_cds zs zs.length (Nat.le_refl _), List.take_length]
    rw [hv] at hc
    gi_wp2
    refine ⟨by simp, .inl ⟨_, _, rfl, run_takeDeferred hK, ?_⟩⟩
    exact ⟨_, results_tmp rfl _ _ _, rfl, hB.trans (belowK_b (w := w) (Nat.le_refl _) W D _ _ (by simp at hD; omega) hK rfl rfl)⟩
  case stop =>
    rintro D c pre W _ _ h _
    exact h.elim
/-- The weight, as a plain contract. -/
theorem weight_any (a : Option Addr) (cap : Nat) (zs : List Int) (w : World) (hl : zs.length ≤ 1000000) (hs : Src .i64 w a zs) (hw : Wi 15 zs) :
    Calls Try.prog 44 #[.slice a zs.length cap] w fun e W' => e = .returned (.int .i64 (wgt zs : Int)) ∧ Below w.heap.size w W' :=
  callsIn_wide.1 (weight_in Fence.wide 3 trivial trivial trivial rfl (Nat.le_refl _) a cap zs w hl hs hw)
end Go.Proofs.Ythpocbpleffdpaa
