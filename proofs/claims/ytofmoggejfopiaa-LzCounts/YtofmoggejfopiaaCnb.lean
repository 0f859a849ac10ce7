/- Counts. -/
import Derived.Test.YtofmoggejfopiaaCnr
import Derived.Test.YtofmoggejfopiaaXp
namespace Go.Proofs.Ytofmoggejfopiaa
open Go.RowKit
theorem rangeAt_kp {F : Nat → Prop} {w w' : World} {b o : Nat} {cs : List Value} (h : w.rangeAt b o cs) (k : Kp F w w') (hf : ¬ F b) : w'.rangeAt b o cs := fun j v hv => by
  have hc := h j v hv
  have hb := k.block b (block_lt_of_cell hc) hf
  unfold World.cell? at hc ⊢
  simp only [hb]
  exact hc
theorem results_cell2t {P : Program} {fn : Func} {p q r : Tmp} {t u : TypeId} (h : fn.results = #[.cell p t, .cell q u, .tmp r]) (tmps : Array Value) (w : World) (b c : Nat) {v x y : Value} (hp : tmps.getD p undef = .pointer (some ⟨b, 0, none⟩)) (hq : tmps.getD q undef = .pointer (some ⟨c, 0, none⟩)) (hr : tmps.getD r undef = y) (hl : (loadVar t ⟨b, 0, none⟩).run P w = .ok v w) (hm : (loadVar u ⟨c, 0, none⟩).run P w = .ok x w) :
    (results fn tmps).run P w = .ok (.tuple #[v, x, y]) w := by
  have hp' : tmps[p]?.getD undef = .pointer (some ⟨b, 0, none⟩) := by simpa using hp
  have hq' : tmps[q]?.getD undef = .pointer (some ⟨c, 0, none⟩) := by simpa using hq
  have hr' : tmps[r]?.getD undef = y := by simpa using hr
  simp [results, h, hp', hq', hr', asAddr, hl, hm]
theorem holds_i (g M : Nat) (fs : Nat → Int) (n : Int) (i : Nat) (w : World) (hM : M ≤ 1000) (hM0 : 0 < M) (hc : ∀ i, i < M → w.cell? ⟨g, i * 2, none⟩ = some (.int .i64 (fs i))) (h0 : fs 0 ≤ n) (hi : Ch fs M n i) :
    Calls Try.prog 44 #[.slice (some ⟨g, 0, none⟩) M M, .int .i64 n] w fun e w' => e = .returned (.int .i64 (i : Int)) ∧ w' = w := by
  refine (holds_any g M fs n w hM hM0 hc h0).mono ?_
  rintro e w' ⟨j, rfl, hj, h⟩
  rw [hj.uniq hi]
  exact ⟨rfl, h⟩
theorem ch_ex2 (fs : Nat → Int) (n : Int) (h0 : fs 0 ≤ n) (M : Nat) : ∃ i, Ch fs (M + 1) n i := by
  induction M with
  | zero => exact ⟨0, by omega, h0, fun j h1 h2 => by omega⟩
  | succ M ih =>
    by_cases h : fs (M + 1) ≤ n
    · exact ⟨M + 1, by omega, h, fun j h1 h2 => by omega⟩
    · obtain ⟨i, h1, h2, h3⟩ := ih
      refine ⟨i, by omega, h2, fun j h4 h5 => ?_⟩
      by_cases e : j = M + 1
      · rw [e]; omega
      · exact h3 j h4 (by omega)
/-- What the loop of Counts keeps. -/
structure CC (w W : World) (ts : List Tok) (k g6 g7 : Nat) : Prop where
  a2 : Rw .u32 60 W w.heap.size (cst ts k).1
  a3 : Rw .u32 61 W (w.heap.size + 1) (cst ts k).2
  s6 : W.rangeAt g6 0 (LSP.map (Value.int .i64))
  s7 : W.rangeAt g7 0 ((dM 30).map (Value.int .i64))
  n6 : w.heap.size + 1 < g6
  n7 : w.heap.size + 1 < g7
  bel : Below w.heap.size w W
theorem CC.kp {w W W' : World} {ts : List Tok} {k g6 g7 : Nat} (h : CC w W ts k g6 g7) (b : Kp (fun _ => False) W W') : CC w W' ts k g6 g7 :=
  ⟨h.a2.kp b (fun x => x), h.a3.kp b (fun x => x), rangeAt_kp h.s6 b (fun x => x), rangeAt_kp h.s7 b (fun x => x), h.n6, h.n7, h.bel.trans (b.below h.bel.size (fun _ x => x.elim))⟩
theorem CC.sp6 {w W : World} {ts : List Tok} {k g6 g7 : Nat} (h : CC w W ts k g6 g7) : ∀ i, i < 29 → W.cell? ⟨g6, i * 2, none⟩ = some (.int .i64 (lfs i)) := fun i hi => by
  have := h.s6 (i * 2) _ (map_at LSP (i * 2) (by have h := LSP_size; simp only [List.size_toArray, List.length_map] at h; omega))
  rwa [Nat.zero_add] at this
theorem CC.sp7 {w W : World} {ts : List Tok} {k g6 g7 : Nat} (h : CC w W ts k g6 g7) : ∀ i, i < 30 → W.cell? ⟨g7, i * 2, none⟩ = some (.int .i64 (dfs i)) := fun i hi => by
  have := h.s7 (i * 2) _ (map_at (dM 30) (i * 2) (by have h := dM_size; simp only [List.size_toArray, List.length_map] at h; omega))
  rwa [Nat.zero_add] at this
theorem CC.set2 {w W : World} {ts : List Tok} {k g6 g7 : Nat} (h : CC w W ts k g6 g7) (j : Nat) (hj : (ts.getD k zt).2.1 = 0) (hy : (ts.getD k zt).1.toNat = j) : CC w (W.setCell ⟨w.heap.size, j, none⟩ (.int .u32 (IntKind.u32.wrap ((cst ts k).1.getD j 0 + 1)))) ts (k + 1) g6 g7 := by
  have e : cst ts (k + 1) = (bump (cst ts k).1 j, (cst ts k).2) := by show (if _ then _ else _) = _; rw [if_pos hj, hy]
  have n6 := h.n6
  have n7 := h.n7
  have kk := kp_setCell W w.heap.size j (.int .u32 (IntKind.u32.wrap ((cst ts k).1.getD j 0 + 1))) (fun i => i = w.heap.size) rfl
  refine ⟨?_, ?_, rangeAt_kp h.s6 kk (by omega), rangeAt_kp h.s7 kk (by omega), n6, n7, h.bel.trans (kk.below h.bel.size (fun i e => by omega))⟩
  · rw [e]; exact h.a2.set j _
  · rw [e]; exact h.a3.kp_other (by omega)
theorem CC.set23 {w W : World} {ts : List Tok} {k g6 g7 : Nat} (h : CC w W ts k g6 g7) (i j : Nat) (hl : ¬ (ts.getD k zt).2.1 = 0) (hi : ixL (ts.getD k zt).2.1 = i) (hj : ixD (ts.getD k zt).2.2 = j) :
    CC w ((W.setCell ⟨w.heap.size, 257 + i, none⟩ (.int .u32 (IntKind.u32.wrap ((cst ts k).1.getD (257 + i) 0 + 1)))).drew.setCell ⟨w.heap.size + 1, j, none⟩ (.int .u32 (IntKind.u32.wrap ((cst ts k).2.getD j 0 + 1)))) ts (k + 1) g6 g7 := by
  have e : cst ts (k + 1) = (bump (cst ts k).1 (257 + i), bump (cst ts k).2 j) := by show (if _ then _ else _) = _; rw [if_neg hl, hi, hj]
  have n6 := h.n6
  have n7 := h.n7
  have kk := ((kp_setCell W w.heap.size (257 + i) (.int .u32 (IntKind.u32.wrap ((cst ts k).1.getD (257 + i) 0 + 1))) (fun i => i = w.heap.size ∨ i = w.heap.size + 1) (.inl rfl)).drew).trans (kp_setCell _ (w.heap.size + 1) j (.int .u32 (IntKind.u32.wrap ((cst ts k).2.getD j 0 + 1))) (fun i => i = w.heap.size ∨ i = w.heap.size + 1) (.inr rfl)) (fun _ _ e => e)
  refine ⟨?_, ?_, rangeAt_kp h.s6 kk (by omega), rangeAt_kp h.s7 kk (by omega), n6, n7, h.bel.trans (kk.below h.bel.size (fun i e => by omega))⟩
  · rw [e]; exact ((h.a2.set (257 + i) _).drew).kp_other (by omega)
  · rw [e]; exact ((h.a3.kp_other (by omega)).drew).set j _
set_option maxRecDepth 100000 in
set_option maxHeartbeats 4000000 in
theorem counts_bad (ts : List Tok) (ao : Option Addr) (N cap : Nat) (w : World) (hNe : N = ts.length) (hN : N ≤ 300) (hS : TSrc w ao ts) (hr : refN ts = 2) :
    Calls Try.prog 31 #[.slice ao N cap] w fun e w' => e = .returned (.tuple #[.agg (cu zs60), .agg (cu zs61), .int .i64 2]) ∧ Below w.heap.size w w' := by
  have z60 := zero60
  have z61 := zero61
  have hb0 : Below w.heap.size w ((w.alloc (.cells (cu zs60) 60)).alloc (.cells (cu zs61) 61)) := ((Below.refl _ w).alloc (Nat.le_refl _) _).alloc (by simp) _
  have R2 : Hid (Rw .u32 60 ((w.alloc (.cells (cu zs60) 60)).alloc (.cells (cu zs61) 61)) w.heap.size zs60) := (Rw.newc 60 w zs60).alloc _
  have R3 : Hid (Rw .u32 61 ((w.alloc (.cells (cu zs60) 60)).alloc (.cells (cu zs61) 61)) (w.heap.size + 1) zs61) := by
    have := Rw.newc 61 (w.alloc (.cells (cu zs60) 60)) zs61
    rw [World.size_alloc] at this
    exact this
  have HB0 : Hid (Below w.heap.size w ((w.alloc (.cells (cu zs60) 60)).alloc (.cells (cu zs61) 61))) := hb0
  have HNE : Hid (N = ts.length) := hNe
  have HS : Hid (TSrc w ao ts) := hS
  clear hNe hS hb0
  go_enter Try.func31, Try.ntmps31
  go_wp2_with fail
  refine (refused_any ts ao N cap _ HNE.out (by omega) (HS.out.below HB0.out)).mono ?_
  rintro e w1 ⟨rfl, b1⟩
  rw [hr]
  have HBL : Hid (Below w.heap.size w w1) := HB0.out.trans (b1.mono HB0.out.size)
  have r2 : Rw .u32 60 w1 w.heap.size zs60 := R2.out.below b1 R2.out.lt
  have r3 : Rw .u32 61 w1 (w.heap.size + 1) zs61 := R3.out.below b1 R3.out.lt
  have LA : zs60.length = 286 := List.length_replicate
  have LB : zs61.length = 30 := List.length_replicate
  obtain ⟨A, hA⟩ : ∃ A, A = zs60.map (Value.int .u32) := ⟨_, rfl⟩
  obtain ⟨B, hB⟩ : ∃ B, B = zs61.map (Value.int .u32) := ⟨_, rfl⟩
  have ra : w1.rangeAt w.heap.size 0 A := by rw [hA]; exact r2.range
  have rb : w1.rangeAt (w.heap.size + 1) 0 B := by rw [hB]; exact r3.range
  have ta : w1.there w.heap.size 0 286 := r2.there 286 (Nat.le_of_eq LA.symm)
  have tb : w1.there (w.heap.size + 1) 0 30 := r3.there 30 (Nat.le_of_eq LB.symm)
  have la : A.length = 286 := by rw [hA, List.length_map]; exact LA
  have lb : B.length = 30 := by rw [hB, List.length_map]; exact LB
  have oa : ∀ v ∈ A, v.oneCell' = true := by rw [hA]; exact cu_one _
  have ob : ∀ v ∈ B, v.oneCell' = true := by rw [hB]; exact cu_one _
  have ia : (Try.prog.info? 60).map (·.size) = some A.length := by rw [la]; exact info60
  have ib : (Try.prog.info? 61).map (·.size) = some B.length := by rw [lb]; exact info61
  have ua : Try.prog.underlying 60 = some (.array 286 59) := Try.underlying60
  have ub : Try.prog.underlying 61 = some (.array 30 59) := Try.underlying61
  have HAB : Hid (A = zs60.map (Value.int .u32) ∧ B = zs61.map (Value.int .u32)) := ⟨hA, hB⟩
  clear hA hB
  clear r2 r3 R2 R3 b1 HB0 z60 z61
  go_wp2_with fail
  have sa : A.toArray.size = 286 := by simp [la]
  have sb : B.toArray.size = 30 := by simp [lb]
  have Oa : A.toArray.all (·.oneCell') = true := all_oneCell_toArray oa
  have Ob : B.toArray.all (·.oneCell') = true := all_oneCell_toArray ob
  have n5 : w.heap.size + 1 ≠ w.heap.size := by omega
  refine wp_region_held_drew (S := fun w' => w'.rangeAt w.heap.size 0 A ∧ w'.rangeAt (w.heap.size + 1) 0 B ∧ w'.there w.heap.size 0 286 ∧ w'.there (w.heap.size + 1) 0 30) (by kernel_rfl) ⟨ra, rb, ta, tb⟩ (fun h0 => ?_)
  refine wpAnyH_take (i := 0) (v := .agg A.toArray) rfl (by kernel_rfl) (by kernel_rfl) (by kernel_rfl) (fun _ _ _ h => h) (yieldsIf_load_mid rfl 60 (.tmp 2) rfl w.heap.size 0 rfl A _ (fun w h => h.1) ua rfl ia) h0 ?_
  refine wpAnyH_take (i := 1) (v := .agg B.toArray) rfl (by kernel_rfl) (by kernel_rfl) (by kernel_rfl) (fun _ _ _ h => h) (yieldsIf_load_mid rfl 61 (.tmp 3) rfl (w.heap.size + 1) 0 rfl B _ (fun w h => h.2.1) ub rfl ib) h0 ?_
  refine wpAnyH_take (i := 2) (v := .int .i64 2) rfl (by kernel_rfl) (by kernel_rfl) (by kernel_rfl) (fun _ _ _ h => h) (Or.inl ⟨by rfl, fun w _ => by rfl⟩) h0 ?_
  refine wpAnyH_ready (rs := [3]) (by kernel_rfl) (by simp) ?_
  refine AllReadyH.cons rfl (fun K hK => ?_) AllReadyH.nil
  rw [if_pos (by rfl)]
  refine wp_store_mid 60 (.tmp 2) (.tmp 14) rfl w.heap.size 0 A.toArray rfl rfl (by rw [sa]; exact h0.2.2.1) (by rw [sa]; exact info60) Oa ?_
  refine hK.out _ _ ⟨World.rangeAt_setCells_same _ _ _ _ (by rw [la]; exact h0.2.2.1), World.rangeAt_setCells_apart h0.2.1 _ _ _ (.inl n5), World.there_setCells h0.2.2.1 _ _ _, World.there_setCells h0.2.2.2 _ _ _⟩ (fun h1 => ?_)
  clear hK K
  refine wpAnyH_ready (rs := [4]) (by kernel_rfl) (by simp) ?_
  refine AllReadyH.cons rfl (fun K hK => ?_) AllReadyH.nil
  rw [if_pos (by rfl)]
  refine wp_store_mid 61 (.tmp 3) (.tmp 15) rfl (w.heap.size + 1) 0 B.toArray rfl rfl (by rw [sb]; exact h1.2.2.2) (by rw [sb]; exact info61) Ob ?_
  refine hK.out _ _ ⟨World.rangeAt_setCells_apart h1.1 _ _ _ (.inl (Ne.symm n5)), World.rangeAt_setCells_same _ _ _ _ (by rw [lb]; exact h1.2.2.2), World.there_setCells h1.2.2.1 _ _ _, World.there_setCells h1.2.2.2 _ _ _⟩ (fun h2 => ?_)
  clear hK K
  refine wpAnyH_take (i := 5) (v := .int .i64 2) rfl (by kernel_rfl) (by kernel_rfl) (by kernel_rfl) (fun _ _ _ h => h) (Or.inl ⟨by rfl, fun w _ => by rfl⟩) h2 ?_
  refine wpAnyH_done (by kernel_rfl) ?_ _
  have la2 := run_loadVar_mid (P := Try.prog) ((w1.drew.setCells w.heap.size 0 A).setCells (w.heap.size + 1) 0 B) w.heap.size 0 60 A _ h2.1 ua rfl ia
  have lb2 := run_loadVar_mid (P := Try.prog) ((w1.drew.setCells w.heap.size 0 A).setCells (w.heap.size + 1) 0 B) (w.heap.size + 1) 0 61 B _ h2.2.1 ub rfl ib
  have HLA : Hid ((loadVar 60 ⟨w.heap.size, 0, none⟩).run Try.prog ((w1.drew.setCells w.heap.size 0 A).setCells (w.heap.size + 1) 0 B) = .ok (.agg A.toArray) ((w1.drew.setCells w.heap.size 0 A).setCells (w.heap.size + 1) 0 B)) := la2
  have HLB : Hid ((loadVar 61 ⟨w.heap.size + 1, 0, none⟩).run Try.prog ((w1.drew.setCells w.heap.size 0 A).setCells (w.heap.size + 1) 0 B) = .ok (.agg B.toArray) ((w1.drew.setCells w.heap.size 0 A).setCells (w.heap.size + 1) 0 B)) := lb2
  have HBF : Hid (Below w.heap.size w ((w1.drew.setCells w.heap.size 0 A).setCells (w.heap.size + 1) 0 B)) := HBL.out.drew.trans (((kp_setCells w.heap.size A 0 w1.drew).mono (G := fun i => i = w.heap.size ∨ i = w.heap.size + 1) (fun _ _ e => .inl e)).trans (kp_setCells (w.heap.size + 1) B 0 _) (fun _ _ e => .inr e) |>.below HBL.out.drew.size (fun i e => by rcases e with e | e <;> omega))
  clear la2 lb2 h0 h1 h2 ra rb ta tb
  go_wp2_with fail
  refine bodyPost_ret (v := .tuple #[.agg A.toArray, .agg B.toArray, .int .i64 2]) ?_ rfl ⟨by rw [HAB.out.1, HAB.out.2]; rfl, HBF.out⟩
  exact results_cell2t Try.results31 _ _ _ _ rfl rfl rfl HLA.out HLB.out
end Go.Proofs.Ytofmoggejfopiaa
