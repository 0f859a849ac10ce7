import Derived.Test.YtofmoggejfopiaaArr
import Derived.Test.YtofmoggejfopiaaRsy
import Derived.Test.YtofmoggejfopiaaRck
import Derived.Test.YtofmoggejfopiaaTks
import Derived.Deep.RegionHeld3
namespace Go.Proofs.Ytofmoggejfopiaa
open Go.RowKit
def zs60 : List Int := List.replicate 286 0
def zs61 : List Int := List.replicate 30 0
/-- These numbers, as cells. -/
def cu (M : List Int) : Array Value := (M.map (Value.int .u32)).toArray
theorem run_zero_of {P : Program} {t : TypeId} {v : Value} (h : (P.info? t).bind (·.zero) = some v) (w : World) : (zeroValue t).run P w = .ok v w := by
  cases hi : P.info? t with
  | none => rw [hi] at h; cases h
  | some i =>
    rw [hi] at h
    have h2 : i.zero = some v := h
    simp [zeroValue, typeInfo, hi, h2, go_sem]
theorem zero60 (w : World) : (zeroValue 60).run Try.prog w = .ok (.agg (cu zs60)) w := run_zero_of (by kernel_rfl) w
theorem zero61 (w : World) : (zeroValue 61).run Try.prog w = .ok (.agg (cu zs61)) w := run_zero_of (by kernel_rfl) w
theorem Rw.newc (t : TypeId) (w : World) (M : List Int) : Rw .u32 t (w.alloc (.cells (cu M) t)) w.heap.size M := heap_alloc_new w _
/-- The last one that is not beyond n, of the first M. -/
def ixS (fs : Nat → Int) (n : Int) : Nat → Nat
  | 0 => 0
  | M + 1 => if fs M ≤ n then M else ixS fs n M
theorem ixS_eq (fs : Nat → Int) (n : Int) (i : Nat) : ∀ M, Ch fs M n i → ixS fs n M = i
  | 0, h => absurd h.1 (by omega)
  | M + 1, h => by
    obtain ⟨h1, h2, h3⟩ := h
    show (if fs M ≤ n then M else ixS fs n M) = i
    by_cases e : i = M
    · subst e; rw [if_pos h2]
    · have := h3 M (by omega) (by omega)
      rw [if_neg (by omega)]
      exact ixS_eq fs n i M ⟨by omega, h2, fun j h4 h5 => h3 j h4 (by omega)⟩
def ixL (n : Int) : Nat := ixS lfs n 29
def ixD (n : Int) : Nat := ixS dfs n 30
theorem ixL_eq {n : Int} {i : Nat} (h : Ch lfs 29 n i) : ixL n = i := ixS_eq lfs n i 29 h
theorem ixD_eq {n : Int} {i : Nat} (h : Ch dfs 30 n i) : ixD n = i := ixS_eq dfs n i 30 h
/-- One more. -/
def bump (M : List Int) (j : Nat) : List Int := M.set j (IntKind.u32.wrap (M.getD j 0 + 1))
theorem bump_len (M : List Int) (j : Nat) : (bump M j).length = M.length := by simp [bump]
/-- How often symbols come in the first k tokens. -/
def cst (ts : List Tok) : Nat → List Int × List Int
  | 0 => (zs60.set 256 1, zs61)
  | k + 1 => if (ts.getD k zt).2.1 = 0 then (bump (cst ts k).1 (ts.getD k zt).1.toNat, (cst ts k).2) else (bump (cst ts k).1 (257 + ixL (ts.getD k zt).2.1), bump (cst ts k).2 (ixD (ts.getD k zt).2.2))
theorem cst_len (ts : List Tok) (k : Nat) : (cst ts k).1.length = 286 ∧ (cst ts k).2.length = 30 := by
  induction k with
  | zero =>
    refine ⟨?_, List.length_replicate⟩
    show (zs60.set 256 1).length = 286
    rw [List.length_set]
    exact List.length_replicate
  | succ k ih =>
    unfold cst
    split
    · exact ⟨by rw [bump_len]; exact ih.1, ih.2⟩
    · exact ⟨by rw [bump_len]; exact ih.1, by rw [bump_len]; exact ih.2⟩
theorem info60 : (Try.prog.info? 60).map (·.size) = some 286 := by kernel_rfl
theorem info61 : (Try.prog.info? 61).map (·.size) = some 30 := by kernel_rfl
theorem cu_one (M : List Int) : ∀ v ∈ M.map (Value.int .u32), v.oneCell' = true := fun v hv => by
  obtain ⟨x, _, rfl⟩ := List.mem_map.1 hv
  rfl
theorem results_cell2 {P : Program} {fn : Func} {p q : Tmp} {t u : TypeId} (h : fn.results = #[.cell p t, .cell q u]) (tmps : Array Value) (w : World) (b c : Nat) {v x : Value} (hp : tmps.getD p undef = .pointer (some ⟨b, 0, none⟩)) (hq : tmps.getD q undef = .pointer (some ⟨c, 0, none⟩)) (hl : (loadVar t ⟨b, 0, none⟩).run P w = .ok v w) (hm : (loadVar u ⟨c, 0, none⟩).run P w = .ok x w) :
    (results fn tmps).run P w = .ok (.tuple #[v, x]) w := by
  have hp' : tmps[p]?.getD undef = .pointer (some ⟨b, 0, none⟩) := by simpa using hp
  have hq' : tmps[q]?.getD undef = .pointer (some ⟨c, 0, none⟩) := by simpa using hq
  simp [results, h, hp', hq', asAddr, hl, hm]
/-- What the reference's loop keeps. -/
structure RC (w W : World) (ts : List Tok) (k : Nat) : Prop where
  a2 : Rw .u32 60 W w.heap.size zs60
  a3 : Rw .u32 61 W (w.heap.size + 1) zs61
  a4 : Rw .u32 60 W (w.heap.size + 1 + 1) (cst ts k).1
  a5 : Rw .u32 61 W (w.heap.size + 1 + 1 + 1) (cst ts k).2
  bel : Below w.heap.size w W
theorem rc_start (w : World) (ts : List Tok) : RC w ((((w.alloc (.cells (cu zs60) 60)).alloc (.cells (cu zs61) 61)).alloc (.cells ((cu zs60).setIfInBounds 256 (.int .u32 1)) 60)).alloc (.cells (cu zs61) 61)) ts 0 := by
  have e : (cu zs60).setIfInBounds 256 (.int .u32 1) = cu (zs60.set 256 1) := by simp [cu, List.map_set]
  rw [e]
  have r2 := Rw.newc 60 w zs60
  have r3 := Rw.newc 61 (w.alloc (.cells (cu zs60) 60)) zs61
  have r4 := Rw.newc 60 ((w.alloc (.cells (cu zs60) 60)).alloc (.cells (cu zs61) 61)) (zs60.set 256 1)
  have r5 := Rw.newc 61 (((w.alloc (.cells (cu zs60) 60)).alloc (.cells (cu zs61) 61)).alloc (.cells (cu (zs60.set 256 1)) 60)) zs61
  simp only [World.size_alloc] at r3 r4 r5
  exact ⟨((r2.alloc _).alloc _).alloc _, (r3.alloc _).alloc _, r4.alloc _, r5, ((((Below.refl _ w).alloc (Nat.le_refl _) _).alloc (by simp) _).alloc (by simp; omega) _).alloc (by simp; omega) _⟩
/-- Another number in the fourth row. -/
theorem RC.set4 {w W : World} {ts : List Tok} {k : Nat} (h : RC w W ts k) (j : Nat) (hj : (ts.getD k zt).2.1 = 0) (hy : (ts.getD k zt).1.toNat = j) : RC w (W.setCell ⟨w.heap.size + 1 + 1, j, none⟩ (.int .u32 (IntKind.u32.wrap ((cst ts k).1.getD j 0 + 1)))) ts (k + 1) := by
  have e : cst ts (k + 1) = (bump (cst ts k).1 j, (cst ts k).2) := by show (if _ then _ else _) = _; rw [if_pos hj, hy]
  refine ⟨h.a2.kp_other (by omega), h.a3.kp_other (by omega), ?_, ?_, h.bel.trans ((kp_setCell W (w.heap.size + 1 + 1) j _ (fun i => i = w.heap.size + 1 + 1) rfl).below h.bel.size (fun i e => by omega))⟩
  · rw [e]; exact h.a4.set j _
  · rw [e]; exact h.a5.kp_other (by omega)
theorem RC.set45 {w W : World} {ts : List Tok} {k : Nat} (h : RC w W ts k) (i j : Nat) (hl : ¬ (ts.getD k zt).2.1 = 0) (hi : ixL (ts.getD k zt).2.1 = i) (hj : ixD (ts.getD k zt).2.2 = j) :
    RC w ((W.setCell ⟨w.heap.size + 1 + 1, 257 + i, none⟩ (.int .u32 (IntKind.u32.wrap ((cst ts k).1.getD (257 + i) 0 + 1)))).setCell ⟨w.heap.size + 1 + 1 + 1, j, none⟩ (.int .u32 (IntKind.u32.wrap ((cst ts k).2.getD j 0 + 1)))) ts (k + 1) := by
  have e : cst ts (k + 1) = (bump (cst ts k).1 (257 + i), bump (cst ts k).2 j) := by show (if _ then _ else _) = _; rw [if_neg hl, hi, hj]
  refine ⟨(h.a2.kp_other (by omega)).kp_other (by omega), (h.a3.kp_other (by omega)).kp_other (by omega), ?_, ?_, h.bel.trans (((kp_setCell W (w.heap.size + 1 + 1) (257 + i) _ (fun i => i = w.heap.size + 1 + 1 ∨ i = w.heap.size + 1 + 1 + 1) (.inl rfl)).trans (kp_setCell _ (w.heap.size + 1 + 1 + 1) j _ (fun i => i = w.heap.size + 1 + 1 ∨ i = w.heap.size + 1 + 1 + 1) (.inr rfl)) (fun _ _ e => e)).below h.bel.size (fun i e => by omega))⟩
  · rw [e]; exact (h.a4.set (257 + i) _).kp_other (by omega)
  · rw [e]; exact (h.a5.kp_other (by omega)).set j _
set_option maxRecDepth 100000 in
set_option maxHeartbeats 4000000 in
theorem rcounts_any (ts : List Tok) (ao : Option Addr) (N cap : Nat) (w : World) (hNe : N = ts.length) (hN : N ≤ 300) (hS : TSrc w ao ts) (hok : okK ts N) (hY : ∀ k, k < N → 0 ≤ (ts.getD k zt).1 ∧ (ts.getD k zt).1 ≤ 255) :
    Calls Try.prog 32 #[.slice ao N cap] w fun e w' => e = .returned (.tuple #[.agg (cu (cst ts N).1), .agg (cu (cst ts N).2)]) ∧ Below w.heap.size w w' := by
  have HNE : Hid (N = ts.length) := hNe
  have HS : Hid (TSrc w ao ts) := hS
  have HOK : Hid (okK ts N) := hok
  have HY : Hid (∀ k, k < N → 0 ≤ (ts.getD k zt).1 ∧ (ts.getD k zt).1 ≤ 255) := hY
  have z60 := zero60
  have z61 := zero61
  have f256 : ∀ X : World, Rw .u32 60 X (w.heap.size + 1 + 1) zs60 → X.cell? ⟨w.heap.size + 1 + 1, 256, none⟩ = some (.int .u32 0) ∧ X.frozen? ⟨w.heap.size + 1 + 1, 256, none⟩ = false := fun X h => ⟨h.cell 256 (by simp [zs60]), h.frozen 256⟩
  have r4 : Rw .u32 60 ((((w.alloc (.cells (cu zs60) 60)).alloc (.cells (cu zs61) 61)).alloc (.cells (cu zs60) 60)).alloc (.cells (cu zs61) 61)) (w.heap.size + 1 + 1) zs60 := by
    have := Rw.newc 60 ((w.alloc (.cells (cu zs60) 60)).alloc (.cells (cu zs61) 61)) zs60
    simp only [World.size_alloc] at this
    exact this.alloc _
  have c256 := (f256 _ r4).1
  have v256 := (f256 _ r4).2
  clear r4 f256 hNe hS hok hY
  go_enter Try.func32, Try.ntmps32
  go_wp2_with fail
  refine at_worldp (R := fun X => RC w X ts 0) (rc_start w ts) ?_
  clear c256 v256 z60 z61
  intro X hrc
  have HRC : Hid (RC w X ts 0) := hrc
  clear hrc
  go_loopw [6, 7, 8, 9, 10, 11, 12] (fun u6 _ _ _ _ _ _ wr => ∃ k : Nat, k ≤ N ∧ u6 = .int .i64 (k : Int) ∧ RC w wr ts k) (fun u6 _ _ _ _ _ _ _ => N - (intOf u6).toNat)
  case atStart => exact ⟨0, Nat.zero_le _, rfl, HRC.out⟩
  case round =>
    clear HRC
    obtain ⟨k, hk, rfl, hrc⟩ := hrel
    have HRC : Hid (RC w wr ts k) := hrc
    have hln := cst_len ts k
    by_cases hlt : k < N
    · obtain ⟨gb, off, hao, hcs⟩ := (HS.out.below hrc.bel) (by have := HNE.out; omega)
      subst hao
      obtain ⟨x0, x1, x2⟩ := hcs k (by have := HNE.out; omega)
      obtain ⟨⟨y, l, d⟩, ht⟩ : ∃ t, t = ts.getD k zt := ⟨_, rfl⟩
      rw [← ht] at x0 x1 x2
      dsimp only at x0 x1 x2
      have HT : Hid (ts.getD k zt = (y, l, d)) := ht.symm
      have hkt := HOK.out k hlt
      rw [HT.out] at hkt
      have hyy := HY.out k hlt
      rw [HT.out] at hyy
      dsimp only at hyy
      have hkt2 : (l = 0 ∧ d = 0) ∨ (y = 0 ∧ (3 ≤ l ∧ l ≤ 258) ∧ (1 ≤ d ∧ d ≤ 32768)) := by simpa [okT] using hkt
      clear hcs ht hkt
      rcases hkt2 with ⟨rfl, rfl⟩ | ⟨rfl, hl, hd⟩
      · obtain ⟨yn, rfl⟩ := Int.eq_ofNat_of_zero_le hyy.1
        obtain ⟨v, hv⟩ : ∃ v, v = (cst ts k).1.getD yn 0 := ⟨_, rfl⟩
        have c0 : wr.cell? ⟨w.heap.size + 1 + 1, yn, none⟩ = some (.int .u32 v) := by rw [hv]; exact hrc.a4.cell yn (by omega)
        have v0 := hrc.a4.frozen yn
        have hyn : yn < 286 := by omega
        have HV : Hid (v = (cst ts k).1.getD yn 0) := hv
        clear hrc hln hv
        go_wp2
        refine ⟨⟨k + 1, hlt, by simp, ?_⟩, by simp [intOf]; omega⟩
        have := HRC.out.set4 yn (by rw [HT.out]) (by rw [HT.out]; rfl)
        rw [← HV.out] at this
        exact this
      · have hl0 : (l == 0) = false := beq_eq_false_iff_ne.2 (by omega)
        have hl0' : ¬ l = 0 := by omega
        go_wp2_with fail
        refine (rlength_any l wr hl.1 hl.2).mono ?_
        rintro e w2 ⟨i, rfl, hi, h⟩
        replace h := h.symm
        subst h
        go_wp2_with fail
        refine (rdistance_any d wr hd.1 hd.2).mono ?_
        rintro e w3 ⟨j, rfl, hj, h⟩
        replace h := h.symm
        subst h
        have hi29 := hi.1
        have hj30 := hj.1
        have HIJ : Hid (ixL l = i ∧ ixD d = j) := ⟨ixL_eq hi, ixD_eq hj⟩
        obtain ⟨v, hv⟩ : ∃ v, v = (cst ts k).1.getD (257 + i) 0 := ⟨_, rfl⟩
        obtain ⟨u, hu⟩ : ∃ u, u = (cst ts k).2.getD j 0 := ⟨_, rfl⟩
        obtain ⟨q, hq⟩ : ∃ q, q = 257 + i := ⟨_, rfl⟩
        have c0 : wr.cell? ⟨w.heap.size + 1 + 1, q, none⟩ = some (.int .u32 v) := by rw [hv, hq]; exact hrc.a4.cell (257 + i) (by omega)
        have v0 := hrc.a4.frozen q
        have c1 : wr.cell? ⟨w.heap.size + 1 + 1 + 1, j, none⟩ = some (.int .u32 u) := by rw [hu]; exact hrc.a5.cell j (by omega)
        have v1 := hrc.a5.frozen j
        have HV : Hid (v = (cst ts k).1.getD (257 + i) 0 ∧ u = (cst ts k).2.getD j 0 ∧ q = 257 + i) := ⟨hv, hu, hq⟩
        have hq2 : q < 286 := by omega
        have hqi : 257 + (i : Int) = (q : Int) := by omega
        rw [hqi]
        clear hrc hln hv hu hi hj hq hqi
        go_wp2
        refine ⟨⟨k + 1, hlt, by simp, ?_⟩, by simp [intOf]; omega⟩
        have := HRC.out.set45 i j (by rw [HT.out]; exact hl0') (by rw [HT.out]; exact HIJ.out.1) (by rw [HT.out]; exact HIJ.out.2)
        rw [← HV.out.1, ← HV.out.2.1, ← HV.out.2.2] at this
        exact this
    · obtain rfl : k = N := by omega
      obtain ⟨A, hA⟩ : ∃ A, A = (cst ts k).1.map (Value.int .u32) := ⟨_, rfl⟩
      obtain ⟨B, hB⟩ : ∃ B, B = (cst ts k).2.map (Value.int .u32) := ⟨_, rfl⟩
      have ra : wr.rangeAt (w.heap.size + 1 + 1) 0 A := by rw [hA]; exact hrc.a4.range
      have rb : wr.rangeAt (w.heap.size + 1 + 1 + 1) 0 B := by rw [hB]; exact hrc.a5.range
      have ta : wr.there w.heap.size 0 286 := hrc.a2.there 286 (by simp [zs60])
      have tb : wr.there (w.heap.size + 1) 0 30 := hrc.a3.there 30 (by simp [zs61])
      have la : A.length = 286 := by rw [hA]; simp [hln.1]
      have lb : B.length = 30 := by rw [hB]; simp [hln.2]
      have oa : ∀ v ∈ A, v.oneCell' = true := by rw [hA]; exact cu_one _
      have ob : ∀ v ∈ B, v.oneCell' = true := by rw [hB]; exact cu_one _
      have ia : (Try.prog.info? 60).map (·.size) = some A.length := by rw [la]; exact info60
      have ib : (Try.prog.info? 61).map (·.size) = some B.length := by rw [lb]; exact info61
      have ua : Try.prog.underlying 60 = some (.array 286 59) := Try.underlying60
      have ub : Try.prog.underlying 61 = some (.array 30 59) := Try.underlying61
      have HAB : Hid (A = (cst ts k).1.map (Value.int .u32) ∧ B = (cst ts k).2.map (Value.int .u32)) := ⟨hA, hB⟩
      have HBL : Hid (Below w.heap.size w wr) := hrc.bel
      clear hA hB hrc hln
      go_wp2_with fail
      have n1 : w.heap.size + 1 + 1 ≠ w.heap.size := by omega
      have n2 : w.heap.size + 1 + 1 ≠ w.heap.size + 1 := by omega
      have n3 : w.heap.size + 1 + 1 + 1 ≠ w.heap.size := by omega
      have n4 : w.heap.size + 1 + 1 + 1 ≠ w.heap.size + 1 := by omega
      have n5 : w.heap.size + 1 ≠ w.heap.size := by omega
      have n6 : w.heap.size ≤ w.heap.size + 1 := by omega
      generalize w.heap.size + 1 + 1 + 1 = g5 at rb n3 n4 ⊢
      generalize w.heap.size + 1 + 1 = g4 at ra n1 n2 ⊢
      generalize w.heap.size + 1 = g3 at tb n2 n4 n5 n6 ⊢
      obtain ⟨g2, hg2⟩ : ∃ g2, g2 = w.heap.size := ⟨_, rfl⟩
      rw [← hg2] at ta n1 n3 n5 n6
      simp only [← hg2]
      have HG2 : Hid (g2 = w.heap.size) := hg2
      clear hg2
      have sa : A.toArray.size = 286 := by simp [la]
      have sb : B.toArray.size = 30 := by simp [lb]
      have Oa : A.toArray.all (·.oneCell') = true := all_oneCell_toArray oa
      have Ob : B.toArray.all (·.oneCell') = true := all_oneCell_toArray ob
      refine wp_region_held_drew (S := fun w' => w'.rangeAt g4 0 A ∧ w'.rangeAt g5 0 B ∧ w'.there g2 0 286 ∧ w'.there g3 0 30) (by kernel_rfl) ⟨ra, rb, ta, tb⟩ (fun h0 => ?_)
      refine wpAnyH_take (i := 0) (v := .agg A.toArray) rfl (by kernel_rfl) (by kernel_rfl) (by kernel_rfl) (fun _ _ _ h => h) (yieldsIf_load_mid rfl 60 (.tmp 4) rfl g4 0 rfl A _ (fun w h => h.1) ua rfl ia) h0 ?_
      refine wpAnyH_take (i := 1) (v := .agg B.toArray) rfl (by kernel_rfl) (by kernel_rfl) (by kernel_rfl) (fun _ _ _ h => h) (yieldsIf_load_mid rfl 61 (.tmp 5) rfl g5 0 rfl B _ (fun w h => h.2.1) ub rfl ib) h0 ?_
      refine wpAnyH_ready (rs := [2]) (by kernel_rfl) (by simp) ?_
      refine AllReadyH.cons rfl (fun K hK => ?_) AllReadyH.nil
      rw [if_pos (by rfl)]
      refine wp_store_mid 60 (.tmp 2) (.tmp 65) rfl g2 0 A.toArray rfl rfl (by rw [sa]; exact h0.2.2.1) (by rw [sa]; exact info60) Oa ?_
      refine hK.out _ _ ⟨World.rangeAt_setCells_apart h0.1 _ _ _ (.inl n1), World.rangeAt_setCells_apart h0.2.1 _ _ _ (.inl n3), World.there_setCells h0.2.2.1 _ _ _, World.there_setCells h0.2.2.2 _ _ _⟩ (fun h1 => ?_)
      clear hK K
      refine wpAnyH_ready (rs := [3]) (by kernel_rfl) (by simp) ?_
      refine AllReadyH.cons rfl (fun K hK => ?_) AllReadyH.nil
      rw [if_pos (by rfl)]
      refine wp_store_mid 61 (.tmp 3) (.tmp 66) rfl g3 0 B.toArray rfl rfl (by rw [sb]; exact h1.2.2.2) (by rw [sb]; exact info61) Ob ?_
      refine hK.out _ _ ⟨World.rangeAt_setCells_apart h1.1 _ _ _ (.inl n2), World.rangeAt_setCells_apart h1.2.1 _ _ _ (.inl n4), World.there_setCells h1.2.2.1 _ _ _, World.there_setCells h1.2.2.2 _ _ _⟩ (fun h2 => ?_)
      clear hK K
      refine wpAnyH_done (by kernel_rfl) ?_ _
      have la2 := run_loadVar_mid (P := Try.prog) ((wr.drew.setCells g2 0 A).setCells g3 0 B) g2 0 60 A _ (World.rangeAt_setCells_apart (World.rangeAt_setCells_same wr.drew g2 0 A (by rw [la]; exact h0.2.2.1)) _ _ _ (.inl (Ne.symm n5))) ua rfl ia
      have lb2 := run_loadVar_mid (P := Try.prog) ((wr.drew.setCells g2 0 A).setCells g3 0 B) g3 0 61 B _ (World.rangeAt_setCells_same (wr.drew.setCells g2 0 A) g3 0 B (by rw [lb]; exact h1.2.2.2)) ub rfl ib
      have HLA : Hid ((loadVar 60 ⟨g2, 0, none⟩).run Try.prog ((wr.drew.setCells g2 0 A).setCells g3 0 B) = .ok (.agg A.toArray) ((wr.drew.setCells g2 0 A).setCells g3 0 B)) := la2
      have HLB : Hid ((loadVar 61 ⟨g3, 0, none⟩).run Try.prog ((wr.drew.setCells g2 0 A).setCells g3 0 B) = .ok (.agg B.toArray) ((wr.drew.setCells g2 0 A).setCells g3 0 B)) := lb2
      have HBF : Hid (Below w.heap.size w ((wr.drew.setCells g2 0 A).setCells g3 0 B)) := HBL.out.drew.trans (((kp_setCells g2 A 0 wr.drew).mono (G := fun i => i = g2 ∨ i = g3) (fun _ _ e => .inl e)).trans (kp_setCells g3 B 0 _) (fun _ _ e => .inr e) |>.below HBL.out.drew.size (fun i e => by have := HG2.out; rcases e with e | e <;> omega))
      clear la2 lb2 h0 h1 h2 ra rb ta tb
      go_wp2_with fail
      refine bodyPost_ret (v := .tuple #[.agg A.toArray, .agg B.toArray]) ?_ rfl ⟨by rw [HAB.out.1, HAB.out.2]; rfl, HBF.out⟩
      exact results_cell2 Try.results32 _ _ _ _ rfl rfl HLA.out HLB.out
end Go.Proofs.Ytofmoggejfopiaa
