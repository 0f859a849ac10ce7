/- byCode of two symbols of one bit each. -/
import Derived.Test.YthpocbpleffdpaaCg
import Derived.Deep.RegionHeld3
namespace Go.Proofs.Ythpocbpleffdpaa
open Go.RowKit Go.Shelf
set_option linter.unusedVariables false
attribute [local go_sem] Oper.semAt_some
/-- The sums up to the length k. -/
def sL (M : List Int) : Nat → List Int
  | 0 => List.replicate 16 0
  | 1 => List.replicate 16 0
  | k + 2 => (sL M (k + 1)).set (k + 1) (wrap64 ((sL M (k + 1)).getD k 0 + M.getD k 0))
theorem sL_len (M : List Int) : ∀ k, (sL M k).length = 16
  | 0 => List.length_replicate
  | 1 => List.length_replicate
  | k + 2 => by
    show ((sL M (k + 1)).set _ _).length = 16
    rw [List.length_set]
    exact sL_len M (k + 1)
def M11 : List Int := [0, 2, 0, 0, 0, 0, 0, 0, 0, 0, 0, 0, 0, 0, 0, 0]
def S11 : List Int := [0, 0, 2, 2, 2, 2, 2, 2, 2, 2, 2, 2, 2, 2, 2, 2]
theorem info3q : (Try.prog.info? 3).map (fun i => (i.zero, i.size, i.bytes)) = some (some (.int .i64 0), 1, 8) := by kernel_rfl
theorem sL_11 : sL M11 16 = S11 := by decide +kernel
theorem p11 (k : Nat) (hk : k < ([1, 1] : List Int).length) : ([1, 1] : List Int)[k]?.getD 0 = 1 ∧ k < 2 := by
  have h2 : k < 2 := by simpa using hk
  have : k = 0 ∨ k = 1 := by omega
  rcases this with rfl | rfl <;> exact ⟨rfl, by omega⟩
set_option maxRecDepth 100000 in
set_option maxHeartbeats 4000000 in
theorem bycode_11 (a : Option Addr) (cap : Nat) (w : World) (hs : Src .i64 w a [1, 1]) :
    Calls Try.prog 55 #[.slice a 2 cap, .agg (M11.map (Value.int .i64)).toArray] w fun e w' => (∃ g, e = .returned (.slice (some ⟨g, 0, none⟩) 2 2)) ∧ Below w.heap.size w w' := by
  have HS := hid hs
  clear hs
  refine (callsIn_wide (n := 3)).1 ?_
  refine callsIn_of_wp_marks Try.func55 rfl trivial ?_ rfl
  simp only [Try.ntmps55, List.size_toArray, List.length_cons, List.length_nil, Nat.reduceAdd, Nat.reduceSub, Array.replicate_succ, Array.replicate_zero, List.push_toArray, List.append_toArray, List.nil_append, List.cons_append]
  refine wpIn_wide.2 ?_
  generalize hQ : bodyPostM _ _ _ _ _ = QQ
  have hM : M11.length = 16 := rfl
  obtain ⟨M, hMM⟩ : ∃ M, M = M11 := ⟨_, rfl⟩
  rw [← hMM] at hM ⊢
  have HMM := hid hMM
  clear hMM
  go_wp2_with fail
  refine at_worldp (R := fun X => Rw .i64 77 X w.heap.size M ∧ Rw .i64 77 X (w.heap.size + 1) (List.replicate 16 0) ∧ Below w.heap.size w X) ⟨?_, ?_, ?_⟩ ?_
  · exact ((Rw.new .i64 77 w M).alloc _)
  · have := Rw.new .i64 77 (w.alloc (.cells (M.map (Value.int .i64)).toArray 77)) (List.replicate 16 0)
    rw [World.size_alloc] at this
    exact this
  · exact ((Below.refl _ w).alloc (Nat.le_refl _) _).alloc (by simp) _
  rintro X ⟨r1, r2, bX⟩
  have HX : Hid (Rw .i64 77 X w.heap.size M ∧ Rw .i64 77 X (w.heap.size + 1) (List.replicate 16 0) ∧ Below w.heap.size w X) := ⟨r1, r2, bX⟩
  clear r1 r2 bX
  go_loopw [6] (fun u4 wr => ∃ (k : Nat) (L : List Int), 1 ≤ k ∧ k ≤ 16 ∧ u4 = .int .i64 (k : Int) ∧ L = sL M k ∧ Rw .i64 77 wr w.heap.size M ∧ Rw .i64 77 wr (w.heap.size + 1) L ∧ Below w.heap.size w wr) (fun u4 _ => 16 - (intOf u4).toNat)
  case atStart => exact ⟨1, _, by omega, by omega, rfl, rfl, HX.out.1, HX.out.2.1, HX.out.2.2⟩
  case round =>
    clear HX
    obtain ⟨k, L, hk1, hk, rfl, hLe, r1, r3, hb⟩ := hrel
    have hL : L.length = 16 := by rw [hLe]; exact sL_len M k
    have HLE : Hid (L = sL M k) := hLe
    clear hLe
    by_cases hlt : k < 16
    · obtain ⟨q, hq⟩ : ∃ q, q = k - 1 := ⟨_, rfl⟩
      obtain ⟨x, hx⟩ : ∃ x, x = L.getD q 0 := ⟨_, rfl⟩
      obtain ⟨y, hy⟩ : ∃ y, y = M.getD q 0 := ⟨_, rfl⟩
      have c0 : wr.cell? ⟨w.heap.size + 1, q, none⟩ = some (.int .i64 x) := by rw [hx]; exact r3.cell q (by omega)
      have c1 : wr.cell? ⟨w.heap.size, q, none⟩ = some (.int .i64 y) := by rw [hy]; exact r1.cell q (by omega)
      have c2 : wr.cell? ⟨w.heap.size + 1, k, none⟩ = some (.int .i64 (L.getD k 0)) := r3.cell k (by omega)
      have f2 := r3.frozen k
      have e3 : IntKind.i64.wrap (q : Int) = (q : Int) := by rw [IntKind.wrap_i64]; omega
      have e2 : (k : Int) - 1 = (q : Int) := by omega
      have hq16 : (q : Int) < 16 := by omega
      have hq16' : q < 16 := by omega
      have hqk : k ≠ q := by omega
      have HXY : Hid (q = k - 1 ∧ x = L.getD q 0 ∧ y = M.getD q 0) := ⟨hq, hx, hy⟩
      have R1 : Hid (Rw .i64 77 wr w.heap.size M) := r1
      have R3 : Hid (Rw .i64 77 wr (w.heap.size + 1) L) := r3
      have HBW : Hid (Below w.heap.size w wr) := hb
      clear hq hx hy r1 r3 hb
      have hk3 : (wr.setCell ⟨w.heap.size + 1, k, none⟩ (.int .i64 (IntKind.i64.wrap (x + y)))).cell? ⟨w.heap.size + 1, q, none⟩ = some (.int .i64 x) := (World.cell?_setCell_other _ _ _ _ (by simp; try omega)).trans c0
      have hk4 : (wr.setCell ⟨w.heap.size + 1, k, none⟩ (.int .i64 (IntKind.i64.wrap (x + y)))).cell? ⟨w.heap.size, q, none⟩ = some (.int .i64 y) := (World.cell?_setCell_other _ _ _ _ (by simp)).trans c1
      go_wp2_with fail
      go_region_held3 (fun w' => w'.cell? ⟨w.heap.size + 1, q, none⟩ = some (.int .i64 x) ∧ w'.cell? ⟨w.heap.size, q, none⟩ = some (.int .i64 y)) (first | (exact ⟨c0, c1⟩) | (exact ⟨hk3, hk4⟩) | go_keep) (fail)
      go_wp2_with fail
      have kk : Kp (fun i => i = w.heap.size + 1) wr (wr.setCell ⟨w.heap.size + 1, k, none⟩ (.int .i64 (wrap64 (x + y)))).drew := (kp_set1 wr (w.heap.size + 1) k _).drew
      refine ⟨⟨k + 1, sL M (k + 1), by omega, by omega, by simp, rfl, R1.out.kp kk (by omega), ?_, HBW.out.trans (kk.below HBW.out.size (fun i e => by omega))⟩, by simp [intOf]; omega⟩
      have e : sL M (k + 1) = L.set k (wrap64 (x + y)) := by
        obtain ⟨k', rfl⟩ : ∃ k', k = k' + 1 := ⟨k - 1, by omega⟩
        have hq' : q = k' := by have := HXY.out.1; omega
        show (sL M (k' + 1)).set (k' + 1) _ = _
        rw [← HLE.out, HXY.out.2.1, HXY.out.2.2, hq']
      rw [e]
      exact (R3.out.set k _).drew
    · obtain rfl : k = 16 := by omega
      have hL11 : L = S11 := by rw [HLE.out, HMM.out, sL_11]
      have hM11 := HMM.out
      subst hL11 hM11
      have R1 : Hid (Rw .i64 77 wr w.heap.size M11) := r1
      have R3 : Hid (Rw .i64 77 wr (w.heap.size + 1) S11) := r3
      have HBW : Hid (Below w.heap.size w wr) := hb
      have c0 : wr.cell? ⟨w.heap.size + 1, 15, none⟩ = some (.int .i64 2) := r3.cell 15 (by simp [S11])
      have c1 : wr.cell? ⟨w.heap.size, 15, none⟩ = some (.int .i64 0) := r1.cell 15 (by simp [M11])
      clear r1 r3 hb
      go_wp2_with (first
        | (at_make; refine wpList_make_rw 22 3 8 Try.underlying22 info3q (by decide) rfl (.tmp 29) (.tmp 29) rfl 2 rfl rfl (by omega) ?_; intro w5 r5 b5; have R5 := hid r5; have B5 := hid (HBW.out.trans (b5.mono HBW.out.size)); have R35 := hid (R3.out.below b5 R3.out.lt); clear r5 b5 c0 c1)
        | (go_at_call 48; refine (callsIn_wide.1 (coded_in Fence.wide 3 trivial rfl _ _ _ _)).mono ?_; rintro e w' ⟨rfl, rfl⟩))
      obtain ⟨N, hN⟩ : ∃ N, N = w.heap.size + 1 := ⟨_, rfl⟩
      obtain ⟨C, hC⟩ : ∃ C, C = wr.heap.size := ⟨_, rfl⟩
      obtain ⟨S6, hS6⟩ : ∃ C, C = w5.heap.size := ⟨_, rfl⟩
      have hNC : N < C := by rw [hN, hC]; exact R3.out.lt
      have hCS : C < S6 := by rw [hC, hS6]; exact R5.out.lt
      have hwN : w.heap.size ≤ N := by omega
      have n0 := cell_new_l w5 (.slice (some ⟨wr.heap.size, 0, none⟩) 2 2) 22
      have n1 := cell_new_l (w5.alloc (.cells #[.slice (some ⟨wr.heap.size, 0, none⟩) 2 2] 22)) (.slice a 2 cap) 22
      rw [World.size_alloc] at n1
      have hB0 : Below w.heap.size w ((w5.alloc (.cells #[.slice (some ⟨wr.heap.size, 0, none⟩) 2 2] 22)).alloc (.cells #[.slice a 2 cap] 22)) := (B5.out.alloc B5.out.size _).alloc (by rw [World.size_alloc]; have := B5.out.size; omega) _
      have rN := ((R35.out.alloc (.cells #[.slice (some ⟨wr.heap.size, 0, none⟩) 2 2] 22)).alloc (.cells #[.slice a 2 cap] 22))
      have rC := ((R5.out.alloc (.cells #[.slice (some ⟨wr.heap.size, 0, none⟩) 2 2] 22)).alloc (.cells #[.slice a 2 cap] 22))
      have c6 := cell_alloc_l (.cells #[.slice a 2 cap] 22) n0.1
      have hsz : ((w5.alloc (.cells #[.slice (some ⟨wr.heap.size, 0, none⟩) 2 2] 22)).alloc (.cells #[.slice a 2 cap] 22)).heap.size = S6 + 2 := by rw [World.size_alloc, World.size_alloc, hS6]
      rw [← hC] at *
      rw [← hN] at *
      rw [← hS6] at *
      generalize (w5.alloc (.cells #[.slice (some ⟨C, 0, none⟩) 2 2] 22)).alloc (.cells #[.slice a 2 cap] 22) = W0 at hB0 rN rC c6 n1 hsz ⊢
      clear n0 R3 R35 R5 R1 B5 HBW hN hC hS6 HMM HLE hL hM hk hk1 hlt
      have hmix : Try.prog.follows .mixedOrders = true := by kernel_rfl
      refine (wpIn_wide (n := 3)).1 ?_
      refine wpIn_rangeFunc_ownF (F := Fence.wide) rfl (by omega) (gf := 70) (lb := #[.pointer (some ⟨S6 + 1, 0, none⟩)]) rfl trivial (enters_of Try.func70 (by kernel_rfl) rfl)
        (coded_stops Fence.wide (3 - 1) trivial rfl (by omega) (S6 + 1) w.heap.size a cap [1, 1] (by simp) W0 (by omega) n1.1 (HS.out.below hB0) (src_low HS.out) (fun x => x.2 = 1 ∧ x.1 < 2) (fun k hk h0 => p11 k hk))
        belowK_t (belowK_b (by omega)) (Below.refl _ _) (fun _ => rfl)
        (fun pre W => ((Rw .i64 77 W N (S11.set 1 (pre.length : Int)) ∧ (∃ xs : List Int, xs.length = 2 ∧ Rw .i64 3 W C xs)) ∧ W.cell? ⟨S6, 0, none⟩ = some (.slice (some ⟨C, 0, none⟩) 2 2)) ∧ Below w.heap.size w W)
        (fun _ _ _ => False)
        (OwnFrom.and (Own.from (fun s X Y row hs hg hr => ⟨⟨rw_own .i64 77 _ (fun pre : List { x : Nat × Int // x.2 = 1 ∧ x.1 < 2 } => S11.set 1 (pre.length : Int)) s X Y row hs.1.1 hg hr, hs.1.2.choose, hs.1.2.choose_spec.1, rw_own .i64 3 _ (fun pre : List { x : Nat × Int // x.2 = 1 ∧ x.1 < 2 } => hs.1.2.choose) s X Y row hs.1.2.choose_spec.2 hg hr⟩, cell_kept hs.2 hg hr⟩) _) (ownFrom_below (Nat.le_refl _) (by omega)))
        (fun _ _ _ _ _ hs _ _ => hs)
        ⟨⟨⟨by exact rN, _, rfl, rC⟩, c6⟩, hB0⟩
        (fun x => { tmps := #[.slice a 2 cap, .agg (M11.map (Value.int .i64)).toArray, undef, .pointer (some ⟨w.heap.size, 0, none⟩), .slice none 0 0, .pointer (some ⟨N, 0, none⟩), .int .i64 16, .pointer (some ⟨S6, 0, none⟩), .int .i64 (x.1.1 : Int), .int .i64 x.1.2, .int .i64 16, .bool false, u12, u13, u14, u15, u16, u17, u18, u19, u20, u21, u22, u23, u24, .pointer (some ⟨N, 15, none⟩), .int .i64 2, .pointer (some ⟨w.heap.size, 15, none⟩), .int .i64 0, .int .i64 2, .slice (some ⟨C, 0, none⟩) 2 2, .slice a 2 cap, .func (.func 70) #[] #[.pointer (some ⟨S6 + 1, 0, none⟩)], .int .i64 (x.1.1 : Int), .int .i64 x.1.2, undef, undef, undef, undef, undef, undef, undef, undef, undef, undef, undef, undef], defers := [] }) ?assign ?body ?done ?stop
      case assign =>
        intro l x W K hK
        gi_wp2
        exact hK
      case body =>
        rintro l pre ⟨⟨i, z⟩, hz⟩ W ⟨⟨⟨hr, xs, hxl, hrc⟩, hc6⟩, hB⟩ hlen
        obtain rfl : z = 1 := hz.1
        have hi : i < 2 := hz.2
        have hpl : pre.length < 2 := by simpa using hlen
        have hc : W.cell? ⟨N, 1, none⟩ = some (.int .i64 (pre.length : Int)) := hr.cell 1 (by simp [S11])
        have hf := hr.frozen 1
        have hd := hrc.cell pre.length (by omega)
        have hdf := hrc.frozen pre.length
        have HQ1 : Hid ((S11.set 1 (pre.length : Int)).set 1 ((pre.length : Int) + 1) = S11.set 1 (((pre ++ [(⟨(i, 1), hz⟩ : { x : Nat × Int // x.2 = 1 ∧ x.1 < 2 })]).length : Nat) : Int)) := by
          show _ = _
          rw [List.set_set, List.length_append]
          rfl
        have HR : Hid (Rw .i64 77 W N (S11.set 1 (pre.length : Int)) ∧ Rw .i64 3 W C xs) := ⟨hr, hrc⟩
        have hwi : IntKind.i64.wrap ((pre.length : Int) + 1) = (pre.length : Int) + 1 := by rw [IntKind.wrap_i64]; omega
        obtain ⟨y, hy⟩ : ∃ y, y = pre.length := ⟨_, rfl⟩
        rw [← hy] at hc hd hdf hwi HR HQ1 hpl
        have hyi : (y : Int) < 2 := by omega
        generalize xs.getD y 0 = old at hd
        have HB := hid hB
        have HC6 := hid hc6
        have HXL := hid hxl
        clear hr hrc hB hlen hy
        have hne1 : ¬ N = C := by omega
        have hne2 : ¬ C = N := by omega
        have hne3 : ¬ C = S6 := by omega
        have hne4 : ¬ N = S6 := by omega
        have FIN : Hid ((((Rw .i64 77 ((W.setCell ⟨C, y, none⟩ (.int .i64 (i : Int))).setCell ⟨N, 1, none⟩ (.int .i64 ((y : Int) + 1))).drew N (S11.set 1 (((pre ++ [(⟨(i, 1), hz⟩ : { x : Nat × Int // x.2 = 1 ∧ x.1 < 2 })]).length : Nat) : Int)) ∧ ∃ xs : List Int, xs.length = 2 ∧ Rw .i64 3 ((W.setCell ⟨C, y, none⟩ (.int .i64 (i : Int))).setCell ⟨N, 1, none⟩ (.int .i64 ((y : Int) + 1))).drew C xs) ∧ ((W.setCell ⟨C, y, none⟩ (.int .i64 (i : Int))).setCell ⟨N, 1, none⟩ (.int .i64 ((y : Int) + 1))).drew.cell? ⟨S6, 0, none⟩ = some (.slice (some ⟨C, 0, none⟩) 2 2)) ∧ Below w.heap.size w ((W.setCell ⟨C, y, none⟩ (.int .i64 (i : Int))).setCell ⟨N, 1, none⟩ (.int .i64 ((y : Int) + 1))).drew)) := by
          refine ⟨⟨⟨?_, xs.set y (i : Int), by rw [List.length_set]; exact HXL.out, ?_⟩, ?_⟩, ((HB.out.setCell (p := ⟨C, y, none⟩) (by show _ ≤ C; omega) _).setCell (p := ⟨N, 1, none⟩) (by show _ ≤ N; omega) _).drew⟩
          · rw [← HQ1.out]
            exact (HR.out.1.of_block (heap_setCell_other W ⟨C, y, none⟩ N _ hne1)).set 1 _
          · exact (HR.out.2.set y _).of_block (heap_setCell_other _ ⟨N, 1, none⟩ C _ hne2)
          · exact (ce_cell _ (show ¬ S6 = N by omega)).trans ((ce_cell _ (show ¬ S6 = C by omega)).trans HC6.out)
        gi_wp2
        gi_region_o
        all_goals gi_wp2
        all_goals exact ⟨((KeepsOthers.setCell _ _ _).trans (KeepsOthers.setCell _ _ _)).trans (KeepsOthers.drew _), (((Below.refl w.heap.size W).setCell (p := ⟨C, y, none⟩) (by show _ ≤ C; omega) _).setCell (p := ⟨N, 1, none⟩) (by show _ ≤ N; omega) _).drew, FIN.out⟩
      case done =>
        rintro D ys W hD hys ⟨⟨_, hc6⟩, hB⟩ hK
        have HB := hid hB
        have HD := hid hK
        clear hB hK
        gi_wp2
        go_wp2_with fail
        subst hQ
        have hb2 : Below w.heap.size w (W.putObj D (.deferred none)) := HB.out.trans ((kp_putO W D _).below HB.out.size (fun i e => by have := hB0.size; omega))
        refine ⟨by simp, .inl ⟨_, _, rfl, run_takeDeferred HD.out, ?_⟩⟩
        exact ⟨.slice (some ⟨C, 0, none⟩) 2 2, by simp [results, Try.results55], ⟨_, rfl⟩, hb2⟩
      case stop =>
        rintro D c pre W _ _ h _
        exact h.elim
end Go.Proofs.Ythpocbpleffdpaa
