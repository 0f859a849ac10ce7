/- Codes: each symbol's code. -/
import Derived.Test.YthpocbpleffdpaaHi
import Derived.Test.YthpocbpleffdpaaCo
import Derived.Test.YthpocbpleffdpaaFst
import Derived.Test.YthpocbpleffdpaaMay
import Derived.Deep.MidRow
namespace Go.Proofs.Ythpocbpleffdpaa
open Go.RowKit Go.Shelf
set_option linter.unusedVariables false
attribute [local go_sem] Oper.semAt_some
theorem ce_bel {w w3 : World} {o : Obj} {cs : Array Value} (h : Below w.heap.size w w3) : Below w.heap.size w ((w3.alloc o).setRow w3.heap.size cs) :=
  have k : Kp (fun i => i = w3.heap.size) (w3.alloc o) ((w3.alloc o).setRow w3.heap.size cs) := ⟨rfl, rfl, rfl, by simp, fun k _ hk => Go.setRow_other _ _ _ _ hk⟩
  (h.alloc h.size o).trans (k.below (by rw [World.size_alloc]; have := h.size; omega) (fun i e => by have := h.size; omega))
theorem ce_cell {W : World} {g h i j : Nat} (v : Value) (hne : ¬ h = g) : (W.setCell ⟨g, i, none⟩ v).cell? ⟨h, j, none⟩ = W.cell? ⟨h, j, none⟩ := by
  have hb := heap_setCell_other W ⟨g, i, none⟩ h v hne
  unfold World.cell?
  simp only [hb]
theorem wpList_arr_new {ops : Array Oper} {rest : List Oper} {o : Oper} {a : Act} {Q : Exit → Act → World → Prop} (w w3 : World) (Z : Array Value) (hZ : Z.size = 16) (A : List Int) (hA : A.length = 16) (hgd : o.guard = none) (x y : Operand) (ho : o.op = .store 77 x y) (hx : a.eval x = .pointer (some ⟨w3.heap.size, 0, none⟩)) (hy : a.eval y = .agg (A.map (Value.int .i64)).toArray) (hB : Below w.heap.size w w3)
    (h : ∀ w4, Rw .i64 77 w4 w3.heap.size A → Below w.heap.size w w4 → wpList Try.prog ops Q rest (a.put o.dst undef) w4) : wpList Try.prog ops Q (o :: rest) a (w3.alloc (.cells Z 77)) := by
  have hsz : ((A.map (Value.int .i64)).toArray).size = 16 := by simp [hA]
  exact wpList_store_row hgd 77 x y ho w3.heap.size (A.map (Value.int .i64)).toArray hx hy 77 Z (heap_alloc_new w3 _) (by rw [hsz]; exact info77) (by rw [hsz, hZ]) (ints_one _ _) (h _ (setRow_heap _ _ _ _ 77 _ (heap_alloc_new w3 _)) (ce_bel hB))
set_option maxRecDepth 100000 in
set_option maxHeartbeats 4000000 in
theorem codes_ok (a : Option Addr) (cap : Nat) (zs : List Int) (w : World) (hs : Src .i64 w a zs) (hm : may zs = 0) (hw : Wi 15 zs) (hl : zs.length ≤ 320) :
    Calls Try.prog 10 #[.slice a zs.length cap] w fun e w' => ∃ g, e = .returned (.tuple #[.slice (some ⟨g, 0, none⟩) zs.length zs.length, .int .i64 0]) ∧ w.heap.size ≤ g ∧ Rw .u64 35 w' g (codes zs) ∧ Below w.heap.size w w' := by
  have HS := hid hs
  have HW := hid hw
  have HU : Hid (Calls Try.prog 45 #[.slice a zs.length cap] w fun e w' => e = .returned (.int .i64 0) ∧ Below w.heap.size w w') := by
    have := uncoded_any a cap zs w (by omega) hs
    rw [hm] at this
    exact this
  have HNU : Hid (∀ W, Below w.heap.size w W → Calls Try.prog 47 #[.slice a zs.length cap] W fun e W' => e = .returned (.agg ((cl (cds zs zs.length)).map (Value.int .i64)).toArray) ∧ Below W.heap.size W W') := fun W h => numbered_any a cap zs W (by omega) (hs.below h) hw
  obtain ⟨A, hA⟩ : ∃ A, A = fL (cl (cds zs zs.length)) 16 := ⟨_, rfl⟩
  have HF : Hid (∀ W, Calls Try.prog 46 #[.agg ((cl (cds zs zs.length)).map (Value.int .i64)).toArray] W fun e W' => e = .returned (.agg (A.map (Value.int .i64)).toArray) ∧ Below W.heap.size W W') := fun W => by rw [hA]; exact firsts_any _ W (cl_length _)
  have hAl : A.length = 16 := by rw [hA]; exact fL_len _ 16
  have HAF : Hid (∀ m, m ≤ 15 → A.getD m 0 = (fc zs m : Int)) := fun m h => by rw [hA]; exact fL_fc zs hl 16 (by omega) (by omega) m (by omega)
  have hsz77 : ((A.map (Value.int .i64)).toArray).size = 16 := by simp [hAl]
  clear hs hw hm hA
  refine (callsIn_wide (n := 3)).1 ?_
  refine callsIn_of_wp_marks Try.func10 rfl trivial ?_ rfl
  simp only [Try.ntmps10, List.size_toArray, List.length_cons, List.length_nil, Nat.reduceAdd, Nat.reduceSub, Array.replicate_succ, Array.replicate_zero, List.push_toArray, List.append_toArray, List.nil_append, List.cons_append]
  refine wpIn_wide.2 ?_
  go_wp2_with (first
    | (go_at_call 45; refine HU.out.mono ?_; rintro e w1 ⟨rfl, b1⟩; have B1 := hid b1; clear b1)
    | (go_at_call 47; refine (HNU.out w1 B1.out).mono ?_; rintro e w2 ⟨rfl, b2⟩; have B2 := hid (B1.out.trans (b2.mono B1.out.size)); clear b2)
    | (go_at_call 46; refine (HF.out w2).mono ?_; rintro e w3 ⟨rfl, b3⟩; have B3 := hid (B2.out.trans (b3.mono B2.out.size)); clear b3)
    | (refine wpList_arr_new w w3 _ rfl A hAl rfl (.tmp 5) (.tmp 16) rfl rfl rfl B3.out ?_; intro w4 r4 b4; have R4 := hid r4; have B4 := hid b4; clear r4 b4)
    | (at_make; refine wpList_make_rw 27 35 8 Try.underlying27 info35 (by decide) rfl (.tmp 18) (.tmp 18) rfl zs.length rfl rfl (by omega) ?_; intro w5 r5 b5; have R5 := hid r5; have B5 := hid (B4.out.trans (b5.mono B4.out.size)); have R4' := hid (R4.out.below b5 R4.out.lt); clear r5 b5)
    | (go_at_call 48; refine (callsIn_wide.1 (coded_in Fence.wide 3 trivial rfl _ _ _ _)).mono ?_; rintro e w' ⟨rfl, rfl⟩))
  obtain ⟨N, hN⟩ : ∃ N, N = w3.heap.size := ⟨_, rfl⟩
  obtain ⟨C, hC⟩ : ∃ C, C = w4.heap.size := ⟨_, rfl⟩
  obtain ⟨S6, hS6⟩ : ∃ C, C = w5.heap.size := ⟨_, rfl⟩
  have hNC : N < C := by rw [hN, hC]; exact R4.out.lt
  have hCS : C < S6 := by rw [hC, hS6]; exact R5.out.lt
  have hwN : w.heap.size ≤ N := by rw [hN]; exact B3.out.size
  have n0 := cell_new_l w5 (.slice (some ⟨w4.heap.size, 0, none⟩) zs.length zs.length) 27
  have n1 := cell_new_l (w5.alloc (.cells #[.slice (some ⟨w4.heap.size, 0, none⟩) zs.length zs.length] 27)) (.slice a zs.length cap) 22
  rw [World.size_alloc] at n1
  have hB0 : Below w.heap.size w ((w5.alloc (.cells #[.slice (some ⟨w4.heap.size, 0, none⟩) zs.length zs.length] 27)).alloc (.cells #[.slice a zs.length cap] 22)) := (B5.out.alloc B5.out.size _).alloc (by rw [World.size_alloc]; have := B5.out.size; omega) _
  have rN := ((R4'.out.alloc (.cells #[.slice (some ⟨w4.heap.size, 0, none⟩) zs.length zs.length] 27)).alloc (.cells #[.slice a zs.length cap] 22))
  have rC := ((R5.out.alloc (.cells #[.slice (some ⟨w4.heap.size, 0, none⟩) zs.length zs.length] 27)).alloc (.cells #[.slice a zs.length cap] 22))
  have c6 := cell_alloc_l (.cells #[.slice a zs.length cap] 22) n0.1
  have hsz : ((w5.alloc (.cells #[.slice (some ⟨w4.heap.size, 0, none⟩) zs.length zs.length] 27)).alloc (.cells #[.slice a zs.length cap] 22)).heap.size = S6 + 2 := by rw [World.size_alloc, World.size_alloc, hS6]
  rw [← hC] at *
  rw [← hN, ← hS6]
  rw [← hN] at rN
  rw [← hS6] at n1 c6
  generalize (w5.alloc (.cells #[.slice (some ⟨C, 0, none⟩) zs.length zs.length] 27)).alloc (.cells #[.slice a zs.length cap] 22) = W0 at hB0 rN rC c6 n1 hsz ⊢
  clear n0 R4 R4' R5 B1 B2 B3 B4 B5 HU HNU HF hN hC hS6
  have hmix : Try.prog.follows .mixedOrders = true := by kernel_rfl
  refine (wpIn_wide (n := 3)).1 ?_
  refine wpIn_rangeFunc_ownF (F := Fence.wide) rfl (by omega) (gf := 70) (lb := #[.pointer (some ⟨S6 + 1, 0, none⟩)]) rfl trivial (enters_of Try.func70 (by kernel_rfl) rfl)
    (coded_stops Fence.wide (3 - 1) trivial rfl (by omega) (S6 + 1) w.heap.size a cap zs (by omega) W0 (by omega) n1.1 (HS.out.below hB0) (src_low HS.out) (fun x => (1 ≤ x.2 ∧ x.2 ≤ 15) ∧ x.1 < zs.length) (fun k hk h0 => ⟨⟨h0, by have := HW.out _ (List.getElem_mem hk); simpa [hk] using this.2⟩, hk⟩))
    belowK_t (belowK_b (by omega)) (Below.refl _ _) (fun _ => rfl)
    (fun pre W => ((Rw .i64 77 W N (nxl A (pre.map (·.1))) ∧ Rw .u64 35 W C (co A zs.length (pre.map (·.1)))) ∧ W.cell? ⟨S6, 0, none⟩ = some (.slice (some ⟨C, 0, none⟩) zs.length zs.length)) ∧ Below w.heap.size w W)
    (fun _ _ _ => False)
    (OwnFrom.and (Own.from (fun s X Y row hs hg hr => ⟨⟨rw_own .i64 77 _ (fun pre : List { x : Nat × Int // (1 ≤ x.2 ∧ x.2 ≤ 15) ∧ x.1 < zs.length } => nxl A (pre.map (·.1))) s X Y row hs.1.1 hg hr, rw_own .u64 35 _ (fun pre : List { x : Nat × Int // (1 ≤ x.2 ∧ x.2 ≤ 15) ∧ x.1 < zs.length } => co A zs.length (pre.map (·.1))) s X Y row hs.1.2 hg hr⟩, cell_kept hs.2 hg hr⟩) _) (ownFrom_below (Nat.le_refl _) (by omega)))
    (fun _ _ _ _ _ hs _ _ => hs)
    ⟨⟨⟨by rw [List.map_nil, nxl_nil A hAl]; exact rN, by rw [List.map_nil, co_nil]; exact rC⟩, c6⟩, hB0⟩
    (fun x => { tmps := #[.slice a zs.length cap, undef, .slice none 0 0, .int .i64 0, .int .i64 0, .pointer (some ⟨N, 0, none⟩), .pointer (some ⟨S6, 0, none⟩), .int .i64 (x.1.1 : Int), .int .i64 x.1.2, .slice a zs.length cap, .int .i64 0, .int .i64 0, .bool false, undef, .slice a zs.length cap, .agg ((cl (cds zs zs.length)).map (Value.int .i64)).toArray, .agg (A.map (Value.int .i64)).toArray, .slice a zs.length cap, .int .i64 zs.length, .slice (some ⟨C, 0, none⟩) zs.length zs.length, .slice a zs.length cap, .func (.func 70) #[] #[.pointer (some ⟨S6 + 1, 0, none⟩)], .int .i64 (x.1.1 : Int), .int .i64 x.1.2, undef, undef, undef, undef, undef, undef, undef, undef, undef, undef, undef, undef, undef], defers := [] }) ?assign ?body ?done ?stop
  case assign =>
    intro l x W K hK
    gi_wp2
    exact hK
  case body =>
    rintro l pre ⟨⟨i, z⟩, hz⟩ W ⟨⟨⟨hr, hrc⟩, hc6⟩, hB⟩ hlen
    obtain ⟨m, rfl⟩ := Int.eq_ofNat_of_zero_le (show 0 ≤ z by have := hz.1.1; simp at this; omega)
    have hm : m ≤ 15 := by have := hz.1.2; simp at this; omega
    have hi : i < zs.length := hz.2
    have hc := hr.cell m (by rw [nxl_length]; omega)
    have hf := hr.frozen m
    rw [nxl_get _ _ m hm] at hc
    have hcn := cn_le (pre.map (·.1)) m
    rw [List.length_map] at hcn
    have hA0 := HAF.out m hm
    have hfs := fc_small zs m (by omega) hl
    have hd := hrc.cell i (by rw [co_length]; exact hi)
    have hdf := hrc.frozen i
    have HQ1 : Hid ((nxl A (pre.map (·.1))).set m (A.getD m 0 + ((cn (pre.map (·.1)) m : Nat) : Int) + 1) = nxl A ((pre ++ [(⟨(i, (m : Int)), hz⟩ : { x : Nat × Int // (1 ≤ x.2 ∧ x.2 ≤ 15) ∧ x.1 < zs.length })]).map (·.1))) := by
      show _ = _
      rw [List.map_append, nxl_snoc _ _ i m]; rfl
    have HQ2 : Hid ((co A zs.length (pre.map (·.1))).set i (A.getD m 0 + ((cn (pre.map (·.1)) m : Nat) : Int)) = co A zs.length ((pre ++ [(⟨(i, (m : Int)), hz⟩ : { x : Nat × Int // (1 ≤ x.2 ∧ x.2 ≤ 15) ∧ x.1 < zs.length })]).map (·.1))) := by
      show _ = _
      rw [List.map_append, List.map_singleton, co_snoc]
      dsimp only
      rw [Int.toNat_natCast]
    have HR : Hid (Rw .i64 77 W N (nxl A (pre.map (·.1))) ∧ Rw .u64 35 W C (co A zs.length (pre.map (·.1)))) := ⟨hr, hrc⟩
    obtain ⟨y, hy⟩ : ∃ y : Nat, A.getD m 0 + ((cn (pre.map (·.1)) m : Nat) : Int) = (y : Int) := ⟨fc zs m + cn (pre.map (·.1)) m, by rw [hA0]; push_cast; rfl⟩
    rw [hy] at hc HQ1 HQ2
    have hyb : y ≤ 60000000 := by
      have : (y : Int) = ((fc zs m + cn (pre.map (·.1)) m : Nat) : Int) := by rw [← hy, hA0]; push_cast; rfl
      omega
    have hwu : IntKind.u64.wrap (y : Int) = (y : Int) := by rw [IntKind.wrap_u64]; omega
    have hwi : IntKind.i64.wrap ((y : Int) + 1) = (y : Int) + 1 := by rw [IntKind.wrap_i64]; omega
    generalize (co A zs.length (pre.map (·.1))).getD i 0 = old at hd
    have HB := hid hB
    have HC6 := hid hc6
    clear hr hrc hy hA0 hfs hcn hB
    have hne1 : ¬ N = C := by omega
    have hne2 : ¬ C = N := by omega
    have hne3 : ¬ C = S6 := by omega
    have hne4 : ¬ N = S6 := by omega
    have FIN : Hid ((((Rw .i64 77 ((W.setCell ⟨C, i, none⟩ (.int .u64 (y : Int))).setCell ⟨N, m, none⟩ (.int .i64 ((y : Int) + 1))).drew N (nxl A ((pre ++ [(⟨(i, (m : Int)), hz⟩ : { x : Nat × Int // (1 ≤ x.2 ∧ x.2 ≤ 15) ∧ x.1 < zs.length })]).map (·.1))) ∧ Rw .u64 35 ((W.setCell ⟨C, i, none⟩ (.int .u64 (y : Int))).setCell ⟨N, m, none⟩ (.int .i64 ((y : Int) + 1))).drew C (co A zs.length ((pre ++ [(⟨(i, (m : Int)), hz⟩ : { x : Nat × Int // (1 ≤ x.2 ∧ x.2 ≤ 15) ∧ x.1 < zs.length })]).map (·.1)))) ∧ ((W.setCell ⟨C, i, none⟩ (.int .u64 (y : Int))).setCell ⟨N, m, none⟩ (.int .i64 ((y : Int) + 1))).drew.cell? ⟨S6, 0, none⟩ = some (.slice (some ⟨C, 0, none⟩) zs.length zs.length)) ∧ Below w.heap.size w ((W.setCell ⟨C, i, none⟩ (.int .u64 (y : Int))).setCell ⟨N, m, none⟩ (.int .i64 ((y : Int) + 1))).drew)) := by
      refine ⟨⟨⟨?_, ?_⟩, ?_⟩, ((HB.out.setCell (p := ⟨C, i, none⟩) (by show _ ≤ C; omega) _).setCell (p := ⟨N, m, none⟩) (by show _ ≤ N; omega) _).drew⟩
      · rw [← HQ1.out]
        exact (HR.out.1.of_block (heap_setCell_other W ⟨C, i, none⟩ N _ hne1)).set m _
      · rw [← HQ2.out]
        exact (HR.out.2.set i _).of_block (heap_setCell_other _ ⟨N, m, none⟩ C _ hne2)
      · exact (ce_cell _ (show ¬ S6 = N by omega)).trans ((ce_cell _ (show ¬ S6 = C by omega)).trans HC6.out)
    gi_wp2
    gi_region_o
    all_goals gi_wp2
    all_goals exact ⟨((KeepsOthers.setCell _ _ _).trans (KeepsOthers.setCell _ _ _)).trans (KeepsOthers.drew _), (((Below.refl w.heap.size W).setCell (p := ⟨C, i, none⟩) (by show _ ≤ C; omega) _).setCell (p := ⟨N, m, none⟩) (by show _ ≤ N; omega) _).drew, FIN.out⟩
  case done =>
    rintro D ys W hD hys ⟨⟨⟨_, hr⟩, hc6⟩, hB⟩ hK
    have hv : co A zs.length (ys.map (·.1)) = codes zs := by rw [hys]; exact co_codes zs A HAF.out HW.out
    rw [hv] at hr
    have HR := hid hr
    have HB := hid hB
    have HD := hid hK
    clear hr hB hK
    gi_wp2
    go_wp2_with fail
    have hDC : ¬ C = D := by omega
    have hb2 : Below w.heap.size w (W.putObj D (.deferred none)) := HB.out.trans ((kp_putO W D _).below HB.out.size (fun i e => by have := hB0.size; omega))
    refine ⟨by simp, .inl ⟨_, _, rfl, run_takeDeferred HD.out, ?_⟩⟩
    exact ⟨.tuple #[.slice (some ⟨C, 0, none⟩) zs.length zs.length, .int .i64 0], by simp [results, Try.results10], C, rfl, by omega, HR.out.of_block (World.putObj_heap_other hDC), hb2⟩
  case stop =>
    rintro D c pre W _ _ h _
    exact h.elim
end Go.Proofs.Ythpocbpleffdpaa
