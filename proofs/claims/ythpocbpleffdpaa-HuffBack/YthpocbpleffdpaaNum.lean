/- How many symbols have a code of each length. -/
import Derived.Test.YthpocbpleffdpaaCod
import Derived.Test.YthpocbpleffdpaaMid
namespace Go.Proofs.Ythpocbpleffdpaa
open Go.RowKit Go.Shelf
attribute [local go_sem] Oper.semAt_some
/-- How many of these have the length k. -/
def cn (l : List (Nat × Int)) (k : Nat) : Nat := (l.filter fun x => x.2 == (k : Int)).length
def cl (l : List (Nat × Int)) : List Int := (List.range 16).map fun k => ((cn l k : Nat) : Int)
theorem cl_length (l : List (Nat × Int)) : (cl l).length = 16 := by simp [cl]
theorem cl_nil : cl [] = List.replicate 16 0 := rfl
theorem cn_le (l : List (Nat × Int)) (k : Nat) : cn l k ≤ l.length := List.length_filter_le _ _
theorem cl_snoc (l : List (Nat × Int)) (i m : Nat) : (cl l).set m ((cn l m + 1 : Nat) : Int) = cl (l ++ [(i, (m : Int))]) := by
  apply List.ext_getElem
  · simp [cl]
  · intro k h1 h2
    by_cases hk : m = k
    · subst hk
      simp [cl, cn]
    · rw [List.getElem_set_ne hk]
      have : ((m : Int) == (k : Int)) = false := by simp; omega
      simp [cl, cn, this]
theorem rw_own {β : Type} (k : IntKind) (t : TypeId) (B : Nat) (f : β → List Int) : Own (fun s W => Rw k t W B (f s)) := fun s X Y row hs hg hrow =>
  hs.grown hg (fun e' => by obtain ⟨o, ho, hc⟩ := hrow B e'.symm; rw [show X.heap[B]? = _ from hs] at ho; cases ho; cases hc)
theorem cl_get (l : List (Nat × Int)) (m : Nat) (hm : m ≤ 15) : (cl l).getD m 0 = ((cn l m : Nat) : Int) := by
  have : m < 16 := by omega
  simp [cl, List.getD, this]
theorem info77 : (Try.prog.info? 77).map (·.size) = some 16 := by kernel_rfl
theorem kp_putO (W : World) (l : Nat) (o' : Obj) : Kp (fun i => i = l) W (W.putObj l o') := ⟨rfl, rfl, rfl, by simp, fun k _ hk => World.putObj_heap_other (fun e => hk e)⟩
set_option maxRecDepth 100000 in
set_option maxHeartbeats 2000000 in
theorem numbered_in (F : Fence) (n : Nat) (h47 : F.fn 47) (h48 : F.fn 48) (h70 : F.fn 70) (hro : F.round = none) (hn : 3 ≤ n) (a : Option Addr) (cap : Nat) (zs : List Int) (w : World) (hl : zs.length ≤ 1000000) (hs : Src .i64 w a zs) (hw : Wi 15 zs) :
    CallsIn F n Try.prog 47 #[.slice a zs.length cap] w fun e W' => e = .returned (.agg ((cl (cds zs zs.length)).map (Value.int .i64)).toArray) ∧ Below w.heap.size w W' := by
  have h1 : 1 ≤ n := by omega
  have HS : Hid (Src .i64 w a zs) := hs
  have HW : Hid (Wi 15 zs) := hw
  clear hs hw
  refine callsIn_of_wp_marks Try.func47 rfl h47 ?_ hro
  simp only [Try.ntmps47, List.size_toArray, List.length_cons, List.length_nil, Nat.reduceAdd, Nat.reduceSub, Array.replicate_succ, Array.replicate_zero, List.push_toArray, List.append_toArray, List.nil_append, List.cons_append]
  gi_wp2_with (gi_at_call 48; refine (coded_in F (n - 1) h48 hro _ _ _ _).mono ?_; rintro e w' ⟨rfl, rfl⟩)
  have hB0 : Below w.heap.size w (((w.alloc (.cells ((List.replicate 16 (0 : Int)).map (Value.int .i64)).toArray 77)).alloc (.cells ((List.replicate 16 (0 : Int)).map (Value.int .i64)).toArray 77)).alloc (.cells #[.slice a zs.length cap] 22)) := (((Below.refl _ w).alloc (Nat.le_refl _) _).alloc (by simp) _).alloc (by simp; omega) _
  have r0 : Rw .i64 77 (((w.alloc (.cells ((List.replicate 16 (0 : Int)).map (Value.int .i64)).toArray 77)).alloc (.cells ((List.replicate 16 (0 : Int)).map (Value.int .i64)).toArray 77)).alloc (.cells #[.slice a zs.length cap] 22)) w.heap.size (List.replicate 16 0) := ((Rw.new .i64 77 w _).alloc _).alloc _
  have r1 := (Rw.new .i64 77 (w.alloc (.cells ((List.replicate 16 (0 : Int)).map (Value.int .i64)).toArray 77)) (List.replicate 16 0)).alloc (.cells #[.slice a zs.length cap] 22)
  have hb := cell_new_l ((w.alloc (.cells ((List.replicate 16 (0 : Int)).map (Value.int .i64)).toArray 77)).alloc (.cells ((List.replicate 16 (0 : Int)).map (Value.int .i64)).toArray 77)) (.slice a zs.length cap) 22
  simp only [World.size_alloc] at hb r1
  show Code.wpIn F n Try.prog _ _ _ (((w.alloc (.cells ((List.replicate 16 (0 : Int)).map (Value.int .i64)).toArray 77)).alloc (.cells ((List.replicate 16 (0 : Int)).map (Value.int .i64)).toArray 77)).alloc (.cells #[.slice a zs.length cap] 22))
  generalize hW0 : ((w.alloc (.cells ((List.replicate 16 (0 : Int)).map (Value.int .i64)).toArray 77)).alloc (.cells ((List.replicate 16 (0 : Int)).map (Value.int .i64)).toArray 77)).alloc (.cells #[.slice a zs.length cap] 22) = W0 at hB0 r0 r1 hb ⊢
  have hsz : W0.heap.size = w.heap.size + 3 := by rw [← hW0]; simp
  clear hW0
  refine wpIn_rangeFunc_ownF hro h1 (gf := 70) (lb := #[.pointer (some ⟨w.heap.size + 1 + 1, 0, none⟩)]) rfl h70 (enters_of Try.func70 (by kernel_rfl) rfl)
    (coded_stops F (n - 1) h70 hro (by omega) (w.heap.size + 1 + 1) w.heap.size a cap zs (by omega) _ (by omega) hb.1 (HS.out.below hB0) (src_low HS.out) (fun x => 1 ≤ x.2 ∧ x.2 ≤ 15) (fun k hk h0 => ⟨h0, by have := HW.out _ (List.getElem_mem hk); simpa [hk] using this.2⟩))
    belowK_t (belowK_b (by omega)) (Below.refl _ _) (fun _ => rfl)
    (fun pre W => (Rw .i64 77 W (w.heap.size + 1) (cl (pre.map (·.1))) ∧ Rw .i64 77 W w.heap.size (List.replicate 16 0)) ∧ Below w.heap.size w W)
    (fun _ _ _ => False)
    (OwnFrom.and (Own.from (fun s A B row hs hg hr => ⟨rw_own .i64 77 _ (fun pre : List { x : Nat × Int // 1 ≤ x.2 ∧ x.2 ≤ 15 } => cl (pre.map (·.1))) s A B row hs.1 hg hr, rw_own .i64 77 _ (fun _ : Unit => List.replicate 16 0) () A B row hs.2 hg hr⟩) _) (ownFrom_below (Nat.le_refl _) (by omega)))
    (fun _ _ _ _ _ hs _ _ => hs)
    ⟨⟨by rw [List.map_nil, cl_nil]; exact r1, r0⟩, hB0⟩
    (fun x => { tmps := #[.slice a zs.length cap, undef, .pointer (some ⟨w.heap.size, 0, none⟩), .pointer (some ⟨w.heap.size + 1, 0, none⟩), undef, .int .i64 x.1.2, .slice a zs.length cap, .func (.func 70) #[] #[.pointer (some ⟨w.heap.size + 1 + 1, 0, none⟩)], .int .i64 (x.1.1 : Int), .int .i64 x.1.2, undef, undef, undef, undef, undef, undef], defers := [] }) ?assign ?body ?done ?stop
  case assign =>
    intro l x W K hK
    gi_wp2
    exact hK
  case body =>
    rintro l pre ⟨⟨i, z⟩, hz⟩ W ⟨⟨hr, hr0⟩, hB⟩ hlen
    obtain ⟨m, rfl⟩ := Int.eq_ofNat_of_zero_le (show 0 ≤ z by have := hz.1; simp at this; omega)
    have hm : m ≤ 15 := by have := hz.2; simp at this; omega
    have hc := hr.cell m (by rw [cl_length]; omega)
    have hf := hr.frozen m
    rw [cl_get _ m hm] at hc
    have hcl := cn_le (pre.map (·.1)) m
    rw [List.length_map] at hcl
    have HQ : Hid ((cl (pre.map (·.1))).set m ((cn (pre.map (·.1)) m + 1 : Nat) : Int) = cl ((pre ++ [(⟨(i, (m : Int)), hz⟩ : { x : Nat × Int // 1 ≤ x.2 ∧ x.2 ≤ 15 })]).map (·.1))) := by
      show _ = _
      rw [List.map_append, cl_snoc _ i m]; rfl
    generalize cn (pre.map (·.1)) m = c at hc hcl HQ
    have HR : Hid (Rw .i64 77 W (w.heap.size + 1) (cl (pre.map (·.1))) ∧ Rw .i64 77 W w.heap.size (List.replicate 16 0)) := ⟨hr, hr0⟩
    clear hr hr0
    have hwr : IntKind.i64.wrap ((c : Int) + 1) = ((c + 1 : Nat) : Int) := by rw [show (c : Int) + 1 = ((c + 1 : Nat) : Int) by omega]; exact wrap_nat _ (by omega)
    gi_wp2
    refine ⟨KeepsOthers.setCell _ _ _, (Below.refl w.heap.size W).setCell (p := ⟨w.heap.size + 1, m, none⟩) (by simp) _, ⟨?_, HR.out.2.of_block (heap_setCell_other W ⟨w.heap.size + 1, m, none⟩ w.heap.size _ (by simp))⟩, hB.setCell (p := ⟨w.heap.size + 1, m, none⟩) (by simp) _⟩
    rw [← HQ.out, show ((c + 1 : Nat) : Int) = (c : Int) + 1 by omega]
    exact HR.out.1.set m _
  case done =>
    rintro D ys W hD hys ⟨⟨hr, hr0⟩, hB⟩ hK
    obtain ⟨M, hM⟩ : ∃ M, M = cl (ys.map (·.1)) := ⟨_, rfl⟩
    rw [← hM] at hr
    have hMl : M.length = 16 := by rw [hM]; exact cl_length _
    have hsz77 : ((M.map (Value.int .i64)).toArray).size = 16 := by simp [hMl]
    have HR : Hid (Rw .i64 77 W (w.heap.size + 1) M) := hr
    have HR0 : Hid (Rw .i64 77 W w.heap.size (List.replicate 16 0)) := hr0
    have HB : Hid (Below w.heap.size w W) := hB
    have HD : Hid (W.heap[D]? = some (.deferred (some []))) := hK
    have HM : Hid (M = cl (cds zs zs.length)) := by show _ = _; rw [hM, hys]
    clear hr hr0 hB hK hM
    gi_wp2_with (first | (refine wpListIn_load_mid rfl 77 (.tmp 3) rfl (w.heap.size + 1) 0 rfl (M.map (Value.int .i64)) _ HR.out.range Try.underlying77 rfl (by rw [List.length_map, hMl]; exact info77) ?_) | (refine wpListIn_store_mid rfl 77 (.tmp 2) (.tmp 15) rfl w.heap.size 0 (M.map (Value.int .i64)).toArray rfl rfl (by rw [hsz77]; exact HR0.out.there 16 (by simp)) (by rw [hsz77]; exact info77) (ints_one _ _) ?_))
    have hlt : D < W.heap.size := (Array.getElem?_eq_some_iff.1 HD.out).1
    have hK2 : (W.setCells w.heap.size 0 (M.map (Value.int .i64))).heap[D]? = some (.deferred (some [])) := by
      rw [(kp_setCells w.heap.size (M.map (Value.int .i64)) 0 W).block D hlt (by omega)]; exact HD.out
    refine ⟨by simp, .inl ⟨_, _, rfl, run_takeDeferred hK2, ?_⟩⟩
    have hra := rangeAt_kp (World.rangeAt_setCells_same W w.heap.size 0 (M.map (Value.int .i64)) (by rw [List.length_map, hMl]; exact HR0.out.there 16 (by simp))) (kp_putO (W.setCells w.heap.size 0 (M.map (Value.int .i64))) D (.deferred none)) (show ¬ w.heap.size = D by omega)
    have hl := run_loadVar_mid (P := Try.prog) _ w.heap.size 0 77 (M.map (Value.int .i64)) _ hra Try.underlying77 rfl (by rw [List.length_map, hMl]; exact info77)
    have hb2 : Below w.heap.size w (W.setCells w.heap.size 0 (M.map (Value.int .i64))) := HB.out.trans ((kp_setCells w.heap.size _ 0 _).below HB.out.size (fun i e => by omega))
    exact ⟨_, results_cell1 Try.results47 _ _ _ rfl hl, by rw [HM.out], hb2.trans ((kp_putO _ D _).below hb2.size (fun i e => by omega))⟩
  case stop =>
    rintro D c pre W _ _ h _
    exact h.elim
theorem numbered_any (a : Option Addr) (cap : Nat) (zs : List Int) (w : World) (hl : zs.length ≤ 1000000) (hs : Src .i64 w a zs) (hw : Wi 15 zs) :
    Calls Try.prog 47 #[.slice a zs.length cap] w fun e W' => e = .returned (.agg ((cl (cds zs zs.length)).map (Value.int .i64)).toArray) ∧ Below w.heap.size w W' :=
  callsIn_wide.1 (numbered_in Fence.wide 3 trivial trivial trivial rfl (Nat.le_refl _) a cap zs w hl hs hw)
end Go.Proofs.Ythpocbpleffdpaa
