/- Names: the map's keys, sorted. -/
import Derived.Test.YtalicohflfildaaNk
import Derived.Test.YtalicohflfildaaPn
import Derived.Shelf.SlIter.Nil
import Derived.Shelf.SortM.Plain
import Derived.Shelf.SortM.SortNone
import Derived.Ground.GgzProg
import Derived.Ground.SlgmProg
namespace Go.Proofs.Ytalicohflfildaa
open Go.RowKit Go.Maps Go.Sort Go.Shelf

shelf_lay_g SlLaysZ.n7 Ggz 7 at Try 31 as Try.keysA
shelf_lay_g SlLaysZ.n6 Ggz 6 at Try 30 as Try.sortedA
shelf_lay_g SlLaysM.n6 Slgm 6 at Try 55 as Try.sortA

theorem sortsA (m : Nat) : AnyZ.SortsIn Try.prog Try.sortedA_ren Fence.wide m :=
  ⟨fun blk off cap ss W hH hblk hsz => callsIn_wide.2 (AnyM.slices_Sort_string Try.sortA blk off cap ss W hH hblk hsz),
   fun p cap W => callsIn_wide.2 (AnyM.slices_Sort_string_none Try.sortA p cap W)⟩
/-- The files' names, rising. -/
def snm (fs : List Fe) : List (List UInt8) := (fs.map (fun f => f.1.data.toList)).mergeSort (fun x y => decide (x ≤ y))
theorem names_perm {fs : List Fe} {ss : List (List UInt8)} {es : List (ByteArray × Value × Nat)} {D0 : DataW Unit} (h1 : ss.Perm (strKeys D0)) (h2 : (strKeys D0).Perm (es.map (fun e => e.1.data.toList))) (h3 : es.map (·.1) = fs.map (·.1)) : ss.length = fs.length ∧ ss.mergeSort (fun x y => decide (x ≤ y)) = snm fs := by
  have h4 : es.map (fun e => e.1.data.toList) = fs.map (fun f => f.1.data.toList) := by
    have := congrArg (List.map (fun s : ByteArray => s.data.toList)) h3
    simpa [List.map_map, Function.comp_def] using this
  have h5 := h1.trans h2
  rw [h4] at h5
  exact ⟨by simpa using h5.length_eq, mergeSort_of_perm h5⟩
set_option maxRecDepth 100000 in
set_option maxHeartbeats 2000000 in
theorem names_any (D : Nat → Prop) (w : World) (g fm : Nat) (fv : Value) (steps : Nat) (fs : List Fe) (ft : List (Int × Int)) (es : List (ByteArray × Value × Nat)) (c : Nat) (hs : Sr D w g fm fv steps fs ft es c) :
    Calls Try.prog 12 #[.pointer (some ⟨g, 0, none⟩)] w fun e w' => ∃ v, e = .returned v ∧ w'.ownsRow w.heap.size 9 1 v fs.length ((snm fs).map encStr) ∧ (v = .slice none 0 0 ↔ fs = []) ∧ Below w.heap.size w w' := by
  have c0 : w.cell? ⟨g, 0, none⟩ = some (.map (some fm)) := hs.st.cell 0
  have hkk := hs.keys
  have hel : es.length ≤ 256 := by
    have := congrArg List.length hkk.1
    have := hs.nf
    simp at *; omega
  obtain ⟨D0, hown, hperm, hsize⟩ := mp_owns hs.mp (fun e he => by
    obtain ⟨f, hf, h1, _⟩ := hs.ent he
    rw [h1]
    exact (nmd_ne (hs.nm f hf)).2.1) hel
  have hbl := hown.lt
  have hnos := none_live g fm w c0
  refine (callsIn_wide (n := 6)).1 ?_
  have hseq : SeqGives Fence.wide 2 Try.prog 56 #[.pointer (some ⟨w.heap.size, 0, none⟩)] encStr (fun ss => ss.Perm (strKeys D0)) (Maps.size D0) (w.alloc (.cells #[.map (some fm)] 52)) :=
    AnyZ.keys_gives (ρ := Try.keysA_ren) { Try.keysA with } Fence.wide _ trivial rfl (by omega) w.heap.size fm es.length D0 _ (by simp) (by simp) (by
      obtain ⟨es, clock, hb, Ft, hs, hD⟩ := hown
      exact ⟨es, clock, (Below.heap_alloc _ _ fm hbl).trans hb, Ft, hs, hD⟩)
  have cK : ∀ mb W, CallsIn Fence.wide 5 Try.prog 31 #[.map mb] W fun e w' => e = .returned (.func (.func 56) #[] #[.pointer (some ⟨W.heap.size, 0, none⟩)]) ∧ w' = W.alloc (.cells #[.map mb] 52) := fun mb W => AnyZ.keys_in Try.keysA Fence.wide 5 trivial rfl mb W
  have cS := AnyZ.sorted_in Try.sortedA Fence.wide 5 trivial trivial trivial trivial rfl (by omega) (sortsA _) (enters_of Try.func55 (by kernel_rfl) rfl) 56 #[.pointer (some ⟨w.heap.size, 0, none⟩)] trivial (enters_of Try.func56 (by kernel_rfl) rfl) _ _ (by rw [hsize]; unfold maxLen; omega) (by rw [hsize]; omega) _ hseq
  change CallsIn _ _ Try.prog 30 _ _ _ at cS
  have hfK : Fence.wide.fn 31 := trivial
  have hfS : Fence.wide.fn 30 := trivial
  have hfN : Fence.wide.fn 25 := trivial
  have cN : CallsIn Fence.wide 5 Try.prog 25 #[.pointer (some ⟨g, 0, none⟩)] w fun e w' => e = .returned (.bool false) ∧ w' = w := callsIn_wide.2 hnos
  clear hnos hs
  refine callsIn_of_wp Try.func12 rfl trivial ?_ rfl
  simp only [Try.ntmps12, List.size_toArray, List.length_cons, List.length_nil, Nat.reduceAdd, Nat.reduceSub, Array.replicate_succ, Array.replicate_zero, List.push_toArray, List.append_toArray, List.nil_append, List.cons_append]
  gi_wp2_with (first
    | (gi_at_call 25; refine cN.mono ?_; rintro e w' ⟨rfl, h⟩; replace h := h.symm; subst h)
    | (gi_at_call 31; refine (cK _ _).mono ?_; rintro e w' ⟨rfl, rfl⟩)
    | (gi_at_call 30; refine cS.mono ?_; rintro e w' ⟨v, ss, rfl, hS, hrow, hnil, hb⟩))
  go_ret
  obtain ⟨hl, hm⟩ := names_perm hS hperm hkk.1
  rw [hl, hm] at hrow
  refine ⟨v, rfl, ownsRow_base_a hrow (by simp), ?_, ((Below.refl _ w).alloc (Nat.le_refl _) _).trans (hb.mono (by simp))⟩
  rw [hnil]
  constructor
  · rintro rfl; exact List.eq_nil_of_length_eq_zero (by simpa using hl.symm)
  · rintro rfl; exact List.eq_nil_of_length_eq_zero (by simpa using hl)
end Go.Proofs.Ytalicohflfildaa
