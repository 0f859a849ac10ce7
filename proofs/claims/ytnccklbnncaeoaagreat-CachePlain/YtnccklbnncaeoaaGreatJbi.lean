import Derived.Test.YtnccklbnncaeoaaGreatJbf
import Derived.Test.YtnccklbnncaeoaaGreatJbh
import Derived.Shelf.SlIterI.Sorted
import Derived.Shelf.SlIterI.Nil
import Derived.DataShut
import Derived.Shelf.SortM.Plain
import Derived.Shelf.SortM.SortNone
import Derived.Shelf.Lay
import Derived.Ground.GgzProg
import Derived.Ground.SlgmProg
/- cache: State: who is waited for, sorted. -/
namespace Go.Proofs.YtnccklbnncaeoaaGreat
open Go.RowKit Go.Maps Go.Sort Go.Shelf
open Go.WideElems (Fit rd rg)
open Go.ChangeMaps Go.MapKept Go.WideShapes Go.WideMaps
set_option linter.unusedVariables false
set_option linter.unusedSimpArgs false
shelf_lay_g SlLaysZI.n7 Ggz 7 at Tryz 84 as Tryz.keysA
shelf_lay_g SlLaysZI.n6 Ggz 6 at Tryz 83 as Tryz.sortedA
shelf_lay_g SlLaysM.n5 Slgm 5 at Tryz 81 as Tryz.sortA
theorem sortsA (m : Nat) : AnyZI.SortsIn Tryz.prog Tryz.sortedA_ren Fence.wide m :=
  ⟨fun blk off cap ss W hH hblk hsz => callsIn_wide.2 (AnyM.slices_Sort_int Tryz.sortA blk off cap ss W hH hblk hsz),
   fun p cap W => callsIn_wide.2 (AnyM.slices_Sort_int_none Tryz.sortA p cap W)⟩
theorem rgi_ent (e : Int × Value × Nat) (h : 0 ≤ e.1 ∧ e.1 < 1000000000) : Go.WideElems.rd Tryz.prog 2 anyR (ent (Value.int .i64) e) = some (.int .i64 e.1, .nil) := by
  have hw : (Lit.int .i64 e.1).wf = true := (Lit.wf_int_iff .i64 e.1).2 (by
    show (-9223372036854775808 : Int) ≤ e.1 ∧ e.1 ≤ 9223372036854775807
    omega)
  unfold Go.WideElems.rd ent
  have : keyOf Tryz.prog 2 (.int .i64 e.1) = some (.int .i64 e.1) := by
    rw [keyOf_int ky2.und]
    simp only [mapKey, ky2.und]
    rw [if_pos ⟨trivial, hw⟩]
  rw [this]
  rfl
theorem mpi_owns {w : World} {b c : Nat} {es : List (Int × Value × Nat)} (h : Mp (Value.int .i64) w b es c) (hk : ∀ e ∈ es, 0 ≤ e.1 ∧ e.1 < 1000000000) (hl : es.length ≤ 1000000) : ∃ D0, w.ownsMap Tryz.prog 2 anyR b es.length D0 ∧ (intKeys D0).Perm (es.map (fun e => e.1)) ∧ Maps.size D0 = es.length := by
  refine ⟨_, ⟨(es.map (ent (Value.int .i64))).toArray, c, h.1, ⟨by simp; unfold maxLen; omega, ⟨?_, ?_, ?_⟩, ?_⟩, by simp, rfl⟩, ?_, ?_⟩
  · intro x hx
    simp only [List.mem_map] at hx
    obtain ⟨e, he, rfl⟩ := hx
    exact h.2.2.2 e he
  · have := h.2.2.1
    simpa [List.map_map, Function.comp_def, ent] using this
  · have := h.2.1
    have h2 : (es.map (fun e => Value.int .i64 e.1)).Nodup := by
      rw [show (es.map (fun e => Value.int .i64 e.1)) = (es.map (·.1)).map (Value.int .i64) by simp [List.map_map, Function.comp_def]]
      exact List.Pairwise.map _ (fun a b hab e => hab (by cases e; rfl)) this
    simpa [List.map_map, Function.comp_def, ent] using h2
  · intro x hx
    simp only [List.mem_map] at hx
    obtain ⟨e, he, rfl⟩ := hx
    exact ⟨_, rgi_ent e (hk e he)⟩
  · unfold intKeys
    refine ((sorted_perm _).map _).trans ?_
    rw [List.map_map]
    refine List.Perm.of_eq ?_
    rw [List.map_map]
    refine List.map_congr_left (fun e he => ?_)
    simp only [Function.comp]
    unfold Go.WideElems.rg
    rw [rgi_ent e (hk e he)]
    rfl
  · unfold Maps.size
    have := (sorted_perm ((es.map (ent (Value.int .i64))).map (Go.WideElems.rg Tryz.prog 2 anyR))).length_eq
    simpa using this
/-- Numbers, sorted. -/
def sno (c : Nat → Pc) (L : List Nat) : List Int := (L.map (fun b => ((c b).n : Int))).mergeSort leI
set_option maxRecDepth 100000 in
set_option maxHeartbeats 2000000 in
/-- The keys of a map of pages, sorted. -/
theorem keysS_any (c : Nat → Pc) (w : World) (t m : Nat) (L : List Nat) (hm : Mn c w m L) (hs : w.cell? ⟨t, 0, none⟩ = some (.map (some m))) (ht : t < w.heap.size) (hL : L.length ≤ 1000000) (hn : ∀ b ∈ L, (c b).n < 1000000000) :
    Calls Tryz.prog 83 #[.func (.func 133) #[] #[.pointer (some ⟨t, 0, none⟩)]] w fun e w' => ∃ v, e = .returned v ∧ w'.ownsRow w.heap.size 2 1 v L.length ((sno c L).map (Value.int .i64)) ∧ (v = .slice none 0 0 ↔ L = []) ∧ Below w.heap.size w w' := by
  obtain ⟨es, q, h1, h2⟩ := hm
  have hk : es.map (fun e => e.1) = L.map (fun b => ((c b).n : Int)) := by
    have := congrArg (List.map (fun x : Int × Value => x.1)) h2
    simpa [List.map_map, Function.comp_def] using this
  have hlen : es.length = L.length := by have := congrArg List.length h2; simpa using this
  obtain ⟨D0, hown, hperm, hsize⟩ := mpi_owns h1 (fun e he => by
    have : e.1 ∈ es.map (fun e => e.1) := List.mem_map_of_mem he
    rw [hk] at this
    obtain ⟨b, hb, e2⟩ := List.mem_map.1 this
    have := hn b hb
    omega) (by omega)
  have hseq : SeqGives Fence.wide 2 Tryz.prog 133 #[.pointer (some ⟨t, 0, none⟩)] encZ (fun ss => ss.Perm (intKeys D0)) (Maps.size D0) w :=
    AnyZI.keys_gives (ρ := Tryz.keysA_ren) { Tryz.keysA with } Fence.wide _ trivial rfl (by omega) t m es.length D0 w ht hs hown
  have cS := AnyZI.sorted_in Tryz.sortedA Fence.wide 5 trivial trivial trivial trivial rfl (by omega) (sortsA _) (enters_of Tryz.func81 (by kernel_rfl) rfl) 133 #[.pointer (some ⟨t, 0, none⟩)] trivial (enters_of Tryz.func133 (by kernel_rfl) rfl) _ _ (by rw [hsize]; unfold maxLen; omega) (by rw [hsize]; omega) _ hseq
  change CallsIn _ _ Tryz.prog 83 _ _ _ at cS
  refine (callsIn_wide.1 cS).mono ?_
  rintro e w' ⟨v, ss, rfl, hS, hrow, hnil, hb⟩
  have h5 := hS.trans hperm
  rw [hk] at h5
  have hl : ss.length = L.length := by have := h5.length_eq; simpa using this
  have hms : ss.mergeSort (fun x y => decide (x ≤ y)) = sno c L := mergeSort_of_perm_i h5
  rw [hl, hms] at hrow
  refine ⟨v, rfl, hrow, ?_, hb⟩
  rw [hnil]
  constructor
  · rintro rfl; exact List.eq_nil_of_length_eq_zero (by simpa using hl.symm)
  · rintro rfl; exact List.eq_nil_of_length_eq_zero (by simpa using hl)
theorem keys_any (m : Nat) (w : World) : Calls Tryz.prog 84 #[.map (some m)] w fun e w' => e = .returned (.func (.func 133) #[] #[.pointer (some ⟨w.heap.size, 0, none⟩)]) ∧ w' = w.alloc (.cells #[.map (some m)] 106) :=
  callsIn_wide.1 (AnyZI.keys_in Tryz.keysA Fence.wide 5 trivial rfl (some m) w)
end Go.Proofs.YtnccklbnncaeoaaGreat
