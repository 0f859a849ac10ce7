import Derived.Test.YtnccklbnncaeoaaGreatJag
import Derived.Maps.RangeRun
import Derived.Maps.Range
/- A range over a map that is kept as a list of entries. Whatever the program. -/
namespace Go.Proofs.YtnccklbnncaeoaaGreat
open Go.ChangeMaps Go.MapKept

/-- The iterator at r over the map bm has handed out ds. -/
structure Mi {κ : Type} (w : World) (r bm c : Nat) (es ds : List (κ × Value × Nat)) : Prop where
  it : ∃ seen : Array Nat, w.heap[r]? = some (.mapIter (some bm) c seen c) ∧ seen.toList = ds.map (·.2.2)
  nd : ds.Nodup
  sub : ∀ e ∈ ds, e ∈ es
theorem Mi.lt {κ : Type} {w : World} {r bm c : Nat} {es ds : List (κ × Value × Nat)} (h : Mi w r bm c es ds) : r < w.heap.size := by
  obtain ⟨s, h1, _⟩ := h.it
  exact (Array.getElem?_eq_some_iff.1 h1).1
theorem Mi.kp {κ : Type} {F : Nat → Prop} {w w' : World} {r bm c : Nat} {es ds : List (κ × Value × Nat)} (h : Mi w r bm c es ds) (k : Kp F w w') (hf : ¬ F r) : Mi w' r bm c es ds := by
  have hl := h.lt
  obtain ⟨s, h1, h2⟩ := h.it
  exact ⟨⟨s, (k.block r hl hf).trans h1, h2⟩, h.nd, h.sub⟩
theorem run_range_mp {κ : Type} {P : Program} {K E T : TypeId} {mk : κ → Value} (ht : P.underlying T = some (.map K E)) {w : World} {b c : Nat} {es : List (κ × Value × Nat)} (h : Mp mk w b es c) :
    (Instr.range T (.map (some b))).run P w = .ok (.pointer (some ⟨w.heap.size, 0, none⟩)) (w.alloc (.mapIter (some b) c #[] c)) := run_range_map w T K E b _ c ht h.1
theorem mi_new {κ : Type} (w : World) (bm c : Nat) (es : List (κ × Value × Nat)) : Mi (w.alloc (.mapIter (some bm) c #[] c)) w.heap.size bm c es [] :=
  ⟨⟨#[], Go.heap_alloc_new w _, rfl⟩, List.nodup_nil, fun _ h => by cases h⟩
theorem born_inj_mp {κ : Type} {es : List (κ × Value × Nat)} {c : Nat} (h : Kok es c) {a b : κ × Value × Nat} (ha : a ∈ es) (hb : b ∈ es) (e : a.2.2 = b.2.2) : a = b := by
  have hn := h.2.1
  clear h
  induction es with
  | nil => cases ha
  | cons x es ih =>
    simp only [List.map_cons, List.nodup_cons, List.mem_map, not_exists, not_and] at hn
    rcases List.mem_cons.1 ha with h1 | h1 <;> rcases List.mem_cons.1 hb with h2 | h2
    · rw [h1, h2]
    · exact absurd (h1 ▸ e.symm) (hn.1 b h2)
    · exact absurd (h2 ▸ e) (hn.1 a h1)
    · exact ih h1 h2 hn.2
theorem nd_of_map {α β : Type} (f : α → β) : ∀ l : List α, (l.map f).Nodup → l.Nodup
  | [], _ => List.nodup_nil
  | x :: l, h => by
    rw [List.map_cons, List.nodup_cons] at h
    exact List.nodup_cons.2 ⟨fun hm => h.1 (List.mem_map.2 ⟨x, hm, rfl⟩), nd_of_map f l h.2⟩
theorem kok_nodup {κ : Type} {es : List (κ × Value × Nat)} {c : Nat} (h : Kok es c) : es.Nodup := by
  exact nd_of_map _ es h.2.1
/-- The next one: all have come, or one comes that has not yet. -/
theorem Mi.next {κ : Type} {P : Program} {mk : κ → Value} {w : World} {r bm c : Nat} {es ds : List (κ × Value × Nat)} (h : Mi w r bm c es ds) (hm : Mp mk w bm es c) (hne : r ≠ bm) (ty : TypeId) :
    (ds.Perm es ∧ (Instr.next (.pointer (some ⟨r, 0, none⟩)) false ty).run P w = .ok (.tuple #[.bool false]) w) ∨
    ∃ e w', e ∈ es ∧ e ∉ ds ∧ (Instr.next (.pointer (some ⟨r, 0, none⟩)) false ty).run P w = .ok (.tuple #[.bool true, mk e.1, e.2.1]) w' ∧ Mi w' r bm c es (ds ++ [e]) ∧ Kp (fun i => i = r) w w' ∧ (Instr.entry (.pointer (some ⟨r, 0, none⟩))).run P w' = .ok (.tuple #[mk e.1, e.2.1]) w' := by
  obtain ⟨seen, h1, h2⟩ := h.it
  have hold : ∀ x ∈ ((es.map (ent mk)).toArray).toList, x.born < c := by
    intro x hx
    simp only [List.mem_map] at hx
    obtain ⟨e, he, rfl⟩ := hx
    exact hm.2.2.2 e he
  have hcon : ∀ b, seen.contains b = true ↔ b ∈ ds.map (·.2.2) := by
    intro b
    rw [← h2, Array.mem_toList_iff, Array.contains_iff_mem]
  rcases run_next_at (P := P) w ty r bm c c seen _ c h1 hm.1 hold (Nat.le_refl _) with ⟨h0, hrun⟩ | ⟨e, he, w1, hal, hrun⟩
  · refine .inl ⟨?_, hrun⟩
    refine (List.perm_ext_iff_of_nodup h.nd (kok_nodup hm.2)).2 (fun a => ⟨h.sub a, fun ha => ?_⟩)
    have := all_seen _ seen h0 (ent mk a) (by simp; exact ⟨_, _, _, ha, rfl⟩)
    rw [hcon] at this
    obtain ⟨b, hb, he⟩ := List.mem_map.1 this
    have := born_inj_mp hm.2 (h.sub b hb) ha he
    rw [← this]; exact hb
  · obtain ⟨hem, hes⟩ := mem_left he
    simp only [List.mem_map] at hem
    obtain ⟨a, ha, rfl⟩ := hem
    have hnd : a ∉ ds := by
      intro h3
      have : seen.contains a.2.2 = true := (hcon _).2 (List.mem_map.2 ⟨a, h3, rfl⟩)
      rw [show (ent mk a).born = a.2.2 from rfl, this] at hes
      cases hes
    have hr1 : w1.heap[r]? = some (.mapIter (some bm) c seen c) := by rcases hal with rfl | rfl <;> exact h1
    have hb1 : w1.heap[bm]? = some (.map (es.map (ent mk)).toArray c) := by rcases hal with rfl | rfl <;> exact hm.1
    have hset := heap_set (o' := .mapIter (some bm) c (seen.push (ent mk a).born) c) hr1
    have hb' := (hset.2 bm (fun e1 => hne e1.symm)).trans hb1
    refine .inr ⟨a, _, ha, hnd, hrun, ⟨⟨_, hset.1, ?_⟩, ?_, ?_⟩, ?_, run_entry_at _ r bm c seen _ c (ent mk a) hset.1 hb' (by simp; exact ⟨_, _, _, ha, rfl⟩) ?_⟩
    · rw [Array.toList_push, h2]; simp [ent]
    · rw [List.nodup_append]
      refine ⟨h.nd, by simp, fun x hx y hy e => ?_⟩
      rw [List.mem_singleton.1 hy] at e
      exact hnd (e ▸ hx)
    · intro x hx
      rcases List.mem_append.1 hx with hx | hx
      · exact h.sub x hx
      · rw [List.mem_singleton.1 hx]; exact ha
    · rcases hal with rfl | rfl <;> exact ⟨rfl, rfl, rfl, by simp [setBlock], fun i _ hi => hset.2 i hi⟩
    · have := hm.2.2.1
      simpa [List.map_map, Function.comp_def, ent] using this
end Go.Proofs.YtnccklbnncaeoaaGreat
