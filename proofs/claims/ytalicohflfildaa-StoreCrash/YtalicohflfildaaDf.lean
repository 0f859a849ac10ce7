/- maps.DeleteFunc, as sectors.cut calls it: a range over a map out of which entries are taken. -/
import Derived.Test.YtalicohflfildaaPn
namespace Go.Proofs.Ytalicohflfildaa
open Go.RowKit Go.ChangeMaps Go.MapKept

/-- The iterator at r over the map bm has handed out entries of these stamps. -/
structure Mj (w : World) (r bm c : Nat) (bs : List Nat) : Prop where
  it : ∃ seen : Array Nat, w.heap[r]? = some (.mapIter (some bm) c seen c) ∧ seen.toList = bs
theorem Mj.lt {w : World} {r bm c : Nat} {bs : List Nat} (h : Mj w r bm c bs) : r < w.heap.size := by
  obtain ⟨s, h1, _⟩ := h.it
  exact (Array.getElem?_eq_some_iff.1 h1).1
theorem Mj.kp {F : Nat → Prop} {w w' : World} {r bm c : Nat} {bs : List Nat} (h : Mj w r bm c bs) (k : Kp F w w') (hf : ¬ F r) : Mj w' r bm c bs := by
  have hl := h.lt
  obtain ⟨s, h1, h2⟩ := h.it
  exact ⟨⟨s, (k.block r hl hf).trans h1, h2⟩⟩
theorem Mj.itn {w : World} {r bm c : Nat} {bs : List Nat} (h : Mj w r bm c bs) : itn w r = bs.length := by
  obtain ⟨s, h1, h2⟩ := h.it
  unfold Ytalicohflfildaa.itn
  rw [h1]
  have := congrArg List.length h2
  simpa using this
theorem mj_new (w : World) (bm c : Nat) : Mj (w.alloc (.mapIter (some bm) c #[] c)) w.heap.size bm c [] := ⟨⟨#[], Go.heap_alloc_new w _, rfl⟩⟩
theorem Mj.next {κ : Type} {P : Program} {mk : κ → Value} {w : World} {r bm c : Nat} {es : List (κ × Value × Nat)} {bs : List Nat} (h : Mj w r bm c bs) (hm : Mp mk w bm es c) (hne : r ≠ bm) (ty : TypeId) :
    ((∀ e ∈ es, e.2.2 ∈ bs) ∧ (Instr.next (.pointer (some ⟨r, 0, none⟩)) false ty).run P w = .ok (.tuple #[.bool false]) w) ∨
    ∃ e w', e ∈ es ∧ e.2.2 ∉ bs ∧ (Instr.next (.pointer (some ⟨r, 0, none⟩)) false ty).run P w = .ok (.tuple #[.bool true, mk e.1, e.2.1]) w' ∧ Mj w' r bm c (bs ++ [e.2.2]) ∧ Kp (fun i => i = r) w w' ∧ (Instr.entry (.pointer (some ⟨r, 0, none⟩))).run P w' = .ok (.tuple #[mk e.1, e.2.1]) w' := by
  obtain ⟨seen, h1, h2⟩ := h.it
  have hold : ∀ x ∈ ((es.map (ent mk)).toArray).toList, x.born < c := by
    intro x hx
    simp only [List.mem_map] at hx
    obtain ⟨e, he, rfl⟩ := hx
    exact hm.2.2.2 e he
  have hcon : ∀ b, seen.contains b = true ↔ b ∈ bs := by
    intro b
    rw [← h2, Array.mem_toList_iff, Array.contains_iff_mem]
  rcases run_next_at (P := P) w ty r bm c c seen _ c h1 hm.1 hold (Nat.le_refl _) with ⟨h0, hrun⟩ | ⟨e, he, w1, hal, hrun⟩
  · refine .inl ⟨fun a ha => ?_, hrun⟩
    have := all_seen _ seen h0 (ent mk a) (by simp; exact ⟨_, _, _, ha, rfl⟩)
    exact (hcon _).1 this
  · obtain ⟨hem, hes⟩ := mem_left he
    simp only [List.mem_map] at hem
    obtain ⟨a, ha, rfl⟩ := hem
    have hnd : a.2.2 ∉ bs := by
      intro h3
      have : seen.contains a.2.2 = true := (hcon _).2 h3
      rw [show (ent mk a).born = a.2.2 from rfl, this] at hes
      cases hes
    have hr1 : w1.heap[r]? = some (.mapIter (some bm) c seen c) := by rcases hal with rfl | rfl <;> exact h1
    have hb1 : w1.heap[bm]? = some (.map (es.map (ent mk)).toArray c) := by rcases hal with rfl | rfl <;> exact hm.1
    have hset := heap_set (o' := .mapIter (some bm) c (seen.push (ent mk a).born) c) hr1
    have hb' := (hset.2 bm (fun e1 => hne e1.symm)).trans hb1
    refine .inr ⟨a, _, ha, hnd, hrun, ⟨⟨_, hset.1, ?_⟩⟩, ?_, run_entry_at _ r bm c seen _ c (ent mk a) hset.1 hb' (by simp; exact ⟨_, _, _, ha, rfl⟩) ?_⟩
    · rw [Array.toList_push, h2]; simp [ent]
    · rcases hal with rfl | rfl <;> exact ⟨rfl, rfl, rfl, by simp [setBlock], fun i _ hi => hset.2 i hi⟩
    · have := hm.2.2.1
      simpa [List.map_map, Function.comp_def, ent] using this
/-- Is the sector from the size on? -/
def pdl (sz : Int) (e : Int × Value × Nat) : Bool := decide (sz ≤ e.1 * 512)
/-- What is left when these stamps have been met. -/
def dlf (sz : Int) (bs : List Nat) (e : Int × Value × Nat) : Bool := !(decide (e.2.2 ∈ bs) && pdl sz e)
theorem mdel_filter (es : List (Int × Value × Nat)) (k : Int) (hn : (es.map (·.1)).Nodup) : mdel es k = es.filter (fun e => decide (e.1 ≠ k)) := by
  induction es with
  | nil => rfl
  | cons e es ih =>
    simp only [List.map_cons, List.nodup_cons] at hn
    unfold mdel
    by_cases h : k = e.1
    · rw [if_pos h, List.filter_cons_of_neg (by simp [h])]
      symm
      rw [List.filter_eq_self]
      intro x hx
      simp only [decide_eq_true_eq]
      exact fun e1 => hn.1 (by rw [← h, ← e1]; exact List.mem_map.2 ⟨x, hx, rfl⟩)
    · rw [if_neg h, List.filter_cons_of_pos (by simpa using fun e1 => h e1.symm), ih hn.2]
theorem key_inj_mp {es : List (Int × Value × Nat)} {c : Nat} (h : Kok es c) {a b : Int × Value × Nat} (ha : a ∈ es) (hb : b ∈ es) (e : a.1 = b.1) : a = b := by
  have hn := h.1
  clear h
  induction es with
  | nil => cases ha
  | cons x es ih =>
    simp only [List.map_cons, List.nodup_cons, List.mem_map, not_exists, not_and] at hn
    rcases List.mem_cons.1 ha with h1 | h1 <;> rcases List.mem_cons.1 hb with h2 | h2
    · rw [h1, h2]
    · exact absurd (h1 ▸ e.symm) (hn.1 b h2)
    · exact absurd (h2 ▸ e) (hn.1 a h1)
    · exact ih h1 h2 hn.2
theorem dlf_del {es : List (Int × Value × Nat)} {c : Nat} {sz : Int} {bs : List Nat} (h : Kok es c) {e : Int × Value × Nat} (he : e ∈ es) (hp : pdl sz e = true) : mdel (es.filter (dlf sz bs)) e.1 = es.filter (dlf sz (bs ++ [e.2.2])) := by
  rw [mdel_filter _ _ (List.Nodup.sublist (List.Sublist.map _ List.filter_sublist) h.1), List.filter_filter]
  refine List.filter_congr (fun x hx => ?_)
  by_cases hxe : x = e
  · subst hxe
    simp [dlf, hp]
  · have h1 : x.1 ≠ e.1 := fun e1 => hxe (key_inj_mp h hx he e1)
    have h2 : x.2.2 ≠ e.2.2 := fun e1 => hxe (born_inj_mp h hx he e1)
    simp [dlf, h1, h2]
theorem dlf_keep {es : List (Int × Value × Nat)} {c : Nat} {sz : Int} {bs : List Nat} (h : Kok es c) {e : Int × Value × Nat} (he : e ∈ es) (hp : pdl sz e = false) : es.filter (dlf sz bs) = es.filter (dlf sz (bs ++ [e.2.2])) := by
  refine List.filter_congr (fun x hx => ?_)
  by_cases hxe : x = e
  · subst hxe
    simp [dlf, hp]
  · have h2 : x.2.2 ≠ e.2.2 := fun e1 => hxe (born_inj_mp h hx he e1)
    simp [dlf, h2]
theorem dlf_end {es : List (Int × Value × Nat)} {sz : Int} {bs : List Nat} (h : ∀ e ∈ es.filter (dlf sz bs), e.2.2 ∈ bs) : es.filter (dlf sz bs) = es.filter (fun e => !pdl sz e) := by
  refine List.filter_congr (fun x hx => ?_)
  by_cases hb : x.2.2 ∈ bs
  · simp [dlf, hb]
  · have : dlf sz bs x = false := by
      rw [Bool.eq_false_iff]
      intro h1
      exact hb (h x (List.mem_filter.2 ⟨hx, h1⟩))
    simp [dlf, hb] at this
set_option maxRecDepth 100000 in
theorem cut1_any (k sz : Int) (u : Value) (Bx : Nat) (w : World) (hc : w.cell? ⟨Bx, 0, none⟩ = some (.int .i64 sz)) (h0 : 0 ≤ k) (h1 : k ≤ 1000000) : Calls Try.prog 78 #[.int .i64 k, u, .pointer (some ⟨Bx, 0, none⟩)] w fun e w' => e = .returned (.bool (decide (sz ≤ k * 512))) ∧ w' = w := by
  have e1 : IntKind.i64.wrap (k * 512) = k * 512 := by rw [IntKind.wrap_i64]; omega
  go_enter Try.func78, Try.ntmps78
  go_wp2
  go_ret
  exact ⟨rfl, rfl⟩
end Go.Proofs.Ytalicohflfildaa
