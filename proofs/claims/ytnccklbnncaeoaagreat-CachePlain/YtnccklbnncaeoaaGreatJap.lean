import Derived.Test.YtnccklbnncaeoaaGreatJah
import Derived.Test.YtnccklbnncaeoaaGreatJam
import Derived.Test.YtnccklbnncaeoaaGreatJao
import Derived.Test.YtnccklbnncaeoaaGreatJai
/- Pending. -/
namespace Go.Proofs.YtnccklbnncaeoaaGreat
open Go.RowKit

theorem nodup_len {α : Type} : ∀ (l m : List α), l.Nodup → (∀ x ∈ l, x ∈ m) → l.length ≤ m.length
  | [], _, _, _ => Nat.zero_le _
  | x :: l, m, hn, hs => by
    obtain ⟨m1, m2, rfl⟩ := List.append_of_mem (hs x (by simp))
    have h := nodup_len l (m1 ++ m2) (List.nodup_cons.1 hn).2 (fun y hy => by
      have := hs y (List.mem_cons_of_mem _ hy)
      rcases List.mem_append.1 this with h | h
      · exact List.mem_append.2 (.inl h)
      · rcases List.mem_cons.1 h with h | h
        · exact absurd (h ▸ hy) (List.nodup_cons.1 hn).1
        · exact List.mem_append.2 (.inr h))
    simp at h ⊢
    omega
/-- How many an iterator has handed out. -/
def itn (w : World) (r : Nat) : Nat := match w.heap[r]? with
  | some (.mapIter _ _ seen _) => seen.size
  | _ => 0
theorem Mi.itn {κ : Type} {w : World} {r bm c : Nat} {es ds : List (κ × Value × Nat)} (h : Mi w r bm c es ds) : itn w r = ds.length := by
  obtain ⟨s, h1, h2⟩ := h.it
  unfold YtnccklbnncaeoaaGreat.itn
  rw [h1]
  have := congrArg List.length h2
  simpa using this
theorem Mi.le {κ : Type} {w : World} {r bm c : Nat} {es ds : List (κ × Value × Nat)} (h : Mi w r bm c es ds) : ds.length ≤ es.length := nodup_len ds es h.nd h.sub
def plen (fs : List Fe) (s : ByteArray) : Nat := match fget fs s with
  | some f => f.2.2.ps.length
  | none => 0
def pnd (fs : List Fe) : Nat := (fs.map (fun f => f.2.2.ps.length)).sum
theorem fget_self {fs : List Fe} (hn : (fs.map (·.1)).Nodup) {f : Fe} (hf : f ∈ fs) : fget fs f.1 = some f := by
  induction fs with
  | nil => cases hf
  | cons x fs ih =>
    simp only [List.map_cons, List.nodup_cons] at hn
    unfold fget
    rcases List.mem_cons.1 hf with h | h
    · rw [if_pos (by rw [h]), h]
    · rw [if_neg (fun e => hn.1 (by rw [← e]; exact List.mem_map.2 ⟨f, h, rfl⟩)), ih hn.2 h]
theorem Sr.keys {D : Nat → Prop} {w : World} {g fm : Nat} {fv : Value} {steps : Nat} {fs : List Fe} {ft : List (Int × Int)} {es : List (ByteArray × Value × Nat)} {c : Nat} (h : Sr D w g fm fv steps fs ft es c) : es.map (·.1) = fs.map (·.1) ∧ (fs.map (·.1)).Nodup := by
  have h1 : es.map (·.1) = fs.map (·.1) := by
    have := congrArg (List.map (·.1)) h.ef
    simpa [List.map_map, Function.comp_def] using this
  exact ⟨h1, h1 ▸ h.mp.2.1⟩
theorem Sr.ent {D : Nat → Prop} {w : World} {g fm : Nat} {fv : Value} {steps : Nat} {fs : List Fe} {ft : List (Int × Int)} {es : List (ByteArray × Value × Nat)} {c : Nat} (h : Sr D w g fm fv steps fs ft es c) {e : ByteArray × Value × Nat} (he : e ∈ es) : ∃ f ∈ fs, e.1 = f.1 ∧ e.2.1 = fptr f := by
  have : (e.1, e.2.1) ∈ es.map (fun e => (e.1, e.2.1)) := List.mem_map.2 ⟨e, he, rfl⟩
  rw [h.ef] at this
  obtain ⟨f, hf, h2⟩ := List.mem_map.1 this
  simp only [Prod.mk.injEq] at h2
  exact ⟨f, hf, h2.1.symm, h2.2.symm⟩
def sumk (fs : List Fe) (ds : List (ByteArray × Value × Nat)) : Nat := (ds.map (fun e => plen fs e.1)).sum
theorem sumk_snoc (fs : List Fe) (ds : List (ByteArray × Value × Nat)) (e : ByteArray × Value × Nat) : sumk fs (ds ++ [e]) = sumk fs ds + plen fs e.1 := by simp [sumk]
theorem sumk_all {fs : List Fe} {ds es : List (ByteArray × Value × Nat)} (hp : ds.Perm es) (hk : es.map (·.1) = fs.map (·.1)) (hn : (fs.map (·.1)).Nodup) : sumk fs ds = pnd fs := by
  unfold sumk pnd
  rw [(hp.map _).sum_nat]
  rw [show (fun e : ByteArray × Value × Nat => plen fs e.1) = plen fs ∘ (·.1) from rfl, ← List.map_map, hk, List.map_map]
  congr 1
  refine List.map_congr_left (fun f hf => ?_)
  simp only [Function.comp, plen]
  rw [fget_self hn hf]
theorem sumk_le {fs : List Fe} {ds : List (ByteArray × Value × Nat)} {B : Nat} (h : ∀ f ∈ fs, f.2.2.ps.length ≤ B) : sumk fs ds ≤ ds.length * B := by
  induction ds with
  | nil => simp [sumk]
  | cons e ds ih =>
    have h1 : plen fs e.1 ≤ B := by
      unfold plen
      cases hq : fget fs e.1 with
      | none => exact Nat.zero_le _
      | some f => exact h f (fget_mem hq)
    have : sumk fs (e :: ds) = plen fs e.1 + sumk fs ds := by simp [sumk]
    rw [this, List.length_cons, Nat.add_mul]
    omega
set_option maxRecDepth 100000 in
set_option maxHeartbeats 2000000 in
theorem pending_any (D : Nat → Prop) (w : World) (g fm : Nat) (fv : Value) (steps : Nat) (fs : List Fe) (ft : List (Int × Int)) (es : List (ByteArray × Value × Nat)) (c : Nat) (hs : Sr D w g fm fv steps fs ft es c) :
    Calls Tryz.prog 29 #[.pointer (some ⟨g, 0, none⟩)] w fun e w' => e = .returned (.int .i64 (pnd fs)) ∧ Kp (fun _ => False) w w' := by
  have c0 : w.cell? ⟨g, 0, none⟩ = some (.map (some fm)) := hs.st.cell 0
  have hrg := run_range_mp (P := Tryz.prog) Tryz.underlying156 hs.mp
  have HS : Hid (Sr D w g fm fv steps fs ft es c) := hs
  clear hs
  go_enter Tryz.func29, Tryz.ntmps29
  go_wp2_with (first | (go_at_call 78; refine (none_live _ _ _ c0).mono ?_; rintro e w' ⟨rfl, h⟩; replace h := h.symm; subst h))
  have H0 : Hid (Mi (w.alloc (.mapIter (some fm) c #[] c)) w.heap.size fm c es []) := mi_new w fm c es
  have K0 : Hid (Kp (fun _ => False) w (w.alloc (.mapIter (some fm) c #[] c))) := (Kp.refl _ _).alloc _
  clear hrg c0
  generalize hr : w.heap.size = r at H0 ⊢
  generalize w.alloc (.mapIter (some fm) c #[] c) = W at H0 K0 ⊢
  have HR : Hid (w.heap.size = r) := hr
  clear hr
  go_loopw [3, 5] (fun nv _ wr => ∃ ds, nv = .int .i64 ((sumk fs ds : Nat) : Int) ∧ Mi wr r fm c es ds ∧ Kp (fun _ => False) w wr) (fun _ _ wr => es.length - itn wr r)
  case atStart => exact ⟨[], rfl, H0.out, K0.out⟩
  case round =>
    clear H0 K0
    obtain ⟨ds, rfl, hmi, hkp⟩ := hrel
    have hS := HS.out.kp hkp (fun _ _ h => h) (fun _ _ h => h)
    have hrm : r ≠ fm := by have := HS.out.mp.lt; have := HR.out; omega
    have hkk := HS.out.keys
    have hle := hmi.le
    have hel : es.length ≤ 256 := by
      have := congrArg List.length hkk.1
      have := HS.out.nf
      simp at *; omega
    have hsl : sumk fs ds ≤ 256 * 1000000000 := Nat.le_trans (sumk_le (B := 1000000000) (fun f hf => (HS.out.fr f hf).nb)) (Nat.mul_le_mul_right _ (by omega))
    have hin := hmi.itn
    rcases hmi.next (P := Tryz.prog) hS.mp hrm 0 with ⟨hp, hrun⟩ | ⟨e, w2, he, hne, hrun, hmi2, hk2, hent⟩
    · have hx := sumk_all hp hkk.1 hkk.2
      have HX : Hid (sumk fs ds = pnd fs) := hx
      have HKP : Hid (Kp (fun _ => False) w wr) := hkp
      clear hx hS hkk hmi hin hkp
      go_wp2
      go_ret
      rw [HX.out]
      exact ⟨rfl, HKP.out⟩
    · obtain ⟨f, hf, he1, he2⟩ := hS.ent he
      have hk3 : Kp (fun _ => False) w w2 := hkp.trans hk2 (fun i hi h => by have := HR.out; omega)
      have hfr := (HS.out.kp hk3 (fun _ _ h => h) (fun _ _ h => h)).fr f hf
      obtain ⟨vs, hpr⟩ := hfr.pc
      obtain ⟨pao, pcap, hpv⟩ := ownsRow_shape hpr.row
      have d3 : w2.cell? ⟨f.2.1.fb, 3, none⟩ = some (.slice pao f.2.2.ps.length pcap) := by rw [← hpv]; exact hfr.st.cell 3
      rw [he2] at hrun hent
      unfold fptr at hrun hent
      have hpl : plen fs e.1 = f.2.2.ps.length := by unfold plen; rw [he1, fget_self hkk.2 hf]
      have hin2 := hmi2.itn
      rw [List.length_append, List.length_singleton] at hin2
      have hle2 := hmi2.le
      rw [List.length_append, List.length_singleton] at hle2
      have hpb := hfr.nb
      have HSN : Hid (((sumk fs (ds ++ [e]) : Nat) : Int) = (sumk fs ds : Int) + (f.2.2.ps.length : Int)) := by show _ = _; rw [sumk_snoc, hpl]; omega
      have HM2 : Hid (Mi w2 r fm c es (ds ++ [e])) := hmi2
      have HK3 : Hid (Kp (fun _ => False) w w2) := hk3
      have HIN : Hid (itn wr r = ds.length) := hin
      have HIN2 : Hid (itn w2 r = ds.length + 1) := hin2
      clear hin hin2 hmi2 hk3 hk2 hkp hmi hpr hpv hfr hpl hS hkk he1 he2
      generalize f.2.2.ps.length = pl at *
      generalize f.2.1.fb = fb at *
      go_wp2
      exact ⟨⟨ds ++ [e], by rw [HSN.out], HM2.out, HK3.out⟩, by rw [HIN.out, HIN2.out]; omega⟩
end Go.Proofs.YtnccklbnncaeoaaGreat
/- maps.DeleteFunc, as sectors.cut calls it: a range over a map out of which entries are taken. -/
namespace Go.Proofs.YtnccklbnncaeoaaGreat
open Go.RowKit Go.ChangeMaps Go.MapKept

/-- The iterator at r over the map bm has handed out entries of these stamps. -/
structure Mj (w : World) (r bm c : Nat) (bs : List Nat) : Prop where
  it : ∃ seen : Array Nat, w.heap[r]? = some (.mapIter (some bm) c seen c) ∧ seen.toList = bs
theorem Mj.lt {w : World} {r bm c : Nat} {bs : List Nat} (h : Mj w r bm c bs) : r < w.heap.size := by
  obtain ⟨s, h1, _⟩ := h.it
  exact (Array.getElem?_eq_some_iff.1 h1).1
theorem Mj.kp {F : Nat → Prop} {w w' : World} {r bm c : Nat} {bs : List Nat} (h : Mj w r bm c bs) (k : Kp F w w') (hf : ¬ F r) : Mj w' r bm c bs := by
  have hl := h.lt
  obtain ⟨s, h1, h2⟩ := h.it
  exact ⟨⟨s, (k.block r hl hf).trans h1, h2⟩⟩
theorem Mj.itn {w : World} {r bm c : Nat} {bs : List Nat} (h : Mj w r bm c bs) : itn w r = bs.length := by
  obtain ⟨s, h1, h2⟩ := h.it
  unfold YtnccklbnncaeoaaGreat.itn
  rw [h1]
  have := congrArg List.length h2
  simpa using this
theorem mj_new (w : World) (bm c : Nat) : Mj (w.alloc (.mapIter (some bm) c #[] c)) w.heap.size bm c [] := ⟨⟨#[], Go.heap_alloc_new w _, rfl⟩⟩
theorem Mj.next {κ : Type} {P : Program} {mk : κ → Value} {w : World} {r bm c : Nat} {es : List (κ × Value × Nat)} {bs : List Nat} (h : Mj w r bm c bs) (hm : Mp mk w bm es c) (hne : r ≠ bm) (ty : TypeId) :
    ((∀ e ∈ es, e.2.2 ∈ bs) ∧ (Instr.next (.pointer (some ⟨r, 0, none⟩)) false ty).run P w = .ok (.tuple #[.bool false]) w) ∨
    ∃ e w', e ∈ es ∧ e.2.2 ∉ bs ∧ (Instr.next (.pointer (some ⟨r, 0, none⟩)) false ty).run P w = .ok (.tuple #[.bool true, mk e.1, e.2.1]) w' ∧ Mj w' r bm c (bs ++ [e.2.2]) ∧ Kp (fun i => i = r) w w' ∧ (Instr.entry (.pointer (some ⟨r, 0, none⟩))).run P w' = .ok (.tuple #[mk e.1, e.2.1]) w' := by
  obtain ⟨seen, h1, h2⟩ := h.it
  have hold : ∀ x ∈ ((es.map (ent mk)).toArray).toList, x.born < c := by
    intro x hx
    simp only [List.mem_map] at hx
    obtain ⟨e, he, rfl⟩ := hx
    exact hm.2.2.2 e he
  have hcon : ∀ b, seen.contains b = true ↔ b ∈ bs := by
    intro b
    rw [← h2, Array.mem_toList_iff, Array.contains_iff_mem]
  rcases run_next_at (P := P) w ty r bm c c seen _ c h1 hm.1 hold (Nat.le_refl _) with ⟨h0, hrun⟩ | ⟨e, he, w1, hal, hrun⟩
  · refine .inl ⟨fun a ha => ?_, hrun⟩
    have := all_seen _ seen h0 (ent mk a) (by simp; exact ⟨_, _, _, ha, rfl⟩)
    exact (hcon _).1 this
  · obtain ⟨hem, hes⟩ := mem_left he
    simp only [List.mem_map] at hem
    obtain ⟨a, ha, rfl⟩ := hem
    have hnd : a.2.2 ∉ bs := by
      intro h3
      have : seen.contains a.2.2 = true := (hcon _).2 h3
      rw [show (ent mk a).born = a.2.2 from rfl, this] at hes
      cases hes
    have hr1 : w1.heap[r]? = some (.mapIter (some bm) c seen c) := by rcases hal with rfl | rfl <;> exact h1
    have hb1 : w1.heap[bm]? = some (.map (es.map (ent mk)).toArray c) := by rcases hal with rfl | rfl <;> exact hm.1
    have hset := heap_set (o' := .mapIter (some bm) c (seen.push (ent mk a).born) c) hr1
    have hb' := (hset.2 bm (fun e1 => hne e1.symm)).trans hb1
    refine .inr ⟨a, _, ha, hnd, hrun, ⟨⟨_, hset.1, ?_⟩⟩, ?_, run_entry_at _ r bm c seen _ c (ent mk a) hset.1 hb' (by simp; exact ⟨_, _, _, ha, rfl⟩) ?_⟩
    · rw [Array.toList_push, h2]; simp [ent]
    · rcases hal with rfl | rfl <;> exact ⟨rfl, rfl, rfl, by simp [setBlock], fun i _ hi => hset.2 i hi⟩
    · have := hm.2.2.1
      simpa [List.map_map, Function.comp_def, ent] using this
/-- Is the sector from the size on? -/
def pdl (sz : Int) (e : Int × Value × Nat) : Bool := decide (sz ≤ e.1 * 512)
/-- What is left when these stamps have been met. -/
def dlf (sz : Int) (bs : List Nat) (e : Int × Value × Nat) : Bool := !(decide (e.2.2 ∈ bs) && pdl sz e)
theorem mdel_filter (es : List (Int × Value × Nat)) (k : Int) (hn : (es.map (·.1)).Nodup) : mdel es k = es.filter (fun e => decide (e.1 ≠ k)) := by
  induction es with
  | nil => rfl
  | cons e es ih =>
    simp only [List.map_cons, List.nodup_cons] at hn
    unfold mdel
    by_cases h : k = e.1
    · rw [if_pos h, List.filter_cons_of_neg (by simp [h])]
      symm
      rw [List.filter_eq_self]
      intro x hx
      simp only [decide_eq_true_eq]
      exact fun e1 => hn.1 (by rw [← h, ← e1]; exact List.mem_map.2 ⟨x, hx, rfl⟩)
    · rw [if_neg h, List.filter_cons_of_pos (by simpa using fun e1 => h e1.symm), ih hn.2]
theorem key_inj_mp {es : List (Int × Value × Nat)} {c : Nat} (h : Kok es c) {a b : Int × Value × Nat} (ha : a ∈ es) (hb : b ∈ es) (e : a.1 = b.1) : a = b := by
  have hn := h.1
  clear h
  induction es with
  | nil => cases ha
  | cons x es ih =>
    simp only [List.map_cons, List.nodup_cons, List.mem_map, not_exists, not_and] at hn
    rcases List.mem_cons.1 ha with h1 | h1 <;> rcases List.mem_cons.1 hb with h2 | h2
    · rw [h1, h2]
    · exact absurd (h1 ▸ e.symm) (hn.1 b h2)
    · exact absurd (h2 ▸ e) (hn.1 a h1)
    · exact ih h1 h2 hn.2
theorem dlf_del {es : List (Int × Value × Nat)} {c : Nat} {sz : Int} {bs : List Nat} (h : Kok es c) {e : Int × Value × Nat} (he : e ∈ es) (hp : pdl sz e = true) : mdel (es.filter (dlf sz bs)) e.1 = es.filter (dlf sz (bs ++ [e.2.2])) := by
  rw [mdel_filter _ _ (List.Nodup.sublist (List.Sublist.map _ List.filter_sublist) h.1), List.filter_filter]
  refine List.filter_congr (fun x hx => ?_)
  by_cases hxe : x = e
  · subst hxe
    simp [dlf, hp]
  · have h1 : x.1 ≠ e.1 := fun e1 => hxe (key_inj_mp h hx he e1)
    have h2 : x.2.2 ≠ e.2.2 := fun e1 => hxe (born_inj_mp h hx he e1)
    simp [dlf, h1, h2]
theorem dlf_keep {es : List (Int × Value × Nat)} {c : Nat} {sz : Int} {bs : List Nat} (h : Kok es c) {e : Int × Value × Nat} (he : e ∈ es) (hp : pdl sz e = false) : es.filter (dlf sz bs) = es.filter (dlf sz (bs ++ [e.2.2])) := by
  refine List.filter_congr (fun x hx => ?_)
  by_cases hxe : x = e
  · subst hxe
    simp [dlf, hp]
  · have h2 : x.2.2 ≠ e.2.2 := fun e1 => hxe (born_inj_mp h hx he e1)
    simp [dlf, h2]
theorem dlf_end {es : List (Int × Value × Nat)} {sz : Int} {bs : List Nat} (h : ∀ e ∈ es.filter (dlf sz bs), e.2.2 ∈ bs) : es.filter (dlf sz bs) = es.filter (fun e => !pdl sz e) := by
  refine List.filter_congr (fun x hx => ?_)
  by_cases hb : x.2.2 ∈ bs
  · simp [dlf, hb]
  · have : dlf sz bs x = false := by
      rw [Bool.eq_false_iff]
      intro h1
      exact hb (h x (List.mem_filter.2 ⟨hx, h1⟩))
    simp [dlf, hb] at this
set_option maxRecDepth 100000 in
theorem cut1_any (k sz : Int) (u : Value) (Bx : Nat) (w : World) (hc : w.cell? ⟨Bx, 0, none⟩ = some (.int .i64 sz)) (h0 : 0 ≤ k) (h1 : k ≤ 1000000) : Calls Tryz.prog 178 #[.int .i64 k, u, .pointer (some ⟨Bx, 0, none⟩)] w fun e w' => e = .returned (.bool (decide (sz ≤ k * 512))) ∧ w' = w := by
  have e1 : IntKind.i64.wrap (k * 512) = k * 512 := by rw [IntKind.wrap_i64]; omega
  go_enter Tryz.func178, Tryz.ntmps178
  go_wp2
  go_ret
  exact ⟨rfl, rfl⟩
end Go.Proofs.YtnccklbnncaeoaaGreat
/- maps.DeleteFunc: the walk. -/
namespace Go.Proofs.YtnccklbnncaeoaaGreat
open Go.RowKit

set_option maxRecDepth 100000 in
set_option maxHeartbeats 2000000 in
theorem delf_any (m c Bx : Nat) (sz : Int) (es : List (Int × Value × Nat)) (w : World) (hm : Mp (Value.int .i64) w m es c) (hk : ∀ e ∈ es, ∃ k : Nat, e.1 = (k : Int) ∧ k ≤ 1000000) (hc : w.cell? ⟨Bx, 0, none⟩ = some (.int .i64 sz)) (hne : Bx ≠ m) :
    Calls Tryz.prog 177 #[.map (some m), .func (.func 178) #[] #[.pointer (some ⟨Bx, 0, none⟩)]] w fun e w' => e = .returned (.tuple #[]) ∧ Mp (Value.int .i64) w' m (es.filter (fun e => !pdl sz e)) c ∧ Kp (fun i => i = m) w w' := by
  have hrg := run_range_mp (P := Tryz.prog) Tryz.underlying161 hm
  have hml := hm.lt
  have hbl := block_lt_of_cell hc
  have HM : Hid (Mp (Value.int .i64) w m es c) := hm
  have HK : Hid (∀ e ∈ es, ∃ k : Nat, e.1 = (k : Int) ∧ k ≤ 1000000) := hk
  have HC : Hid (w.cell? ⟨Bx, 0, none⟩ = some (.int .i64 sz)) := hc
  clear hm hk hc
  go_enter Tryz.func177, Tryz.ntmps177
  go_wp2_with fail
  have H0 : Hid (Mj (w.alloc (.mapIter (some m) c #[] c)) w.heap.size m c []) := mj_new w m c
  have K0 : Hid (Kp (fun i => i = m) w (w.alloc (.mapIter (some m) c #[] c))) := (Kp.refl _ _).alloc _
  have M0 : Hid (Mp (Value.int .i64) (w.alloc (.mapIter (some m) c #[] c)) m (es.filter (dlf sz [])) c) := by
    have : es.filter (dlf sz []) = es := by rw [List.filter_eq_self]; intro x _; simp [dlf]
    rw [Hid, this]
    exact kp_mp (F := fun _ => False) HM.out ((Kp.refl _ _).alloc _) (fun h => h)
  clear hrg
  generalize hr : w.heap.size = r at H0 ⊢
  generalize w.alloc (.mapIter (some m) c #[] c) = W at H0 K0 M0 ⊢
  have HR : Hid (w.heap.size = r) := hr
  clear hr
  go_loopw [4, 5] (fun _ _ wr => ∃ bs : List Nat, Mj wr r m c bs ∧ bs.Nodup ∧ (∀ b ∈ bs, b ∈ es.map (·.2.2)) ∧ Mp (Value.int .i64) wr m (es.filter (dlf sz bs)) c ∧ Kp (fun i => i = m) w wr) (fun _ _ wr => es.length - itn wr r)
  case atStart => exact ⟨[], H0.out, List.nodup_nil, (fun b h => by cases h), M0.out, K0.out⟩
  case round =>
    clear H0 K0 M0
    obtain ⟨bs, hmj, hnd, hsub, hmp, hkp⟩ := hrel
    have hrm : r ≠ m := by have := HR.out; omega
    have hin := hmj.itn
    rcases hmj.next (P := Tryz.prog) hmp hrm 0 with ⟨hall, hrun⟩ | ⟨e, w2, he, hne2, hrun, hmj2, hk2, hent⟩
    · have HE : Hid (es.filter (dlf sz bs) = es.filter (fun e => !pdl sz e)) := dlf_end hall
      have HMP : Hid (Mp (Value.int .i64) wr m (es.filter (dlf sz bs)) c) := hmp
      have HKP : Hid (Kp (fun i => i = m) w wr) := hkp
      clear hall hmp hkp hmj hin hsub hnd
      go_wp2
      go_end0
      rw [← HE.out]
      exact ⟨rfl, HMP.out, HKP.out⟩
    · have hee : e ∈ es := (List.mem_filter.1 he).1
      obtain ⟨kk, hk1, hk2'⟩ := HK.out e hee
      have hk3 : Kp (fun i => i = m) w w2 := hkp.trans hk2 (fun i hi h => by have := HR.out; omega)
      have hc2 : w2.cell? ⟨Bx, 0, none⟩ = some (.int .i64 sz) := kp_cell hk3 HC.out hne
      have hmp2 : Mp (Value.int .i64) w2 m (es.filter (dlf sz bs)) c := kp_mp hmp hk2 (fun e => hrm e.symm)
      have hnd2 : (bs ++ [e.2.2]).Nodup := by
        rw [List.nodup_append]
        refine ⟨hnd, by simp, fun x hx y hy e1 => ?_⟩
        rw [List.mem_singleton.1 hy] at e1
        exact hne2 (e1 ▸ hx)
      have hsub2 : ∀ b ∈ bs ++ [e.2.2], b ∈ es.map (·.2.2) := by
        intro b hb
        rcases List.mem_append.1 hb with h1 | h1
        · exact hsub b h1
        · rw [List.mem_singleton.1 h1]; exact List.mem_map.2 ⟨e, hee, rfl⟩
      have hlen := nodup_len _ _ hnd2 hsub2
      rw [List.length_append, List.length_singleton, List.length_map] at hlen
      have HIN : Hid (itn wr r = bs.length) := hin
      have HX : Hid ((bs ++ [e.2.2]).Nodup ∧ ∀ b ∈ bs ++ [e.2.2], b ∈ es.map (·.2.2)) := ⟨hnd2, hsub2⟩
      have HJ2 : Hid (Mj w2 r m c (bs ++ [e.2.2])) := hmj2
      have HM2 : Hid (Mp (Value.int .i64) w2 m (es.filter (dlf sz bs)) c) := hmp2
      have HK3 : Hid (Kp (fun i => i = m) w w2) := hk3
      have HEE : Hid (e ∈ es) := hee
      have HE1 : Hid (e.1 = (kk : Int)) := hk1
      rw [hk1] at hrun hent
      clear hnd2 hsub2 hin hmj2 hmp2 hk3 hk2 hkp hmj hmp hnd hsub he hne2 hee hk1
      generalize e.2.1 = u at hrun hent
      have cc := cut1_any (kk : Int) sz u Bx w2 hc2 (by omega) (by omega)
      have HP : Hid (pdl sz e = decide (sz ≤ (kk : Int) * 512)) := by show _ = _; unfold pdl; rw [HE1.out]
      cases hd : decide (sz ≤ (kk : Int) * 512) with
      | true =>
        rw [hd] at cc
        have HP2 : Hid (pdl sz e = true) := HP.out.trans hd
        clear hd
        go_wp2_with (first | (go_at_call 178; refine cc.mono ?_; rintro e' w' ⟨rfl, h⟩; replace h := h.symm; subst h) | (at_delete; refine wpList_delete_mp rfl (.tmp 17) (.tmp 18) rfl (ky_int Tryz.underlying2) Tryz.underlying161 m c (es.filter (dlf sz bs)) rfl HM2.out (kk : Int) rfl ?_; intro w4 m4 g4; have k4 : Kp (fun i => i = m) w2 w4 := Kp.of_grown g4 (fun i e => by cases e; rfl)))
        rw [← HE1.out, dlf_del HM.out.2 HEE.out HP2.out] at m4
        have hmj4 := HJ2.out.kp k4 hrm
        have hin4 := hmj4.itn
        rw [List.length_append, List.length_singleton] at hin4
        go_roundw
        case rel => (repeat apply Exists.intro); exact ⟨⟨_, hmj4, HX.out.1, HX.out.2, m4, HK3.out.trans k4 (fun _ _ h => h)⟩, rfl⟩
        case measure => rw [HIN.out, hin4]; omega
      | false =>
        rw [hd] at cc
        have HP2 : Hid (pdl sz e = false) := HP.out.trans hd
        clear hd
        go_wp2_with (first | (go_at_call 178; refine cc.mono ?_; rintro e' w' ⟨rfl, h⟩; replace h := h.symm; subst h))
        have hin4 := HJ2.out.itn
        rw [List.length_append, List.length_singleton] at hin4
        go_roundw
        case rel => exact ⟨_, HJ2.out, HX.out.1, HX.out.2, by rw [← dlf_keep HM.out.2 HEE.out HP2.out]; exact HM2.out, HK3.out⟩
        case measure => rw [HIN.out, hin4]; omega
end Go.Proofs.YtnccklbnncaeoaaGreat
/- sectors.cut: noughts from a size on. -/
namespace Go.Proofs.YtnccklbnncaeoaaGreat
open Go.RowKit

def cutf (n : Nat) (f : Nat → Int) : Nat → Int := fun i => if i < n then f i else 0
theorem cutf_zero (n : Nat) : cutf n zero = zero := by
  funext i
  unfold cutf zero
  split <;> rfl
theorem sec_cut_low {n k : Nat} {f : Nat → Int} (h : 512 * k + 512 ≤ n) : sec (cutf n f) k = sec f k := by
  rw [sec_ext]
  intro i hi
  unfold cutf
  rw [if_pos (by omega)]
theorem sec_cut_high {n k : Nat} {f g : Nat → Int} (h : n ≤ 512 * k) : sec (cutf n f) k = sec (cutf n g) k := by
  rw [sec_ext]
  intro i hi
  unfold cutf
  rw [if_neg (by omega), if_neg (by omega)]
theorem sec_cut_congr {n k : Nat} {f g : Nat → Int} (h : sec f k = sec g k) : sec (cutf n f) k = sec (cutf n g) k := by
  rw [sec_ext] at h ⊢
  intro i hi
  unfold cutf
  rw [h i hi]
theorem sec_at {f : Nat → Int} {k i : Nat} (h : i < 512) : (sec f k).getD i 0 = f (512 * k + i) := by
  unfold sec
  rw [List.getD_eq_getElem?_getD, List.getElem?_map, List.getElem?_range h]
  rfl
theorem sec_cut_mid {n : Nat} {f : Nat → Int} : splice (List.replicate 512 0) 0 ((sec f (n / 512)).take (n % 512)) = sec (cutf n f) (n / 512) := by
  have hl : ((sec f (n / 512)).take (n % 512)).length = n % 512 := by rw [List.length_take, sec_len]; omega
  have hr : 0 + ((sec f (n / 512)).take (n % 512)).length ≤ (List.replicate 512 (0 : Int)).length := by rw [hl, List.length_replicate]; omega
  have hs : (splice (List.replicate 512 0) 0 ((sec f (n / 512)).take (n % 512))).length = 512 := by rw [length_splice _ _ _ hr, List.length_replicate]
  refine ext_getD (by rw [hs, sec_len]) fun i hi => ?_
  rw [hs] at hi
  rw [getD_splice _ _ _ _ hr, sec_at hi, hl]
  unfold cutf
  by_cases h : i < n % 512
  · rw [if_pos ⟨Nat.zero_le _, by omega⟩, if_pos (by omega), Nat.sub_zero, ← sec_at (f := f) (k := n / 512) hi]
    simp only [List.getD_eq_getElem?_getD, List.getElem?_take, if_pos h]
  · rw [if_neg (by omega), if_neg (by omega)]
    rw [List.getD_eq_getElem?_getD, List.getElem?_replicate, if_pos hi]; rfl
theorem mget_cut (es : List (Int × Value × Nat)) (sz k : Int) : mget (es.filter (fun e => !pdl sz e)) k = if sz ≤ k * 512 then none else mget es k := by
  induction es with
  | nil => simp [mget]
  | cons e es ih =>
    by_cases hp : pdl sz e = true
    · rw [List.filter_cons_of_neg (by simp [hp]), ih]
      by_cases hk : k = e.1
      · have : sz ≤ k * 512 := by rw [hk]; simpa [pdl] using hp
        rw [if_pos this, if_pos this]
      · rw [show mget (e :: es) k = mget es k by unfold mget; rw [if_neg hk]; cases es <;> rfl]
    · rw [List.filter_cons_of_pos (by simpa using hp)]
      unfold mget
      by_cases hk : k = e.1
      · have : ¬ sz ≤ k * 512 := by rw [hk]; simpa [pdl] using hp
        rw [if_pos hk, if_pos hk, if_neg this]
      · rw [if_neg hk, if_neg hk]
        exact ih
/-- The map behind the cut: without a sector that the size lies in. -/
theorem sm_cut0 {D : Nat → Prop} {w W : World} {m c sz : Nat} {f d : Nat → Int} {es : List (Int × Value × Nat)} (h : Sm D w m f d es c) (hm : Mp (Value.int .i64) W m (es.filter (fun e => !pdl (sz : Int) e)) c) (k : Kp (fun i => i = m) w W) (hD : ∀ i, D i → ¬ i = m) (h0 : mget (es.filter (fun e => !pdl (sz : Int) e)) ((sz / 512 : Nat) : Int) = none) : Sm D W m (cutf sz f) (cutf sz d) (es.filter (fun e => !pdl (sz : Int) e)) c := by
  refine ⟨hm, fun e he => h.ks e (List.mem_filter.1 he).1, fun j u hu => ?_, fun j hj => ?_⟩
  · rw [mget_cut] at hu
    by_cases hs : (sz : Int) ≤ (j : Int) * 512
    · rw [if_pos hs] at hu; cases hu
    · rw [if_neg hs] at hu
      have hjk : j ≠ sz / 512 := fun e => by
        rw [← e, mget_cut, if_neg hs, hu] at h0; cases h0
      rw [sec_cut_low (by omega)]
      exact (h.so j u hu).kp k hD
  · rw [mget_cut] at hj
    by_cases hs : (sz : Int) ≤ (j : Int) * 512
    · exact sec_cut_high (by omega)
    · rw [if_neg hs] at hj
      exact sec_cut_congr (h.no j hj)
theorem sm_cut1 {D D' : Nat → Prop} {w W : World} {m c sz : Nat} {f d : Nat → Int} {es : List (Int × Value × Nat)} {v : Value} (h : Sm D w m f d es c) (hm : Mp (Value.int .i64) W m (mput (es.filter (fun e => !pdl (sz : Int) e)) ((sz / 512 : Nat) : Int) v c) (mclk (es.filter (fun e => !pdl (sz : Int) e)) ((sz / 512 : Nat) : Int) c)) (k : Kp (fun i => i = m) w W) (hD : ∀ i, D i → ¬ i = m) (hd : ∀ i, D i → D' i) (hv : Bs D' W v (sec (cutf sz f) (sz / 512))) (hsz : sz ≤ 268435456) : Sm D' W m (cutf sz f) (cutf sz d) (mput (es.filter (fun e => !pdl (sz : Int) e)) ((sz / 512 : Nat) : Int) v c) (mclk (es.filter (fun e => !pdl (sz : Int) e)) ((sz / 512 : Nat) : Int) c) := by
  refine ⟨hm, fun e he => ?_, fun j u hu => ?_, fun j hj => ?_⟩
  · rcases mem_mput he with h1 | h1
    · exact ⟨sz / 512, h1, by omega⟩
    · exact h.ks e (List.mem_filter.1 h1).1
  · rw [mget_put] at hu
    by_cases hjk : j = sz / 512
    · rw [if_pos (by rw [hjk])] at hu
      cases hu
      rw [hjk]; exact hv
    · rw [if_neg (by omega), mget_cut] at hu
      by_cases hs : (sz : Int) ≤ (j : Int) * 512
      · rw [if_pos hs] at hu; cases hu
      · rw [if_neg hs] at hu
        rw [sec_cut_low (by omega)]
        exact ((h.so j u hu).kp k hD).mono (fun i _ hi => hd i hi)
  · rw [mget_put] at hj
    by_cases hjk : j = sz / 512
    · rw [if_pos (by rw [hjk])] at hj; cases hj
    · rw [if_neg (by omega), mget_cut] at hj
      by_cases hs : (sz : Int) ≤ (j : Int) * 512
      · exact sec_cut_high (by omega)
      · rw [if_neg hs] at hj
        exact sec_cut_congr (h.no j hj)
end Go.Proofs.YtnccklbnncaeoaaGreat
/- sectors.cut: the walk. -/
namespace Go.Proofs.YtnccklbnncaeoaaGreat
open Go.RowKit

theorem lk67 {w w' : World} {m c : Nat} {es : List (Int × Value × Nat)} {k : Int} {v : Value} (h' : Mp (Value.int .i64) w' m es c) (h : Mp (Value.int .i64) w m es c) (hl : (Instr.lookup 161 (.map (some m)) (.int .i64 k) false).run Tryz.prog w = .ok v w) : (Instr.lookup 161 (.map (some m)) (.int .i64 k) false).run Tryz.prog w' = .ok v w' := by
  have h1 := run_lookup_mp (ky_int Tryz.underlying2) Tryz.underlying161 h (Tryz.zeroValue47 _) k
  have h2 := run_lookup_mp (ky_int Tryz.underlying2) Tryz.underlying161 h' (Tryz.zeroValue47 _) k
  rw [hl] at h1
  cases h1
  exact h2
set_option maxRecDepth 100000 in
set_option maxHeartbeats 2000000 in
theorem cut_any (D : Nat → Prop) (w : World) (m c sz : Nat) (f d : Nat → Int) (es : List (Int × Value × Nat)) (h : Sm D w m f d es c) (hb : sz ≤ 268435456) (hDm : ¬ D m) :
    Calls Tryz.prog 136 #[.map (some m), .int .i64 sz] w fun e w' => e = .returned (.tuple #[]) ∧ ∃ es' c', Sm (fun i => D i ∨ (w.heap.size ≤ i ∧ i < w'.heap.size)) w' m (cutf sz f) (cutf sz d) es' c' ∧ Kp (fun i => i = m) w w' ∧ ∀ j : Nat, j * 512 < sz → mget es (j : Int) ≠ none → mget es' (j : Int) ≠ none := by
  have hml := h.mp.lt
  have HSM : Hid (Sm D w m f d es c) := h
  have hD : ∀ i, D i → ¬ i = m := fun i hi e => hDm (e ▸ hi)
  have st := St.new 2 w #[.int .i64 sz]
  have k0 : Kp (fun _ => False) w (w.alloc (.cells #[.int .i64 sz] 2)) := (Kp.refl _ _).alloc _
  obtain ⟨e1, he1⟩ : ∃ e1, e1 = es.filter (fun e => !pdl (sz : Int) e) := ⟨_, rfl⟩
  have HE1 : Hid (e1 = es.filter (fun e => !pdl (sz : Int) e)) := he1
  have hq : (sz : Int) / 512 = ((sz / 512 : Nat) : Int) := by omega
  have hr : (sz : Int) % 512 = ((sz % 512 : Nat) : Int) := by omega
  have hr5 : sz % 512 < 512 := by omega
  obtain ⟨kq, hkq⟩ : ∃ kq, kq = sz / 512 := ⟨_, rfl⟩
  obtain ⟨kr, hkr⟩ : ∃ kr, kr = sz % 512 := ⟨_, rfl⟩
  rw [← hkq] at hq
  rw [← hkr] at hr hr5
  have HQ : Hid (kq = sz / 512 ∧ kr = sz % 512) := ⟨hkq, hkr⟩
  clear h hkq hkr he1
  go_enter Tryz.func136, Tryz.ntmps136
  go_wp2_with fail
  have hd := delf_any m c w.heap.size (sz : Int) es _ (kp_mp (F := fun _ => False) HSM.out.mp k0 (fun h => h)) HSM.out.ks (st.cell 0) (by omega)
  refine hd.mono ?_
  rintro e w1 ⟨rfl, m1, k1⟩
  rw [← HE1.out] at m1
  have K1 : Hid (Kp (fun i => i = m) w w1) := (k0.mono (G := fun i => i = m) (fun _ _ h => h.elim)).trans k1 (fun _ _ h => h)
  have M1 : Hid (Mp (Value.int .i64) w1 m e1 c) := m1
  have c0 : w1.cell? ⟨w.heap.size, 0, none⟩ = some (.int .i64 sz) := (st.kp k1 (by omega)).cell 0
  have ST1 : Hid (St 2 w1 w.heap.size #[.int .i64 sz]) := st.kp k1 (by omega)
  have hz1 : w.heap.size < w1.heap.size := ST1.out.lt
  clear hd m1 k1 st k0
  have hl1 : (Instr.lookup 161 (.map (some m)) (.int .i64 (kq : Int)) false).run Tryz.prog w1 = .ok ((mget e1 (kq : Int)).getD (.slice none 0 0)) w1 := run_lookup_mp (ky_int Tryz.underlying2) Tryz.underlying161 M1.out (Tryz.zeroValue47 _) (kq : Int)
  cases hg : mget e1 (kq : Int) with
  | none =>
    rw [hg] at hl1
    replace hl1 : (Instr.lookup 161 (.map (some m)) (.int .i64 (kq : Int)) false).run Tryz.prog w1 = .ok (.slice none 0 0) w1 := hl1
    have he : ∀ w : World, (binOp .eql 47 (.slice none 0 0) (.slice none 0 0)).run Tryz.prog w = .ok (.bool true) w := fun _ => rfl
    have HG : Hid (mget e1 (kq : Int) = none) := hg
    clear hg
    go_wp2
    refine bodyPost_ret (results_none rfl _ _ _) rfl ?_
    have hg0 := HG.out
    have hm1 := M1.out
    rw [HQ.out.1, HE1.out] at hg0
    rw [HE1.out] at hm1
    refine ⟨rfl, _, _, (sm_cut0 HSM.out hm1 K1.out hD hg0).mono (fun i _ hi => .inl hi), K1.out, fun j hj hne => ?_⟩
    rw [mget_cut, if_neg (by omega)]
    exact hne
  | some u =>
    have hlt : ¬ (sz : Int) ≤ (kq : Int) * 512 := fun hx => by
      rw [HE1.out, mget_cut, if_pos hx] at hg; cases hg
    have hbs := HSM.out.so kq u (by rw [HE1.out, mget_cut, if_neg hlt] at hg; exact hg)
    obtain ⟨ug, uo, uc, hue, hDu, hul, huc, hum, hucs⟩ := hbs.le
    rw [sec_len] at hue huc hucs
    subst hue
    rw [hg] at hl1
    replace hl1 : (Instr.lookup 161 (.map (some m)) (.int .i64 (kq : Int)) false).run Tryz.prog w1 = .ok (.slice (some ⟨ug, uo, none⟩) 512 uc) w1 := hl1
    have he : ∀ w : World, (binOp .eql 47 (.slice (some ⟨ug, uo, none⟩) 512 uc) (.slice none 0 0)).run Tryz.prog w = .ok (.bool false) w := fun _ => rfl
    have HCS : Hid (∀ i, i < 512 → w.cell? ⟨ug, uo + i, none⟩ = some (.int .u8 ((sec f kq).getD i 0))) := hucs
    have HDU : Hid (D ug) := hDu
    obtain ⟨Z, hZ⟩ : ∃ Z : List Int, List.replicate 512 0 = Z := ⟨_, rfl⟩
    have HZ : Hid (List.replicate 512 (0 : Int) = Z) := hZ
    clear hbs hucs hDu hg hZ
    have hux : kr ≤ uc := by omega
    have HL : Hid (((sec f kq).take kr).length = kr) := by show _ = _; rw [List.length_take, sec_len]; omega
    have HZL : Hid (Z.length = 512) := by show _ = _; rw [← HZ.out, List.length_replicate]
    have HCJ : Hid (∀ w2, Kp (fun _ => False) w1 w2 → ∀ j, j < ((sec f kq).take kr).length → w2.cell? (Addr.add ⟨ug, uo, none⟩ j) = some (.int .u8 (((sec f kq).take kr).getD j 0))) := by
      intro w2 k2 j hj
      rw [HL.out] at hj
      rw [add_o]
      have h1 := HCS.out j (by omega)
      have h2 : ((sec f kq).take kr).getD j 0 = (sec f kq).getD j 0 := by simp only [List.getD_eq_getElem?_getD, List.getElem?_take, if_pos hj]
      rw [h2]
      exact kp_cell k2 (kp_cell K1.out h1 (hD _ HDU.out)) (fun h => h)
    have HSP : Hid (splice Z 0 ((sec f kq).take kr) = sec (cutf sz f) kq) := by show _ = _; rw [← HZ.out, HQ.out.1, HQ.out.2]; exact sec_cut_mid
    go_wp2_with (first | (at_make; refine wpList_make_rw (κ := .u8) 47 5 1 Tryz.underlying47 Tryz.info5 (by decide) rfl _ _ rfl 512 rfl rfl (by omega) ?_; intro w2 r2 b2; rw [HZ.out] at r2; have R2 : Hid (Rw .u8 5 w2 w1.heap.size Z) := r2; have k2 : Kp (fun _ => False) w1 w2 := Kp.of_below b2; have K2 : Hid (Kp (fun _ => False) w1 w2) := k2; have M2 : Hid (Mp (Value.int .i64) w2 m e1 c) := kp_mp M1.out k2 (fun h => h); have c2 : w2.cell? ⟨w.heap.size, 0, none⟩ = some (.int .i64 sz) := kp_cell k2 c0 (fun h => h); have hl2 : (Instr.lookup 161 (.map (some m)) (.int .i64 (kq : Int)) false).run Tryz.prog w2 = .ok (.slice (some ⟨ug, uo, none⟩) 512 uc) w2 := lk67 M2.out M1.out hl1; clear r2 b2 k2) | (at_mapUpdate; refine wpList_update_mp rfl _ _ _ rfl (ky_int Tryz.underlying2) Tryz.underlying161 m c e1 rfl M3.out (kq : Int) rfl (.slice (some ⟨w1.heap.size, 0, none⟩) 512 512) rfl ?_; intro w4 m4 g4) | (refine wpList_copy_rw rfl (.tmp 16) (.tmp 22) 47 47 rfl 5 Tryz.underlying47 info5s _ _ _ _ _ _ rfl rfl w1.heap.size 0 5 Z ((sec f kq).take kr) R2.out (by rw [HL.out]; exact (Nat.min_eq_left (by omega)).symm) (fun _ => ⟨rfl, _, rfl, HCJ.out w2 K2.out⟩) (by rw [HL.out, HZL.out]; omega) ?_; intro w3 r3 g3; rw [HSP.out] at r3; have R3 : Hid (Rw .u8 5 w3 w1.heap.size (sec (cutf sz f) kq)) := r3; have k3 : Kp (fun i => i = w1.heap.size) w2 w3 := Kp.of_grown g3 (fun i e => by cases e; rfl); have K3 : Hid (Kp (fun i => i = w1.heap.size) w2 w3) := k3; have M3 : Hid (Mp (Value.int .i64) w3 m e1 c) := kp_mp M2.out k3 (by have := M1.out.lt; omega); clear r3 g3 k3))
    go_end0
    have hz2 := K2.out.size
    have hz3 := K3.out.size
    have hm1 := M1.out.lt
    have R4 := R3.out.grown g4 (by intro e; cases e; omega)
    have k4 : Kp (fun i => i = m) w3 w4 := Kp.of_grown g4 (fun i e => by cases e; rfl)
    have kA : Kp (fun i => i = m) w w4 := ((K1.out.trans K2.out (fun _ _ h => h.elim)).trans K3.out (fun i hi h => by omega)).trans k4 (fun _ _ h => h)
    rw [HE1.out, HQ.out.1] at m4
    rw [HQ.out.1] at R4
    have hv : Bs (fun i => D i ∨ (w.heap.size ≤ i ∧ i < w4.heap.size)) w4 (.slice (some ⟨w1.heap.size, 0, none⟩) 512 512) (sec (cutf sz f) (sz / 512)) := ⟨w1.heap.size, 0, 512, by rw [sec_len], .inr ⟨by omega, R4.lt⟩, R4.lt, by rw [sec_len]; exact Nat.le_refl _, by unfold maxLen; omega, fun i hi => R4.cells i hi⟩
    refine ⟨rfl, _, ⟨_, sm_cut1 HSM.out m4 kA hD (fun i hi => .inl hi) hv hb⟩, kA, fun j hj hne => ?_⟩
    rw [mget_put]
    split
    · exact fun h => by cases h
    · rw [mget_cut, if_neg (by omega)]; exact hne
end Go.Proofs.YtnccklbnncaeoaaGreat
