import Derived.Test.YtnccklbnncaeoaaGreatJbc
import Derived.Test.YtnccklbnncaeoaaGreatJbb
import Derived.Shelf.SlSortCmp.Whole1
import Derived.Shelf.SlSortCmp.NoneTotal
import Derived.Shelf.Lay
import Derived.Ground.SlsfProg
import Derived.Deep.CutRange
/- cache: rising: pages of an iterator, by their numbers. -/
namespace Go.Proofs.YtnccklbnncaeoaaGreat
open Go.Shelf Go.RowKit Go.Lib Go.Sort
set_option linter.unusedVariables false
set_option linter.unusedSimpArgs false
shelf_lay_g SlLaysF.n6 Slsf 6 at Tryz 152 as Tryz.srtP
def cmpi (a b : Int) : Int := if a < b then -1 else if b < a then 1 else 0
set_option maxHeartbeats 2000000 in
theorem isNaN_any (a : Int) (w : World) : Calls Tryz.prog 153 #[.int .i64 a] w fun e w' => e = .returned (.bool false) ∧ w = w' := by
  go_enter Tryz.func153, Tryz.ntmps153
  go_wp2
  go_ret
  exact ⟨by simp, rfl⟩
set_option maxHeartbeats 2000000 in
theorem compare_any (a b : Int) (w : World) : Calls Tryz.prog 119 #[.int .i64 a, .int .i64 b] w fun e w' => e = .returned (.int .i64 (cmpi a b)) ∧ w' = w := by
  have h1 := isNaN_any a
  have h2 := isNaN_any b
  unfold cmpi
  by_cases ha : a < b
  · rw [if_pos ha]
    go_enter Tryz.func119, Tryz.ntmps119
    go_wp2_with fail
    refine (h1 _).mono ?_
    rintro e w1 ⟨rfl, rfl⟩
    go_wp2_with fail
    refine (h2 _).mono ?_
    rintro e w1 ⟨rfl, rfl⟩
    go_wp2_with fail
    go_ret
    exact ⟨rfl, rfl⟩
  · rw [if_neg ha]
    by_cases hb : b < a
    · rw [if_pos hb]
      go_enter Tryz.func119, Tryz.ntmps119
      go_wp2_with fail
      refine (h1 _).mono ?_
      rintro e w1 ⟨rfl, rfl⟩
      go_wp2_with fail
      refine (h2 _).mono ?_
      rintro e w1 ⟨rfl, rfl⟩
      go_wp2_with fail
      go_ret
      exact ⟨rfl, rfl⟩
    · rw [if_neg hb]
      go_enter Tryz.func119, Tryz.ntmps119
      go_wp2_with fail
      refine (h1 _).mono ?_
      rintro e w1 ⟨rfl, rfl⟩
      go_wp2_with fail
      refine (h2 _).mono ?_
      rintro e w1 ⟨rfl, rfl⟩
      go_wp2_with fail
      go_ret
      exact ⟨rfl, rfl⟩
set_option maxHeartbeats 2000000 in
theorem rise1_any (c : Nat → Pc) (w : World) (a b s t : Nat) (ha : Wt c w a s) (hb : Wt c w b t) : Calls Tryz.prog 118 #[ptr a, ptr b] w fun e w' => e = .returned (.int .i64 (cmpi (c a).n (c b).n)) ∧ ∃ q, w' = w.drewN q := by
  have y1 := St.cell ha 0
  have y2 := St.cell hb 0
  simp [Pc.cs] at y1 y2
  have HC := hid (compare_any (c a).n (c b).n)
  generalize cmpi (c a).n (c b).n = r at HC ⊢
  clear ha hb
  unfold ptr
  go_enter Tryz.func118, Tryz.ntmps118
  go_wp2
  go_quiet (first | (go_at_call 119; refine Calls.quiet_of_same (HC.out _)))
  go_wp2
  go_ret
  exact ⟨rfl, _, rfl⟩
theorem sort_kp {α : Type} [Inhabited α] {enc : α → Value} {w : World} {blk m : Nat} {dk : Array α} {os : Array Obj} : Kp (fun k => k = blk) w (sortWorld enc w blk 0 m dk os) := by
  unfold sortWorld
  refine ⟨rfl, rfl, rfl, ?_, fun k hk hne => ?_⟩
  · simp [grow, putRow, mapBlock, Sort.ahead]
  · simp [grow, putRow, mapBlock, Sort.ahead, Array.getElem?_append, hk, Array.getElem_modify, show blk ≠ k from fun e => hne e.symm]
theorem lt_cf {α : Type} (f : α → Nat) (x y : α) : ltOf (fun x y : α => cmpi (f x) (f y)) x y = decide (f x < f y) := by
  unfold ltOf cmpi
  by_cases h1 : f x < f y
  · have : (f x : Int) < f y := by omega
    simp [h1]
  · by_cases h2 : f y < f x <;> simp [h1, h2]
theorem swo_cf {α : Type} (f : α → Nat) : SWO (ltOf (fun x y : α => cmpi (f x) (f y))) where
  irrefl x := by rw [lt_cf]; simp
  trans x y z h1 h2 := by rw [lt_cf] at *; simp at *; omega
  ntrans x y z h1 h2 := by rw [lt_cf] at *; simp at *; omega
/-- By their numbers. -/
def Rising (c : Nat → Pc) (l : List Nat) : Prop := l.Pairwise fun x y => (c x).n ≤ (c y).n
theorem sortp_any (c : Nat → Pc) (w : World) (base g cap : Nat) (l : List Nat) (h : w.ownsRow base 138 1 (.slice (some ⟨g, 0, none⟩) l.length cap) l.length (l.map ptr)) (hn : l.length < 4611686018427387904) (hl : 0 < l.length) (hw : ∀ b ∈ l, ∃ s, Wt c w b s) :
    Calls Tryz.prog 152 #[.slice (some ⟨g, 0, none⟩) l.length cap, .func (.func 118) #[] #[]] w fun e w' => e = .returned (.tuple #[]) ∧ ∃ l', l'.Perm l ∧ Rising c l' ∧ w'.ownsRow base 138 1 (.slice (some ⟨g, 0, none⟩) l.length cap) l.length (l'.map ptr) ∧ Kp (fun k => k = g) w w' := by
  have eg : ∀ args w, (callFunc 118 args).run Tryz.prog w = .ok (.enter 118 args) w := enters_of Tryz.func118 (by kernel_rfl) rfl
  have hgl : g < w.heap.size := by
    rcases h.2 with ⟨e0, _⟩ | ⟨g', cap', cur, e0, hb, hg, _⟩
    · cases e0
    · cases e0
      exact (Array.getElem?_eq_some_iff.1 hg).1
  haveI : Inhabited { b : Nat // b ∈ l } := ⟨⟨l.getD 0 0, gn_mem hl⟩⟩
  have hgb : ∀ b ∈ l, b ≠ g := fun b hb e => by
    obtain ⟨s, hs⟩ := hw b hb
    subst e
    obtain ⟨cur, h1, _⟩ := ownb h rfl
    exact apart_types hs h1 (by decide)
  have hdm : (l.attach.map (fun x => ptr x.1)) = l.map ptr := by
    rw [show (fun x : { b // b ∈ l } => ptr x.1) = ptr ∘ Subtype.val from rfl, ← List.map_map, List.attach_map_subtype_val]
  have hH : Holds (fun x : { b : Nat // b ∈ l } => ptr x.1) w g 0 l.attach.toArray := by
    intro j hj
    have hj2 : j < l.length := by simpa using hj
    obtain ⟨cur, h1, _⟩ := ownb h rfl
    refine ⟨?_, frozen_of_row w g _ cur 138 h1⟩
    have := h.cells (g := g) rfl j (ptr l[j]) (by simp [hj2])
    rw [add_z] at this
    rw [Nat.zero_add, this, getElem!_pos _ j hj]
    simp
  have hcm : CmpLays1 Tryz.prog 118 #[] (fun x : { b : Nat // b ∈ l } => ptr x.1) (fun x y => cmpi (c x.1).n (c y.1).n) g 0 l.attach.toArray.size w := by
    intro m os dk hs x y
    obtain ⟨s1, h1⟩ := hw x.1 x.2
    obtain ⟨s2, h2⟩ := hw y.1 y.2
    refine (rise1_any c _ x.1 y.1 s1 s2 (h1.kp sort_kp (hgb _ x.2)) (h2.kp sort_kp (hgb _ y.2))).mono ?_
    rintro e w' ⟨rfl, q, rfl⟩
    exact ⟨rfl, q, #[], (grow_empty _).symm⟩
  have hsz : l.attach.toArray.size = l.length := by simp
  have hcon := Any.slices_SortFunc Tryz.srtP (fun x : { b : Nat // b ∈ l } => ptr x.1) (fun _ => rfl) (fun x y => cmpi (c x.1).n (c y.1).n) (swo_cf (fun x : { b : Nat // b ∈ l } => (c x.1).n)) 118 #[] g 0 cap l.attach.toArray w eg hcm hH hgl (by rw [hsz]; exact hn)
  rw [hsz] at hcon
  change Calls Tryz.prog 152 _ _ _ at hcon
  refine Calls.mono hcon ?_
  rintro e w' ⟨rfl, d', q, os, hp, hs, rfl⟩
  obtain ⟨p1, _, p3⟩ := hp
  rw [hsz] at p1
  have hperm : (d'.toList.map Subtype.val).Perm l := by
    have h1 : (d'.extract 0 l.length).toList = d'.toList := by rw [show l.length = d'.size from p1.symm]; simp
    have h2 : (l.attach.toArray.extract 0 l.length).toList = l.attach := by simp [List.take_of_length_le]
    rw [h1, h2] at p3
    have := p3.map Subtype.val
    rw [List.attach_map_subtype_val] at this
    exact this
  refine ⟨rfl, d'.toList.map Subtype.val, hperm, ?_, ?_, sort_kp⟩
  · refine List.pairwise_iff_getElem.2 fun i j hi hj hij => ?_
    have hi2 : i < d'.size := by simpa using hi
    have hj2 : j < d'.size := by simpa using hj
    have := hs i j (Nat.zero_le _) hij (by omega)
    rw [lt_cf (fun x : { b : Nat // b ∈ l } => (c x.1).n), getElem!_pos d' j hj2, getElem!_pos d' i hi2] at this
    simp at this
    simpa using this
  · have hlen : (d'.toList.map Subtype.val).length = l.length := hperm.length_eq
    unfold sortWorld putRow
    rcases h.2 with ⟨e0, _⟩ | ⟨g', cap', cur, e0, hb, hg, hn2, hm, hs2, ht⟩
    · cases e0
    · cases e0
      refine ⟨by simp [p1], .inr ⟨g, cap, putCells (fun x : { b : Nat // b ∈ l } => ptr x.1) 0 d' cur, rfl, hb, ?_, hn2, hm, by simpa [putCells] using hs2, ?_⟩⟩
      · show ((w.heap.modify g (onCells (putCells _ 0 d'))) ++ os)[g]? = _
        rw [Array.getElem?_append_left (by simpa using hgl), Array.getElem?_modify, if_pos rfl, hg]
        rfl
      · apply List.ext_getElem?
        intro j
        by_cases hj : j < l.length * 1
        · rw [List.getElem?_take_of_lt hj, Array.getElem?_toList]
          have hjc : j < cur.size := by rw [hs2]; omega
          have hjd : j < d'.size := by omega
          simp only [putCells, Array.getElem?_mapIdx, Array.getElem?_eq_getElem hjc, Option.map_some]
          rw [if_pos (by simp; omega)]
          simp [getElem!_pos, hjd]
        · rw [List.getElem?_eq_none (by simp; omega), List.getElem?_eq_none (by simp [p1]; omega)]
end Go.Proofs.YtnccklbnncaeoaaGreat
/- cache: Collect, SortedFunc, rising; Values. -/
namespace Go.Proofs.YtnccklbnncaeoaaGreat
open Go.Shelf Go.RowKit
set_option linter.unusedVariables false
set_option linter.unusedSimpArgs false
set_option maxHeartbeats 2000000 in
theorem collect_any (w : World) (gf : Nat) (lb : Array Value) (en : Enters Tryz.prog gf) (P1 : List Nat → Prop) (Sp : List Nat → Prop) (O0 : Nat → Prop) (hq : SeqW Fence.wide 19 Tryz.prog gf #[] lb (fun b : Nat => #[ptr b]) (fun ys X => P1 ys ∧ KR O0 w X) (fun _ _ => True) Sp O0 w) (hO : ∀ i, O0 i → i < w.heap.size) (hlen : ∀ pre, Sp pre → pre.length ≤ 1000000) :
    Calls Tryz.prog 151 #[.func (.func gf) #[] lb] w fun e w' => ∃ ys v, P1 ys ∧ e = .returned v ∧ w'.ownsRow w.heap.size 138 1 v ys.length (ys.map ptr) ∧ Kp (fun _ => False) w w' := by
  have HA := hid (appseq_any w gf lb en P1 Sp O0 hq hO hlen)
  clear hq hO hlen
  go_enter Tryz.func151, Tryz.ntmps151
  go_wp2_with (first | (go_at_call 183; refine HA.out.mono ?_; rintro _ w1 ⟨ys, v, h1, rfl, h2, h3⟩))
  go_ret
  exact ⟨ys, v, h1, rfl, h2, h3⟩
def RsP (w : World) (c : Nat → Pc) (P1 : List Nat → Prop) (e : Ending) (w' : World) : Prop := ∃ l v, e = .returned v ∧ w'.ownsRow w.heap.size 138 1 v l.length (l.map ptr) ∧ Rising c l ∧ (∃ ys, P1 ys ∧ l.Perm ys) ∧ Kp (fun _ => False) w w'
set_option maxHeartbeats 2000000 in
theorem rising_any (c : Nat → Pc) (w : World) (gf : Nat) (lb : Array Value) (en : Enters Tryz.prog gf) (P1 : List Nat → Prop) (Sp : List Nat → Prop) (O0 : Nat → Prop) (hq : SeqW Fence.wide 19 Tryz.prog gf #[] lb (fun b : Nat => #[ptr b]) (fun ys X => P1 ys ∧ KR O0 w X) (fun _ _ => True) Sp O0 w) (hO : ∀ i, O0 i → i < w.heap.size) (hlen : ∀ pre, Sp pre → pre.length ≤ 1000000)
    (hP : ∀ ys, P1 ys → ys.length ≤ 1000000 ∧ ∀ b ∈ ys, ∃ s, Wt c w b s) :
    Calls Tryz.prog 73 #[.func (.func gf) #[] lb] w (RsP w c P1) := by
  have HA := hid (collect_any w gf lb en P1 Sp O0 hq hO hlen)
  have HS : Hid (∀ w1 ys v, P1 ys → w1.ownsRow w.heap.size 138 1 v ys.length (ys.map ptr) → Kp (fun _ => False) w w1 → Calls Tryz.prog 152 #[v, .func (.func 118) #[] #[]] w1 fun e w' => e = .returned (.tuple #[]) ∧ RsP w c P1 (.returned v) w') := fun w1 ys v h1 h2 h3 => by
    obtain ⟨h4, h5⟩ := hP ys h1
    cases hy : ys with
    | nil =>
      subst hy
      obtain ⟨rfl⟩ : v = v := rfl
      rcases h2.2 with ⟨e, _⟩ | ⟨g, cap, cur, e, _⟩
      · subst e
        have hcon := AnyF.slices_SortFunc_none { Tryz.srtP with } none 0 (.func (.func 118) #[] #[]) w1
        change Calls Tryz.prog 152 _ _ _ at hcon
        refine hcon.mono ?_
        rintro e w2 ⟨rfl, rfl⟩
        exact ⟨rfl, [], _, rfl, h2, List.Pairwise.nil, ⟨[], h1, List.Perm.refl _⟩, h3⟩
      · subst e
        have hcon := AnyF.slices_SortFunc_none { Tryz.srtP with } (some ⟨g, 0, none⟩) cap (.func (.func 118) #[] #[]) w1
        change Calls Tryz.prog 152 _ _ _ at hcon
        refine hcon.mono ?_
        rintro e w2 ⟨rfl, rfl⟩
        exact ⟨rfl, [], _, rfl, h2, List.Pairwise.nil, ⟨[], h1, List.Perm.refl _⟩, h3⟩
    | cons y l =>
      have hl : 0 < ys.length := by rw [hy]; simp
      have h2' := h2
      rcases h2.2 with ⟨_, h0⟩ | ⟨g, cap, cur, e, hb, _⟩
      · omega
      · subst e
        refine (sortp_any c w1 w.heap.size g cap ys h2' (by omega) hl (fun b hb => by
          obtain ⟨s, hs⟩ := h5 b hb
          exact ⟨s, hs.kp h3 (fun h => h)⟩)).mono ?_
        rintro e w2 ⟨rfl, l', hp, hr, ho, hk⟩
        refine ⟨rfl, l', _, rfl, ?_, hr, ⟨ys, h1, hp⟩, h3.trans hk (fun i hi e => by omega)⟩
        rw [hp.length_eq]
        exact ho
  clear hq hO hlen hP
  have HF : Hid (Calls Tryz.prog 117 #[.func (.func gf) #[] lb, .func (.func 118) #[] #[]] w (RsP w c P1)) := by
    show Calls _ _ _ _ _
    go_enter Tryz.func117, Tryz.ntmps117
    go_wp2_with (first
      | (go_at_call 151; refine HA.out.mono ?_; rintro _ w1 ⟨ys, v, h1, rfl, h2, h3⟩; have H1 := hid (HS.out w1 ys v h1 h2 h3); clear h1 h2 h3)
      | (go_at_call 152; refine H1.out.mono ?_; rintro _ w2 ⟨rfl, h4⟩))
    go_ret
    exact h4
  go_enter Tryz.func73, Tryz.ntmps73
  go_wp2_with (first | (go_at_call 117; refine HF.out.mono ?_; rintro _ w1 ⟨l, v, rfl, h1⟩))
  go_ret
  exact ⟨l, v, rfl, h1⟩
set_option maxHeartbeats 2000000 in
theorem mvals_any (m : Nat) (w : World) : Calls Tryz.prog 114 #[.map (some m)] w fun e w' => e = .returned (.func (.func 148) #[] #[.pointer (some ⟨w.heap.size, 0, none⟩)]) ∧ w' = w.alloc (.cells #[.map (some m)] 106) := by
  go_enter Tryz.func114, Tryz.ntmps114
  go_wp2
  go_ret
  exact ⟨rfl, rfl⟩
set_option maxHeartbeats 2000000 in
theorem vals_any (ao : Option Addr) (n cap : Nat) (w : World) : Calls Tryz.prog 74 #[.slice ao n cap] w fun e w' => e = .returned (.func (.func 120) #[] #[.pointer (some ⟨w.heap.size, 0, none⟩)]) ∧ w' = w.alloc (.cells #[.slice ao n cap] 108) := by
  go_enter Tryz.func74, Tryz.ntmps74
  go_wp2
  go_ret
  exact ⟨rfl, rfl⟩
/-- Of a map of pages. -/
theorem rmap_any (c : Nat → Pc) (w : World) (bt m : Nat) (L : List Nat) (hm : Mn c w m L) (hs : St 106 w bt #[.map (some m)]) (hL : L.length ≤ 1000000) (hw : ∀ b ∈ L, ∃ s, Wt c w b s) :
    Calls Tryz.prog 73 #[.func (.func 148) #[] #[.pointer (some ⟨bt, 0, none⟩)]] w (RsP w c (fun ys => ys.Perm L)) :=
  rising_any c w 148 _ (enters_of Tryz.func148 (by kernel_rfl) rfl) _ _ _ (mval_seq 19 (by omega) bt m c L w hm hs) (fun i hi => by
    rcases hi with rfl | rfl
    · exact hs.lt
    · exact hm.lt) (fun pre hp => by
      have := nodup_len pre L hp.1 hp.2
      omega) (fun ys hp => ⟨by rw [hp.length_eq]; exact hL, fun b hb => hw b (hp.mem_iff.1 hb)⟩)
/-- Of a row of pages. -/
theorem rrow_any (c : Nat → Pc) (w : World) (bt : Nat) (v : Value) (L : List Nat) (ho : w.ownsRow 0 138 1 v L.length (L.map ptr)) (hs : St 108 w bt #[v]) (hL : L.length ≤ 1000000) (hw : ∀ b ∈ L, ∃ s, Wt c w b s) :
    Calls Tryz.prog 73 #[.func (.func 120) #[] #[.pointer (some ⟨bt, 0, none⟩)]] w (RsP w c (fun ys => ys = L)) :=
  rising_any c w 120 _ (enters_of Tryz.func120 (by kernel_rfl) rfl) _ _ _ (val_seq 19 (by omega) bt v L w ho hs) (fun i hi => by
    rcases hi with rfl | e
    · exact hs.lt
    · obtain ⟨cur, h1, _⟩ := ownb ho e
      exact (Array.getElem?_eq_some_iff.1 h1).1) (fun pre hp => by
      obtain ⟨j, hj, rfl⟩ := hp
      rw [List.length_take]
      omega) (fun ys hp => by subst hp; exact ⟨hL, hw⟩)
end Go.Proofs.YtnccklbnncaeoaaGreat
/- cache: a page's pending and dirty marks; the row of those that are pending grows. -/
namespace Go.Proofs.YtnccklbnncaeoaaGreat
open Go.RowKit
set_option linter.unusedVariables false
set_option linter.unusedSimpArgs false
section
variable {S : ByteArray} {g bits room Q : Nat} {G : Gc} {w : World}
/-- A page's cells are others now, but for its bytes. -/
theorem Cm.pageK (h : Cm S g bits room Q G w) {b : Nat} (hb : b ∈ G.B) {p : Pc} {w' : World} (hs : ∀ s, Wt G.c w b s → St 142 w' b (p.cs s)) (k : Kp (fun i => i = b) w w') (hn : p.n = (G.c b).n) (hw : p.wm = (G.c b).wm) (hr : p.rm = (G.c b).rm) (hm : b ∈ G.L → Mayp p) (hv : p.bv = (G.c b).bv) : Cm S g bits room Q { G with c := upd G.c b p } w' := by
  have := Cm.page h hb (p := p) (y := G.y b) (w' := w') hs k hn hw hr hm (by rw [hv]; exact (h.pg b hb).ys.kp k (fun i zs e => tag_ne (h.yt hb e) (h.pt hb) (by decide))) (fun i zs e a ha hab zs' e2 => hab (h.yi a ha b hb i zs' zs e2 e))
  rw [upd_self] at this
  exact this
theorem Cm.setpe (h : Cm S g bits room Q G w) {b : Nat} (hb : b ∈ G.B) : Cm S g bits room Q { G with c := upd G.c b { G.c b with pe := true } } (w.setCell ⟨b, 3, none⟩ (.bool true)) ∧ Kp (fun i => i = b) w (w.setCell ⟨b, 3, none⟩ (.bool true)) := by
  have hk : Kp (fun i => i = b) w (w.setCell ⟨b, 3, none⟩ (.bool true)) := kp_setCell w b 3 _ (fun i => i = b) rfl
  have hm : b ∈ G.L → Mayp { G.c b with pe := true } := fun hl => h.ln.may b hl
  exact ⟨h.pageK hb (fun s hs => by have h2 := St.set hs 3 (.bool true); simpa [Pc.cs] using h2) hk rfl rfl rfl hm rfl, hk⟩
theorem Cm.setdi (h : Cm S g bits room Q G w) {b : Nat} (hb : b ∈ G.B) (d : Bool) : Cm S g bits room Q { G with c := upd G.c b { G.c b with di := d } } (w.setCell ⟨b, 2, none⟩ (.bool d)) ∧ Kp (fun i => i = b) w (w.setCell ⟨b, 2, none⟩ (.bool d)) := by
  have hk : Kp (fun i => i = b) w (w.setCell ⟨b, 2, none⟩ (.bool d)) := kp_setCell w b 2 _ (fun i => i = b) rfl
  have hm : b ∈ G.L → Mayp { G.c b with di := d } := fun hl => h.ln.may b hl
  exact ⟨h.pageK hb (fun s hs => by have h2 := St.set hs 2 (.bool d); simpa [Pc.cs] using h2) hk rfl rfl rfl hm rfl, hk⟩
theorem Cm.n3 (h : Cm S g bits room Q G w) (n : Nat) : Cm S g bits room Q { G with n3 := n } (w.setCell ⟨Q, 10, none⟩ (.int .i64 n)) := by
  refine Cm.nums h (w' := w.setCell ⟨Q, 10, none⟩ (.int .i64 n)) ?_ (kp_setCell w Q 10 _ (fun i => i = Q) rfl)
  have h2 := St.set h.st 10 (.int .i64 n)
  simpa using h2
/-- The row of those that are pending, with one more: where the appended row lies. -/
theorem Cm.pendb (h : Cm S g bits room Q G w) {b : Nat} (hb : b ∈ G.B) {v : Value} {w1 : World} (ho : w1.ownsRow 0 138 1 v (G.P.length + 1) (G.P.map ptr ++ [ptr b])) (k : Kp (fun i => G.pv.ownBlock = some i) w w1) (hl : v.ownBlock = G.pv.ownBlock ∨ ∃ i, v.ownBlock = some i ∧ w.heap.size ≤ i) : Cm S g bits room Q { G with pv := v, P := G.P ++ [b] } (w1.setCell ⟨Q, 6, none⟩ v) ∧ Kp (fun i => i = Q ∨ G.pv.ownBlock = some i) w (w1.setCell ⟨Q, 6, none⟩ v) := by
  have k2 : Kp (fun i => i = Q ∨ G.pv.ownBlock = some i) w (w1.setCell ⟨Q, 6, none⟩ v) := (k.mono (fun _ _ e => .inr e)).trans (kp_setCell w1 Q 6 v (fun i => i = Q) rfl) (fun _ _ e => .inl e)
  have hnQ : ¬ G.pv.ownBlock = some Q := fun e => tag_ne (own_tag h.pd e) h.st.tag (by decide) rfl
  refine ⟨Cm.pend h (w' := w1.setCell ⟨Q, 6, none⟩ v) ?_ ?_ k2 (fun a ha => ?_) (.inr hl), k2⟩
  · have h2 := St.set (h.st.kp k hnQ) 6 v
    simpa using h2
  · have h3 : w1.ownsRow 0 138 1 v (G.P ++ [b]).length ((G.P ++ [b]).map ptr) := by
      rw [List.length_append, List.length_singleton, List.map_append, List.map_singleton]; exact ho
    refine own_kp h3 (kp_setCell w1 Q 6 v (fun i => i = Q) rfl) (fun i e e2 => ?_)
    change i = Q at e2
    subst e2
    exact tag_ne (own_tag ho e) ((h.st.kp k hnQ).tag) (by decide) rfl
  · rcases List.mem_append.1 ha with h1 | h1
    · exact h.pb a h1
    · rw [List.mem_singleton.1 h1]; exact hb
end
end Go.Proofs.YtnccklbnncaeoaaGreat
/- cache: writeBack. -/
namespace Go.Proofs.YtnccklbnncaeoaaGreat
open Go.RowKit
set_option linter.unusedVariables false
set_option linter.unusedSimpArgs false
/-- A page is marked as pending, and its writing is counted. -/
structure WrH (G : Gc) (b : Nat) (G' : Gc) : Prop where
  kl : G'.kl = G.kl
  pm : G'.pm = G.pm
  B : G'.B = G.B
  K : G'.K = G.K
  W : G'.W = G.W
  R : G'.R = G.R
  y : G'.y = G.y
  t : G'.t = G.t
  n1 : G'.n1 = G.n1
  n2 : G'.n2 = G.n2
  n3 : G'.n3 = G.n3 + 1
  n4 : G'.n4 = G.n4
  L : G'.L = G.L
  lv : G'.lv = G.lv
  c : ∀ a, G'.c a = if a = b then { G.c b with pe := true } else G.c a
  P : G'.P = if (G.c b).pe then G.P else G.P ++ [b]
theorem pc_pe {c : Pc} (h : c.pe = true) : { c with pe := true } = c := by
  cases c
  simp only at h
  rw [h]
theorem Cv.mlen {S : ByteArray} {g bits room Q N : Nat} {G : Gc} {q : Gf} {ft : List (Int × Int)} {F : Nat → Prop} {w : World} (h : Cv S g bits room Q N G q ft F w) {m : Nat} {L : List Nat} (hm : Mn G.c w m L) (hB : ∀ b ∈ L, b ∈ G.B) : L.length ≤ 1000000 := by
  have h1 := hm.numbers
  have h2 := nodup_len (L.map (fun b => (G.c b).n)) (List.range 524288) h1 (fun x hx => by
    obtain ⟨b, hb, rfl⟩ := List.mem_map.1 hx
    have h3 := h.nb b (hB b hb)
    have h4 : 268435456 / 2 ^ bits ≤ 524288 := by
      have : 2 ^ 9 ≤ 2 ^ bits := Nat.pow_le_pow_right (by omega) h.bb.1
      calc 268435456 / 2 ^ bits ≤ 268435456 / 2 ^ 9 := Nat.div_le_div_left this (by decide)
        _ = 524288 := by decide
    rw [List.mem_range]
    omega)
  simp at h2
  omega
/-- What holds of the page that is written back, when nobody is ahead of it any more. -/
structure Wq (S : ByteArray) (g bits room Q N : Nat) (rk : Nat → Nat) (n : Nat) (G : Gc) (q : Gf) (ft : List (Int × Int)) (F : Nat → Prop) (w : World) (b k : Nat) (G' : Gc) (q' : Gf) (ft' : List (Int × Int)) (F' : Nat → Prop) (w' : World) : Prop where
  cv : Cv S g bits room Q (N + k) G' q' ft' F' w'
  ch : Cch Q G G' F F' w w'
  rc : Rc bits k ⟨G, q, ft⟩ ⟨G', q', ft'⟩
  bd : k + mu G' ≤ mu G
  hi : ∀ a, rk b ≤ rk a → (G'.c a).di = (G.c a).di
  nw : G'.W b = []
theorem Cv.wB {S : ByteArray} {g bits room Q N : Nat} {G : Gc} {q : Gf} {ft : List (Int × Int)} {F : Nat → Prop} {w : World} (h : Cv S g bits room Q N G q ft F w) {b a : Nat} (ha : a ∈ G.W b) : a ∈ G.B := h.iv.kb a (h.iv.wk b a ha).2
set_option maxHeartbeats 8000000 in
set_option maxRecDepth 100000 in
theorem wb_step {S : ByteArray} {g bits room Q : Nat} (rk : Nat → Nat) (n : Nat) (IH : ∀ m, m < n → WbIH S g bits room Q rk m) : WbIH S g bits room Q rk n := by
  intro N G q ft F w b h hrk hrb hbB hdi hN
  obtain ⟨s0, hs0⟩ := (h.cm.pg b hbB).wt
  have hws := (h.cm.pg b hbB).ws
  have y6 := St.cell hs0 6
  simp [Pc.cs] at y6
  have hlen := h.mlen hws (fun a ha => h.wB ha)
  -- what rising tells, and eachDirty behind it
  have HR : Hid (Calls Tryz.prog 73 #[.func (.func 148) #[] #[.pointer (some ⟨w.heap.size, 0, none⟩)]] (w.alloc (.cells #[.map (some (G.c b).wm)] 106)) (RsP (w.alloc (.cells #[.map (some (G.c b).wm)] 106)) G.c (fun ys => ys.Perm (G.W b)))) := by
    have ka : Kp (fun _ => False) w (w.alloc (.cells #[.map (some (G.c b).wm)] 106)) := (Kp.refl _ _).alloc _
    exact rmap_any G.c _ w.heap.size (G.c b).wm (G.W b) (hws.kp ka (fun h => h)) (St.new 106 w _) hlen (fun a ha => by
      obtain ⟨s, hs⟩ := (h.cm.pg a (h.wB ha)).wt
      exact ⟨s, hs.kp ka (fun h => h)⟩)
  have HV := hid (mvals_any (G.c b).wm)
  have KA : Hid (Kp (fun _ => False) w (w.alloc (.cells #[.map (some (G.c b).wm)] 106))) := (Kp.refl _ _).alloc _
  have HE : Hid (∀ w2 l v, Kp (fun _ => False) w w2 → w.heap.size ≤ w2.heap.size → w2.ownsRow (w.alloc (.cells #[.map (some (G.c b).wm)] 106)).heap.size 138 1 v l.length (l.map ptr) → l.Perm (G.W b) → Calls Tryz.prog 71 #[.func (.func 72) #[ptr Q] #[], v] w2 (BkP S g bits room Q N rk (rk b) G q ft F w2 l)) := fun w2 l v k2 hsz ho hp =>
    each_any (h.kp0 k2) rk (rk b) hrk (IH (rk b) hrb) l v _ ho (fun r e => by
      obtain ⟨cur, _, hr⟩ := ownb ho e
      rw [World.size_alloc] at hr
      exact ⟨fun x => by have := h.cm.lt x; omega, fun x => by have := h.sw.lt x; omega⟩) (fun a ha => by
      have := hp.mem_iff.1 ha
      exact ⟨h.wB this, hrk b a this⟩) hN
  have HH := hid h
  have HRK := hid hrk
  clear h hrk IH hws hs0
  unfold ptr
  generalize hA : w.alloc (.cells #[.map (some (G.c b).wm)] 106) = wA at *
  go_enter Tryz.func72, Tryz.ntmps72
  go_wp2_with (first
    | (go_at_call 114; refine (HV.out _).mono ?_; rintro _ w1 ⟨rfl, rfl⟩; rw [hA])
    | (go_at_call 73; refine HR.out.mono ?_; rintro _ w2 ⟨l, v, rfl, ho, hri, ⟨ys, hys, hlp⟩, k2⟩; have K02 := hid (KA.out.trans k2 (fun _ _ h => h)); have HE2 := hid (HE.out w2 l v K02.out K02.out.size ho (hlp.trans hys)); have HLP := hid (hlp.trans hys); clear ho hri hlp k2 hys))
  refine HE2.out.mono ?_
  rintro _ w3 ⟨z, k, G', q', ft', F', rfl, h1, h2, h3, h4, h5, h6⟩
  have H1 := hid h1
  have H2 := hid (Cch.pre K02.out h2)
  have H3 := hid h3
  have H4 := hid h4
  have H5 := hid h5
  have H6 := hid h6
  have hst := h3.stb
  have HST := hid hst
  clear HE2 HE HR HV KA h2 h3 h4 h5 h6 y6 hA
  by_cases hz : z = 0
  · subst hz
    have hbB' : b ∈ G'.B := by have := hst.B; change G'.B = G.B at this; rw [this]; exact hbB
    have hdb : (G'.c b).di = true := (H6.out b (Nat.le_refl _)).trans hdi
    obtain ⟨s1, hs1⟩ := (h1.cm.pg b hbB').wt
    have hws := (h1.cm.pg b hbB').ws
    have y6 := St.cell hs1 6
    simp [Pc.cs] at y6
    have hlw := fun ty => run_len_mn hws ty
    -- nobody whom it waits for is dirty any more
    have HND : Hid (∀ a ∈ G'.W b, (G'.c a).di = false) := fun a ha => H5.out rfl a (HLP.out.mem_iff.2 (hst.W b a ha))
    clear hws hs1 hst
    have HRC : Hid (Rc bits k ⟨G, q, ft⟩ ⟨G', q', ft'⟩) := by
      rcases H3.out with ⟨_, h⟩ | ⟨h, _⟩
      · exact h
      · exact absurd rfl h
    have HBD : Hid (k + mu G' ≤ mu G) := by have := H4.out; simp at this; exact this
    go_upto_if 25 with (simp only [hlw])
    go_cut [6] from 20 to 30 (fun _ wx => ∃ k4 G4 q4 ft4 F4, Hid (Wq S g bits room Q N rk n G q ft F w b k4 G4 q4 ft4 F4 wx))
    case first =>
      cases hW : G'.W b with
      | nil =>
        rw [hW] at hlw
        simp only [List.length_nil] at hlw
        go_wp2
        go_meet
        case rel => exact ⟨k, G', q', ft', F', H1.out, H2.out, HRC.out, by have := HBD.out; omega, H6.out, hW⟩
      | cons x xs =>
        rw [hW] at hlw
        simp only [List.length_cons] at hlw
        have hpos : (0 : Int) < (xs.length : Int) + 1 := by omega
        obtain ⟨z4, hz4e⟩ : ∃ z, fk ft' = z := ⟨_, rfl⟩
        have hfl0 := cflush_any h1 (by have := HBD.out; omega)
        change Calls Tryz.prog 75 #[ptr Q] w3 (fun e w' => e = .returned (.int .i64 (fk ft')) ∧ ∃ G4 F4, Cv S g bits room Q (N + k + 1) G4 (qfl q' ft') ft'.tail F4 w' ∧ Cch Q G' G4 F' F4 w3 w' ∧ FlG (fk ft') G' G4) at hfl0
        rw [hz4e] at hfl0
        have HFL := hid hfl0
        have HZ4 := hid hz4e
        clear hfl0 hz4e
        clear h1
        unfold ptr at HFL
        go_wp2_with (first | simp only [hlw] | (go_at_call 75; refine HFL.out.mono ?_; rintro _ w4 ⟨rfl, G4, F4, f1, f2, f3⟩))
        · rename_i hz4
          have hne : z4 ≠ 0 := by simpa using hz4
          have hne2 : fk ft' ≠ 0 := by rw [HZ4.out]; exact hne
          go_ret
          have hG : G4 = G' := by
            rcases f3 with ⟨_, e⟩ | ⟨e, _⟩
            · exact e
            · exact absurd e hne
          refine ⟨z4, k + 1, G4, qfl q' ft', ft'.tail, F4, rfl, by rw [← Nat.add_assoc]; exact f1, H2.out.trans f2, .inr ⟨hne, k, ⟨G', q', ft'⟩, rfl, HRC.out, ?_⟩, ?_, fun e => absurd e hne, fun a ha => ?_⟩
          · rw [hG]
            have := Mvf.fl (bits := bits) (X := ⟨G', q', ft'⟩) hne2
            rw [HZ4.out] at this
            exact this
          · rw [hG, if_neg hne]
            have := HBD.out
            omega
          · rw [hG]
            exact H6.out a (by omega)
        · rename_i hz4
          have he4 : z4 = 0 := by simpa using hz4
          subst he4
          have he := HZ4.out
          have F1 := hid f1
          have F2 := hid f2
          have F3 := hid f3
          clear f1 f2 f3
          go_meet
          case rel =>
            have hle := F3.out.les
            have hnw : G4.W b = [] := by
              refine List.eq_nil_iff_forall_not_mem.2 fun a ha => ?_
              rcases F3.out with ⟨h0, _⟩ | ⟨_, _, _, _, hpe⟩
              · exact absurd rfl h0
              · have haB : a ∈ G'.B := by rw [← hle.B]; exact F1.out.wB ha
                rcases F1.out.op b a ha with h7 | h7
                · rw [(hle.c a).2.2.1, HND.out a (hle.W b a ha)] at h7
                  cases h7
                · rw [hpe a haB] at h7
                  cases h7
            refine ⟨k + 1, G4, qfl q' ft', ft'.tail, F4, by rw [← Nat.add_assoc]; exact F1.out, H2.out.trans F2.out, .step HRC.out (Mve.fl (X := ⟨G', q', ft'⟩) he F3.out), ?_, fun a ha => (hle.c a).2.2.1.trans (H6.out a ha), hnw⟩
            · have h1 := HBD.out
              have h2 := F3.out.mu_lt (b := b) (H1.out.iv.dk b hbB' hdb) hdb (by rw [hW]; simp) hnw
              omega
        · rename_i hx
          exact absurd (by simp) hx
    case rest =>
      obtain ⟨k4, G4, q4, ft4, F4, hq⟩ := hcut
      have HQ : Hid (Wq S g bits room Q N rk n G q ft F w b k4 G4 q4 ft4 F4 wc) := hq
      clear hq H1 H2 H3 H4 H5 H6 HND hlw y6 hdb hbB' h1 HRC HBD HST
      have hcv := HQ.out.cv
      have hst4 := HQ.out.rc.stb
      have hbB4 : b ∈ G4.B := by have := hst4.B; change G4.B = G.B at this; rw [this]; exact hbB
      have hd4 : (G4.c b).di = true := (HQ.out.hi b (Nat.le_refl _)).trans hdi
      have hbL4 : b ∈ G4.L := hcv.iv.dk b hbB4 hd4
      obtain ⟨i, zs, hy, hbv, hrw⟩ : ∃ i zs, G4.y b = some (i, zs) ∧ (G4.c b).bv = .slice (some ⟨i, 0, none⟩) zs.length zs.length ∧ Rw .u8 5 wc i zs := by
        rcases (hcv.cm.pg b hbB4).ys.shape with ⟨e, _⟩ | ⟨i, zs, e, e2, e3⟩
        · exact absurd e ((hcv.iv.lk b).1 hbL4).2
        · exact ⟨i, zs, e, e2, e3⟩
      have hzl := hcv.yl b hbB4 i zs hy
      have hnb := hcv.nb b hbB4
      have hbits := hcv.bb
      have hpw : 2 ^ bits ≤ 65536 := Nat.le_trans (Nat.pow_le_pow_right (by omega) hbits.2) (by decide)
      have hpos : 0 < 2 ^ bits := Nat.pow_pos (by omega)
      have hpl : (G4.c b).n * 2 ^ bits + 2 ^ bits ≤ 268435456 := by
        have h1 : ((G4.c b).n + 1) * 2 ^ bits ≤ 268435456 / 2 ^ bits * 2 ^ bits := Nat.mul_le_mul_right _ hnb
        have h2 := Nat.div_mul_le_self 268435456 (2 ^ bits)
        rw [Nat.add_mul, Nat.one_mul] at h1
        omega
      obtain ⟨s4, hs4⟩ := (hcv.cm.pg b hbB4).wt
      have y0 := St.cell hs4 0
      have y1 := St.cell hs4 1
      simp [Pc.cs] at y0 y1
      rw [hbv] at y1
      have z0 := hcv.cm.st.cell 0
      have z1 := hcv.cm.st.cell 1
      have z2 := hcv.cm.st.cell 2
      simp at z0 z1 z2
      have HPL : Hid (∀ j, Calls Tryz.prog 116 #[ptr Q, .int .i64 (G4.c b).n] (wc.drewN j) fun e w' => e = .returned (.int .i64 (((G4.c b).n * 2 ^ bits : Nat) : Int)) ∧ w' = wc.drewN j) := fun j => place_any _ Q bits _ hbits.2 (by omega) (by have := ((hcv.cm.kp0 (drewN_kp _ wc j)).st.cell 2); simpa using this)
      obtain ⟨pl, hple⟩ : ∃ pl, (G4.c b).n * 2 ^ bits = pl := ⟨_, rfl⟩
      rw [hple] at HPL hpl
      have HWR : Hid (∀ U, Kp (fun _ => False) wc U → Calls Tryz.prog 115 #[ptr g, .string S, .int .i64 pl, .slice (some ⟨i, 0, none⟩) zs.length zs.length] U fun e w' => e = .returned (.int .i64 (fk ft4)) ∧ Stp S g (N + k4 + 1) F4 (qwr q4 ft4 pl zs) ft4.tail U w') := fun U kU =>
        write_w (hcv.sw.kp0 kU) (by have := HQ.out.bd; omega) pl zs.length zs.length (some ⟨i, 0, none⟩) zs rfl (by omega) (by omega) ((hrw.kp kU (fun h => h)).src) (Nat.le_refl _) (fun b' off e => by
          simp only [Option.some.injEq, Addr.mk.injEq] at e
          rw [← e.1]
          exact hcv.ap i (.inr (.inr (.inr (.inr (.inr ⟨b, hbB4, .inr (.inr (.inr ⟨zs, hy⟩))⟩))))))
      have HY := hid hy
      have HPE := hid hple
      have HBV := hid hbv
      have HZL := hid hzl
      have HPL2 := hid hpl
      clear hcv hrw hs4 hbv hst4 hpw hpos hpl hnb hbits hzl z2 hple hy
      unfold ptr at HPL HWR z0
      go_wp2
      refine (wpIn_wide (n := 3)).1 ?_
      refine wpIn_region_two 18 hmix (by kernel_rfl) rfl ?_
      dsimp only [List.take, List.drop]
      repeat (gi_big_quiet_step (fail))
      refine wpQuietIn_step (fun _ _ _ _ => trivial) (fun K hK => ?_)
      go_simp
      apply Exists.intro
      refine ⟨fun _ => ?_, hK _ ?_⟩
      · exact CallsIn.quiet_of_same (callsIn_wide.2 (HPL.out _))
      clear hK K
      repeat (gi_big_quiet_step (fail))
      refine wpQuietIn_nil ?_
      intro U hU
      obtain ⟨nq, hU2⟩ := hU
      subst hU2
      gi_wp2_with fail
      refine ⟨trivial, (callsIn_wide.2 (HWR.out _ (drewN_kp _ wc nq))).mono ?_⟩
      rintro _ w5 ⟨rfl, hk5, F5, hs5, hf5⟩
      have hk5' : Kp F4 wc w5 := ((drewN_kp (fun _ => False) wc nq).mono (fun _ _ e => e.elim)).trans hk5 (fun _ _ e => e)
      have hcm5 : Cm S g bits room Q G4 w5 := HQ.out.cv.cm.kp hk5' HQ.out.cv.ap
      have HF5 : Hid (∀ i, F5 i → F4 i ∨ wc.heap.size ≤ i) := fun i hi => (hf5 i hi).imp id (fun e => Nat.le_trans (drewN_kp (fun _ => False) wc nq).size e)
      have HK5 := hid hk5'
      have HC5 := hid hcm5
      have HS5 := hid hs5
      clear hk5 hk5' hcm5 hs5 hf5 HWR HPL y0 y1 z0 z1
      by_cases hz5 : fk ft4 = 0
      · have hzb : (fk ft4 != 0) = false := by simpa using hz5
        obtain ⟨z5, hz5e⟩ : ∃ z, fk ft4 = z := ⟨_, rfl⟩
        have HZ5 := hid hz5
        have hbQ : ¬ b = Q := fun e => tag_ne (HC5.out.pt hbB4) HC5.out.st.tag (by decide) e
        have hQb : ¬ Q = b := fun e => hbQ e.symm
        have z10 := HC5.out.st.cell 10
        have f10 := HC5.out.st.frozen 10
        simp at z10
        have hn3 := HQ.out.cv.nn
        have hkb := HQ.out.bd
        have HG5 := hid (HC5.out.n3 (G4.n3 + 1))
        have HK6 : Hid (Kp (fun i => i = Q) w5 (w5.setCell ⟨Q, 10, none⟩ (.int .i64 ((G4.n3 : Int) + 1)))) := kp_setCell w5 Q 10 _ (fun i => i = Q) rfl
        obtain ⟨s5, hs5⟩ := (HC5.out.pg b hbB4).wt
        have y3 := St.cell (hs5.kp HK6.out hbQ) 3
        have f3 := St.frozen (hs5.kp HK6.out hbQ) 3
        simp [Pc.cs] at y3
        have e10 : ((G4.n3 + 1 : Nat) : Int) = (G4.n3 : Int) + 1 := by omega
        rw [e10] at HG5
        clear hs5 e10
        gi_wp2_with fail
        go_upto_if 66 with fail
        obtain ⟨W6, hW6⟩ : ∃ W, W = w5.setCell ⟨Q, 10, none⟩ (.int .i64 ((G4.n3 : Int) + 1)) := ⟨_, rfl⟩
        rw [← hW6] at HG5 HK6 y3 f3 ⊢
        clear hW6 z10 f10
        have HFC : Hid (∀ i, i = Q ∨ i = b ∨ G4.pv.ownBlock = some i → Fc Q G4 i) := fun i hi => by
          rcases hi with rfl | rfl | e
          · exact .inl rfl
          · exact .inr (.inr (.inr (.inr (.inr ⟨_, hbB4, .inl rfl⟩))))
          · exact .inr (.inr (.inr (.inr (.inl e))))
        have HPP : Hid (G4.P.length ≤ 1000000) := by
          have h1 := HQ.out.cv.mlen HQ.out.cv.cm.ks (fun a ha => HQ.out.cv.iv.kb a ha)
          have h2 := nodup_len G4.P G4.K HQ.out.cv.pn (fun a ha => (HQ.out.cv.iv.pk a (HQ.out.cv.cm.pb a ha) (HQ.out.cv.pp a ha)).1)
          show _ ≤ _
          omega
        clear hn3 hkb
        go_cut [] from 62 to 79 (fun wx => ∃ G6, Hid (Cm S g bits room Q G6 wx ∧ WrH G4 b G6 ∧ Kp (Fc Q G4) w5 wx ∧ ∀ i, Fc Q G6 i → Fc Q G4 i ∨ w5.heap.size ≤ i))
        case first =>
          cases hpe : (G4.c b).pe with
          | true =>
            go_wp2
            go_meet
            case rel =>
              refine ⟨_, HG5.out, ⟨rfl, rfl, rfl, rfl, rfl, rfl, rfl, rfl, rfl, rfl, rfl, rfl, rfl, rfl, fun a => ?_, ?_⟩, HK6.out.mono (fun i _ e => .inl e), fun i hi => .inl hi⟩
              · split
                · rename_i e; rw [e, pc_pe hpe]
                · rfl
              · rw [if_pos hpe]
          | false =>
            obtain ⟨h7, k7⟩ := HG5.out.setpe (b := b) hbB4
            have z6 := h7.st.cell 6
            have f6 := h7.st.frozen 6
            simp at z6
            obtain ⟨ao, cap, hpv, hpl6, _⟩ := prow h7.pd
            change G4.pv = .slice ao G4.P.length cap at hpv
            rw [hpv] at z6
            have HPV := hid hpv
            have H7 := hid h7
            have HK7 : Hid (Kp (Fc Q G4) w5 (W6.setCell ⟨b, 3, none⟩ (.bool true))) := (HK6.out.mono (G := Fc Q G4) (fun i _ e => .inl e)).trans k7 (fun i _ e => HFC.out i (.inr (.inl e)))
            have hQ7 : ¬ G4.pv.ownBlock = some Q := fun e => tag_ne (own_tag h7.pd e) h7.st.tag (by decide) rfl
            have HQ7 := hid hQ7
            clear h7 k7 hpv hpl6 hQ7
            obtain ⟨W7, hW7⟩ : ∃ W, W = W6.setCell ⟨b, 3, none⟩ (.bool true) := ⟨_, rfl⟩
            have HW7 := hid hW7
            rw [← hW7] at z6 f6 H7 HK7
            rw [hpe] at y3
            have KA : Hid (Kp (fun _ => False) W7 (W7.alloc (.cells #[.pointer (some ⟨b, 0, none⟩)] 138))) := (Kp.refl _ _).alloc _
            have OA : Hid ((W7.alloc (.cells #[.pointer (some ⟨b, 0, none⟩)] 138)).ownsRow 0 138 1 (.slice ao G4.P.length cap) G4.P.length (G4.P.map ptr)) := by
              have := own_kp H7.out.pd KA.out (fun _ _ h => h)
              change (W7.alloc (.cells #[.pointer (some ⟨b, 0, none⟩)] 138)).ownsRow 0 138 1 G4.pv G4.P.length (G4.P.map ptr) at this
              rw [HPV.out] at this
              exact this
            have NA : Hid (St 138 (W7.alloc (.cells #[.pointer (some ⟨b, 0, none⟩)] 138)) W7.heap.size #[.pointer (some ⟨b, 0, none⟩)]) := St.new 138 W7 _
            have SA : Hid ((W7.alloc (.cells #[.pointer (some ⟨b, 0, none⟩)] 138)).heap.size = W7.heap.size + 1) := by show _ = _; simp
            go_upto_region 14 with fail
            rw [← hW7]
            clear hW7 y3 f3
            go_wp2_with (first
              | (at_builtin
                 refine wpList_append_any rfl (.tmp 74) (.tmp 76) 108 rfl 0 138 (.pointer none) 1 8 Tryz.underlying108 Tryz.info138 rfl (by decide) (.slice ao G4.P.length cap) G4.P.length (G4.P.map ptr) rfl OA.out (some ⟨W7.heap.size, 0, none⟩) 1 1 [.pointer (some ⟨b, 0, none⟩)] (by first | rfl | simp [Act.eval]) (fun h => by cases h) rfl (fun ad e j u hu => by (cases e; rw [add_z]; exact (NA.out.cell j).trans (by simpa using hu))) (fun u hu => by (simp at hu; subst hu; rfl)) (by have := HPP.out; unfold maxLen; omega) (by have := HPP.out; omega) (by omega) ?_
                 intro v2 w8 O2 K2 L2
                 obtain ⟨g2, cap2, hv2⟩ := own_slice O2
                 subst hv2
                 have k8 : Kp (fun i => G4.pv.ownBlock = some i) W7 w8 := (KA.out.mono (fun _ _ h => h.elim)).trans K2 (fun i _ e => by rw [HPV.out]; exact e)
                 have S8 := H7.out.st.kp k8 HQ7.out
                 have c8 := S8.cell 6
                 have f8 := S8.frozen 6
                 simp at c8
                 have HK8 := hid k8
                 have HO2 := hid O2
                 have HL2 := hid L2
                 clear k8 S8 O2 L2 K2))
            go_meet
            case rel =>
              obtain ⟨p1, p2⟩ := H7.out.pendb hbB4 (v := .slice (some ⟨g2, 0, none⟩) (G4.P.length + 1) cap2) (w1 := w8) HO2.out HK8.out (by
                rcases HL2.out with e | e
                · exact .inl (e.trans (by rw [HPV.out]))
                · refine .inr ⟨_, e, ?_⟩
                  have := SA.out
                  omega)
              refine ⟨_, p1, ⟨rfl, rfl, rfl, rfl, rfl, rfl, rfl, rfl, rfl, rfl, rfl, rfl, rfl, rfl, fun a => rfl, ?_⟩, HK7.out.trans p2 (fun i _ e => ?_), fun i hi => ?_⟩
              · show G4.P ++ [b] = _
                rw [hpe]; rfl
              · rcases e with e | e
                · exact .inl e
                · exact HFC.out i (.inr (.inr e))
              · rcases hi with e | e | e | e | e | ⟨a, ha, e⟩
                · exact .inl (.inl e)
                · exact .inl (.inr (.inl e))
                · exact .inl (.inr (.inr (.inl e)))
                · exact .inl (.inr (.inr (.inr (.inl e))))
                · rcases HL2.out with e2 | e2
                  · exact .inl (HFC.out i (.inr (.inr (by rw [HPV.out, ← e2]; exact e))))
                  · change (Value.slice (some ⟨g2, 0, none⟩) (G4.P.length + 1) cap2).ownBlock = some i at e
                    rw [e2] at e
                    simp only [Option.some.injEq] at e
                    have h1 := SA.out
                    have h2 := HK7.out.size
                    exact .inr (by omega)
                · refine .inl (.inr (.inr (.inr (.inr (.inr ⟨a, ha, ?_⟩)))))
                  have hc : (upd G4.c b { G4.c b with pe := true } a).wm = (G4.c a).wm ∧ (upd G4.c b { G4.c b with pe := true } a).rm = (G4.c a).rm := by
                    unfold upd; split
                    · rename_i e; rw [e]; exact ⟨rfl, rfl⟩
                    · exact ⟨rfl, rfl⟩
                  change i = a ∨ i = (upd G4.c b { G4.c b with pe := true } a).wm ∨ i = (upd G4.c b { G4.c b with pe := true } a).rm ∨ ∃ zs, G4.y a = some (i, zs) at e
                  rw [hc.1, hc.2] at e
                  exact e
        case rest =>
          obtain ⟨G6, hg6⟩ := hcut
          have HG6 : Hid (Cm S g bits room Q G6 wc ∧ WrH G4 b G6 ∧ Kp (Fc Q G4) w5 wc ∧ ∀ i, Fc Q G6 i → Fc Q G4 i ∨ w5.heap.size ≤ i) := hg6
          clear hg6 y3 f3
          have hb6 : b ∈ G6.B := by rw [HG6.out.2.1.B]; exact hbB4
          obtain ⟨s6, hs6⟩ := (HG6.out.1.pg b hb6).wt
          have y2 : wc.cell? ⟨b, 2, none⟩ = some (.bool (G6.c b).di) := St.cell hs6 2
          have f2 : wc.frozen? ⟨b, 2, none⟩ = false := St.frozen hs6 2
          obtain ⟨h7, k7⟩ := HG6.out.1.setdi hb6 false
          have z7 := h7.st.cell 5
          simp at z7
          change _ = some (ptr G6.kl) at z7
          have hMV := moved_any h7 b (by show b ∈ G6.L; rw [HG6.out.2.1.L]; exact hbL4) G4.c (by show Hpd G4.c G6.L; rw [HG6.out.2.1.L]; exact HQ.out.cv.iv.hp) (fun a ha => by
            show upd G6.c b { G6.c b with di := false } a = G4.c a
            rw [upd_other _ _ ha, HG6.out.2.1.c a, if_neg ha]) (by show G6.L.length < _; rw [HG6.out.2.1.L]; have := HQ.out.cv.lr; have := HQ.out.cv.rr; omega)
          change Calls Tryz.prog 63 #[ptr G6.kl, ptr b] _ _ at hMV
          have HMV := hid hMV
          have HK7 := hid k7
          clear hs6 h7 k7 hMV
          unfold ptr at z7 HMV
          go_wp2_with (first | (go_at_call 63; refine HMV.out.mono ?_; rintro _ w9 ⟨rfl, lv, L, hp, hh, hcm, hk, hfc⟩))
          go_ret
          have hst6 := HG6.out.2.1
          have hL6 : L.Perm G4.L := by
            change L.Perm G6.L at hp
            rw [hst6.L] at hp
            exact hp
          have hcc : ∀ a, upd G6.c b { G6.c b with di := false } a = if a = b then { G4.c b with di := false, pe := true } else G4.c a := fun a => by
            unfold upd
            by_cases e : a = b
            · rw [if_pos e, if_pos e, hst6.c b, if_pos rfl]
            · rw [if_neg e, if_neg e, hst6.c a, if_neg e]
          have hwg : WrG G4 b { G6 with c := upd G6.c b { G6.c b with di := false }, lv := lv, L := L } := ⟨hst6.kl, hst6.pm, hst6.B, hst6.K, hst6.W, hst6.R, hst6.y, hst6.t, hst6.n1, hst6.n2, hst6.n3, hst6.n4, hL6, hcc, hst6.P⟩
          have hfc7 : ∀ i, Fc Q { G6 with c := upd G6.c b { G6.c b with di := false } } i → Fc Q G4 i ∨ w5.heap.size ≤ i := fun i hi => by
            refine HG6.out.2.2.2 i (fc_same (H := { G6 with c := upd G6.c b { G6.c b with di := false } }) (G := G6) rfl rfl rfl rfl rfl (fun a _ => ?_) (fun a _ j us e => ⟨us, e⟩) i hi)
            show (upd G6.c b { G6.c b with di := false } a).wm = (G6.c a).wm ∧ (upd G6.c b { G6.c b with di := false } a).rm = (G6.c a).rm
            unfold upd; split
            · rename_i e; rw [e]; exact ⟨rfl, rfl⟩
            · exact ⟨rfl, rfl⟩
          have hk9 : Kp (Fc Q G4) w5 w9 := (HG6.out.2.2.1.trans HK7.out (fun i _ e => by
            change i = b at e
            subst e
            exact HFC.out _ (.inr (.inl rfl)))).trans hk (fun i hi e => (hfc7 i e).elim id (fun h => by omega))
          have hfc9 : ∀ i, Fc Q { G6 with c := upd G6.c b { G6.c b with di := false }, lv := lv, L := L } i → Fc Q G4 i ∨ w5.heap.size ≤ i := fun i hi => by
            rcases hfc i hi with h | h
            · exact hfc7 i h
            · exact .inr (Nat.le_trans (Nat.le_trans HG6.out.2.2.1.size HK7.out.size) h)
          have hF5lt : ∀ i, F5 i → i < w5.heap.size := fun i hi => HS5.out.lt hi
          have hF5 : ∀ i, F5 i → ¬ Fc Q G4 i := fun i hF hi => by
            rcases HF5.out i hF with h2 | h2
            · exact HQ.out.cv.ap i hi h2
            · have := HQ.out.cv.cm.lt hi; omega
          have hcv9 := HQ.out.cv.wrote hbL4 hwg hh hcm (HS5.out.kp hk9 hF5) (fun i hi hF => by
            rcases hfc9 i hi with h | h
            · exact hF5 i hF h
            · have := hF5lt i hF; omega)
          have hdn := hwg.mu hbL4 HQ.out.cv.cm.ln.nodup hd4
          refine ⟨0, k4 + 1, _, qwr q4 ft4 pl zs, ft4.tail, F5, rfl, by rw [← Nat.add_assoc]; exact hcv9, HQ.out.ch.trans ⟨(HK5.out.mono (fun i _ e => .inr e)).trans hk9 (fun i _ e => .inl e), fun i hi => (hfc9 i hi).imp id (fun h => Nat.le_trans HK5.out.size h), HF5.out⟩, .inl ⟨rfl, .step HQ.out.rc ?_⟩, ?_, fun _ a ha => ?_, fun a ha => ?_⟩
          · have := Mve.wr (bits := bits) (X := ⟨G4, q4, ft4⟩) HZ5.out hbL4 hd4 HQ.out.nw HY.out hwg
            simp only [HPE.out] at this
            exact this
          · have h1 := HQ.out.bd
            have h2 : mu { G6 with c := upd G6.c b { G6.c b with di := false }, lv := lv, L := L } + 1 ≤ mu G4 := hdn
            show k4 + 1 + mu { G6 with c := upd G6.c b { G6.c b with di := false }, lv := lv, L := L } ≤ mu G + (if (0 : Int) = 0 then 0 else 2)
            rw [if_pos rfl]
            omega
          · rw [List.mem_singleton.1 ha, hwg.di b, if_pos rfl]
          · rw [hwg.di a, if_neg (fun e => by subst e; omega)]
            exact HQ.out.hi a (by omega)
      · have hzb : (fk ft4 != 0) = true := by simpa using hz5
        gi_wp2_with fail
        go_wp2
        go_ret
        refine ⟨fk ft4, k4 + 1, G4, qwr q4 ft4 pl zs, ft4.tail, F5, rfl, ⟨HC5.out, by rw [← Nat.add_assoc]; exact HS5.out, fun i hi hF => ?_, HQ.out.cv.iv, HQ.out.cv.op, HQ.out.cv.pp, HQ.out.cv.pn, by have := HQ.out.cv.nn; omega, HQ.out.cv.tt, HQ.out.cv.tk, HQ.out.cv.nb, HQ.out.cv.yl, HQ.out.cv.lr, HQ.out.cv.bb, HQ.out.cv.rr⟩, HQ.out.ch.trans ⟨HK5.out.mono (fun i _ e => .inr e), fun i hi => .inl hi, HF5.out⟩, .inr ⟨hz5, k4, ⟨G4, q4, ft4⟩, rfl, HQ.out.rc, ?_⟩, by rw [if_neg hz5]; have := HQ.out.bd; omega, fun e => absurd e hz5, fun a ha => HQ.out.hi a (by omega)⟩
        · rcases HF5.out i hF with h2 | h2
          · exact HQ.out.cv.ap i hi h2
          · have := HQ.out.cv.cm.lt hi; omega
        · have := Mvf.wr (bits := bits) (X := ⟨G4, q4, ft4⟩) hz5 hbL4 hd4 HQ.out.nw HY.out
          simp only [HPE.out] at this
          exact this
  · have hb : (z != 0) = true := by simpa using hz
    go_wp2
    go_ret
    exact ⟨z, k, G', q', ft', F', rfl, H1.out, H2.out, H3.out, H4.out, fun e => absurd e hz, fun a ha => H6.out a (by omega)⟩
theorem wb_all (S : ByteArray) (g bits room Q : Nat) (rk : Nat → Nat) (n : Nat) : WbIH S g bits room Q rk n := by
  induction n using Nat.strongRecOn with
  | ind n ih => exact wb_step rk n ih
end Go.Proofs.YtnccklbnncaeoaaGreat
/- cache: find, Back, Flush. -/
namespace Go.Proofs.YtnccklbnncaeoaaGreat
open Go.RowKit
set_option linter.unusedVariables false
set_option linter.unusedSimpArgs false
section
variable {S : ByteArray} {g bits room Q N : Nat} {G : Gc} {q : Gf} {ft : List (Int × Int)} {F : Nat → Prop} {w : World}
theorem Cv.live (h : Cv S g bits room Q N G q ft F w) : Calls Tryz.prog 64 #[ptr Q] w fun e w' => e = .returned (.bool false) ∧ w' = w := by
  have := h.cm.st
  exact cnone_live w Q g _ this
theorem Cv.maya (h : Cv S g bits room Q N G q ft F w) (k : Int) : Calls Tryz.prog 65 #[ptr Q, .int .i64 k] w fun e w' => e = .returned (.bool (mayn bits k)) ∧ w' = w := by
  have z2 := h.cm.st.cell 2
  simp at z2
  exact may_any w Q bits k h.bb.2 z2
/-- The page of a number, if it is kept. -/
def kget (G : Gc) (k : Nat) : Option Nat := match nget G.c G.K k with
  | some b => if G.y b = none then none else some b
  | none => none
theorem Cv.kget_some (h : Cv S g bits room Q N G q ft F w) {k b : Nat} (e : kget G k = some b) : b ∈ G.L ∧ b ∈ G.B ∧ b ∈ G.K ∧ (G.c b).n = k := by
  unfold kget at e
  split at e
  · rename_i b' hb
    split at e
    · cases e
    · rename_i hy
      cases e
      obtain ⟨h1, h2⟩ := nget_mem hb
      exact ⟨(h.iv.lk b).2 ⟨h.iv.kb b h1, hy⟩, h.iv.kb b h1, h1, h2⟩
  · cases e
theorem Cv.kget_of (h : Cv S g bits room Q N G q ft F w) {b : Nat} (hb : b ∈ G.L) : kget G (G.c b).n = some b := by
  unfold kget
  rw [nget_of h.cm.ks.nin (h.iv.ll b hb)]
  dsimp only
  rw [if_neg ((h.iv.lk b).1 hb).2]
theorem Cv.kget_none (h : Cv S g bits room Q N G q ft F w) {k : Nat} (e : kget G k = none) : ∀ b ∈ G.L, (G.c b).n ≠ k := fun b hb hk => by
  have := h.kget_of hb
  rw [hk, e] at this
  cases this
set_option maxHeartbeats 4000000 in
theorem find_bad (h : Cv S g bits room Q N G q ft F w) (k : Int) (hk : mayn bits k = false) :
    Calls Tryz.prog 70 #[ptr Q, .int .i64 k] w fun e w' => e = .returned (.tuple #[.pointer none, .int .i64 2]) ∧ w' = w := by
  have HN := hid (h.live)
  have HM := hid (h.maya k)
  rw [hk] at HM
  clear h
  unfold ptr at *
  go_enter Tryz.func70, Tryz.ntmps70
  go_wp2_with (first | (go_at_call 64; refine HN.out.mono ?_; rintro e w' ⟨rfl, h⟩; replace h := h.symm; subst h) | (go_at_call 65; refine HM.out.mono ?_; rintro e w' ⟨rfl, h⟩; replace h := h.symm; subst h))
  go_ret2
  exact ⟨rfl, rfl⟩
set_option maxHeartbeats 4000000 in
theorem find_any (h : Cv S g bits room Q N G q ft F w) (k : Nat) (hk : mayn bits k = true) :
    Calls Tryz.prog 70 #[ptr Q, .int .i64 k] w fun e w' => e = .returned (.tuple (match kget G k with
      | some b => #[ptr b, .int .i64 0]
      | none => #[.pointer none, .int .i64 7])) ∧ w' = w := by
  have HN := hid (h.live)
  have HM := hid (h.maya k)
  rw [hk] at HM
  have z4 := h.cm.st.cell 4
  simp at z4
  have hlk := run_lookup_mn h.cm.ks k
  have HH := hid h
  unfold kget
  cases hn : nget G.c G.K k with
  | none =>
    rw [nval_no hn] at hlk
    clear h
    unfold ptr at *
    go_enter Tryz.func70, Tryz.ntmps70
    go_wp2_with (first | (go_at_call 64; refine HN.out.mono ?_; rintro e w' ⟨rfl, h⟩; replace h := h.symm; subst h) | (go_at_call 65; refine HM.out.mono ?_; rintro e w' ⟨rfl, h⟩; replace h := h.symm; subst h))
    go_ret2
    exact ⟨rfl, rfl⟩
  | some b =>
    rw [nval_of hn] at hlk
    obtain ⟨h1, h2⟩ := nget_mem hn
    have hp := h.cm.pg b (h.iv.kb b h1)
    obtain ⟨s, hs⟩ := hp.wt
    have HK := hid (pkept_any G.c w b s (G.y b) hs hp.ys)
    clear h hp hs
    unfold ptr at *
    dsimp only
    cases hy : G.y b with
    | none =>
      rw [hy] at HK
      simp only [Option.isSome_none] at HK
      rw [if_pos rfl]
      go_enter Tryz.func70, Tryz.ntmps70
      go_wp2_with (first | (go_at_call 64; refine HN.out.mono ?_; rintro e w' ⟨rfl, h⟩; replace h := h.symm; subst h) | (go_at_call 65; refine HM.out.mono ?_; rintro e w' ⟨rfl, h⟩; replace h := h.symm; subst h) | (go_at_call 113; refine HK.out.mono ?_; rintro e w' ⟨rfl, h⟩; replace h := h.symm; subst h))
      go_ret2
      exact ⟨rfl, rfl⟩
    | some x =>
      rw [hy] at HK
      simp only [Option.isSome_some] at HK
      rw [if_neg (by simp)]
      go_enter Tryz.func70, Tryz.ntmps70
      go_wp2_with (first | (go_at_call 64; refine HN.out.mono ?_; rintro e w' ⟨rfl, h⟩; replace h := h.symm; subst h) | (go_at_call 65; refine HM.out.mono ?_; rintro e w' ⟨rfl, h⟩; replace h := h.symm; subst h) | (go_at_call 113; refine HK.out.mono ?_; rintro e w' ⟨rfl, h⟩; replace h := h.symm; subst h))
      go_ret2
      exact ⟨rfl, rfl⟩
end
end Go.Proofs.YtnccklbnncaeoaaGreat
/- cache: Back, Flush. -/
namespace Go.Proofs.YtnccklbnncaeoaaGreat
open Go.RowKit
set_option linter.unusedVariables false
set_option linter.unusedSimpArgs false
/-- What writing these pages back leaves. -/
def Bk (S : ByteArray) (g bits room Q N : Nat) (G : Gc) (q : Gf) (ft : List (Int × Int)) (F : Nat → Prop) (w : World) (l : List Nat) (e : Ending) (w' : World) : Prop :=
  ∃ z k G' q' ft' F', e = .returned (.int .i64 z) ∧ Cv S g bits room Q (N + k) G' q' ft' F' w' ∧ Cch Q G G' F F' w w' ∧ Out bits k ⟨G, q, ft⟩ z ⟨G', q', ft'⟩ ∧ k + mu G' ≤ mu G + (if z = 0 then 0 else 2) ∧ (z = 0 → ∀ b ∈ l, (G'.c b).di = false)
theorem rk_bound (rk : Nat → Nat) (l : List Nat) : ∃ n, ∀ b ∈ l, rk b < n := by
  induction l with
  | nil => exact ⟨0, fun b hb => by cases hb⟩
  | cons a l ih =>
    obtain ⟨n, hn⟩ := ih
    refine ⟨max n (rk a + 1), fun b hb => ?_⟩
    rcases List.mem_cons.1 hb with rfl | hb
    · omega
    · have := hn b hb; omega
section
variable {S : ByteArray} {g bits room Q N : Nat} {G : Gc} {q : Gf} {ft : List (Int × Int)} {F : Nat → Prop} {w : World}
theorem eachd_any (h : Cv S g bits room Q N G q ft F w) (l : List Nat) (v : Value) (base : Nat) (hv : w.ownsRow base 138 1 v l.length (l.map ptr)) (hvr : ∀ r, v.ownBlock = some r → ¬ Fc Q G r ∧ ¬ F r) (hl : ∀ b ∈ l, b ∈ G.B) (hN : N + mu G + 2 ≤ 9000) :
    Calls Tryz.prog 71 #[.func (.func 72) #[ptr Q] #[], v] w (Bk S g bits room Q N G q ft F w l) := by
  obtain ⟨rk, hrk⟩ := h.iv.rk
  obtain ⟨n, hn⟩ := rk_bound rk l
  refine (each_any h rk n (fun a b hb => hrk a b hb) (wb_all S g bits room Q rk n) l v base hv hvr (fun b hb => ⟨hl b hb, hn b hb⟩) hN).mono ?_
  rintro e w' ⟨z, k, G', q', ft', F', h1, h2, h3, h4, h5, h6, _⟩
  exact ⟨z, k, G', q', ft', F', h1, h2, h3, h4, h5, h6⟩
/-- One page: its row is a new one of one cell. -/
theorem each1_any (h : Cv S g bits room Q N G q ft F w) (b : Nat) (hb : b ∈ G.B) (hN : N + mu G + 2 ≤ 9000) :
    Calls Tryz.prog 71 #[.func (.func 72) #[ptr Q] #[], .slice (some ⟨w.heap.size, 0, none⟩) 1 1] (w.alloc (.cells #[ptr b] 138)) (Bk S g bits room Q N G q ft F w [b]) := by
  have ka : Kp (fun _ => False) w (w.alloc (.cells #[ptr b] 138)) := (Kp.refl _ _).alloc _
  have ho : (w.alloc (.cells #[ptr b] 138)).ownsRow 0 138 1 (.slice (some ⟨w.heap.size, 0, none⟩) 1 1) [b].length ([b].map ptr) :=
    ⟨rfl, .inr ⟨w.heap.size, 1, #[ptr b], rfl, Nat.zero_le _, heap_alloc_new w _, Nat.le_refl _, by unfold maxLen; decide, rfl, rfl⟩⟩
  refine (eachd_any (h.kp0 ka) [b] _ 0 ho (fun r e => by
    simp only [Value.ownBlock, Option.some.injEq] at e
    subst e
    exact ⟨fun x => by have := h.cm.lt x; omega, fun x => by have := h.sw.lt x; omega⟩) (fun a ha => by rw [List.mem_singleton.1 ha]; exact hb) hN).mono ?_
  rintro e w' ⟨z, k, G', q', ft', F', h1, h2, h3, h4, h5, h6⟩
  exact ⟨z, k, G', q', ft', F', h1, h2, Cch.pre ka h3, h4, h5, h6⟩
/-- Back. -/
def BaP (S : ByteArray) (g bits room Q N : Nat) (G : Gc) (q : Gf) (ft : List (Int × Int)) (F : Nat → Prop) (w : World) (k : Int) (e : Ending) (w' : World) : Prop :=
  if mayn bits k = true then match kget G k.toNat with
    | some b => Bk S g bits room Q N G q ft F w [b] e w'
    | none => e = .returned (.int .i64 7) ∧ w' = w
  else e = .returned (.int .i64 2) ∧ w' = w
set_option maxHeartbeats 4000000 in
theorem back_any (h : Cv S g bits room Q N G q ft F w) (k : Int) (hN : N + mu G + 2 ≤ 9000) :
    Calls Tryz.prog 24 #[ptr Q, .int .i64 k] w (BaP S g bits room Q N G q ft F w k) := by
  unfold BaP
  by_cases hk : mayn bits k = true
  · simp only [if_pos hk]
    obtain ⟨m, rfl⟩ : ∃ m : Nat, k = (m : Int) := by
      unfold mayn at hk
      simp at hk
      exact ⟨k.toNat, by omega⟩
    rw [Int.toNat_natCast]
    have HF := hid (find_any h m hk)
    cases hg : kget G m with
    | none =>
      rw [hg] at HF
      clear h
      unfold ptr at *
      go_enter Tryz.func24, Tryz.ntmps24
      go_wp2_with (first | (go_at_call 70; refine HF.out.mono ?_; rintro e w' ⟨rfl, h⟩; replace h := h.symm; subst h))
      go_ret
      exact ⟨rfl, rfl⟩
    | some b =>
      rw [hg] at HF
      obtain ⟨h1, h2, h3, h4⟩ := h.kget_some hg
      have HE := hid (each1_any h b h2 hN)
      clear h
      unfold ptr at *
      go_enter Tryz.func24, Tryz.ntmps24
      go_wp2_with (first | (go_at_call 70; refine HF.out.mono ?_; rintro e w' ⟨rfl, h⟩; replace h := h.symm; subst h) | (go_at_call 71; refine HE.out.mono ?_; rintro _ w2 ⟨z, k, G', q', ft', F', rfl, H1⟩))
      go_ret
      exact ⟨z, k, G', q', ft', F', rfl, H1⟩
  · have hk2 : mayn bits k = false := by simpa using hk
    have HF := hid (find_bad h k hk2)
    simp only [if_neg hk]
    clear h
    unfold ptr at *
    go_enter Tryz.func24, Tryz.ntmps24
    go_wp2_with (first | (go_at_call 70; refine HF.out.mono ?_; rintro e w' ⟨rfl, h⟩; replace h := h.symm; subst h))
    go_ret
    exact ⟨rfl, rfl⟩
/-- Flush. -/
def FuP (S : ByteArray) (g bits room Q N : Nat) (G : Gc) (q : Gf) (ft : List (Int × Int)) (F : Nat → Prop) (w : World) (e : Ending) (w' : World) : Prop :=
  ∃ z k G' q' ft' F', e = .returned (.int .i64 z) ∧ Cv S g bits room Q (N + k) G' q' ft' F' w' ∧ Cch Q G G' F F' w w' ∧ Out bits k ⟨G, q, ft⟩ z ⟨G', q', ft'⟩ ∧ k + mu G' ≤ mu G + 2 ∧
    (z = 0 → (∀ b ∈ G'.B, (G'.c b).di = false ∧ (G'.c b).pe = false) ∧ G'.P = [] ∧ ∃ k1 G1 q1 ft1, k = k1 + 1 ∧ Rc bits k1 ⟨G, q, ft⟩ ⟨G1, q1, ft1⟩ ∧ k1 + mu G1 ≤ mu G ∧ (∀ b ∈ G1.B, (G1.c b).di = false) ∧ fk ft1 = 0 ∧ FlG 0 G1 G' ∧ q' = qfl q1 ft1 ∧ ft' = ft1.tail)
set_option maxHeartbeats 4000000 in
theorem flushall_any (h : Cv S g bits room Q N G q ft F w) (hN : N + mu G + 2 ≤ 8999) :
    Calls Tryz.prog 25 #[ptr Q] w (FuP S g bits room Q N G q ft F w) := by
  have HN := hid h.live
  have z5 := h.cm.st.cell 5
  simp at z5
  have z0 := h.cm.ln.st.cell 0
  simp at z0
  obtain ⟨ao, cap, hlv, hlm⟩ := h.cm.ln.len
  have HV := hid (fun W => vals_any ao G.L.length cap W)
  have ka : Kp (fun _ => False) w (w.alloc (.cells #[G.lv] 108)) := (Kp.refl _ _).alloc _
  have HR : Hid (Calls Tryz.prog 73 #[.func (.func 120) #[] #[.pointer (some ⟨w.heap.size, 0, none⟩)]] (w.alloc (.cells #[.slice ao G.L.length cap] 108)) (RsP (w.alloc (.cells #[.slice ao G.L.length cap] 108)) G.c (fun ys => ys = G.L))) := by
    have := rrow_any G.c (w.alloc (.cells #[G.lv] 108)) w.heap.size G.lv G.L (own_kp h.cm.ln.own ka (fun _ _ h => h)) (St.new 108 w _) (by have := h.lr; have := h.rr; omega) (fun b hb => by
      obtain ⟨s, hs⟩ := (h.cm.pg b (h.cm.lb b hb)).wt
      exact ⟨s, hs.kp ka (fun h => h)⟩)
    rw [hlv] at this
    exact this
  have HE : Hid (∀ w2 l v, Kp (fun _ => False) w w2 → w2.ownsRow (w.alloc (.cells #[.slice ao G.L.length cap] 108)).heap.size 138 1 v l.length (l.map ptr) → l.Perm G.L → Calls Tryz.prog 71 #[.func (.func 72) #[ptr Q] #[], v] w2 (Bk S g bits room Q N G q ft F w2 l)) := fun w2 l v k2 ho hp =>
    eachd_any (h.kp0 k2) l v _ ho (fun r e => by
      obtain ⟨cur, _, hr⟩ := ownb ho e
      rw [World.size_alloc] at hr
      exact ⟨fun x => by have := h.cm.lt x; omega, fun x => by have := h.sw.lt x; omega⟩) (fun b hb => h.cm.lb b (hp.mem_iff.1 hb)) (by omega)
  rw [hlv] at z0
  have KA : Hid (Kp (fun _ => False) w (w.alloc (.cells #[.slice ao G.L.length cap] 108))) := (Kp.refl _ _).alloc _
  have HH := hid h
  clear h ka
  unfold ptr at *
  generalize hA : w.alloc (.cells #[.slice ao G.L.length cap] 108) = wA at *
  go_enter Tryz.func25, Tryz.ntmps25
  go_wp2_with (first
    | (go_at_call 64; refine HN.out.mono ?_; rintro e w' ⟨rfl, h⟩; replace h := h.symm; subst h)
    | (go_at_call 74; refine (HV.out _).mono ?_; rintro _ w1 ⟨rfl, rfl⟩; rw [hA])
    | (go_at_call 73; refine HR.out.mono ?_; rintro _ w2 ⟨l, v, rfl, ho, hri, ⟨ys, hys, hlp⟩, k2⟩; have K02 := hid (KA.out.trans k2 (fun _ _ h => h)); have HE2 := hid (HE.out w2 l v K02.out ho (hys ▸ hlp)); have HLP := hid (hys ▸ hlp : l.Perm G.L); clear ho hri hlp k2 hys))
  refine HE2.out.mono ?_
  rintro _ w3 ⟨z, k, G', q', ft', F', rfl, h1, h2, h3, h4, h5⟩
  have H1 := hid h1
  have H2 := hid (Cch.pre K02.out h2)
  have H3 := hid h3
  have H4 := hid h4
  have H5 := hid h5
  clear HE2 HE HR HV KA h2 h3 h4 h5 z5 z0 hA
  by_cases hz : z = 0
  · subst hz
    have HRC : Hid (Rc bits k ⟨G, q, ft⟩ ⟨G', q', ft'⟩) := by
      rcases H3.out with ⟨_, h⟩ | ⟨h, _⟩
      · exact h
      · exact absurd rfl h
    have HBD : Hid (k + mu G' ≤ mu G) := by have := H4.out; simp at this; exact this
    have HCL : Hid (∀ b ∈ G'.B, (G'.c b).di = false) := fun b hb => by
      cases hd : (G'.c b).di with
      | false => rfl
      | true =>
        have h6 := h1.iv.dk b hb hd
        have h7 := HRC.out.stb.L
        change G'.L.Perm G.L at h7
        rw [H5.out rfl b (HLP.out.mem_iff.2 (h7.mem_iff.1 h6))] at hd
        cases hd
    obtain ⟨z4, hz4e⟩ : ∃ z, fk ft' = z := ⟨_, rfl⟩
    have hfl0 := cflush_any h1 (by have := HBD.out; omega)
    change Calls Tryz.prog 75 #[ptr Q] w3 (fun e w' => e = .returned (.int .i64 (fk ft')) ∧ ∃ G4 F4, Cv S g bits room Q (N + k + 1) G4 (qfl q' ft') ft'.tail F4 w' ∧ Cch Q G' G4 F' F4 w3 w' ∧ FlG (fk ft') G' G4) at hfl0
    rw [hz4e] at hfl0
    have HFL := hid hfl0
    have HZ4 := hid hz4e
    clear hfl0 hz4e h1
    unfold ptr at HFL
    go_wp2_with (first | (go_at_call 75; refine HFL.out.mono ?_; rintro _ w4 ⟨rfl, G4, F4, f1, f2, f3⟩))
    go_ret
    have hle := f3.les
    by_cases hz4 : z4 = 0
    · subst hz4
      have hpe : (∀ b ∈ G'.B, (G4.c b).pe = false) ∧ G4.P = [] := by
        rcases f3 with ⟨h0, _⟩ | ⟨_, _, hP, _, hpe⟩
        · exact absurd rfl h0
        · exact ⟨hpe, hP⟩
      refine ⟨0, k + 1, G4, qfl q' ft', ft'.tail, F4, rfl, by rw [← Nat.add_assoc]; exact f1, H2.out.trans f2, .inl ⟨rfl, .step HRC.out (Mve.fl (X := ⟨G', q', ft'⟩) HZ4.out f3)⟩, by have := f3.mu; have := HBD.out; omega, fun _ => ⟨fun b hb => ?_, hpe.2, k, G', q', ft', rfl, HRC.out, HBD.out, HCL.out, HZ4.out, f3, rfl, rfl⟩⟩
      have hb' : b ∈ G'.B := by rw [← hle.B]; exact hb
      exact ⟨by rw [(hle.c b).2.2.1]; exact HCL.out b hb', hpe.1 b hb'⟩
    · have hG : G4 = G' := by
        rcases f3 with ⟨_, e⟩ | ⟨e, _⟩
        · exact e
        · exact absurd e hz4
      refine ⟨z4, k + 1, G4, qfl q' ft', ft'.tail, F4, rfl, by rw [← Nat.add_assoc]; exact f1, H2.out.trans f2, .inr ⟨hz4, k, ⟨G', q', ft'⟩, rfl, HRC.out, ?_⟩, by rw [hG]; have := HBD.out; omega, fun e => absurd e hz4⟩
      have := Mvf.fl (bits := bits) (X := ⟨G', q', ft'⟩) (by show fk ft' ≠ 0; rw [HZ4.out]; exact hz4)
      rw [hG]
      change Mvf bits ⟨G', q', ft'⟩ (fk ft') ⟨G', qfl q' ft', ft'.tail⟩ at this
      rw [HZ4.out] at this
      exact this
  · have hb : (z != 0) = true := by simpa using hz
    go_wp2
    go_ret
    refine ⟨z, k, G', q', ft', F', rfl, H1.out, H2.out, H3.out, ?_, fun e => absurd e hz⟩
    have := H4.out
    rw [if_neg hz] at this
    exact this
end
end Go.Proofs.YtnccklbnncaeoaaGreat
