/- Trees are made: grown, joined; a pile of trees: pile, least. -/
import Derived.Test.YthpocbpleffdpaaHi
import Derived.Test.YthpocbpleffdpaaProg
import Derived.Test.YthpocbpleffdpaaGen
import Derived.Test.YthpocbpleffdpaaHp
import Derived.BigQuiet
import Derived.Laws.OwnMore
import Derived.OneCell
import Derived.BigRegion
import Derived.RegionTactic
import Derived.Shelf.SlGeneric
import Derived.Ground.SlgnProg
import Derived.Shelf.SlicesE.Delete
import Derived.Lib.OwnBridge
namespace Go.Proofs.Ythpocbpleffdpaa
open Go.RowKit

theorem drewN_kp (F : Nat → Prop) (w : World) (n : Nat) : Kp F w (w.drewN n) := by
  induction n generalizing w with
  | zero => exact Kp.refl _ _
  | succ n ih => exact (ih w).drew
theorem drewN_two (w : World) (m n : Nat) : (w.drewN m).drewN n = w.drewN (m + n) := by
  induction n with
  | zero => rfl
  | succ n ih => show ((w.drewN m).drewN n).drew = _; rw [ih]; rfl
def Hid (p : Prop) : Prop := p
theorem Hid.out {p : Prop} (h : Hid p) : p := h
/-- A struct's cells. -/
def St (t : TypeId) (w : World) (g : Nat) (cs : Array Value) : Prop := w.heap[g]? = some (.cells cs t (0, 0))
theorem St.cell {t : TypeId} {w : World} {g : Nat} {cs : Array Value} (h : St t w g cs) (i : Nat) : w.cell? ⟨g, i, none⟩ = cs[i]? := cell_of_row w g i _ t _ h
theorem St.frozen {t : TypeId} {w : World} {g : Nat} {cs : Array Value} (h : St t w g cs) (i : Nat) : w.frozen? ⟨g, i, none⟩ = false := frozen_of_row w g i _ t h
theorem St.lt {t : TypeId} {w : World} {g : Nat} {cs : Array Value} (h : St t w g cs) : g < w.heap.size := (Array.getElem?_eq_some_iff.1 h).1
theorem St.set {t : TypeId} {w : World} {g : Nat} {cs : Array Value} (h : St t w g cs) (i : Nat) (v : Value) : St t (w.setCell ⟨g, i, none⟩ v) g (cs.set! i v) := by
  unfold St
  rw [heap_setCell_same w g i _ t _ h]; simp
theorem St.kp {t : TypeId} {F : Nat → Prop} {w w' : World} {g : Nat} {cs : Array Value} (h : St t w g cs) (k : Kp F w w') (hf : ¬ F g) : St t w' g cs := by
  unfold St; rw [k.block g h.lt hf]; exact h
theorem St.new (t : TypeId) (w : World) (cs : Array Value) : St t (w.alloc (.cells cs t)) w.heap.size cs := heap_alloc_new w _
theorem kp_setCell (w : World) (g i : Nat) (v : Value) (F : Nat → Prop) (hF : F g) : Kp F w (w.setCell ⟨g, i, none⟩ v) :=
  ⟨rfl, rfl, rfl, by simp, fun k _ hk => heap_setCell_other w ⟨g, i, none⟩ k v (fun e => hk (by rw [e]; exact hF))⟩

/-- A block's address as a value. -/
def ptr (b : Nat) : Value := .pointer (some ⟨b, 0, none⟩)
/-- A tree's block and its key: what it costs, then how old it is. -/
def Tk (c : Nat → Nat) (w : World) (b : Nat) : Prop := ∃ (co ma : Nat) (s l r : Value), St 131 w b #[.int .u64 co, .int .i64 ma, s, l, r] ∧ co < 18446744073709551616 ∧ ma < 9223372036854775808 ∧ c b = co * 9223372036854775808 + ma
theorem Tk.kp {c : Nat → Nat} {F : Nat → Prop} {w w' : World} {b : Nat} (h : Tk c w b) (k : Kp F w w') (hf : ¬ F b) : Tk c w' b := by
  obtain ⟨co, ma, s, l, r, h1, h2⟩ := h
  exact ⟨co, ma, s, l, r, h1.kp k hf, h2⟩
theorem Tk.lt {c : Nat → Nat} {w : World} {b : Nat} (h : Tk c w b) : b < w.heap.size := by
  obtain ⟨co, ma, s, l, r, h1, h2⟩ := h
  exact h1.lt

theorem key_lt {a b x y : Nat} (hx : x < 9223372036854775808) (hy : y < 9223372036854775808) : (a * 9223372036854775808 + x < b * 9223372036854775808 + y) ↔ (a < b ∨ (a = b ∧ x < y)) := by omega

set_option maxHeartbeats 2000000 in
theorem ahead_any (c : Nat → Nat) (w : World) (fv : Value) (a b : Nat) (ha : Tk c w a) (hb : Tk c w b) :
    Calls Try.prog 86 #[fv, ptr a, ptr b] w fun e w' => e = .returned (.bool (decide (c a < c b))) ∧ ∃ q, w' = w.drewN q := by
  obtain ⟨ca, ma, sa, la, ra, a1, a2, a3, a4⟩ := ha
  obtain ⟨cb, mb, sb, lb, rb, b1, b2, b3, b4⟩ := hb
  have e : decide (c a < c b) = decide (ca < cb ∨ (ca = cb ∧ ma < mb)) := by rw [a4, b4]; exact decide_eq_decide.2 (key_lt a3 b3)
  rw [e]
  have h1 := a1.cell 0
  have h2 := a1.cell 1
  have h3 := b1.cell 0
  have h4 := b1.cell 1
  simp at h1 h2 h3 h4
  unfold ptr
  clear a1 b1 a4 b4 e
  go_enter Try.func86, Try.ntmps86
  go_wp2
  go_quiet (fail)
  by_cases hne : ca = cb
  · subst hne
    go_wp2
    go_quiet (fail)
    go_wp2
    go_ret
    exact ⟨by simp, _, (by first | rfl | exact drewN_two _ _ _)⟩
  · go_wp2
    go_quiet (fail)
    go_wp2
    go_ret
    exact ⟨by simp [hne], _, (by first | rfl | exact drewN_two _ _ _)⟩

/-- A pile: its block B, its row's block g, the trees in their places, their keys. -/
structure Pil (c : Nat → Nat) (w : World) (base B : Nat) (v fv : Value) (L : List Nat) : Prop where
  st : St 127 w B #[v, fv]
  own : w.ownsRow base 116 1 v L.length (L.map ptr)
  tr : ∀ b ∈ L, Tk c w b
  ne : ∀ g, v.ownBlock = some g → g ≠ B ∧ g ∉ L
  nb : B ∉ L
/-- What a pile's comparison is: ahead, of some forest. -/
def fvo (f : Value) : Value := .func (.func 86) #[f] #[]
/-- Where the row lies, if a tree is there. -/
theorem Pil.row {c : Nat → Nat} {w : World} {base B : Nat} {v fv : Value} {L : List Nat} (h : Pil c w base B v fv L) (hl : 0 < L.length) : ∃ g cap, v = .slice (some ⟨g, 0, none⟩) L.length cap ∧ base ≤ g ∧ g < w.heap.size ∧ L.length ≤ cap ∧ cap ≤ maxLen ∧ (∀ i, i < L.length → w.cell? ⟨g, i, none⟩ = some (ptr (L.getD i 0))) ∧ (∀ i, w.frozen? ⟨g, i, none⟩ = false) := by
  have ho := h.own
  rcases h.own.2 with ⟨_, h0⟩ | ⟨g, cap, cur, rfl, h1, h2, h3, h4, h5, h6⟩
  · omega
  · refine ⟨g, cap, rfl, h1, (Array.getElem?_eq_some_iff.1 h2).1, h3, h4, fun i hi => ?_, fun i => frozen_of_row w g i cur 116 h2⟩
    have := ho.cells (g := g) rfl i (ptr (L.getD i 0)) (by simp [List.getD, hi])
    rw [add_z] at this
    exact this
theorem Pil.len {c : Nat → Nat} {w : World} {base B : Nat} {v fv : Value} {L : List Nat} (h : Pil c w base B v fv L) : ∃ ao cap, v = .slice ao L.length cap ∧ L.length ≤ maxLen := by
  rcases h.own.2 with ⟨h1, h0⟩ | ⟨g, cap, cur, rfl, h1, h2, h3, h4, h5, h6⟩
  · exact ⟨none, 0, by rw [h0]; exact h1, by rw [h0]; simp⟩
  · exact ⟨_, cap, rfl, by omega⟩
theorem Pil.kp {c : Nat → Nat} {F : Nat → Prop} {w w' : World} {base B : Nat} {v fv : Value} {L : List Nat} (h : Pil c w base B v fv L) (k : Kp F w w') (hB : ¬ F B) (hg : ∀ g, v.ownBlock = some g → ¬ F g) (hL : ∀ b ∈ L, ¬ F b) : Pil c w' base B v fv L := by
  refine ⟨h.st.kp k hB, ⟨h.own.1, ?_⟩, fun b hb => (h.tr b hb).kp k (hL b hb), h.ne, h.nb⟩
  rcases h.own.2 with h0 | ⟨g, cap, cur, rfl, h1, h2, h3, h4, h5, h6⟩
  · exact .inl h0
  · exact .inr ⟨g, cap, cur, rfl, h1, by rw [k.block g (Array.getElem?_eq_some_iff.1 h2).1 (hg g rfl)]; exact h2, h3, h4, h5, h6⟩

set_option maxHeartbeats 2000000 in
theorem len_any (c : Nat → Nat) (w : World) (base B : Nat) (v fv : Value) (L : List Nat) (h : Pil c w base B v fv L) :
    Calls Try.prog 73 #[ptr B] w fun e w' => e = .returned (.int .i64 L.length) ∧ w' = w := by
  obtain ⟨ao, cap, rfl, hm⟩ := h.len
  have h1 := h.st.cell 0
  simp at h1
  unfold maxLen at hm
  unfold ptr
  go_enter Try.func73, Try.ntmps73
  go_wp2
  go_ret
  exact ⟨rfl, rfl⟩

set_option maxHeartbeats 2000000 in
theorem less_any (c : Nat → Nat) (w : World) (base B : Nat) (v f : Value) (L : List Nat) (h : Pil c w base B v (fvo f) L) (i j : Nat) (hi : i < L.length) (hj : j < L.length) :
    Calls Try.prog 111 #[ptr B, .int .i64 i, .int .i64 j] w fun e w' => e = .returned (.bool (decide (kf c L i < kf c L j))) ∧ ∃ q, w' = w.drewN q := by
  obtain ⟨g, cap, rfl, hb, hgl, hc1, hc2, hcells, hfr⟩ := h.row (by omega)
  have ti := h.tr (L.getD i 0) (by simp [List.getD, hi])
  have tj := h.tr (L.getD j 0) (by simp [List.getD, hj])
  have h1 := h.st.cell 0
  have h2 := h.st.cell 1
  have ci := hcells i hi
  have cj := hcells j hj
  simp at h1 h2
  unfold maxLen at hc2
  have HA : Hid (∀ q : Nat, Calls Try.prog 86 #[f, ptr (L.getD i 0), ptr (L.getD j 0)] (w.drewN q) fun e w' => e = .returned (.bool (decide (c (L.getD i 0) < c (L.getD j 0)))) ∧ ∃ q', w' = (w.drewN q).drewN q') := fun q => ahead_any c _ f _ _ (ti.kp (drewN_kp (fun _ => False) w q) (fun h => h)) (tj.kp (drewN_kp (fun _ => False) w q) (fun h => h))
  unfold kf
  unfold fvo at h2
  generalize L.getD i 0 = a at *
  generalize L.getD j 0 = b at *
  clear h hcells hfr ti tj
  unfold ptr at *
  go_enter Try.func111, Try.ntmps111
  go_wp2
  go_quiet (first | (go_at_call 86; refine Calls.quiet_of (HA.out _)))
  go_wp2
  go_ret
  exact ⟨rfl, _, rfl⟩
end Go.Proofs.Ythpocbpleffdpaa

namespace Go.Proofs.Ythpocbpleffdpaa
open Go.RowKit

set_option maxHeartbeats 4000000 in
theorem swap_raw (w : World) (B g n cap i j : Nat) (fv : Value) (x y : Nat) (st : St 127 w B #[.slice (some ⟨g, 0, none⟩) n cap, fv]) (hi : i < n) (hj : j < n)
    (ci : w.cell? ⟨g, i, none⟩ = some (ptr x)) (cj : w.cell? ⟨g, j, none⟩ = some (ptr y)) (fi : w.frozen? ⟨g, i, none⟩ = false) (fj : w.frozen? ⟨g, j, none⟩ = false) :
    Calls Try.prog 114 #[ptr B, .int .i64 i, .int .i64 j] w fun e w' => e = .returned (.tuple #[]) ∧ ∃ q, w' = ((w.setCell ⟨g, i, none⟩ (ptr y)).setCell ⟨g, j, none⟩ (ptr x)).drewN q := by
  obtain ⟨v', hy'⟩ := cell?_setCell_some (w := w) (p := ⟨g, i, none⟩) (x := ptr y) (q := ⟨g, j, none⟩) cj
  have h1 := st.cell 0
  simp at h1
  clear st
  unfold ptr at *
  go_enter Try.func114, Try.ntmps114
  go_wp2
  go_region
  all_goals (try go_wp2)
  all_goals go_end0
  all_goals exact ⟨rfl, 1, rfl⟩

theorem lsw_map (L : List Nat) (i j : Nat) : (lsw L i j).map ptr = ((L.map ptr).set i (ptr (L.getD j 0))).set j (ptr (L.getD i 0)) := by simp [lsw, List.map_set]
theorem swap_any (c : Nat → Nat) (w : World) (base B : Nat) (v fv : Value) (L : List Nat) (h : Pil c w base B v fv L) (i j : Nat) (hi : i < L.length) (hj : j < L.length) :
    Calls Try.prog 114 #[ptr B, .int .i64 i, .int .i64 j] w fun e w' => e = .returned (.tuple #[]) ∧ Pil c w' base B v fv (lsw L i j) ∧ Kp (fun k => v.ownBlock = some k) w w' := by
  obtain ⟨g, cap, rfl, hb, hgl, hc1, hc2, hcells, hfr⟩ := h.row (by omega)
  refine (swap_raw w B g L.length cap i j fv (L.getD i 0) (L.getD j 0) h.st hi hj (hcells i hi) (hcells j hj) (hfr i) (hfr j)).mono ?_
  rintro e w' ⟨rfl, q, rfl⟩
  have hgn := h.ne g rfl
  obtain ⟨o1, _⟩ := h.own.stored i (ptr (L.getD j 0))
  obtain ⟨o2, _⟩ := o1.stored j (ptr (L.getD i 0))
  rw [← lsw_map, ← lsw_length L i j] at o2
  have k1 := kp_setCell w g i (ptr (L.getD j 0)) (fun k => (Value.slice (some ⟨g, 0, none⟩) L.length cap).ownBlock = some k) rfl
  have k2 := kp_setCell (w.setCell ⟨g, i, none⟩ (ptr (L.getD j 0))) g j (ptr (L.getD i 0)) (fun k => (Value.slice (some ⟨g, 0, none⟩) L.length cap).ownBlock = some k) rfl
  have k := k1.trans k2 (fun i _ h => h)
  have hF : ∀ b, (Value.slice (some ⟨g, 0, none⟩) L.length cap).ownBlock = some b → b = g := fun b hb => by simp [Value.ownBlock] at hb; omega
  have hp := lsw_perm L i j hi hj
  have P1 : Pil c ((w.setCell ⟨g, i, none⟩ (ptr (L.getD j 0))).setCell ⟨g, j, none⟩ (ptr (L.getD i 0))) base B (.slice (some ⟨g, 0, none⟩) L.length cap) fv (lsw L i j) :=
    ⟨h.st.kp k (fun e => hgn.1 (hF B e).symm), by rw [lsw_length] at o2 ⊢; exact o2, fun b hb => (h.tr b (hp.mem_iff.1 hb)).kp k (fun e => hgn.2 (by rw [← hF b e]; exact hp.mem_iff.1 hb)), fun g' e => ⟨(h.ne g' e).1, fun hm => (h.ne g' e).2 (hp.mem_iff.1 hm)⟩, fun hm => h.nb (hp.mem_iff.1 hm)⟩
  exact ⟨rfl, P1.kp (drewN_kp (fun _ => False) _ q) (fun h => h) (fun _ _ h => h) (fun _ _ h => h), k.trans (drewN_kp (fun _ => False) _ q) (fun _ _ h => h.elim)⟩
end Go.Proofs.Ythpocbpleffdpaa

namespace Go.Proofs.Ythpocbpleffdpaa
open Go.RowKit

theorem find_less (B : Nat) (w : World) : Sem.run Try.prog (method 258 112 (ptr B) "Less") w = .ok (111, ptr B) w := by kernel_rfl
theorem find_swap (B : Nat) (w : World) : Sem.run Try.prog (method 258 112 (ptr B) "Swap") w = .ok (114, ptr B) w := by kernel_rfl
theorem find_len (B : Nat) (w : World) : Sem.run Try.prog (method 258 112 (ptr B) "Len") w = .ok (73, ptr B) w := by kernel_rfl
theorem find_push (B : Nat) (w : World) : Sem.run Try.prog (method 258 112 (ptr B) "Push") w = .ok (113, ptr B) w := by kernel_rfl
theorem find_pop (B : Nat) (w : World) : Sem.run Try.prog (method 258 112 (ptr B) "Pop") w = .ok (112, ptr B) w := by kernel_rfl

set_option maxHeartbeats 4000000 in
set_option maxRecDepth 100000 in
theorem up_any (c : Nat → Nat) (w : World) (base B : Nat) (v f : Value) (L : List Nat) (h : Pil c w base B v (fvo f) L) (j : Nat) (hj : j < L.length) (hu : Hu (kf c L) L.length j) :
    Calls Try.prog 90 #[.iface 112 (ptr B), .int .i64 j] w fun e w' => e = .returned (.tuple #[]) ∧ ∃ L', Mv L.length L L' ∧ Pil c w' base B v (fvo f) L' ∧ Hx (kf c L') 0 L.length ∧ Kp (fun k => v.ownBlock = some k) w w' := by
  have mL := find_less B
  have mS := find_swap B
  have hm : L.length ≤ 9223372036854775807 := by obtain ⟨_, _, _, h⟩ := h.len; exact h
  go_enter Try.func90, Try.ntmps90
  go_wp2
  go_loopw [1] (fun vj wr => ∃ (k : Nat) (L' : List Nat), vj = .int .i64 k ∧ k < L.length ∧ Hid (Mv L.length L L' ∧ Pil c wr base B v (fvo f) L' ∧ Hu (kf c L') L.length k ∧ Kp (fun k => v.ownBlock = some k) w wr)) (fun vj _ => (intOf vj).toNat)
  case atStart => exact ⟨j, L, rfl, hj, Mv.refl _ _, h, hu, Kp.refl _ _⟩
  case round =>
    obtain ⟨k, L', rfl, hk, HH⟩ := hrel
    cases k with
    | zero =>
      go_wp2
      go_end0
      exact ⟨rfl, L', HH.out.1, HH.out.2.1, HH.out.2.2.1.fin (.inl rfl), HH.out.2.2.2⟩
    | succ k =>
      have hP := HH.out.2.1
      have hMl := HH.out.1.len
      have HL : Hid (Calls Try.prog 111 #[ptr B, .int .i64 ((k : Int) + 1), .int .i64 ((k : Int) / 2)] wr fun e w' => e = .returned (.bool (decide (kf c L' (k + 1) < kf c L' (k / 2)))) ∧ ∃ q, w' = wr.drewN q) := less_any c wr base B v f L' hP (k + 1) (k / 2) (by omega) (by omega)
      have HS : Hid (∀ q, Calls Try.prog 114 #[ptr B, .int .i64 ((k : Int) / 2), .int .i64 ((k : Int) + 1)] (wr.drewN q) fun e w' => e = .returned (.tuple #[]) ∧ Pil c w' base B v (fvo f) (lsw L' (k / 2) (k + 1)) ∧ Kp (fun k => v.ownBlock = some k) (wr.drewN q) w') := fun q => swap_any c (wr.drewN q) base B v (fvo f) L' (hP.kp (drewN_kp (fun _ => False) wr q) (fun h => h) (fun _ _ h => h) (fun _ _ h => h)) (k / 2) (k + 1) (by omega) (by omega)
      clear hP
      go_wp2_with (first
        | (go_at_call 111; refine HL.out.mono ?_; rintro _ _ ⟨rfl, q, rfl⟩)
        | (go_at_call 114; refine (HS.out q).mono ?_; rintro _ w3 ⟨rfl, P3, K3⟩))
      · rename_i hh
        have hge : kf c L' ((k + 1 - 1) / 2) ≤ kf c L' (k + 1) := by
          rcases hh with hh | hh
          · simp at hh; omega
          · simp at hh; exact hh
        go_end0
        exact ⟨rfl, L', HH.out.1, HH.out.2.1.kp (drewN_kp (fun _ => False) wr q) (fun h => h) (fun _ _ h => h) (fun _ _ h => h), HH.out.2.2.1.fin (.inr hge), HH.out.2.2.2.trans (drewN_kp (fun _ => False) wr q) (fun _ _ h => False.elim h)⟩
      · rename_i hh
        have hlt : kf c L' (k + 1) < kf c L' ((k + 1 - 1) / 2) := by
          have := hh.2
          simp at this
          exact this
        refine ⟨⟨k / 2, lsw L' (k / 2) (k + 1), rfl, by omega, HH.out.1.sw (by omega) (by omega) (Nat.le_refl _), P3, ?_, (HH.out.2.2.2.trans (drewN_kp (fun _ => False) wr q) (fun _ _ h => False.elim h)).trans K3 (fun _ _ h => h)⟩, by simp [intOf]; omega⟩
        rw [kf_lsw c L' _ _ (by omega) (by omega)]
        exact HH.out.2.2.1.step (by omega) hk (Nat.le_of_lt hlt)

/-- A bool comes back. -/
def RB (e : Ending) : Prop := ∃ b, e = .returned (.bool b)
theorem less_at (c : Nat → Nat) (w : World) (base B : Nat) (v f : Value) (L : List Nat) (h : Pil c w base B v (fvo f) L) : Hid (∀ W, Kp (fun _ => False) w W → ∀ (x y : Int) (i j : Nat) (b : Bool), x = (i : Int) → y = (j : Int) → i < L.length → j < L.length → b = decide (kf c L i < kf c L j) →
    Calls Try.prog 111 #[ptr B, .int .i64 x, .int .i64 y] W fun e w' => e = .returned (.bool b) ∧ ∃ q, w' = W.drewN q) := by
  intro W k x y i j b hx hy hi hj hb
  subst hx hy hb
  exact less_any c W base B v f L (h.kp k (fun h => h) (fun _ _ h => h) (fun _ _ h => h)) i j hi hj
theorem swap_at (c : Nat → Nat) (w : World) (base B : Nat) (v fv : Value) (L : List Nat) (h : Pil c w base B v fv L) : Hid (∀ W, Kp (fun _ => False) w W → ∀ (x y : Int) (i j : Nat), x = (i : Int) → y = (j : Int) → i < L.length → j < L.length →
    Calls Try.prog 114 #[ptr B, .int .i64 x, .int .i64 y] W fun e w' => e = .returned (.tuple #[]) ∧ Pil c w' base B v fv (lsw L i j) ∧ Kp (fun k => v.ownBlock = some k) W w') := by
  intro W k x y i j hx hy hi hj
  subst hx hy
  exact swap_any c W base B v fv L (h.kp k (fun h => h) (fun _ _ h => h) (fun _ _ h => h)) i j hi hj

set_option maxHeartbeats 4000000 in
set_option maxRecDepth 100000 in
theorem down_any (c : Nat → Nat) (w : World) (base B : Nat) (v f : Value) (L : List Nat) (h : Pil c w base B v (fvo f) L) (lo i0 n : Nat) (hn : n ≤ L.length) (hi0 : i0 ≤ L.length) (hL : L.length < 4611686018427387904) (hd : Hd (kf c L) lo n i0) :
    Calls Try.prog 92 #[.iface 112 (ptr B), .int .i64 i0, .int .i64 n] w fun e w' => RB e ∧ ∃ L', Mv n L L' ∧ Pil c w' base B v (fvo f) L' ∧ Hx (kf c L') lo n ∧ Kp (fun k => v.ownBlock = some k) w w' := by
  have mL := find_less B
  have mS := find_swap B
  go_enter Try.func92, Try.ntmps92
  go_wp2
  go_loopw [7] (fun vj wr => ∃ (k : Nat) (L' : List Nat), vj = .int .i64 k ∧ k ≤ L.length ∧ Hid (Mv n L L' ∧ Pil c wr base B v (fvo f) L' ∧ Hd (kf c L') lo n k ∧ Kp (fun k => v.ownBlock = some k) w wr)) (fun vj _ => L.length - (intOf vj).toNat)
  case atStart => exact ⟨i0, L, rfl, hi0, Mv.refl _ _, h, hd, Kp.refl _ _⟩
  case round =>
    obtain ⟨k, L', rfl, hk, HH⟩ := hrel
    have hP := HH.out.2.1
    have hMl := HH.out.1.len
    have HL := less_at c wr base B v f L' hP
    have HS := swap_at c wr base B v (fvo f) L' hP
    clear hP
    by_cases h1 : 2 * k + 1 < n
    · by_cases h2 : 2 * k + 2 < n
      · by_cases hl : kf c L' (2 * k + 2) < kf c L' (2 * k + 1)
        · have hch : ∀ x, 0 < x → x < n → (x - 1) / 2 = k → kf c L' (2 * k + 2) ≤ kf c L' x := by (intro x hx0 hxn hp; rcases (show x = 2 * k + 1 ∨ x = 2 * k + 2 by omega) with e | e <;> subst e <;> omega)
          by_cases hs : kf c L' (2 * k + 2) < kf c L' k
          · go_wp2_with (first
              | (go_at_call 111; refine (HL.out _ (Kp.refl _ _) _ _ (2 * k + 2) (2 * k + 1) true (by omega) (by omega) (by omega) (by omega) (by simp; omega)).mono ?_; rintro _ _ ⟨rfl, q0, rfl⟩)
              | (go_at_call 111; refine (HL.out _ (drewN_kp (fun _ => False) wr q0) _ _ (2 * k + 2) k true (by omega) (by omega) (by omega) (by omega) (by simp; omega)).mono ?_; rintro _ _ ⟨rfl, q1, rfl⟩)
              | (go_at_call 114; refine (HS.out _ (drewN_kp (fun _ => False) wr (q0 + q1)) _ _ k (2 * k + 2) (by omega) (by omega) (by omega) (by omega)).mono ?_; rintro _ w3 ⟨rfl, P3, K3⟩))
            have K4 : Kp (fun k => v.ownBlock = some k) w w3 := (HH.out.2.2.2.trans (drewN_kp (fun _ => False) wr (q0 + q1)) (fun _ _ h => False.elim h)).trans K3 (fun _ _ h => h)
            refine ⟨⟨2 * k + 2, lsw L' k (2 * k + 2), by go_num, by omega, HH.out.1.sw (by omega) (by omega) hn, P3, ?_, K4⟩, by simp [intOf]; omega⟩
            rw [kf_lsw c L' _ _ (by omega) (by omega)]
            exact HH.out.2.2.1.step (by omega) (by omega) (Nat.le_of_lt hs) hch
          · go_wp2_with (first
              | (go_at_call 111; refine (HL.out _ (Kp.refl _ _) _ _ (2 * k + 2) (2 * k + 1) true (by omega) (by omega) (by omega) (by omega) (by simp; omega)).mono ?_; rintro _ _ ⟨rfl, q0, rfl⟩)
              | (go_at_call 111; refine (HL.out _ (drewN_kp (fun _ => False) wr q0) _ _ (2 * k + 2) k false (by omega) (by omega) (by omega) (by omega) (by simp; omega)).mono ?_; rintro _ _ ⟨rfl, q1, rfl⟩)
              | fail)
            have K4 : Kp (fun _ => False) wr _ := (drewN_kp (fun _ => False) wr (q0 + q1))
            go_ret
            exact ⟨⟨_, rfl⟩, L', HH.out.1, HH.out.2.1.kp K4 (fun h => h) (fun _ _ h => h) (fun _ _ h => h), HH.out.2.2.1.fin (fun x h0 hx hp => Nat.le_trans (Nat.le_of_not_lt hs) (hch x h0 hx hp)), HH.out.2.2.2.trans K4 (fun _ _ h => False.elim h)⟩
        · have hch : ∀ x, 0 < x → x < n → (x - 1) / 2 = k → kf c L' (2 * k + 1) ≤ kf c L' x := by (intro x hx0 hxn hp; rcases (show x = 2 * k + 1 ∨ x = 2 * k + 2 by omega) with e | e <;> subst e <;> omega)
          by_cases hs : kf c L' (2 * k + 1) < kf c L' k
          · go_wp2_with (first
              | (go_at_call 111; refine (HL.out _ (Kp.refl _ _) _ _ (2 * k + 2) (2 * k + 1) false (by omega) (by omega) (by omega) (by omega) (by simp; omega)).mono ?_; rintro _ _ ⟨rfl, q0, rfl⟩)
              | (go_at_call 111; refine (HL.out _ (drewN_kp (fun _ => False) wr q0) _ _ (2 * k + 1) k true (by omega) (by omega) (by omega) (by omega) (by simp; omega)).mono ?_; rintro _ _ ⟨rfl, q1, rfl⟩)
              | (go_at_call 114; refine (HS.out _ (drewN_kp (fun _ => False) wr (q0 + q1)) _ _ k (2 * k + 1) (by omega) (by omega) (by omega) (by omega)).mono ?_; rintro _ w3 ⟨rfl, P3, K3⟩))
            have K4 : Kp (fun k => v.ownBlock = some k) w w3 := (HH.out.2.2.2.trans (drewN_kp (fun _ => False) wr (q0 + q1)) (fun _ _ h => False.elim h)).trans K3 (fun _ _ h => h)
            refine ⟨⟨2 * k + 1, lsw L' k (2 * k + 1), by go_num, by omega, HH.out.1.sw (by omega) (by omega) hn, P3, ?_, K4⟩, by simp [intOf]; omega⟩
            rw [kf_lsw c L' _ _ (by omega) (by omega)]
            exact HH.out.2.2.1.step (by omega) (by omega) (Nat.le_of_lt hs) hch
          · go_wp2_with (first
              | (go_at_call 111; refine (HL.out _ (Kp.refl _ _) _ _ (2 * k + 2) (2 * k + 1) false (by omega) (by omega) (by omega) (by omega) (by simp; omega)).mono ?_; rintro _ _ ⟨rfl, q0, rfl⟩)
              | (go_at_call 111; refine (HL.out _ (drewN_kp (fun _ => False) wr q0) _ _ (2 * k + 1) k false (by omega) (by omega) (by omega) (by omega) (by simp; omega)).mono ?_; rintro _ _ ⟨rfl, q1, rfl⟩)
              | fail)
            have K4 : Kp (fun _ => False) wr _ := (drewN_kp (fun _ => False) wr (q0 + q1))
            go_ret
            exact ⟨⟨_, rfl⟩, L', HH.out.1, HH.out.2.1.kp K4 (fun h => h) (fun _ _ h => h) (fun _ _ h => h), HH.out.2.2.1.fin (fun x h0 hx hp => Nat.le_trans (Nat.le_of_not_lt hs) (hch x h0 hx hp)), HH.out.2.2.2.trans K4 (fun _ _ h => False.elim h)⟩
      · have hch : ∀ x, 0 < x → x < n → (x - 1) / 2 = k → kf c L' (2 * k + 1) ≤ kf c L' x := by (intro x hx0 hxn hp; obtain rfl : x = 2 * k + 1 := (by omega); exact Nat.le_refl _)
        by_cases hs : kf c L' (2 * k + 1) < kf c L' k
        · go_wp2_with (first
            | (go_at_call 111; refine (HL.out _ (Kp.refl _ _) _ _ (2 * k + 1) k true (by omega) (by omega) (by omega) (by omega) (by simp; omega)).mono ?_; rintro _ _ ⟨rfl, q1, rfl⟩)
            | (go_at_call 114; refine (HS.out _ (drewN_kp (fun _ => False) wr q1) _ _ k (2 * k + 1) (by omega) (by omega) (by omega) (by omega)).mono ?_; rintro _ w3 ⟨rfl, P3, K3⟩))
          have K4 : Kp (fun k => v.ownBlock = some k) w w3 := (HH.out.2.2.2.trans (drewN_kp (fun _ => False) wr q1) (fun _ _ h => False.elim h)).trans K3 (fun _ _ h => h)
          refine ⟨⟨2 * k + 1, lsw L' k (2 * k + 1), by go_num, by omega, HH.out.1.sw (by omega) (by omega) hn, P3, ?_, K4⟩, by simp [intOf]; omega⟩
          rw [kf_lsw c L' _ _ (by omega) (by omega)]
          exact HH.out.2.2.1.step (by omega) (by omega) (Nat.le_of_lt hs) hch
        · go_wp2_with (first
            | (go_at_call 111; refine (HL.out _ (Kp.refl _ _) _ _ (2 * k + 1) k false (by omega) (by omega) (by omega) (by omega) (by simp; omega)).mono ?_; rintro _ _ ⟨rfl, q1, rfl⟩)
            | fail)
          have K4 : Kp (fun _ => False) wr _ := (drewN_kp (fun _ => False) wr q1)
          go_ret
          exact ⟨⟨_, rfl⟩, L', HH.out.1, HH.out.2.1.kp K4 (fun h => h) (fun _ _ h => h) (fun _ _ h => h), HH.out.2.2.1.fin (fun x h0 hx hp => Nat.le_trans (Nat.le_of_not_lt hs) (hch x h0 hx hp)), HH.out.2.2.2.trans K4 (fun _ _ h => False.elim h)⟩
    · go_wp2
      go_ret
      exact ⟨⟨_, rfl⟩, L', HH.out.1, HH.out.2.1, HH.out.2.2.1.fin (fun x h0 hx hp => by omega), HH.out.2.2.2⟩
end Go.Proofs.Ythpocbpleffdpaa

namespace Go.Proofs.Ythpocbpleffdpaa
open Go.RowKit

set_option maxHeartbeats 4000000 in
set_option maxRecDepth 100000 in
theorem init_any (c : Nat → Nat) (w : World) (base B : Nat) (v f : Value) (L : List Nat) (h : Pil c w base B v (fvo f) L) (hL : L.length < 4611686018427387904) :
    Calls Try.prog 87 #[.iface 112 (ptr B)] w fun e w' => e = .returned (.tuple #[]) ∧ ∃ L', L'.Perm L ∧ Pil c w' base B v (fvo f) L' ∧ Hx (kf c L') 0 L.length ∧ Kp (fun k => v.ownBlock = some k) w w' := by
  have mN := find_len B
  have HN : Hid (Calls Try.prog 73 #[ptr B] w fun e w' => e = .returned (.int .i64 L.length) ∧ w = w') := (len_any c w base B v (fvo f) L h).mono (fun _ _ h => ⟨h.1, h.2.symm⟩)
  go_enter Try.func87, Try.ntmps87
  go_wp2_with (first | (go_at_call 73; refine HN.out.mono ?_; rintro _ _ ⟨rfl, rfl⟩))
  clear HN
  go_loopw [3] (fun vj wr => ∃ (k : Nat) (L' : List Nat), vj = .int .i64 ((k : Int) - 1) ∧ k ≤ L.length ∧ Hid (L'.Perm L ∧ Pil c wr base B v (fvo f) L' ∧ Hx (kf c L') k L.length ∧ Kp (fun k => v.ownBlock = some k) w wr)) (fun vj _ => (intOf vj + 1).toNat)
  case atStart => exact ⟨L.length / 2, L, by go_num, by omega, List.Perm.refl _, h, Hx.last _ (Nat.le_refl _), Kp.refl _ _⟩
  case round =>
    obtain ⟨k, L', rfl, hk, HH⟩ := hrel
    have hl := HH.out.1.length_eq
    cases k with
    | zero =>
      go_wp2
      go_end0
      exact ⟨rfl, L', HH.out.1, HH.out.2.1, HH.out.2.2.1, HH.out.2.2.2⟩
    | succ k =>
      have HD := hid (down_any c wr base B v f L' HH.out.2.1 k k L.length (by omega) (by omega) (by omega) (Hd.init HH.out.2.2.1))
      go_wp2_with (first | (go_at_call 92; refine HD.out.mono ?_; rintro _ w3 ⟨⟨b, rfl⟩, L3, M3, P3, X3, K3⟩))
      exact ⟨⟨k, L3, rfl, by omega, M3.perm.trans HH.out.1, P3, X3, HH.out.2.2.2.trans K3 (fun _ _ h => h)⟩, by simp [intOf]⟩
end Go.Proofs.Ythpocbpleffdpaa

namespace Go.Proofs.Ythpocbpleffdpaa
open Go.RowKit Go.Shelf Go.Lib Go.Sort

shelf_lay_g SlLaysE.n45 Slgn 45 at Try 115 as Try.ldel

def adr (b : Nat) : Option Addr := some ⟨b, 0, none⟩
theorem map_adr (L : List Nat) : (L.map adr).map Value.pointer = L.map ptr := by rw [List.map_map]; rfl
theorem kp_putRow {α : Type} [Inhabited α] (enc : α → Value) (w : World) (g q : Nat) (d : Array α) : Kp (fun k => k = g) w (putRow enc (Sort.ahead w q) g 0 d) :=
  ⟨rfl, rfl, rfl, by simp [putRow, mapBlock, Sort.ahead], fun k _ hk => by simp [putRow, mapBlock, Sort.ahead, Array.getElem?_modify, show g ≠ k from fun e => hk e.symm]⟩

theorem Try.info116 : (Try.prog.info? 116).map (fun i => (i.zero, i.size, i.bytes)) = some (some (.pointer none), 1, 8) := by kernel_rfl
theorem delete_any (w : World) (base g cap b : Nat) (M : List Nat) (h : w.ownsRow base 116 1 (.slice (some ⟨g, 0, none⟩) (M.length + 1) cap) (M.length + 1) ((M ++ [b]).map ptr)) :
    Calls Try.prog 115 #[.slice (some ⟨g, 0, none⟩) (M.length + 1) cap, .int .i64 M.length, .int .i64 ((M.length : Int) + 1)] w fun e w' => e = .returned (.slice (some ⟨g, 0, none⟩) M.length cap) ∧ w'.ownsRow base 116 1 (.slice (some ⟨g, 0, none⟩) M.length cap) M.length (M.map ptr) ∧ Kp (fun k => k = g) w w' := by
  rw [← map_adr] at h
  obtain ⟨g', cap', e0, hb, hg, hn, hm, hl, hH⟩ := holds_of_ownsRow h (by simp)
  cases e0
  have hsz : ((M ++ [b]).map adr).toArray.size = M.length + 1 := by simp
  obtain ⟨i0, hi, _, hz1, _⟩ := info_parts Try.info116
  have hcon := AnyE.slices_Delete Try.ldel Value.pointer (fun _ => rfl) none (fun w => by kernel_rfl) i0 hi hz1 g 0 cap M.length (M.length + 1) ((M ++ [b]).map adr).toArray w hH (by rw [hsz]; exact hn) hm (by omega) (by rw [hsz]; omega)
  change Calls Try.prog 115 _ _ _ at hcon
  rw [hsz] at hcon
  refine Calls.mono hcon ?_
  rintro e w' ⟨rfl, q, rfl⟩
  have e1 : (M.length + 1 - (M.length + 1 - M.length)) = M.length := by omega
  have e2 : ((M ++ [b]).map adr).toArray.toList.take M.length ++ ((M ++ [b]).map adr).toArray.toList.drop (M.length + 1) ++ List.replicate (M.length + 1 - M.length) none = M.map adr ++ [none] := by
    rw [show M.length + 1 - M.length = 1 by omega]
    simp
  rw [e1, e2]
  have h2 := ownsRow_putRow (q := q) (k := M.length) (ys := M.map adr ++ [none]) h (by simp) (by omega)
  have e3 : List.take M.length (M.map adr ++ [none]) = M.map adr := by simp
  rw [e3, map_adr] at h2
  exact ⟨rfl, h2, kp_putRow _ _ _ _ _⟩

set_option maxHeartbeats 4000000 in
theorem pop_any (c : Nat → Nat) (w : World) (base B : Nat) (v fv : Value) (M : List Nat) (b : Nat) (h : Pil c w base B v fv (M ++ [b])) (hM : M.length < 4611686018427387904) :
    Calls Try.prog 112 #[ptr B] w fun e w' => e = .returned (.iface 116 (ptr b)) ∧ ∃ v', Pil c w' base B v' fv M ∧ v'.ownBlock = v.ownBlock ∧ Kp (fun k => k = B ∨ v.ownBlock = some k) w w' := by
  obtain ⟨g, cap, rfl, hb, hgl, hc1, hc2, hcells, hfr⟩ := h.row (by simp)
  have hl : (M ++ [b]).length = M.length + 1 := by simp
  rw [hl] at hc1 hcells h ⊢
  have hgn := h.ne g rfl
  have hst := h.st
  have h1 := h.st.cell 0
  have cb := hcells M.length (by omega)
  have fB := h.st.frozen 0
  rw [show (M ++ [b]).getD M.length 0 = b by simp] at cb
  simp at h1
  have HD := hid (delete_any w base g cap b M (by have := h.own; rw [hl] at this; exact this))
  unfold ptr at *
  go_enter Try.func112, Try.ntmps112
  go_wp2_with (first | (go_at_call 115; refine HD.out.mono ?_; rintro _ w2 ⟨rfl, O2, K2⟩; have S2 := hst.kp K2 (fun e => hgn.1 e.symm); have F2 := S2.frozen 0; have C2 := S2.cell 0; simp at C2))
  go_ret
  refine ⟨rfl, .slice (some ⟨g, 0, none⟩) M.length cap, ⟨by simpa using S2.set 0 _, ownsRow_setCell_other O2 (fun e => hgn.1 (by simpa [Value.ownBlock] using e)) _, fun x hx => ((h.tr x (by simp [hx])).kp K2 (fun e => hgn.2 (by simp [← e, hx]))).kp (kp_setCell w2 B 0 _ (fun k => k = B) rfl) (fun e => h.nb (by simp [← e, hx])), fun g' e => ?_, fun hm => h.nb (by simp [hm])⟩, rfl, ?_⟩
  · have e : g = g' := by simpa [Value.ownBlock] using e
    subst e
    exact ⟨hgn.1, fun hm => hgn.2 (by simp [hm])⟩
  · exact (K2.mono (G := fun k => k = B ∨ (Value.slice (some ⟨g, 0, none⟩) (M.length + 1) cap).ownBlock = some k) (fun i _ e => .inr (by rw [e]; rfl))).trans (kp_setCell w2 B 0 _ (fun k => k = B) rfl) (fun i _ e => .inl e)

/-- What heap.Pop gives: the least, and a heap of the others. -/
structure Popped (c : Nat → Nat) (w w' : World) (base B : Nat) (v f : Value) (L : List Nat) (b : Nat) : Prop where
  one : b ∈ L ∧ ∀ x ∈ L, c b ≤ c x
  rest : ∃ v' M, (b :: M).Perm L ∧ Pil c w' base B v' (fvo f) M ∧ Hx (kf c M) 0 M.length ∧ v'.ownBlock = v.ownBlock
  kp : Kp (fun k => k = B ∨ v.ownBlock = some k) w w'
theorem pop_parts {c : Nat → Nat} {L L2 : List Nat} {n : Nat} (hn : L.length = n + 1) (hx : Hx (kf c L) 0 L.length) (M2 : Mv n (lsw L 0 n) L2) : ∃ N b, L2 = N ++ [b] ∧ N.length = n ∧ Hid (b ∈ L ∧ (∀ x ∈ L, c b ≤ c x) ∧ (b :: N).Perm L) := by
  have hl : L2.length = n + 1 := (M2.len.trans (lsw_length L 0 n)).trans hn
  have hne : L2 ≠ [] := fun e => by rw [e] at hl; simp at hl
  have hp : L2.Perm L := M2.perm.trans (lsw_perm L 0 n (by omega) (by omega))
  have hb : L2.getD n 0 = L.getD 0 0 := by
    rw [M2.rest n (Nat.le_refl _), lsw_getD L 0 n (by omega) (by omega)]
    unfold sw
    by_cases h : n = 0
    · subst h; simp
    · simp [h]
  have e1 := List.dropLast_concat_getLast hne
  have e2 : L2.getLast hne = L.getD 0 0 := by
    rw [← hb, List.getLast_eq_getElem]
    simp [List.getD, hl]
  rw [e2] at e1
  refine ⟨L2.dropLast, L.getD 0 0, e1.symm, by simp [hl], by simp [List.getD, hn], fun x hxm => ?_, ?_⟩
  · obtain ⟨k, hk, rfl⟩ := List.mem_iff_getElem.1 hxm
    have := hx.least k hk
    rw [show L[k] = L.getD k 0 by simp [List.getD, hk]]
    exact this
  · refine List.Perm.trans ?_ hp
    refine List.Perm.trans (List.perm_append_singleton _ _).symm ?_
    rw [e1]
theorem kf_front (c : Nat → Nat) (N : List Nat) (b k : Nat) (hk : k < N.length) : kf c N k = kf c (N ++ [b]) k := by
  simp [kf, List.getD, List.getElem?_append_left hk]
set_option maxHeartbeats 4000000 in
set_option maxRecDepth 100000 in
theorem hpop_any (c : Nat → Nat) (w : World) (base B : Nat) (v f : Value) (L : List Nat) (h : Pil c w base B v (fvo f) L) (hx : Hx (kf c L) 0 L.length) (hL : L.length < 4611686018427387904) (h0 : 0 < L.length) :
    Calls Try.prog 89 #[.iface 112 (ptr B)] w fun e w' => ∃ b, e = .returned (.iface 116 (ptr b)) ∧ Popped c w w' base B v f L b := by
  have mN := find_len B
  have mS := find_swap B
  have mP := find_pop B
  obtain ⟨n, hn⟩ : ∃ n, L.length = n + 1 := ⟨L.length - 1, by omega⟩
  have HN : Hid (Calls Try.prog 73 #[ptr B] w fun e w' => e = .returned (.int .i64 ((n : Int) + 1)) ∧ w = w') := (len_any c w base B v (fvo f) L h).mono (fun _ _ h => ⟨by rw [h.1, hn]; rfl, h.2.symm⟩)
  have HS := swap_at c w base B v (fvo f) L h
  have HD : Hid (∀ W, Pil c W base B v (fvo f) (lsw L 0 n) → Calls Try.prog 92 #[.iface 112 (ptr B), .int .i64 0, .int .i64 n] W fun e w' => RB e ∧ ∃ L', Mv n (lsw L 0 n) L' ∧ Pil c w' base B v (fvo f) L' ∧ Hx (kf c L') 0 n ∧ Kp (fun k => v.ownBlock = some k) W w') := fun W hW =>
    down_any c W base B v f (lsw L 0 n) hW 0 0 n (by rw [lsw_length]; omega) (Nat.zero_le _) (by rw [lsw_length]; omega) (by rw [kf_lsw c L 0 n (by omega) (by omega)]; exact Hd.pop (by rw [← hn]; exact hx))
  go_enter Try.func89, Try.ntmps89
  go_wp2_with (first
    | (go_at_call 73; refine HN.out.mono ?_; rintro _ _ ⟨rfl, rfl⟩)
    | (go_at_call 114; refine (HS.out _ (Kp.refl _ _) _ _ 0 n (by omega) (by omega) (by omega) (by omega)).mono ?_; rintro _ w1 ⟨rfl, P1, K1⟩)
    | (go_at_call 92; refine (HD.out _ P1).mono ?_; rintro _ w2 ⟨⟨b0, rfl⟩, L2, M2, P2, X2, K2⟩; obtain ⟨N, b, rfl, hNl, HB⟩ := pop_parts hn hx M2; have HP := hid (pop_any c w2 base B v (fvo f) N b P2 (by omega)); have HX := hid X2; have HM := hid M2; have HK1 := hid K1; have HK2 := hid K2; clear X2 M2 K1 K2)
    | (go_at_call 112; refine HP.out.mono ?_; rintro _ w3 ⟨rfl, v3, P3, O3, K3⟩))
  go_ret
  refine ⟨b, rfl, ⟨HB.out.1, HB.out.2.1⟩, ⟨v3, N, HB.out.2.2, P3, ?_, O3⟩, ?_⟩
  · rw [hNl]
    exact HX.out.congr (fun k hk => kf_front c N b k (by omega))
  · exact ((HK1.out.trans HK2.out (fun _ _ h => h)).mono (G := fun k => k = B ∨ v.ownBlock = some k) (fun _ _ h => .inr h)).trans K3 (fun _ _ h => h)
end Go.Proofs.Ythpocbpleffdpaa

namespace Go.Proofs.Ythpocbpleffdpaa
open Go.RowKit

/-- append onto a row of one's own of a slice that may be nil or not. -/
theorem wpList_append_any {P : Program} {w : World} {ops : Array Oper} {rest : List Oper} {o : Oper} {a : Act} {Q : Exit → Act → World → Prop} (hgd : o.guard = none) (s x : Operand) (t : TypeId)
    (ho : o.op = .call { callee := .builtin .append, args := #[s, x], argTypes := #[t, t] }) (base : Nat) (e : TypeId) (z : Value) (size bytes : Nat) (ht : P.underlying t = some (.slice e)) (hinfo : (P.info? e).map (fun i => (i.zero, i.size, i.bytes)) = some (some z, size, bytes)) (hzs : z.cells.size = size) (hsz : 0 < size)
    (v : Value) (n : Nat) (xs : List Value) (hs : a.eval s = v) (hown : w.ownsRow base e size v n xs)
    (ao : Option Addr) (m c : Nat) (news : List Value) (hx : a.eval x = .slice ao m c) (hnone : ao = none → m = 0 ∧ c = 0) (hl : news.length = m * size) (hnews : ∀ ad, ao = some ad → ∀ j u, news[j]? = some u → w.cell? (ad.add j) = some u) (h1 : ∀ u ∈ news, u.oneCell' = true)
    (h63 : n + m ≤ maxLen) (hbytes : (n + m) * bytes ≤ 140737488355328) (hbase : base ≤ w.heap.size)
    (h : ∀ v' w', w'.ownsRow base e size v' (n + m) (xs ++ news) → Kp (fun i => v.ownBlock = some i) w w' → (v'.ownBlock = v.ownBlock ∨ v'.ownBlock = some w.heap.size) → wpList P ops Q rest (a.put o.dst v') w') : wpList P ops Q (o :: rest) a w := by
  obtain ⟨i0, hi, hz0, hz1, hz2⟩ := info_parts hinfo
  cases ao with
  | none =>
    obtain ⟨hm0, hc⟩ := hnone rfl
    subst hm0 hc
    obtain rfl : news = [] := List.eq_nil_of_length_eq_zero (by simpa using hl)
    refine wpList_append_own_none hgd s x t ho base e i0 size ht hi v n xs hs hown hx (h v w ?_ (Kp.refl _ _) (.inl rfl))
    rw [Nat.add_zero, List.append_nil]
    exact hown
  | some ad =>
    refine wpList_append_own_at w hgd s x t ho base e i0 z size bytes ht hi hz0 hz1 hz2 hzs hsz v n xs hs hown ad m c news hx hl (hnews ad rfl) h1 h63 hbytes hbase ?_
    intro v' w' h2 h3 _ h4
    exact h v' w' h2 (Kp.of_grown h3 (fun i e => e.symm ▸ rfl)) h4
theorem Try.info116b : (Try.prog.info? 116).map (fun i => (i.zero, i.size, i.bytes)) = some (some (.pointer none), 1, 8) := by kernel_rfl

theorem is_tree (b : Nat) (w : World) : Sem.run Try.prog (Instr.typeAssert (.iface 116 (.pointer (some ⟨b, 0, none⟩))) 20 116 true) w = .ok (.tuple #[.pointer (some ⟨b, 0, none⟩), .bool true]) w := by kernel_rfl
/-- What a push leaves. -/
structure Pushed (c : Nat → Nat) (w w' : World) (base B : Nat) (v v' fv : Value) (L : List Nat) : Prop where
  pil : Pil c w' base B v' fv L
  own : v'.ownBlock = v.ownBlock ∨ ∃ g, v'.ownBlock = some g ∧ w.heap.size ≤ g
  kp : Kp (fun k => k = B ∨ v.ownBlock = some k) w w'

theorem own_slice {w : World} {base n : Nat} {v : Value} {xs : List Value} (h : w.ownsRow base 116 1 v (n + 1) xs) : ∃ g cap, v = .slice (some ⟨g, 0, none⟩) (n + 1) cap := by
  rcases h.2 with ⟨_, h0⟩ | ⟨g, cap, cur, rfl, _⟩
  · omega
  · exact ⟨g, cap, rfl⟩
theorem push_parts (c : Nat → Nat) (w w2 : World) (base B : Nat) (v v2 fv : Value) (L : List Nat) (b : Nat) (o : Obj) (h : Pil c w base B v fv L) (hb : Tk c w b) (hbB : b ≠ B) (hbv : ∀ g, v.ownBlock = some g → g ≠ b)
    (O2 : w2.ownsRow base 116 1 v2 (L.length + 1) (L.map ptr ++ [ptr b])) (K2 : Kp (fun i => v.ownBlock = some i) (w.alloc o) w2) (L2 : v2.ownBlock = v.ownBlock ∨ v2.ownBlock = some (w.alloc o).heap.size) : Pushed c w (w2.setCell ⟨B, 0, none⟩ v2) base B v v2 fv (L ++ [b]) := by
  have K3 : Kp (fun i => v.ownBlock = some i) w w2 := (Kp.alloc (Kp.refl (fun i => v.ownBlock = some i) w) o).trans K2 (fun _ _ h => h)
  have hsz : (w.alloc o).heap.size = w.heap.size + 1 := by simp
  have hBl := h.st.lt
  have hnx : ∀ x, x ∈ L ++ [b] → Tk c w x ∧ x ≠ B ∧ v.ownBlock ≠ some x := by
    intro x hx
    rcases List.mem_append.1 hx with hx | hx
    · exact ⟨h.tr x hx, fun e => h.nb (e ▸ hx), fun e => (h.ne x e).2 hx⟩
    · obtain rfl : x = b := by simpa using hx
      exact ⟨hb, hbB, fun e => hbv x e rfl⟩
  have hne2 : ∀ g, v2.ownBlock = some g → g ≠ B ∧ g ∉ L ++ [b] := by
    intro g e
    rcases L2 with e2 | e2
    · rw [e2] at e
      exact ⟨(h.ne g e).1, fun hm => (hnx g hm).2.2 e⟩
    · rw [e2, hsz] at e
      obtain rfl : w.heap.size + 1 = g := by simpa using e
      exact ⟨by omega, fun hm => by have := (hnx _ hm).1.lt; omega⟩
  have S2 := h.st.kp K3 (fun e => (h.ne _ e).1 rfl)
  refine ⟨⟨by simpa using S2.set 0 v2, ?_, fun x hx => ((hnx x hx).1.kp K3 (hnx x hx).2.2).kp (kp_setCell w2 B 0 v2 (fun k => k = B) rfl) (hnx x hx).2.1, hne2, fun hm => (hnx B hm).2.1 rfl⟩, ?_, ?_⟩
  · refine ownsRow_setCell_other ?_ (fun e => (hne2 B e).1 rfl) _
    simpa using O2
  · rcases L2 with e2 | e2
    · exact .inl e2
    · exact .inr ⟨_, e2, by omega⟩
  · exact (K3.mono (G := fun k => k = B ∨ v.ownBlock = some k) (fun _ _ h => .inr h)).trans (kp_setCell w2 B 0 v2 (fun k => k = B) rfl) (fun _ _ h => .inl h)

set_option maxHeartbeats 4000000 in
set_option maxRecDepth 100000 in
theorem push_any (c : Nat → Nat) (w : World) (base B : Nat) (v fv : Value) (L : List Nat) (b : Nat) (h : Pil c w base B v fv L) (hb : Tk c w b) (hbB : b ≠ B) (hbv : ∀ g, v.ownBlock = some g → g ≠ b) (hbase : base ≤ w.heap.size) (hL : L.length < 17592186044416) :
    Calls Try.prog 113 #[ptr B, .iface 116 (ptr b)] w fun e w' => e = .returned (.tuple #[]) ∧ ∃ v', Pushed c w w' base B v v' fv (L ++ [b]) := by
  have hst := h.st
  have h1 := h.st.cell 0
  simp at h1
  have hown := hid h.own
  have mT := is_tree b
  unfold ptr
  go_enter Try.func113, Try.ntmps113
  go_wp2_with (first
    | (at_builtin; refine wpList_append_any rfl (.tmp 16) (.tmp 18) 114 rfl base 116 (.pointer none) 1 8 Try.underlying114 Try.info116b rfl (by decide) v L.length (L.map ptr) rfl (hown.out.alloc _) (some ⟨w.heap.size, 0, none⟩) 1 1 [ptr b] (by first | rfl | simp [Act.eval]) (fun h => by cases h) rfl (fun ad e j u hu => by (cases e; rw [add_z]; exact ((St.new 116 w #[ptr b]).cell j).trans (by simpa using hu))) (fun u hu => by (simp at hu; subst hu; rfl)) (by unfold maxLen; omega) (by omega) (by simp; omega) ?_; intro v2 w2 O2 K2 L2; obtain ⟨g2, cap2, hv2⟩ := own_slice O2; subst hv2; have S2 := (hst.kp (Kp.alloc (Kp.refl (fun _ => False) w) _) (fun h => h)).kp K2 (fun e => (h.ne _ e).1 rfl); have C2 := S2.cell 0; have F2 := S2.frozen 0; simp at C2))
  go_end0
  refine ⟨rfl, _, push_parts c w w2 base B v _ fv L b _ h hb hbB hbv O2 K2 L2⟩

set_option maxHeartbeats 4000000 in
set_option maxRecDepth 100000 in
theorem hpush_any (c : Nat → Nat) (w : World) (base B : Nat) (v f : Value) (L : List Nat) (b : Nat) (h : Pil c w base B v (fvo f) L) (hx : Hx (kf c L) 0 L.length) (hb : Tk c w b) (hbB : b ≠ B) (hbv : ∀ g, v.ownBlock = some g → g ≠ b) (hbase : base ≤ w.heap.size) (hL : L.length < 17592186044416) :
    Calls Try.prog 76 #[.iface 112 (ptr B), .iface 116 (ptr b)] w fun e w' => e = .returned (.tuple #[]) ∧ ∃ v' L', L'.Perm (b :: L) ∧ Pushed c w w' base B v v' (fvo f) L' ∧ Hx (kf c L') 0 L'.length := by
  have mN := find_len B
  have mP := find_push B
  have HP := hid (push_any c w base B v (fvo f) L b h hb hbB hbv hbase hL)
  have hu : Hid (Hu (kf c (L ++ [b])) (L.length + 1) L.length) := Hu.of (hx.congr (fun k hk => by simp [kf, List.getD, List.getElem?_append_left hk]))
  go_enter Try.func76, Try.ntmps76
  go_wp2_with (first
    | (go_at_call 113; refine HP.out.mono ?_; rintro _ w1 ⟨rfl, v1, P1⟩; have HN : Hid (Calls Try.prog 73 #[ptr B] w1 fun e w' => e = .returned (.int .i64 ((L.length : Int) + 1)) ∧ w1 = w') := (len_any c w1 base B v1 (fvo f) (L ++ [b]) P1.pil).mono (fun _ _ h => ⟨by rw [h.1]; simp, h.2.symm⟩); have HU := hid (up_any c w1 base B v1 f (L ++ [b]) P1.pil L.length (by simp) (by rw [show (L ++ [b]).length = L.length + 1 by simp]; exact hu.out)))
    | (go_at_call 73; refine HN.out.mono ?_; rintro _ _ ⟨rfl, rfl⟩)
    | (go_at_call 90; refine HU.out.mono ?_; rintro _ w2 ⟨rfl, L2, M2, P2, X2, K2⟩))
  go_end0
  refine ⟨rfl, v1, L2, M2.perm.trans (List.perm_append_singleton _ _), ⟨P2, P1.own, P1.kp.trans K2 (fun i hi e => ?_)⟩, by rw [M2.len]; exact X2⟩
  rcases P1.own with e1 | ⟨g, e1, hg⟩
  · exact .inr (e1 ▸ e)
  · rw [e1] at e
    obtain rfl : g = i := by simpa using e
    omega
end Go.Proofs.Ythpocbpleffdpaa

namespace Go.Proofs.Ythpocbpleffdpaa
open Go.RowKit

/-- A pointer or nil. -/
def pto (o : Option Nat) : Value := .pointer (o.map fun b => ⟨b, 0, none⟩)

set_option maxHeartbeats 4000000 in
set_option maxRecDepth 100000 in
theorem grown_any (w : World) (Fb m co sy : Nat) (x : Value) (l r : Option Nat) (hf : St 111 w Fb #[.int .i64 m]) (hm : m < 4611686018427387904) (hx : ∃ i, x = .int .i64 i) :
    Calls Try.prog 88 #[ptr Fb, .agg #[.int .u64 co, x, .int .i64 sy, pto l, pto r]] w fun e w' => e = .returned (ptr w.heap.size) ∧ St 131 w' w.heap.size #[.int .u64 co, .int .i64 m, .int .i64 sy, pto l, pto r] ∧ St 111 w' Fb #[.int .i64 ((m : Int) + 1)] ∧ Kp (fun k => k = Fb) w w' := by
  obtain ⟨xi, rfl⟩ := hx
  have hlt := hf.lt
  have c0 := hf.cell 0
  have f0 := hf.frozen 0
  simp at c0
  unfold pto ptr
  generalize (Option.map (fun b => (⟨b, 0, none⟩ : Addr)) l) = pl
  generalize (Option.map (fun b => (⟨b, 0, none⟩ : Addr)) r) = pr
  go_enter Try.func88, Try.ntmps88
  go_wp2
  go_ret
  refine ⟨rfl, ?_, ?_, (kp_setCell w Fb 0 _ (fun k => k = Fb) rfl).alloc _⟩
  · have := St.new 131 (w.setCell ⟨Fb, 0, none⟩ (.int .i64 ((m : Int) + 1))) #[.int .u64 co, .int .i64 m, .int .i64 sy, .pointer pl, .pointer pr]
    simpa using this
  · have := (hf.set 0 (.int .i64 ((m : Int) + 1))).kp (Kp.alloc (Kp.refl (fun _ => False) _) (.cells #[.int .u64 co, .int .i64 m, .int .i64 sy, .pointer pl, .pointer pr] 131)) (fun h => h)
    simpa using this

set_option maxHeartbeats 4000000 in
set_option maxRecDepth 100000 in
theorem least_any (c : Nat → Nat) (w : World) (base B : Nat) (v f : Value) (L : List Nat) (h : Pil c w base B v (fvo f) L) (hx : Hx (kf c L) 0 L.length) (hL : L.length < 4611686018427387904) (h0 : 0 < L.length) :
    Calls Try.prog 74 #[ptr B] w fun e w' => ∃ b, e = .returned (ptr b) ∧ Popped c w w' base B v f L b := by
  have HP := hid (hpop_any c w base B v f L h hx hL h0)
  have mT := is_tree
  go_enter Try.func74, Try.ntmps74
  go_wp2_with (first
    | (go_at_call 89; refine HP.out.mono ?_; rintro _ w1 ⟨b, rfl, P1⟩; unfold ptr))
  go_ret
  exact ⟨b, rfl, P1⟩

set_option maxHeartbeats 4000000 in
set_option maxRecDepth 100000 in
theorem pile_any (c : Nat → Nat) (w : World) (base Fb : Nat) (v : Value) (L : List Nat) (ho : w.ownsRow base 116 1 v L.length (L.map ptr)) (ht : ∀ b ∈ L, Tk c w b) (hg : ∀ g, v.ownBlock = some g → g ∉ L) (hL : L.length < 4611686018427387904) :
    Calls Try.prog 71 #[ptr Fb, v] w fun e w' => e = .returned (ptr w.heap.size) ∧ ∃ L', L'.Perm L ∧ Pil c w' base w.heap.size v (fvo (ptr Fb)) L' ∧ Hx (kf c L') 0 L'.length ∧ Kp (fun k => v.ownBlock = some k) w w' := by
  have P0 : Hid (Pil c (w.alloc (.cells #[v, fvo (ptr Fb)] 127)) base w.heap.size v (fvo (ptr Fb)) L) := ⟨St.new 127 w _, ho.alloc _, fun b hb => (ht b hb).kp (Kp.alloc (Kp.refl (fun _ => False) w) _) (fun h => h), fun g e => ⟨by have := (ho.lt g e).2; omega, hg g e⟩, fun hm => by have := (ht _ hm).lt; omega⟩
  have HI := hid (init_any c _ base w.heap.size v (ptr Fb) L P0.out hL)
  have hv : ∃ ao cap, v = .slice ao L.length cap := by obtain ⟨ao, cap, e, _⟩ := P0.out.len; exact ⟨ao, cap, e⟩
  obtain ⟨ao, cap, rfl⟩ := hv
  unfold fvo ptr at HI
  unfold ptr
  go_enter Try.func71, Try.ntmps71
  go_wp2_with (first
    | (go_at_call 87; refine HI.out.mono ?_; rintro _ w1 ⟨rfl, L1, M1, P1, X1, K1⟩))
  go_ret
  exact ⟨rfl, L1, M1, P1, by rw [M1.length_eq]; exact X1, (Kp.alloc (Kp.refl _ w) _).trans K1 (fun _ _ h => h)⟩
end Go.Proofs.Ythpocbpleffdpaa
