/- Piles of trees in memory; what comes ahead of what (ahead), Len and Less of a pile. -/
import Derived.Test.YthpocbpleffdpaaHi
import Derived.Test.YthpocbpleffdpaaProg
import Derived.Test.YthpocbpleffdpaaGen
import Derived.Test.YthpocbpleffdpaaHp
import Derived.BigQuiet
import Derived.Laws.OwnMore
import Derived.OneCell
namespace Go.Proofs.Ythpocbpleffdpaa
open Go.RowKit

theorem drewN_kp (F : Nat → Prop) (w : World) (n : Nat) : Kp F w (w.drewN n) := by
  induction n generalizing w with
  | zero => exact Kp.refl _ _
  | succ n ih => exact (ih w).drew
theorem drewN_two (w : World) (m n : Nat) : (w.drewN m).drewN n = w.drewN (m + n) := by
  induction n with
  | zero => rfl
  | succ n ih => show ((w.drewN m).drewN n).drew = _; rw [ih]; rfl
def Hid (p : Prop) : Prop := p
theorem Hid.out {p : Prop} (h : Hid p) : p := h
/-- A struct's cells. -/
def St (t : TypeId) (w : World) (g : Nat) (cs : Array Value) : Prop := w.heap[g]? = some (.cells cs t (0, 0))
theorem St.cell {t : TypeId} {w : World} {g : Nat} {cs : Array Value} (h : St t w g cs) (i : Nat) : w.cell? ⟨g, i, none⟩ = cs[i]? := cell_of_row w g i _ t _ h
theorem St.frozen {t : TypeId} {w : World} {g : Nat} {cs : Array Value} (h : St t w g cs) (i : Nat) : w.frozen? ⟨g, i, none⟩ = false := frozen_of_row w g i _ t h
theorem St.lt {t : TypeId} {w : World} {g : Nat} {cs : Array Value} (h : St t w g cs) : g < w.heap.size := (Array.getElem?_eq_some_iff.1 h).1
theorem St.set {t : TypeId} {w : World} {g : Nat} {cs : Array Value} (h : St t w g cs) (i : Nat) (v : Value) : St t (w.setCell ⟨g, i, none⟩ v) g (cs.set! i v) := by
  unfold St
  rw [heap_setCell_same w g i _ t _ h]; simp
theorem St.kp {t : TypeId} {F : Nat → Prop} {w w' : World} {g : Nat} {cs : Array Value} (h : St t w g cs) (k : Kp F w w') (hf : ¬ F g) : St t w' g cs := by
  unfold St; rw [k.block g h.lt hf]; exact h
theorem St.new (t : TypeId) (w : World) (cs : Array Value) : St t (w.alloc (.cells cs t)) w.heap.size cs := heap_alloc_new w _
theorem kp_setCell (w : World) (g i : Nat) (v : Value) (F : Nat → Prop) (hF : F g) : Kp F w (w.setCell ⟨g, i, none⟩ v) :=
  ⟨rfl, rfl, rfl, by simp, fun k _ hk => heap_setCell_other w ⟨g, i, none⟩ k v (fun e => hk (by rw [e]; exact hF))⟩

/-- A block's address as a value. -/
def ptr (b : Nat) : Value := .pointer (some ⟨b, 0, none⟩)
/-- A tree's block and its key: what it costs, then how old it is. -/
def Tk (c : Nat → Nat) (w : World) (b : Nat) : Prop := ∃ (co ma : Nat) (s l r : Value), St 131 w b #[.int .u64 co, .int .i64 ma, s, l, r] ∧ co < 18446744073709551616 ∧ ma < 9223372036854775808 ∧ c b = co * 9223372036854775808 + ma
theorem Tk.kp {c : Nat → Nat} {F : Nat → Prop} {w w' : World} {b : Nat} (h : Tk c w b) (k : Kp F w w') (hf : ¬ F b) : Tk c w' b := by
  obtain ⟨co, ma, s, l, r, h1, h2⟩ := h
  exact ⟨co, ma, s, l, r, h1.kp k hf, h2⟩
theorem Tk.lt {c : Nat → Nat} {w : World} {b : Nat} (h : Tk c w b) : b < w.heap.size := by
  obtain ⟨co, ma, s, l, r, h1, h2⟩ := h
  exact h1.lt

theorem key_lt {a b x y : Nat} (hx : x < 9223372036854775808) (hy : y < 9223372036854775808) : (a * 9223372036854775808 + x < b * 9223372036854775808 + y) ↔ (a < b ∨ (a = b ∧ x < y)) := by omega

set_option maxHeartbeats 2000000 in
theorem ahead_any (c : Nat → Nat) (w : World) (fv : Value) (a b : Nat) (ha : Tk c w a) (hb : Tk c w b) :
    Calls Try.prog 86 #[fv, ptr a, ptr b] w fun e w' => e = .returned (.bool (decide (c a < c b))) ∧ ∃ q, w' = w.drewN q := by
  obtain ⟨ca, ma, sa, la, ra, a1, a2, a3, a4⟩ := ha
  obtain ⟨cb, mb, sb, lb, rb, b1, b2, b3, b4⟩ := hb
  have e : decide (c a < c b) = decide (ca < cb ∨ (ca = cb ∧ ma < mb)) := by rw [a4, b4]; exact decide_eq_decide.2 (key_lt a3 b3)
  rw [e]
  have h1 := a1.cell 0
  have h2 := a1.cell 1
  have h3 := b1.cell 0
  have h4 := b1.cell 1
  simp at h1 h2 h3 h4
  unfold ptr
  clear a1 b1 a4 b4 e
  go_enter Try.func86, Try.ntmps86
  go_wp2
  go_quiet (fail)
  by_cases hne : ca = cb
  · subst hne
    go_wp2
    go_quiet (fail)
    go_wp2
    go_ret
    exact ⟨by simp, _, (by first | rfl | exact drewN_two _ _ _)⟩
  · go_wp2
    go_quiet (fail)
    go_wp2
    go_ret
    exact ⟨by simp [hne], _, (by first | rfl | exact drewN_two _ _ _)⟩

/-- A pile: its block B, its row's block g, the trees in their places, their keys. -/
structure Pil (c : Nat → Nat) (w : World) (base B : Nat) (v fv : Value) (L : List Nat) : Prop where
  st : St 127 w B #[v, fv]
  own : w.ownsRow base 116 1 v L.length (L.map ptr)
  tr : ∀ b ∈ L, Tk c w b
  ne : ∀ g, v.ownBlock = some g → g ≠ B ∧ g ∉ L
  nb : B ∉ L
/-- What a pile's comparison is: ahead, of some forest. -/
def fvo (f : Value) : Value := .func (.func 86) #[f] #[]
/-- Where the row lies, if a tree is there. -/
theorem Pil.row {c : Nat → Nat} {w : World} {base B : Nat} {v fv : Value} {L : List Nat} (h : Pil c w base B v fv L) (hl : 0 < L.length) : ∃ g cap, v = .slice (some ⟨g, 0, none⟩) L.length cap ∧ base ≤ g ∧ g < w.heap.size ∧ L.length ≤ cap ∧ cap ≤ maxLen ∧ (∀ i, i < L.length → w.cell? ⟨g, i, none⟩ = some (ptr (L.getD i 0))) ∧ (∀ i, w.frozen? ⟨g, i, none⟩ = false) := by
  have ho := h.own
  rcases h.own.2 with ⟨_, h0⟩ | ⟨g, cap, cur, rfl, h1, h2, h3, h4, h5, h6⟩
  · omega
  · refine ⟨g, cap, rfl, h1, (Array.getElem?_eq_some_iff.1 h2).1, h3, h4, fun i hi => ?_, fun i => frozen_of_row w g i cur 116 h2⟩
    have := ho.cells (g := g) rfl i (ptr (L.getD i 0)) (by simp [List.getD, hi])
    rw [add_z] at this
    exact this
theorem Pil.len {c : Nat → Nat} {w : World} {base B : Nat} {v fv : Value} {L : List Nat} (h : Pil c w base B v fv L) : ∃ ao cap, v = .slice ao L.length cap ∧ L.length ≤ maxLen := by
  rcases h.own.2 with ⟨h1, h0⟩ | ⟨g, cap, cur, rfl, h1, h2, h3, h4, h5, h6⟩
  · exact ⟨none, 0, by rw [h0]; exact h1, by rw [h0]; simp⟩
  · exact ⟨_, cap, rfl, by omega⟩
theorem Pil.kp {c : Nat → Nat} {F : Nat → Prop} {w w' : World} {base B : Nat} {v fv : Value} {L : List Nat} (h : Pil c w base B v fv L) (k : Kp F w w') (hB : ¬ F B) (hg : ∀ g, v.ownBlock = some g → ¬ F g) (hL : ∀ b ∈ L, ¬ F b) : Pil c w' base B v fv L := by
  refine ⟨h.st.kp k hB, ⟨h.own.1, ?_⟩, fun b hb => (h.tr b hb).kp k (hL b hb), h.ne, h.nb⟩
  rcases h.own.2 with h0 | ⟨g, cap, cur, rfl, h1, h2, h3, h4, h5, h6⟩
  · exact .inl h0
  · exact .inr ⟨g, cap, cur, rfl, h1, by rw [k.block g (Array.getElem?_eq_some_iff.1 h2).1 (hg g rfl)]; exact h2, h3, h4, h5, h6⟩

set_option maxHeartbeats 2000000 in
theorem len_any (c : Nat → Nat) (w : World) (base B : Nat) (v fv : Value) (L : List Nat) (h : Pil c w base B v fv L) :
    Calls Try.prog 73 #[ptr B] w fun e w' => e = .returned (.int .i64 L.length) ∧ w' = w := by
  obtain ⟨ao, cap, rfl, hm⟩ := h.len
  have h1 := h.st.cell 0
  simp at h1
  unfold maxLen at hm
  unfold ptr
  go_enter Try.func73, Try.ntmps73
  go_wp2
  go_ret
  exact ⟨rfl, rfl⟩

set_option maxHeartbeats 2000000 in
theorem less_any (c : Nat → Nat) (w : World) (base B : Nat) (v f : Value) (L : List Nat) (h : Pil c w base B v (fvo f) L) (i j : Nat) (hi : i < L.length) (hj : j < L.length) :
    Calls Try.prog 111 #[ptr B, .int .i64 i, .int .i64 j] w fun e w' => e = .returned (.bool (decide (kf c L i < kf c L j))) ∧ ∃ q, w' = w.drewN q := by
  obtain ⟨g, cap, rfl, hb, hgl, hc1, hc2, hcells, hfr⟩ := h.row (by omega)
  have ti := h.tr (L.getD i 0) (by simp [List.getD, hi])
  have tj := h.tr (L.getD j 0) (by simp [List.getD, hj])
  have h1 := h.st.cell 0
  have h2 := h.st.cell 1
  have ci := hcells i hi
  have cj := hcells j hj
  simp at h1 h2
  unfold maxLen at hc2
  have HA : Hid (∀ q : Nat, Calls Try.prog 86 #[f, ptr (L.getD i 0), ptr (L.getD j 0)] (w.drewN q) fun e w' => e = .returned (.bool (decide (c (L.getD i 0) < c (L.getD j 0)))) ∧ ∃ q', w' = (w.drewN q).drewN q') := fun q => ahead_any c _ f _ _ (ti.kp (drewN_kp (fun _ => False) w q) (fun h => h)) (tj.kp (drewN_kp (fun _ => False) w q) (fun h => h))
  unfold kf
  unfold fvo at h2
  generalize L.getD i 0 = a at *
  generalize L.getD j 0 = b at *
  clear h hcells hfr ti tj
  unfold ptr at *
  go_enter Try.func111, Try.ntmps111
  go_wp2
  go_quiet (first | (go_at_call 86; refine Calls.quiet_of (HA.out _)))
  go_wp2
  go_ret
  exact ⟨rfl, _, rfl⟩
end Go.Proofs.Ythpocbpleffdpaa
