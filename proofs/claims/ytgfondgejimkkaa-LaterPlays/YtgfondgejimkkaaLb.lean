/- later: lines (heaps of runs that wait) in memory; Len, Less, earlier. -/
import Derived.Test.YtgfondgejimkkaaSb
import Derived.Test.YtgfondgejimkkaaHp
import Derived.BigQuiet
import Derived.Laws.OwnMore
import Derived.OneCell
namespace Go.Proofs.Ytgfondgejimkkaa
open Go.RowKit
set_option linter.unusedVariables false
theorem drewN_two (w : World) (m n : Nat) : (w.drewN m).drewN n = w.drewN (m + n) := by
  induction n with
  | zero => rfl
  | succ n ih => show ((w.drewN m).drewN n).drew = _; rw [ih]; rfl
/-- A block's address as a value. -/
def ptr (b : Nat) : Value := .pointer (some ⟨b, 0, none⟩)
/-- Blocks of different types are apart. -/
theorem apart_types {w : World} {g : Nat} {t u : TypeId} {cs ds : Array Value} (h : w.heap[g]? = some (.cells cs t (0, 0))) (k : w.heap[g]? = some (.cells ds u (0, 0))) (hn : t ≠ u) : False := by
  rw [h] at k
  simp only [Option.some.injEq, Obj.cells.injEq] at k
  exact hn k.2.1
/-- One that waits: its run, its slot. -/
def Wt (c : Nat → Rn) (w : World) (b i : Nat) : Prop := St 77 w b #[.int .i64 (c b).a, .int .i64 (c b).n, .int .i64 (i : Int)]
theorem Wt.kp {c : Nat → Rn} {F : Nat → Prop} {w w' : World} {b i : Nat} (h : Wt c w b i) (k : Kp F w w') (hf : ¬ F b) : Wt c w' b i := St.kp h k hf
theorem Wt.lt {c : Nat → Rn} {w : World} {b i : Nat} (h : Wt c w b i) : b < w.heap.size := St.lt h
theorem Wt.slot {c : Nat → Rn} {w : World} {b i j : Nat} (h : Wt c w b i) (k : Wt c w b j) : i = j := by
  unfold Wt St at h k
  rw [h] at k
  simp only [Option.some.injEq, Obj.cells.injEq] at k
  have := congrArg (fun a => a[2]?) k.1
  simp at this
  omega
def key (c : Nat → Rn) (b : Nat) : Nat := (c b).a.toNat
/-- What a line's order is. -/
def fvo (B : Nat) : Value := .func (.func 65) #[ptr B] #[]
/-- A line: its block B, its row, those that wait in their slots. -/
structure Ln (c : Nat → Rn) (w : World) (base B : Nat) (v : Value) (L : List Nat) : Prop where
  st : St 69 w B #[v, fvo B]
  own : w.ownsRow base 74 1 v L.length (L.map ptr)
  tr : ∀ i, i < L.length → Wt c w (L.getD i 0) i
  may : ∀ b ∈ L, Mayr (c b)
theorem gn {L : List Nat} {i : Nat} (h : i < L.length) : L.getD i 0 = L[i] := by simp [List.getD, h]
theorem gn_mem {L : List Nat} {i : Nat} (h : i < L.length) : L.getD i 0 ∈ L := by rw [gn h]; exact List.getElem_mem h
theorem gn_of {L : List Nat} {b : Nat} (h : b ∈ L) : ∃ i, i < L.length ∧ L.getD i 0 = b := by
  obtain ⟨i, hi, e⟩ := List.getElem_of_mem h
  exact ⟨i, hi, by rw [gn hi]; exact e⟩
theorem Ln.wt {c : Nat → Rn} {w : World} {base B : Nat} {v : Value} {L : List Nat} (h : Ln c w base B v L) {b : Nat} (hb : b ∈ L) : ∃ i, Wt c w b i := by
  obtain ⟨i, hi, rfl⟩ := gn_of hb
  exact ⟨i, h.tr i hi⟩
theorem Ln.inj {c : Nat → Rn} {w : World} {base B : Nat} {v : Value} {L : List Nat} (h : Ln c w base B v L) {i j : Nat} (hi : i < L.length) (hj : j < L.length) (e : L.getD i 0 = L.getD j 0) : i = j := by
  have h1 := h.tr i hi
  rw [e] at h1
  exact h1.slot (h.tr j hj)
theorem Ln.nodup {c : Nat → Rn} {w : World} {base B : Nat} {v : Value} {L : List Nat} (h : Ln c w base B v L) : L.Nodup := by
  refine List.pairwise_iff_getElem.2 fun i j hi hj hij e => ?_
  have := h.inj hi hj (by rw [gn hi, gn hj]; exact e)
  omega
theorem ownb {w : World} {base n : Nat} {v : Value} {xs : List Value} {t : TypeId} {g : Nat} (h : w.ownsRow base t 1 v n xs) (e : v.ownBlock = some g) : ∃ cur, w.heap[g]? = some (.cells cur t (0, 0)) ∧ base ≤ g := by
  rcases h.2 with ⟨rfl, _⟩ | ⟨g', cap, cur, rfl, h1, h2, _⟩
  · simp [Value.ownBlock] at e
  · simp [Value.ownBlock] at e
    subst e
    exact ⟨cur, h2, h1⟩
theorem Ln.ne {c : Nat → Rn} {w : World} {base B : Nat} {v : Value} {L : List Nat} (h : Ln c w base B v L) : ∀ g, v.ownBlock = some g → g ≠ B ∧ g ∉ L := by
  intro g e
  obtain ⟨cur, hg, _⟩ := ownb h.own e
  refine ⟨fun e => ?_, fun hm => ?_⟩
  · subst e
    exact apart_types hg h.st (by decide)
  · obtain ⟨i, hi⟩ := h.wt hm
    exact apart_types hg hi (by decide)
theorem Ln.nb {c : Nat → Rn} {w : World} {base B : Nat} {v : Value} {L : List Nat} (h : Ln c w base B v L) : B ∉ L := fun hm => by
  obtain ⟨i, hi⟩ := h.wt hm
  exact apart_types h.st hi (by decide)
/-- Where the row lies, if one is there. -/
theorem Ln.row {c : Nat → Rn} {w : World} {base B : Nat} {v : Value} {L : List Nat} (h : Ln c w base B v L) (hl : 0 < L.length) : ∃ g cap, v = .slice (some ⟨g, 0, none⟩) L.length cap ∧ base ≤ g ∧ g < w.heap.size ∧ L.length ≤ cap ∧ cap ≤ maxLen ∧ (∀ i, i < L.length → w.cell? ⟨g, i, none⟩ = some (ptr (L.getD i 0))) ∧ (∀ i, w.frozen? ⟨g, i, none⟩ = false) := by
  have ho := h.own
  rcases h.own.2 with ⟨_, h0⟩ | ⟨g, cap, cur, rfl, h1, h2, h3, h4, h5, h6⟩
  · omega
  · refine ⟨g, cap, rfl, h1, (Array.getElem?_eq_some_iff.1 h2).1, h3, h4, fun i hi => ?_, fun i => frozen_of_row w g i cur 74 h2⟩
    have := ho.cells (g := g) rfl i (ptr (L.getD i 0)) (by simp [List.getD, hi])
    rw [add_z] at this
    exact this
theorem Ln.len {c : Nat → Rn} {w : World} {base B : Nat} {v : Value} {L : List Nat} (h : Ln c w base B v L) : ∃ ao cap, v = .slice ao L.length cap ∧ L.length ≤ maxLen := by
  rcases h.own.2 with ⟨h1, h0⟩ | ⟨g, cap, cur, rfl, h1, h2, h3, h4, h5, h6⟩
  · exact ⟨none, 0, by rw [h0]; exact h1, by rw [h0]; simp⟩
  · exact ⟨_, cap, rfl, by omega⟩
theorem own_kp {F : Nat → Prop} {w w' : World} {base n : Nat} {v : Value} {xs : List Value} {t : TypeId} {s : Nat} (h : w.ownsRow base t s v n xs) (k : Kp F w w') (hg : ∀ g, v.ownBlock = some g → ¬ F g) : w'.ownsRow base t s v n xs := by
  refine ⟨h.1, ?_⟩
  rcases h.2 with h0 | ⟨g, cap, cur, rfl, h1, h2, h3, h4, h5, h6⟩
  · exact .inl h0
  · exact .inr ⟨g, cap, cur, rfl, h1, by rw [k.block g (Array.getElem?_eq_some_iff.1 h2).1 (hg g rfl)]; exact h2, h3, h4, h5, h6⟩
theorem Ln.kp {c : Nat → Rn} {F : Nat → Prop} {w w' : World} {base B : Nat} {v : Value} {L : List Nat} (h : Ln c w base B v L) (k : Kp F w w') (hB : ¬ F B) (hg : ∀ g, v.ownBlock = some g → ¬ F g) (hL : ∀ b ∈ L, ¬ F b) : Ln c w' base B v L :=
  ⟨h.st.kp k hB, own_kp h.own k hg, fun i hi => (h.tr i hi).kp k (hL _ (gn_mem hi)), h.may⟩
theorem Ln.kp0 {c : Nat → Rn} {w w' : World} {base B : Nat} {v : Value} {L : List Nat} (h : Ln c w base B v L) (k : Kp (fun _ => False) w w') : Ln c w' base B v L := h.kp k (fun h => h) (fun _ _ h => h) (fun _ _ h => h)

set_option maxHeartbeats 2000000 in
theorem len_any (c : Nat → Rn) (w : World) (base B : Nat) (v : Value) (L : List Nat) (h : Ln c w base B v L) :
    Calls Try.prog 34 #[ptr B] w fun e w' => e = .returned (.int .i64 L.length) ∧ w' = w := by
  obtain ⟨ao, cap, rfl, hm⟩ := h.len
  have h1 := h.st.cell 0
  simp at h1
  unfold maxLen at hm
  unfold ptr
  go_enter Try.func34, Try.ntmps34
  go_wp2
  go_ret
  exact ⟨rfl, rfl⟩

set_option maxHeartbeats 2000000 in
theorem earlier_any (c : Nat → Rn) (w : World) (base B : Nat) (v : Value) (L : List Nat) (h : Ln c w base B v L) (i j : Nat) (hi : i < L.length) (hj : j < L.length) :
    Calls Try.prog 65 #[ptr B, .int .i64 i, .int .i64 j] w fun e w' => e = .returned (.bool (decide (kf (key c) L i < kf (key c) L j))) ∧ ∃ q, w' = w.drewN q := by
  obtain ⟨g, cap, rfl, hb, hgl, hc1, hc2, hcells, hfr⟩ := h.row (by omega)
  have ti := h.tr i hi
  have tj := h.tr j hj
  have mi := h.may _ (gn_mem hi)
  have mj := h.may _ (gn_mem hj)
  have h1 := h.st.cell 0
  have ci := hcells i hi
  have cj := hcells j hj
  simp at h1
  unfold maxLen at hc2
  have e : decide (kf (key c) L i < kf (key c) L j) = decide ((c (L.getD i 0)).a < (c (L.getD j 0)).a) := by
    unfold kf key
    unfold Mayr at mi mj
    exact decide_eq_decide.2 (by omega)
  rw [e]
  clear h hcells hfr e mi mj
  generalize L.getD i 0 = a at *
  generalize L.getD j 0 = b at *
  have y1 := St.cell ti 0
  have y2 := St.cell tj 0
  simp at y1 y2
  clear ti tj
  unfold ptr at *
  go_enter Try.func65, Try.ntmps65
  go_wp2
  go_quiet (fail)
  go_wp2
  go_ret
  exact ⟨rfl, _, rfl⟩

set_option maxHeartbeats 2000000 in
theorem less_any (c : Nat → Rn) (w : World) (base B : Nat) (v : Value) (L : List Nat) (h : Ln c w base B v L) (i j : Nat) (hi : i < L.length) (hj : j < L.length) :
    Calls Try.prog 108 #[ptr B, .int .i64 i, .int .i64 j] w fun e w' => e = .returned (.bool (decide (kf (key c) L i < kf (key c) L j))) ∧ ∃ q, w' = w.drewN q := by
  have HE := hid (earlier_any c w base B v L h i j hi hj)
  have h2 := h.st.cell 1
  simp [fvo] at h2
  unfold ptr at *
  clear h
  go_enter Try.func108, Try.ntmps108
  go_wp2_with (first | (go_at_call 65; refine HE.out.mono ?_; rintro _ _ ⟨rfl, q, rfl⟩))
  go_ret
  exact ⟨rfl, _, rfl⟩
end Go.Proofs.Ytgfondgejimkkaa
