import Derived.Test.YtnccklbnncaeoaaGreatJap
import Derived.Test.YtnccklbnncaeoaaGreatJaq
import Derived.BigQuiet
import Derived.Laws.OwnMore
import Derived.OneCell
import Derived.RangeFuncNested
import Derived.RangeFuncBound
import Derived.RangeFuncCalls
import Derived.RangeFuncLeaves
import Derived.RangeFuncFrom
import Derived.Shelf.Abstract
import Derived.Shelf.RegionOpen
import Derived.WalkKit
import Derived.OwnWalkIn
import Derived.TacticsInMore
import Derived.LoopNIn
import Derived.LoopIn
/- cache: pages in memory; the base of all further texts. -/
namespace Go.Proofs.YtnccklbnncaeoaaGreat
open Go.RowKit
set_option linter.unusedVariables false
theorem hid {p : Prop} (h : p) : Hid p := h
theorem drewN_two (w : World) (m n : Nat) : (w.drewN m).drewN n = w.drewN (m + n) := by
  induction n with
  | zero => rfl
  | succ n ih => show ((w.drewN m).drewN n).drew = _; rw [ih]; rfl
theorem Kp.cell {w w' : World} (k : Kp (fun _ => False) w w') {ad : Addr} {v : Value} (h : w.cell? ad = some v) : w'.cell? ad = some v := by
  rw [← h]
  have hb := k.block ad.block (block_lt_of_cell h) (fun x => x)
  unfold World.cell?
  simp only [hb]
theorem Src.kp0 {κ : IntKind} {w w' : World} {ao : Option Addr} {zs : List Int} (h : Src κ w ao zs) (k : Kp (fun _ => False) w w') : Src κ w' ao zs := h.kp k (fun _ _ _ x => x)
theorem kp_setRow (w : World) (g : Nat) (cs : Array Value) : Kp (fun i => i = g) w (w.setRow g cs) := Kp.of_grown (grown_setRow g cs) (fun i e => by cases e; rfl)
theorem set_other {W : World} {g h i j : Nat} (v : Value) (hne : ¬ h = g) : (W.setCell ⟨g, i, none⟩ v).cell? ⟨h, j, none⟩ = W.cell? ⟨h, j, none⟩ := by
  have hb := heap_setCell_other W ⟨g, i, none⟩ h v hne
  unfold World.cell?
  simp only [hb]
/-- A block's address as a value. -/
def ptr (b : Nat) : Value := .pointer (some ⟨b, 0, none⟩)
theorem ptr_inj {a b : Nat} (h : ptr a = ptr b) : a = b := by
  unfold ptr at h
  simp only [Value.pointer.injEq, Option.some.injEq, Addr.mk.injEq] at h
  exact h.1
/-- Blocks of different types are apart. -/
theorem apart_types {w : World} {g : Nat} {t u : TypeId} {cs ds : Array Value} (h : w.heap[g]? = some (.cells cs t (0, 0))) (k : w.heap[g]? = some (.cells ds u (0, 0))) (hn : t ≠ u) : False := by
  rw [h] at k
  simp only [Option.some.injEq, Obj.cells.injEq] at k
  exact hn k.2.1
theorem apart_map {κ : Type} {mk : κ → Value} {w : World} {g c : Nat} {t : TypeId} {cs : Array Value} {es : List (κ × Value × Nat)} (h : w.heap[g]? = some (.cells cs t (0, 0))) (k : Mp mk w g es c) : False := by
  have := k.1
  rw [h] at this
  cases this
theorem gn {L : List Nat} {i : Nat} (h : i < L.length) : L.getD i 0 = L[i] := by simp [List.getD, h]
theorem gn_mem {L : List Nat} {i : Nat} (h : i < L.length) : L.getD i 0 ∈ L := by rw [gn h]; exact List.getElem_mem h
theorem gn_of {L : List Nat} {b : Nat} (h : b ∈ L) : ∃ i, i < L.length ∧ L.getD i 0 = b := by
  obtain ⟨i, hi, e⟩ := List.getElem_of_mem h
  exact ⟨i, hi, by rw [gn hi]; exact e⟩
theorem ownb {w : World} {base n : Nat} {v : Value} {xs : List Value} {t : TypeId} {g : Nat} (h : w.ownsRow base t 1 v n xs) (e : v.ownBlock = some g) : ∃ cur, w.heap[g]? = some (.cells cur t (0, 0)) ∧ base ≤ g := by
  rcases h.2 with ⟨rfl, _⟩ | ⟨g', cap, cur, rfl, h1, h2, _⟩
  · simp [Value.ownBlock] at e
  · simp [Value.ownBlock] at e
    subst e
    exact ⟨cur, h2, h1⟩
theorem own_kp {F : Nat → Prop} {w w' : World} {base n : Nat} {v : Value} {xs : List Value} {t : TypeId} {s : Nat} (h : w.ownsRow base t s v n xs) (k : Kp F w w') (hg : ∀ g, v.ownBlock = some g → ¬ F g) : w'.ownsRow base t s v n xs := by
  refine ⟨h.1, ?_⟩
  rcases h.2 with h0 | ⟨g, cap, cur, rfl, h1, h2, h3, h4, h5, h6⟩
  · exact .inl h0
  · exact .inr ⟨g, cap, cur, rfl, h1, by rw [k.block g (Array.getElem?_eq_some_iff.1 h2).1 (hg g rfl)]; exact h2, h3, h4, h5, h6⟩
/-- What a page's cells hold, but for its slot. -/
structure Pc where
  n : Nat
  bv : Value
  di : Bool
  pe : Bool
  tk : Nat
  wm : Nat
  rm : Nat
def Pc.cs (c : Pc) (i : Nat) : Array Value := #[.int .i64 c.n, c.bv, .bool c.di, .bool c.pe, .int .i64 c.tk, .int .i64 i, .map (some c.wm), .map (some c.rm)]
/-- The page at b, in slot i. -/
def Wt (c : Nat → Pc) (w : World) (b i : Nat) : Prop := St 142 w b ((c b).cs i)
theorem Wt.kp {c : Nat → Pc} {F : Nat → Prop} {w w' : World} {b i : Nat} (h : Wt c w b i) (k : Kp F w w') (hf : ¬ F b) : Wt c w' b i := St.kp h k hf
theorem Wt.lt {c : Nat → Pc} {w : World} {b i : Nat} (h : Wt c w b i) : b < w.heap.size := St.lt h
theorem Wt.slot {c : Nat → Pc} {w : World} {b i j : Nat} (h : Wt c w b i) (k : Wt c w b j) : i = j := by
  unfold Wt St at h k
  rw [h] at k
  simp only [Option.some.injEq, Obj.cells.injEq] at k
  have := congrArg (fun a => a[5]?) k.1
  simp [Pc.cs] at this
  omega
theorem Wt.congr {c d : Nat → Pc} {w : World} {b i : Nat} (h : Wt c w b i) (e : d b = c b) : Wt d w b i := by unfold Wt; rw [e]; exact h
/-- Who is let go first has the least key. -/
def key (c : Nat → Pc) (b : Nat) : Nat := (if (c b).di then 4611686018427387904 else 0) + (c b).tk
def Mayp (c : Pc) : Prop := c.tk < 4611686018427387904
/-- A line: its block B, its row, those that are kept in their slots. -/
structure Ln (c : Nat → Pc) (w : World) (base B : Nat) (v : Value) (L : List Nat) : Prop where
  st : St 110 w B #[v]
  own : w.ownsRow base 138 1 v L.length (L.map ptr)
  tr : ∀ i, i < L.length → Wt c w (L.getD i 0) i
  may : ∀ b ∈ L, Mayp (c b)
theorem Ln.wt {c : Nat → Pc} {w : World} {base B : Nat} {v : Value} {L : List Nat} (h : Ln c w base B v L) {b : Nat} (hb : b ∈ L) : ∃ i, Wt c w b i := by
  obtain ⟨i, hi, rfl⟩ := gn_of hb
  exact ⟨i, h.tr i hi⟩
theorem Ln.inj {c : Nat → Pc} {w : World} {base B : Nat} {v : Value} {L : List Nat} (h : Ln c w base B v L) {i j : Nat} (hi : i < L.length) (hj : j < L.length) (e : L.getD i 0 = L.getD j 0) : i = j := by
  have h1 := h.tr i hi
  rw [e] at h1
  exact h1.slot (h.tr j hj)
theorem Ln.nodup {c : Nat → Pc} {w : World} {base B : Nat} {v : Value} {L : List Nat} (h : Ln c w base B v L) : L.Nodup := by
  refine List.pairwise_iff_getElem.2 fun i j hi hj hij e => ?_
  have := h.inj hi hj (by rw [gn hi, gn hj]; exact e)
  omega
theorem Ln.ne {c : Nat → Pc} {w : World} {base B : Nat} {v : Value} {L : List Nat} (h : Ln c w base B v L) : ∀ g, v.ownBlock = some g → g ≠ B ∧ g ∉ L := by
  intro g e
  obtain ⟨cur, hg, _⟩ := ownb h.own e
  refine ⟨fun e => ?_, fun hm => ?_⟩
  · subst e
    exact apart_types hg h.st (by decide)
  · obtain ⟨i, hi⟩ := h.wt hm
    exact apart_types hg hi (by decide)
theorem Ln.nb {c : Nat → Pc} {w : World} {base B : Nat} {v : Value} {L : List Nat} (h : Ln c w base B v L) : B ∉ L := fun hm => by
  obtain ⟨i, hi⟩ := h.wt hm
  exact apart_types h.st hi (by decide)
/-- Where the row lies, if one is there. -/
theorem Ln.row {c : Nat → Pc} {w : World} {base B : Nat} {v : Value} {L : List Nat} (h : Ln c w base B v L) (hl : 0 < L.length) : ∃ g cap, v = .slice (some ⟨g, 0, none⟩) L.length cap ∧ base ≤ g ∧ g < w.heap.size ∧ L.length ≤ cap ∧ cap ≤ maxLen ∧ (∀ i, i < L.length → w.cell? ⟨g, i, none⟩ = some (ptr (L.getD i 0))) ∧ (∀ i, w.frozen? ⟨g, i, none⟩ = false) := by
  have ho := h.own
  rcases h.own.2 with ⟨_, h0⟩ | ⟨g, cap, cur, rfl, h1, h2, h3, h4, h5, h6⟩
  · omega
  · refine ⟨g, cap, rfl, h1, (Array.getElem?_eq_some_iff.1 h2).1, h3, h4, fun i hi => ?_, fun i => frozen_of_row w g i cur 138 h2⟩
    have := ho.cells (g := g) rfl i (ptr (L.getD i 0)) (by simp [List.getD, hi])
    rw [add_z] at this
    exact this
theorem Ln.len {c : Nat → Pc} {w : World} {base B : Nat} {v : Value} {L : List Nat} (h : Ln c w base B v L) : ∃ ao cap, v = .slice ao L.length cap ∧ L.length ≤ maxLen := by
  rcases h.own.2 with ⟨h1, h0⟩ | ⟨g, cap, cur, rfl, h1, h2, h3, h4, h5, h6⟩
  · exact ⟨none, 0, by rw [h0]; exact h1, by rw [h0]; simp⟩
  · exact ⟨_, cap, rfl, by omega⟩
theorem Ln.kp {c : Nat → Pc} {F : Nat → Prop} {w w' : World} {base B : Nat} {v : Value} {L : List Nat} (h : Ln c w base B v L) (k : Kp F w w') (hB : ¬ F B) (hg : ∀ g, v.ownBlock = some g → ¬ F g) (hL : ∀ b ∈ L, ¬ F b) : Ln c w' base B v L :=
  ⟨h.st.kp k hB, own_kp h.own k hg, fun i hi => (h.tr i hi).kp k (hL _ (gn_mem hi)), h.may⟩
theorem Ln.kp0 {c : Nat → Pc} {w w' : World} {base B : Nat} {v : Value} {L : List Nat} (h : Ln c w base B v L) (k : Kp (fun _ => False) w w') : Ln c w' base B v L := h.kp k (fun h => h) (fun _ _ h => h) (fun _ _ h => h)
end Go.Proofs.YtnccklbnncaeoaaGreat
/- cache: maps of pages; a cache in memory. -/
namespace Go.Proofs.YtnccklbnncaeoaaGreat
open Go.RowKit
set_option linter.unusedVariables false
/-- A map of pages by their numbers. -/
def Mn (c : Nat → Pc) (w : World) (m : Nat) (L : List Nat) : Prop := ∃ es k, Mp (Value.int .i64) w m es k ∧ es.map (fun e => (e.1, e.2.1)) = L.map (fun b => (((c b).n : Int), ptr b))
theorem Mn.kp {c : Nat → Pc} {F : Nat → Prop} {w w' : World} {m : Nat} {L : List Nat} (h : Mn c w m L) (k : Kp F w w') (hf : ¬ F m) : Mn c w' m L := by
  obtain ⟨es, q, h1, h2⟩ := h
  exact ⟨es, q, kp_mp h1 k hf, h2⟩
theorem Mn.lt {c : Nat → Pc} {w : World} {m : Nat} {L : List Nat} (h : Mn c w m L) : m < w.heap.size := by
  obtain ⟨es, q, h1, h2⟩ := h
  exact h1.lt
theorem Mn.congr {c d : Nat → Pc} {w : World} {m : Nat} {L : List Nat} (h : Mn c w m L) (e : ∀ b ∈ L, (d b).n = (c b).n) : Mn d w m L := by
  obtain ⟨es, q, h1, h2⟩ := h
  exact ⟨es, q, h1, h2.trans (List.map_congr_left fun b hb => by rw [e b hb])⟩
theorem Mn.new (c : Nat → Pc) (w : World) : Mn c (w.alloc (.map #[] 0)) w.heap.size [] := ⟨[], 0, Mp.new _ w, rfl⟩
theorem Mn.apart {c : Nat → Pc} {w : World} {m : Nat} {L : List Nat} {t : TypeId} {cs : Array Value} (h : Mn c w m L) (k : w.heap[m]? = some (.cells cs t (0, 0))) : False := by
  obtain ⟨es, q, h1, h2⟩ := h
  exact apart_map k h1
/-- The page of a number. -/
def nget (c : Nat → Pc) (L : List Nat) (k : Nat) : Option Nat := L.find? (fun b => decide ((c b).n = k))
theorem mget_mn {c : Nat → Pc} {es : List (Int × Value × Nat)} {L : List Nat} (h : es.map (fun e => (e.1, e.2.1)) = L.map (fun b => (((c b).n : Int), ptr b))) (k : Nat) : mget es (k : Int) = (nget c L k).map ptr := by
  induction es generalizing L with
  | nil =>
    cases L with
    | nil => rfl
    | cons b L => simp at h
  | cons e es ih =>
    cases L with
    | nil => simp at h
    | cons b L =>
      simp only [List.map_cons, List.cons.injEq, Prod.mk.injEq] at h
      unfold mget nget
      rw [List.find?_cons, h.1.1]
      by_cases hk : (c b).n = k
      · rw [if_pos (by omega)]
        simp [hk, h.1.2]
      · rw [if_neg (by omega)]
        simp only [hk, decide_false]
        exact ih h.2
theorem nget_mem {c : Nat → Pc} {L : List Nat} {k b : Nat} (h : nget c L k = some b) : b ∈ L ∧ (c b).n = k := by
  unfold nget at h
  have h1 := List.mem_of_find?_eq_some h
  have h2 := List.find?_some h
  exact ⟨h1, by simpa using h2⟩
theorem nget_none {c : Nat → Pc} {L : List Nat} {k : Nat} (h : nget c L k = none) : ∀ b ∈ L, (c b).n ≠ k := by
  unfold nget at h
  rw [List.find?_eq_none] at h
  exact fun b hb => by simpa using h b hb
/-- No two have one number. -/
def Nin (c : Nat → Pc) (L : List Nat) : Prop := ∀ a ∈ L, ∀ b ∈ L, (c a).n = (c b).n → a = b
theorem nget_of {c : Nat → Pc} {L : List Nat} (hn : Nin c L) {b : Nat} (hb : b ∈ L) : nget c L (c b).n = some b := by
  cases h : nget c L (c b).n with
  | none => exact absurd rfl (nget_none h b hb)
  | some a =>
    obtain ⟨h1, h2⟩ := nget_mem h
    rw [hn a h1 b hb h2]
theorem Mn.numbers {c : Nat → Pc} {w : World} {m : Nat} {L : List Nat} (h : Mn c w m L) : (L.map (fun b => (c b).n)).Nodup := by
  obtain ⟨es, q, h1, h2⟩ := h
  have h3 := h1.2.1
  have h4 : es.map (·.1) = L.map (fun b => ((c b).n : Int)) := by
    have := congrArg (List.map (·.1)) h2
    simpa [List.map_map, Function.comp_def] using this
  rw [h4] at h3
  rw [show (fun b => ((c b).n : Int)) = (fun n : Nat => (n : Int)) ∘ (fun b => (c b).n) from rfl, ← List.map_map] at h3
  exact nd_of_map _ _ h3
theorem Mn.nodup {c : Nat → Pc} {w : World} {m : Nat} {L : List Nat} (h : Mn c w m L) : L.Nodup := nd_of_map _ _ h.numbers
theorem nin_of_nodup {c : Nat → Pc} : ∀ {L : List Nat}, (L.map (fun b => (c b).n)).Nodup → Nin c L
  | [], _ => fun a ha => by cases ha
  | x :: L, h => by
    rw [List.map_cons, List.nodup_cons] at h
    intro a ha b hb e
    rcases List.mem_cons.1 ha with h1 | h1 <;> rcases List.mem_cons.1 hb with h2 | h2
    · rw [h1, h2]
    · exact absurd (List.mem_map.2 ⟨b, h2, by rw [← e, h1]⟩) h.1
    · exact absurd (List.mem_map.2 ⟨a, h1, by rw [e, h2]⟩) h.1
    · exact nin_of_nodup h.2 a h1 b h2 e
theorem Mn.nin {c : Nat → Pc} {w : World} {m : Nat} {L : List Nat} (h : Mn c w m L) : Nin c L := nin_of_nodup h.numbers
/-- A page is laid at its number. -/
def nput (c : Nat → Pc) (L : List Nat) (b : Nat) : List Nat := if nget c L (c b).n = none then L ++ [b] else L
theorem mput_mn {c : Nat → Pc} {es : List (Int × Value × Nat)} {L : List Nat} (q : Nat) (h : es.map (fun e => (e.1, e.2.1)) = L.map (fun b => (((c b).n : Int), ptr b))) (b : Nat) (hb : ∀ a ∈ L, (c a).n = (c b).n → a = b) :
    (mput es ((c b).n : Int) (ptr b) q).map (fun e => (e.1, e.2.1)) = (nput c L b).map (fun b => (((c b).n : Int), ptr b)) := by
  induction es generalizing L with
  | nil =>
    cases L with
    | nil => simp [mput, nput, nget]
    | cons b L => simp at h
  | cons e es ih =>
    cases L with
    | nil => simp at h
    | cons a L =>
      simp only [List.map_cons, List.cons.injEq, Prod.mk.injEq] at h
      unfold mput
      by_cases hk : (c a).n = (c b).n
      · have hab := hb a (by simp) hk
        subst hab
        rw [if_pos h.1.1.symm]
        have : nput c (a :: L) a = a :: L := by
          unfold nput nget
          rw [List.find?_cons]
          simp
        rw [this, List.map_cons, List.map_cons, h.2]
      · rw [if_neg (by rw [h.1.1]; omega)]
        have : nput c (a :: L) b = a :: nput c L b := by
          unfold nput nget
          rw [List.find?_cons]
          simp only [hk, decide_false]
          split <;> rfl
        rw [this, List.map_cons, List.map_cons, ih h.2 (fun x hx => hb x (List.mem_cons_of_mem _ hx)), h.1.1, h.1.2]
theorem mdel_mn {c : Nat → Pc} {es : List (Int × Value × Nat)} {L : List Nat} (h : es.map (fun e => (e.1, e.2.1)) = L.map (fun b => (((c b).n : Int), ptr b))) (hn : (L.map (fun b => (c b).n)).Nodup) (k : Nat) :
    (mdel es (k : Int)).map (fun e => (e.1, e.2.1)) = (L.filter (fun b => decide ((c b).n ≠ k))).map (fun b => (((c b).n : Int), ptr b)) := by
  induction es generalizing L with
  | nil =>
    cases L with
    | nil => rfl
    | cons b L => simp at h
  | cons e es ih =>
    cases L with
    | nil => simp at h
    | cons a L =>
      simp only [List.map_cons, List.cons.injEq, Prod.mk.injEq] at h
      simp only [List.map_cons, List.nodup_cons] at hn
      unfold mdel
      by_cases hk : (c a).n = k
      · rw [if_pos (by rw [h.1.1]; omega), h.2, List.filter_cons_of_neg (by simp [hk])]
        congr 1
        symm
        rw [List.filter_eq_self]
        intro x hx
        simp only [decide_eq_true_eq]
        exact fun e => hn.1 (List.mem_map.2 ⟨x, hx, e.trans hk.symm⟩)
      · rw [if_neg (by rw [h.1.1]; omega), List.filter_cons_of_pos (by simpa using hk), List.map_cons, List.map_cons, ih h.2 hn.2, h.1.1, h.1.2]
theorem filter_ne {c : Nat → Pc} {L : List Nat} (hn : Nin c L) {b : Nat} (hb : b ∈ L) : L.filter (fun a => decide ((c a).n ≠ (c b).n)) = L.filter (fun a => decide (a ≠ b)) :=
  List.filter_congr fun a ha => by
    by_cases h : a = b
    · subst h; simp
    · have : (c a).n ≠ (c b).n := fun e => h (hn a ha b hb e)
      simp [h, this]
/-- A page's bytes. -/
def Yb (w : World) (bv : Value) (y : Option (Nat × List Int)) : Prop := match y with
  | none => bv = .slice none 0 0
  | some (i, zs) => bv = .slice (some ⟨i, 0, none⟩) zs.length zs.length ∧ Rw .u8 5 w i zs
theorem Yb.kp {F : Nat → Prop} {w w' : World} {bv : Value} {y : Option (Nat × List Int)} (h : Yb w bv y) (k : Kp F w w') (hf : ∀ i zs, y = some (i, zs) → ¬ F i) : Yb w' bv y := by
  unfold Yb at *
  cases y with
  | none => exact h
  | some x => exact ⟨h.1, h.2.kp k (hf x.1 x.2 rfl)⟩
/-- What is known of a cache. -/
structure Gc where
  pm : Nat
  kl : Nat
  lv : Value
  pv : Value
  c : Nat → Pc
  W : Nat → List Nat
  R : Nat → List Nat
  y : Nat → Option (Nat × List Int)
  B : List Nat
  K : List Nat
  L : List Nat
  P : List Nat
  t : Nat
  n1 : Nat
  n2 : Nat
  n3 : Nat
  n4 : Nat
/-- One page in memory. -/
structure Pg (G : Gc) (w : World) (b : Nat) : Prop where
  wt : ∃ s, Wt G.c w b s
  ws : Mn G.c w (G.c b).wm (G.W b)
  rs : Mn G.c w (G.c b).rm (G.R b)
  ys : Yb w (G.c b).bv (G.y b)
/-- The cache at Q, over the store at g. -/
structure Cm (S : ByteArray) (g bits room Q : Nat) (G : Gc) (w : World) : Prop where
  st : St 112 w Q #[ptr g, .string S, .int .i64 bits, .int .i64 room, .map (some G.pm), ptr G.kl, G.pv, .int .i64 G.t, .int .i64 G.n1, .int .i64 G.n2, .int .i64 G.n3, .int .i64 G.n4]
  ln : Ln G.c w 0 G.kl G.lv G.L
  pd : w.ownsRow 0 138 1 G.pv G.P.length (G.P.map ptr)
  ks : Mn G.c w G.pm G.K
  pg : ∀ b ∈ G.B, Pg G w b
  ap : ∀ i, G.lv.ownBlock = some i → G.pv.ownBlock ≠ some i
  mi : ∀ a ∈ G.B, ∀ b ∈ G.B, ((G.c a).wm = (G.c b).wm → a = b) ∧ ((G.c a).rm = (G.c b).rm → a = b) ∧ (G.c a).wm ≠ (G.c b).rm
  mp : ∀ a ∈ G.B, (G.c a).wm ≠ G.pm ∧ (G.c a).rm ≠ G.pm
  yi : ∀ a ∈ G.B, ∀ b ∈ G.B, ∀ i zs zs', G.y a = some (i, zs) → G.y b = some (i, zs') → a = b
  kb : ∀ b ∈ G.K, b ∈ G.B
  lb : ∀ b ∈ G.L, b ∈ G.B
  pb : ∀ b ∈ G.P, b ∈ G.B
/-- Its blocks. -/
def Fc (Q : Nat) (G : Gc) (i : Nat) : Prop := i = Q ∨ i = G.kl ∨ i = G.pm ∨ G.lv.ownBlock = some i ∨ G.pv.ownBlock = some i ∨ ∃ b ∈ G.B, i = b ∨ i = (G.c b).wm ∨ i = (G.c b).rm ∨ ∃ zs, G.y b = some (i, zs)
section
variable {S : ByteArray} {g bits room Q : Nat} {G : Gc} {w : World}
theorem Pg.kp {F : Nat → Prop} {w' : World} {b : Nat} (h : Pg G w b) (k : Kp F w w') (h1 : ¬ F b) (h2 : ¬ F (G.c b).wm) (h3 : ¬ F (G.c b).rm) (h4 : ∀ i zs, G.y b = some (i, zs) → ¬ F i) : Pg G w' b := by
  obtain ⟨s, hs⟩ := h.wt
  exact ⟨⟨s, hs.kp k h1⟩, h.ws.kp k h2, h.rs.kp k h3, h.ys.kp k h4⟩
theorem Cm.kp {F : Nat → Prop} {w' : World} (h : Cm S g bits room Q G w) (k : Kp F w w') (hf : ∀ i, Fc Q G i → ¬ F i) : Cm S g bits room Q G w' :=
  ⟨h.st.kp k (hf _ (.inl rfl)), h.ln.kp k (hf _ (.inr (.inl rfl))) (fun i e => hf i (.inr (.inr (.inr (.inl e))))) (fun b hb => hf b (.inr (.inr (.inr (.inr (.inr ⟨b, h.lb b hb, .inl rfl⟩)))))),
   own_kp h.pd k (fun i e => hf i (.inr (.inr (.inr (.inr (.inl e)))))), h.ks.kp k (hf _ (.inr (.inr (.inl rfl)))),
   fun b hb => (h.pg b hb).kp k (hf _ (.inr (.inr (.inr (.inr (.inr ⟨b, hb, .inl rfl⟩)))))) (hf _ (.inr (.inr (.inr (.inr (.inr ⟨b, hb, .inr (.inl rfl)⟩)))))) (hf _ (.inr (.inr (.inr (.inr (.inr ⟨b, hb, .inr (.inr (.inl rfl))⟩)))))) (fun i zs e => hf _ (.inr (.inr (.inr (.inr (.inr ⟨b, hb, .inr (.inr (.inr ⟨zs, e⟩))⟩)))))),
   h.ap, h.mi, h.mp, h.yi, h.kb, h.lb, h.pb⟩
theorem Cm.kp0 {w' : World} (h : Cm S g bits room Q G w) (k : Kp (fun _ => False) w w') : Cm S g bits room Q G w' := h.kp k (fun _ _ h => h)
theorem Cm.lt (h : Cm S g bits room Q G w) {i : Nat} (hi : Fc Q G i) : i < w.heap.size := by
  rcases hi with rfl | rfl | rfl | hi | hi | ⟨b, hb, hi⟩
  · exact h.st.lt
  · exact h.ln.st.lt
  · exact h.ks.lt
  · obtain ⟨cur, h1, _⟩ := ownb h.ln.own hi
    exact (Array.getElem?_eq_some_iff.1 h1).1
  · obtain ⟨cur, h1, _⟩ := ownb h.pd hi
    exact (Array.getElem?_eq_some_iff.1 h1).1
  · have hp := h.pg b hb
    rcases hi with rfl | rfl | rfl | ⟨zs, hi⟩
    · obtain ⟨s, hs⟩ := hp.wt; exact hs.lt
    · exact hp.ws.lt
    · exact hp.rs.lt
    · have := hp.ys
      rw [hi] at this
      exact this.2.lt
end
end Go.Proofs.YtnccklbnncaeoaaGreat
/- cache: small functions that only read. -/
namespace Go.Proofs.YtnccklbnncaeoaaGreat
open Go.RowKit
set_option linter.unusedVariables false
set_option maxHeartbeats 2000000 in
theorem unsettled_any (c : Nat → Pc) (w : World) (b s : Nat) (h : Wt c w b s) :
    Calls Tryz.prog 67 #[ptr b] w fun e w' => e = .returned (.bool ((c b).di || (c b).pe)) ∧ w' = w := by
  have y1 := St.cell h 2
  have y2 := St.cell h 3
  simp [Pc.cs] at y1 y2
  clear h
  unfold ptr
  cases hd : (c b).di <;> rw [hd] at y1
  all_goals
    go_enter Tryz.func67, Tryz.ntmps67
    go_wp2
    go_ret
    exact ⟨rfl, rfl⟩
theorem Yb.shape {w : World} {bv : Value} {y : Option (Nat × List Int)} (h : Yb w bv y) : (y = none ∧ bv = .slice none 0 0) ∨ ∃ i zs, y = some (i, zs) ∧ bv = .slice (some ⟨i, 0, none⟩) zs.length zs.length ∧ Rw .u8 5 w i zs := by
  cases y with
  | none => exact .inl ⟨rfl, h⟩
  | some x => exact .inr ⟨x.1, x.2, rfl, h.1, h.2⟩
set_option maxHeartbeats 2000000 in
theorem pkept_any (c : Nat → Pc) (w : World) (b s : Nat) (y : Option (Nat × List Int)) (h : Wt c w b s) (hy : Yb w (c b).bv y) :
    Calls Tryz.prog 113 #[ptr b] w fun e w' => e = .returned (.bool y.isSome) ∧ w' = w := by
  have y1 := St.cell h 1
  simp [Pc.cs] at y1
  clear h
  unfold ptr
  rcases hy.shape with ⟨rfl, e⟩ | ⟨i, zs, rfl, e, _⟩ <;> rw [e] at y1
  all_goals
    go_enter Tryz.func113, Tryz.ntmps113
    go_wp2
    go_ret
    exact ⟨rfl, rfl⟩
set_option maxHeartbeats 2000000 in
theorem cnone_live (w : World) (Q g : Nat) (cs : List Value) (h : St 112 w Q (ptr g :: cs).toArray) :
    Calls Tryz.prog 64 #[ptr Q] w fun e w' => e = .returned (.bool false) ∧ w' = w := by
  have y1 := St.cell h 0
  simp at y1
  clear h
  unfold ptr at *
  go_enter Tryz.func64, Tryz.ntmps64
  go_wp2
  go_ret
  exact ⟨rfl, rfl⟩
theorem shr_page {bits : Nat} (hb : bits ≤ 16) : (268435456 : Int) >>> bits = ((268435456 / 2 ^ bits : Nat) : Int) := by
  have : bits = 0 ∨ bits = 1 ∨ bits = 2 ∨ bits = 3 ∨ bits = 4 ∨ bits = 5 ∨ bits = 6 ∨ bits = 7 ∨ bits = 8 ∨ bits = 9 ∨ bits = 10 ∨ bits = 11 ∨ bits = 12 ∨ bits = 13 ∨ bits = 14 ∨ bits = 15 ∨ bits = 16 := by omega
  rcases this with rfl | rfl | rfl | rfl | rfl | rfl | rfl | rfl | rfl | rfl | rfl | rfl | rfl | rfl | rfl | rfl | rfl <;> rfl
/-- May there be a page of that number? -/
def mayn (bits : Nat) (k : Int) : Bool := decide (0 ≤ k) && decide (k < ((268435456 / 2 ^ bits : Nat) : Int))
set_option maxHeartbeats 2000000 in
theorem may_any (w : World) (Q bits : Nat) (k : Int) (hb : bits ≤ 16) (h : w.cell? ⟨Q, 2, none⟩ = some (.int .i64 bits)) :
    Calls Tryz.prog 65 #[ptr Q, .int .i64 k] w fun e w' => e = .returned (.bool (mayn bits k)) ∧ w' = w := by
  have e := shr_page hb
  unfold ptr mayn
  by_cases hk : 0 ≤ k
  all_goals
    go_enter Tryz.func65, Tryz.ntmps65
    go_wp2
    go_ret
    first
    | (simp [hk]; done)
    | (refine ⟨?_, rfl⟩; simp; omega)
end Go.Proofs.YtnccklbnncaeoaaGreat
/- cache: maps of pages: look-ups, stores, deletes, len, clear as steps. -/
namespace Go.Proofs.YtnccklbnncaeoaaGreat
open Go.RowKit
set_option linter.unusedVariables false
theorem Tryz.und106 : Tryz.prog.underlying 106 = some (.map 2 138) := by kernel_rfl
theorem ky2 : Ky Tryz.prog 2 (.int .i64) (Value.int .i64) := ky_int (by kernel_rfl)
theorem zer138 (w : World) : (zeroValue 138).run Tryz.prog w = .ok (.pointer none) w := by kernel_rfl
/-- What a look-up answers. -/
def nval (c : Nat → Pc) (L : List Nat) (k : Int) : Value := if 0 ≤ k then ((nget c L k.toNat).map ptr).getD (.pointer none) else .pointer none
theorem Mn.neg {c : Nat → Pc} {es : List (Int × Value × Nat)} {L : List Nat} (h : es.map (fun e => (e.1, e.2.1)) = L.map (fun b => (((c b).n : Int), ptr b))) {k : Int} (hk : k < 0) : mget es k = none := by
  rw [mget_none]
  intro hm
  obtain ⟨e, he, rfl⟩ := List.mem_map.1 hm
  have : (e.1, e.2.1) ∈ es.map (fun e => (e.1, e.2.1)) := List.mem_map.2 ⟨e, he, rfl⟩
  rw [h] at this
  obtain ⟨b, _, hb⟩ := List.mem_map.1 this
  simp only [Prod.mk.injEq] at hb
  omega
theorem mget_nval {c : Nat → Pc} {es : List (Int × Value × Nat)} {L : List Nat} (h : es.map (fun e => (e.1, e.2.1)) = L.map (fun b => (((c b).n : Int), ptr b))) (k : Int) : (mget es k).getD (.pointer none) = nval c L k := by
  unfold nval
  by_cases hk : 0 ≤ k
  · rw [if_pos hk]
    obtain ⟨n, rfl⟩ := Int.eq_ofNat_of_zero_le hk
    rw [mget_mn h n]
    simp
  · rw [if_neg hk, Mn.neg h (by omega)]
    rfl
theorem nval_of {c : Nat → Pc} {L : List Nat} {k b : Nat} (h : nget c L k = some b) : nval c L (k : Int) = ptr b := by
  unfold nval
  rw [if_pos (by omega)]
  simp [h]
theorem nval_no {c : Nat → Pc} {L : List Nat} {k : Nat} (h : nget c L k = none) : nval c L (k : Int) = .pointer none := by
  unfold nval
  rw [if_pos (by omega)]
  simp [h]
section
variable {w : World} {ops : Array Oper} {rest : List Oper} {o : Oper} {a : Act} {Q : Exit → Act → World → Prop}
theorem run_lookup_mn {c : Nat → Pc} {m : Nat} {L : List Nat} (h : Mn c w m L) (k : Int) : (Instr.lookup 106 (.map (some m)) (.int .i64 k) false).run Tryz.prog w = .ok (nval c L k) w := by
  obtain ⟨es, q, h1, h2⟩ := h
  have h3 := run_lookup_mp ky2 Tryz.und106 h1 (zer138 w) k
  rw [mget_nval h2 k] at h3
  exact h3
theorem run_len_mn {c : Nat → Pc} {m : Nat} {L : List Nat} (h : Mn c w m L) (ty : TypeId) : (Builtin.len_ #[106] ty #[.map (some m)]).run Tryz.prog w = .ok (.int .i64 L.length) w := by
  obtain ⟨es, q, h1, h2⟩ := h
  have h3 := run_len_mp (P := Tryz.prog) Tryz.und106 h1 ty
  have h4 : es.length = L.length := by have := congrArg List.length h2; simpa using this
  rw [h4] at h3
  exact h3
theorem Mn.put {c : Nat → Pc} {m : Nat} {L : List Nat} (h : Mn c w m L) (b : Nat) (hb : ∀ a ∈ L, (c a).n = (c b).n → a = b) : ∃ o', (Instr.mapUpdate 106 (.map (some m)) (.int .i64 (c b).n) (ptr b)).run Tryz.prog w = .ok () (w.putObj m o') ∧ Mn c (w.putObj m o') m (nput c L b) ∧ Kp (fun i => i = m) w (w.putObj m o') := by
  obtain ⟨es, q, h1, h2⟩ := h
  obtain ⟨r1, r2⟩ := mp_set h1 (h1.2.put ((c b).n : Int) (ptr b))
  exact ⟨_, run_update_mp ky2 Tryz.und106 h1 ((c b).n : Int) (ptr b), ⟨_, _, r1, mput_mn q h2 b hb⟩, Kp.of_grown r2 (fun i e => by cases e; rfl)⟩
theorem Mn.del {c : Nat → Pc} {m : Nat} {L : List Nat} (h : Mn c w m L) (k : Nat) : ∃ o', (∀ ty, (Builtin.delete_ #[106, 2] ty #[.map (some m), .int .i64 k]).run Tryz.prog w = .ok (.tuple #[]) (w.putObj m o')) ∧ Mn c (w.putObj m o') m (L.filter (fun b => decide ((c b).n ≠ k))) ∧ Kp (fun i => i = m) w (w.putObj m o') := by
  have hn := h.numbers
  obtain ⟨es, q, h1, h2⟩ := h
  obtain ⟨r1, r2⟩ := mp_set h1 (h1.2.sub (mdel_sub es (k : Int)))
  exact ⟨_, fun ty => run_delete_mp ky2 Tryz.und106 h1 (k : Int) ty, ⟨_, _, r1, mdel_mn h2 hn k⟩, Kp.of_grown r2 (fun i e => by cases e; rfl)⟩
/-- All are taken out. -/
theorem Mn.clear {c : Nat → Pc} {m : Nat} {L : List Nat} (h : Mn c w m L) : ∃ o', (∀ ty, (Builtin.clear_ #[106] ty #[.map (some m)]).run Tryz.prog w = .ok (.tuple #[]) (w.putObj m o')) ∧ Mn c (w.putObj m o') m [] ∧ Kp (fun i => i = m) w (w.putObj m o') := by
  obtain ⟨es, q, h1, h2⟩ := h
  have hk : Kok ([] : List (Int × Value × Nat)) q := ⟨List.nodup_nil, List.nodup_nil, fun _ h => by cases h⟩
  obtain ⟨r1, r2⟩ := mp_set h1 hk
  refine ⟨_, fun ty => ?_, ⟨[], q, r1, rfl⟩, Kp.of_grown r2 (fun i e => by cases e; rfl)⟩
  simp [Builtin.clear_, run_underlying Tryz.und106, MapKept.run_getObj_map h1.1, MapKept.run_setObj_map _ h1.1]
  rfl
theorem wpList_lookup_mn (hg : o.guard = none) (m x : Operand) (hop : o.op = Op.lookup 106 m x false) {c : Nat → Pc} {b : Nat} {L : List Nat} (hm : a.eval m = .map (some b)) (h : Mn c w b L) (k : Int) (hx : a.eval x = .int .i64 k) (v : Value) (hv : nval c L k = v) (hK : wpList Tryz.prog ops Q rest (a.put o.dst v) w) : wpList Tryz.prog ops Q (o :: rest) a w := by
  obtain ⟨es, q, h1, h2⟩ := h
  exact wpList_lookup_mp hg m x hop ky2 Tryz.und106 _ (zer138 w) b q es hm h1 k hx v (by rw [mget_nval h2 k]; exact hv) hK
theorem wpList_len_mn (hg : o.guard = none) (m : Operand) (hop : o.op = Op.call { callee := Callee.builtin Builtin.len, args := #[m], argTypes := #[106] }) {c : Nat → Pc} {b : Nat} {L : List Nat} (hm : a.eval m = .map (some b)) (h : Mn c w b L) (hK : wpList Tryz.prog ops Q rest (a.put o.dst (.int .i64 L.length)) w) : wpList Tryz.prog ops Q (o :: rest) a w := by
  obtain ⟨es, q, h1, h2⟩ := h
  have h4 : es.length = L.length := by have := congrArg List.length h2; simpa using this
  rw [← h4] at hK
  exact wpList_len_mp hg m hop Tryz.und106 b q es hm h1 hK
theorem wpList_update_mn (hg : o.guard = none) (m x u : Operand) (hop : o.op = Op.mapUpdate 106 m x u) {c : Nat → Pc} {M : Nat} {L : List Nat} (hm : a.eval m = .map (some M)) (h : Mn c w M L) (b : Nat) (hb : ∀ a ∈ L, (c a).n = (c b).n → a = b) (hx : a.eval x = .int .i64 (c b).n) (hv : a.eval u = ptr b)
    (hK : ∀ w', Mn c w' M (nput c L b) → Kp (fun i => i = M) w w' → wpList Tryz.prog ops Q rest (a.put o.dst undef) w') : wpList Tryz.prog ops Q (o :: rest) a w := by
  obtain ⟨es, q, h1, h2⟩ := h
  exact wpList_update_mp hg m x u hop ky2 Tryz.und106 M q es hm h1 _ hx _ hv (fun w' r1 r2 => hK w' ⟨_, _, r1, mput_mn q h2 b hb⟩ (Kp.of_grown r2 (fun i e => by cases e; rfl)))
theorem wpList_delete_mn (hg : o.guard = none) (m x : Operand) (hop : o.op = Op.call { callee := Callee.builtin Builtin.delete, args := #[m, x], argTypes := #[106, 2] }) {c : Nat → Pc} {M : Nat} {L : List Nat} (hm : a.eval m = .map (some M)) (h : Mn c w M L) (k : Nat) (hx : a.eval x = .int .i64 k)
    (hK : ∀ w', Mn c w' M (L.filter (fun b => decide ((c b).n ≠ k))) → Kp (fun i => i = M) w w' → wpList Tryz.prog ops Q rest (a.put o.dst (.tuple #[])) w') : wpList Tryz.prog ops Q (o :: rest) a w := by
  have hn := h.numbers
  obtain ⟨es, q, h1, h2⟩ := h
  exact wpList_delete_mp hg m x hop ky2 Tryz.und106 M q es hm h1 _ hx (fun w' r1 r2 => hK w' ⟨_, _, r1, mdel_mn h2 hn k⟩ (Kp.of_grown r2 (fun i e => by cases e; rfl)))
end
end Go.Proofs.YtnccklbnncaeoaaGreat
/- cache: Len and Less of a line. -/
namespace Go.Proofs.YtnccklbnncaeoaaGreat
open Go.RowKit
set_option linter.unusedVariables false
set_option maxHeartbeats 2000000 in
theorem len_any (c : Nat → Pc) (w : World) (base B : Nat) (v : Value) (L : List Nat) (h : Ln c w base B v L) :
    Calls Tryz.prog 180 #[ptr B] w fun e w' => e = .returned (.int .i64 L.length) ∧ w' = w := by
  obtain ⟨ao, cap, rfl, hm⟩ := h.len
  have h1 := h.st.cell 0
  simp at h1
  unfold maxLen at hm
  unfold ptr
  go_enter Tryz.func180, Tryz.ntmps180
  go_wp2
  go_ret
  exact ⟨rfl, rfl⟩
set_option maxHeartbeats 2000000 in
theorem less_any (c : Nat → Pc) (w : World) (base B : Nat) (v : Value) (L : List Nat) (h : Ln c w base B v L) (i j : Nat) (hi : i < L.length) (hj : j < L.length) :
    Calls Tryz.prog 242 #[ptr B, .int .i64 i, .int .i64 j] w fun e w' => e = .returned (.bool (decide (kf (key c) L i < kf (key c) L j))) ∧ ∃ q, w' = w.drewN q := by
  obtain ⟨g, cap, rfl, hb, hgl, hc1, hc2, hcells, hfr⟩ := h.row (by omega)
  have ti := h.tr i hi
  have tj := h.tr j hj
  have mi := h.may _ (gn_mem hi)
  have mj := h.may _ (gn_mem hj)
  have h1 := h.st.cell 0
  have ci := hcells i hi
  have cj := hcells j hj
  simp at h1
  unfold maxLen at hc2
  have e : decide (kf (key c) L i < kf (key c) L j) = if (c (L.getD i 0)).di = (c (L.getD j 0)).di then decide (((c (L.getD i 0)).tk : Int) < (c (L.getD j 0)).tk) else (c (L.getD j 0)).di := by
    unfold kf key
    unfold Mayp at mi mj
    cases h1 : (c (L.getD i 0)).di <;> cases h2 : (c (L.getD j 0)).di <;> simp [-List.getD_eq_getElem?_getD] <;> omega
  rw [e]
  unfold Mayp at mi mj
  clear h hcells hfr e
  generalize L.getD i 0 = a at *
  generalize L.getD j 0 = b at *
  have y1 := St.cell ti 2
  have y2 := St.cell tj 2
  have y3 := St.cell ti 4
  have y4 := St.cell tj 4
  simp [Pc.cs] at y1 y2 y3 y4
  clear ti tj
  unfold ptr at *
  cases hd1 : (c a).di <;> cases hd2 : (c b).di <;> rw [hd1] at y1 <;> rw [hd2] at y2
  case false.true | true.false =>
    go_enter Tryz.func242, Tryz.ntmps242
    go_wp2
    go_quiet (fail)
    go_wp2
    go_quiet (fail)
    go_wp2
    go_ret
    exact ⟨rfl, _, rfl⟩
  all_goals
    go_enter Tryz.func242, Tryz.ntmps242
    go_wp2
    go_quiet (fail)
    go_wp2
    go_quiet (fail)
    go_wp2
    go_quiet (fail)
    go_wp2
    go_ret
    exact ⟨by simp, _, rfl⟩
end Go.Proofs.YtnccklbnncaeoaaGreat
/- A range over a function whose iterator changes blocks that were there before (O, the iterator's), and what it leaves is told at the end. Whatever the program. -/
namespace Go.Proofs.YtnccklbnncaeoaaGreat
open Go.RowKit

/-- J abides what the iterator does to its own blocks, and new ones. -/
def AbW {α : Type} (J : List α → (Nat → Prop) → World → Prop) : Prop :=
  ∀ s O X Y, J s O X → Kp O X Y → J s (fun i => O i ∨ (X.heap.size ≤ i ∧ i < Y.heap.size)) Y
/-- What the iterator tells, and that it leaves alone all that is not its own. -/
def SeqW {α : Type} (F : Fence) (n : Nat) (P : Program) (g : Nat) (pb lb : Array Value) (encs : α → Array Value) (S Sx : List α → World → Prop) (Sp : List α → Prop) (O₀ : Nat → Prop) (w : World) : Prop :=
  ∀ (l : Nat) (J Jx : List α → (Nat → Prop) → World → Prop) (W : World), Below w.heap.size w W → AbW J → AbW Jx →
    (∀ pre O x W1, J pre O W1 → Sp (pre ++ [x]) → YieldAt F (n - 1) P l (encs x) W1 fun e W' =>
      (e = .returned (.bool true) ∧ J (pre ++ [x]) O W' ∧ Kp (fun i => ¬ O i) W1 W') ∨ (e = .returned (.bool false) ∧ Jx (pre ++ [x]) O W' ∧ Kp (fun i => ¬ O i) W1 W')) →
    J [] O₀ W →
    CallsIn F n P g (pb ++ #[.func (.yield l) #[] #[]] ++ lb) W fun e W' => (∃ v, e = .returned v) ∧ ((∃ xs O, S xs W' ∧ J xs O W') ∨ (∃ pre O, Sx pre W' ∧ Jx pre O W'))
/-- How the body of a round may be left. -/
def postW {α : Type} (B : Nat) (I : List α → (Nat → Prop) → World → Prop) (Ix : Code → List α → (Nat → Prop) → World → Prop) (xs : List α) (O : Nat → Prop) (W : World) : Exit → Act → World → Prop
  | .normal, _, W' => Kp (fun i => ¬ O i ∧ i ≠ B ∧ i ≠ B + 1) W W' ∧ I xs O W'
  | .ret, _, W' => Kp (fun i => ¬ O i ∧ i ≠ B ∧ i ≠ B + 1) W W' ∧ Ix .ret xs O W'
  | .exit id, _, W' => Kp (fun i => ¬ O i ∧ i ≠ B ∧ i ≠ B + 1) W W' ∧ Ix (.exit id) xs O W'
  | .goto t, _, W' => Kp (fun i => ¬ O i ∧ i ≠ B ∧ i ≠ B + 1) W W' ∧ Ix (.goto t) xs O W'
  | .panic _, _, _ => False
  | .outgrown, _, _ => False
variable {F : Fence} {n : Nat} {P : Program} {w : World}
theorem kp_putN2 {O : Nat → Prop} (W : World) (l : Nat) (o' : Obj) (h : ¬ O l) : Kp (fun i => ¬ O i) W (W.putObj l o') :=
  ⟨rfl, rfl, rfl, by simp, fun k _ hk => World.putObj_heap_other (fun e => hk (by rw [e]; exact h))⟩
theorem kp_tr2 {G : Nat → Prop} {X Y Z : World} (h : Kp G X Y) (k : Kp G Y Z) : Kp G X Z := h.trans k (fun _ _ x => x)
theorem wpIn_rangeFunc_W {α : Type} {g : Operand} {ps : Array Tmp} {assign body : Code} {Q : Exit → Act → World → Prop} {a : Act} {w : World}
    (hro : F.round = none) (h1 : 1 ≤ n) {gf : Nat} {pb lb : Array Value} (hg : a.eval g = .func (.func gf) pb lb) (hFg : F.fn gf) (eg : ∀ args w, (callFunc gf args).run P w = .ok (.enter gf args) w)
    {encs : α → Array Value} {S Sx : List α → World → Prop} {Sp : List α → Prop} {O₀ : Nat → Prop} {w0 : World} (hseq : SeqW F (n - 1) P gf pb lb encs S Sx Sp O₀ w0)
    (hS : ∀ xs X r o', S xs X → X.heap[w.heap.size + 1]? = some (.loop r) → S xs (X.putObj (w.heap.size + 1) o')) (hSx : ∀ xs X r o', Sx xs X → X.heap[w.heap.size + 1]? = some (.loop r) → Sx xs (X.putObj (w.heap.size + 1) o')) (hO : ∀ i, O₀ i → i < w.heap.size) (hb0 : Below w0.heap.size w0 w) (hps : ∀ x, (encs x).size = ps.size)
    (I : List α → (Nat → Prop) → World → Prop) (Ix : Code → List α → (Nat → Prop) → World → Prop)
    (hI : AbW I) (hIx : ∀ c, AbW (Ix c))
    (hI2 : ∀ s O X o', I s O X → w.heap.size + 1 < X.heap.size → I s O (X.putObj (w.heap.size + 1) o'))
    (hIx2 : ∀ c s O X o', Ix c s O X → w.heap.size + 1 < X.heap.size → Ix c s O (X.putObj (w.heap.size + 1) o'))
    (h0 : ∀ r, I [] O₀ ((w.alloc (.deferred (some []))).alloc (.loop r))) (Ax : α → Act → World → Prop) (hAx : ∀ x a' X o', Ax x a' X → Ax x a' (X.putObj (w.heap.size + 1) o'))
    (hassign : ∀ (l : Nat) (pre : List α) (O : Nat → Prop) (x : α) (W : World) (K : Act → World → Prop), l = w.heap.size + 1 → w.heap.size + 1 < W.heap.size → I pre O W → (∀ a' W', Kp (fun i => ¬ O i ∧ i ≠ w.heap.size ∧ i ≠ w.heap.size + 1) W W' → I pre O W' → Ax x a' W' → K a' W') →
      assign.wpIn (F.inRound l) (n - 1 - 1) P (Exit.then K (fun _ _ _ => False)) { tmps := (ps.zip (encs x)).foldl (fun t (p, v) => t.setIfInBounds p v) a.tmps, defers := [] } W)
    (hbody : ∀ (l : Nat) (pre : List α) (O : Nat → Prop) (x : α) (a' : Act) (W : World), l = w.heap.size + 1 → w.heap.size + 1 < W.heap.size → ¬ O w.heap.size → ¬ O (w.heap.size + 1) → I pre O W → Ax x a' W → Sp (pre ++ [x]) → body.wpIn (F.inRound l) (n - 1 - 1) P (postW w.heap.size I Ix (pre ++ [x]) O W) a' W)
    (hdone : ∀ (D : Nat) (xs : List α) (O : Nat → Prop) (W : World), D = w.heap.size → S xs W → I xs O W → W.heap[D]? = some (.deferred (some [])) → Q .normal { a with defers := { target := .collected D, args := #[] } :: a.defers } W)
    (hstop : ∀ (D : Nat) (c : Code) (pre : List α) (O : Nat → Prop) (W : World), D = w.heap.size → Sx pre W → Ix c pre O W → W.heap[D]? = some (.deferred (some [])) → c.wpIn F n P Q { a with defers := { target := .collected D, args := #[] } :: a.defers } W) :
    (Code.rangeFunc g ps assign body).wpIn F n P Q a w := by
  refine wpIn_rangeFunc ?_
  intro fn hfn
  rw [hro]
  obtain ⟨rc, hrc⟩ : ∃ rc : LoopState → Option Code → Loop, rc = fun st pe => { state := st, pending := pe, fn, tmps := a.tmps, params := ps, assign, body, defers := w.heap.size } := ⟨_, rfl⟩
  obtain ⟨V, hV⟩ : ∃ V, V = (w.alloc (.deferred (some []))).alloc (.loop (rc .ready none)) := ⟨_, rfl⟩
  obtain ⟨L, hL⟩ : ∃ L, L = w.heap.size + 1 := ⟨_, rfl⟩
  have sV : V.heap.size = w.heap.size + 1 + 1 := by rw [hV]; simp
  have lV : V.heap[L]? = some (.loop (rc .ready none)) := by
    rw [hV, hL]
    have := World.alloc_heap_new (w.alloc (.deferred (some []))) (.loop (rc .ready none))
    rwa [World.size_alloc] at this
  have dV : V.heap[w.heap.size]? = some (.deferred (some [])) := by
    rw [hV]
    exact (Below.heap_alloc _ _ _ (by simp)).trans (World.alloc_heap_new w _)
  have iV : I [] O₀ V := by rw [hV]; exact h0 _
  have bV : Below w0.heap.size w0 V := by
    rw [hV]
    exact hb0.trans ((((Below.refl _ w).alloc (Nat.le_refl _) _).alloc (by simp) _).mono hb0.size)
  refine ⟨L, [{ target := .collected w.heap.size, args := #[] }], V, { target := .fn (.func gf) lb, args := pb ++ #[.func (.yield L) #[] #[]] }, V, gf, pb ++ #[.func (.yield L) #[] #[]] ++ lb, V, ?_, ?_, ?_, ?_, fun _ => h1, ?_⟩
  · rw [hV, hL, hrc]; exact run_enterLoop_outer _ _ _ _ _
  · simp only [resolve, hg]
    simp [go_sem]
  · intro f' hf'; simp [Target.leads] at hf'; subst hf'; exact hFg
  · simp [invoke, go_sem, eg]
  · have ab : ∀ {K : List α → (Nat → Prop) → World → Prop} {ob : Obj}, AbW K → ∀ s (O : Nat → Prop) X Y, (K s O X ∧ X.heap[L]? = some ob ∧ X.heap[w.heap.size]? = some (.deferred (some [])) ∧ ¬ O L ∧ ¬ O w.heap.size) → Kp O X Y →
        (K s (fun i => O i ∨ (X.heap.size ≤ i ∧ i < Y.heap.size)) Y ∧ Y.heap[L]? = some ob ∧ Y.heap[w.heap.size]? = some (.deferred (some [])) ∧ ¬ (O L ∨ (X.heap.size ≤ L ∧ L < Y.heap.size)) ∧ ¬ (O w.heap.size ∨ (X.heap.size ≤ w.heap.size ∧ w.heap.size < Y.heap.size))) := by
      rintro K ob hK s O X Y ⟨hk, hl, hd, n1, n2⟩ kk
      have x1 := (Array.getElem?_eq_some_iff.1 hl).1
      have x2 := (Array.getElem?_eq_some_iff.1 hd).1
      exact ⟨hK s O X Y hk kk, (kk.block _ x1 (fun x => n1 x)).trans hl, (kk.block _ x2 (fun x => n2 x)).trans hd, fun x => x.elim n1 (fun x => by omega), fun x => x.elim n2 (fun x => by omega)⟩
    refine (hseq L
      (fun pre O W => I pre O W ∧ W.heap[L]? = some (.loop (rc .ready none)) ∧ W.heap[w.heap.size]? = some (.deferred (some [])) ∧ ¬ O L ∧ ¬ O w.heap.size)
      (fun pre O W => ∃ c, Ix c pre O W ∧ W.heap[L]? = some (.loop (rc .done (some c))) ∧ W.heap[w.heap.size]? = some (.deferred (some [])) ∧ ¬ O L ∧ ¬ O w.heap.size)
      V bV (fun s O X Y hs kk => ab hI s O X Y hs kk) (fun s O X Y hs kk => by obtain ⟨c, hs⟩ := hs; exact ⟨c, ab (hIx c) s O X Y hs kk⟩)
      ?_ ⟨iV, lV, dV, fun x => absurd (hO _ x) (by omega), fun x => absurd (hO _ x) (by omega)⟩).mono ?_
    · rintro pre O x W ⟨hi, hl, hd, n1, n2⟩ hsp
      have hlt : L < W.heap.size := (Array.getElem?_eq_some_iff.1 hl).1
      have hy := run_yield (P := P) (args := encs x) hl (by rw [hrc]; exact hps x)
      rw [hrc] at hy
      refine ⟨fn, _, assign, body, hy, roundIn_of_wpIn hfn (hassign _ pre O x W _ hL (by omega) hi ?_)⟩
      clear hy
      intro a' Z kZ iZ aZ
      have lZ := (kZ.block L hlt (fun x => x.2.2 hL)).trans hl
      have dZ := (kZ.block w.heap.size (by omega) (fun x => x.2.1 rfl)).trans hd
      have sZ : L < Z.heap.size := (Array.getElem?_eq_some_iff.1 lZ).1
      have kZ' : Kp (fun i => ¬ O i) W Z := kZ.mono (fun _ _ x => x.1)
      refine ⟨_, run_beginRound lZ (by rw [hrc]), ?_⟩
      obtain ⟨bz, hbz⟩ : ∃ bz : Obj, bz = .loop { rc .ready none with state := .busy } := ⟨_, rfl⟩
      rw [← hbz]
      have lB : (Z.putObj L bz).heap[L]? = some bz := World.putObj_heap_same sZ
      have dB : (Z.putObj L bz).heap[w.heap.size]? = some (.deferred (some [])) := (World.putObj_heap_other (by omega)).trans dZ
      have sB : L < (Z.putObj L bz).heap.size := (Array.getElem?_eq_some_iff.1 lB).1
      have kB : Kp (fun i => ¬ O i) W (Z.putObj L bz) := kp_tr2 kZ' (kp_putN2 _ _ _ n1)
      have iB : I pre O (Z.putObj L bz) := by rw [hL]; exact hI2 _ _ _ _ iZ (by omega)
      have aB : Ax x a' (Z.putObj L bz) := by rw [hL]; exact hAx _ _ _ _ aZ
      refine wpIn_mono (hbody L pre O x a' _ hL (by omega) n2 (by rw [← hL]; exact n1) iB aB hsp) ?_
      have fin : ∀ (jump : Option Code) (Y : World), Kp (fun i => ¬ O i ∧ i ≠ w.heap.size ∧ i ≠ w.heap.size + 1) (Z.putObj L bz) Y →
          (Instr.endRound L jump).run P Y = .ok (.bool jump.isNone) (Y.putObj L (.loop (rc (if jump.isNone then .ready else .done) jump))) ∧ L < Y.heap.size ∧
          (Y.putObj L (.loop (rc (if jump.isNone then .ready else .done) jump))).heap[L]? = some (.loop (rc (if jump.isNone then .ready else .done) jump)) ∧
          (Y.putObj L (.loop (rc (if jump.isNone then .ready else .done) jump))).heap[w.heap.size]? = some (.deferred (some [])) ∧
          Kp (fun i => ¬ O i) W (Y.putObj L (.loop (rc (if jump.isNone then .ready else .done) jump))) := fun jump Y kY => by
        have lY := (kY.block L sB (fun x => x.2.2 hL)).trans lB
        have dY := (kY.block w.heap.size (by omega) (fun x => x.2.1 rfl)).trans dB
        have sY : L < Y.heap.size := (Array.getElem?_eq_some_iff.1 lY).1
        rw [hbz] at lY
        have hr := run_endRound (P := P) jump lY
        rw [hrc] at hr ⊢
        exact ⟨hr, sY, World.putObj_heap_same sY, (World.putObj_heap_other (by omega)).trans dY, kp_tr2 kB (kp_tr2 (kY.mono (fun _ _ x => x.1)) (kp_putN2 _ _ _ n1))⟩
      rintro e a3 Y hp
      cases e with
      | normal =>
        obtain ⟨kY, iY⟩ := hp
        obtain ⟨hr, sY, l4, d4, k4⟩ := fin none Y kY
        exact ⟨_, _, hr, .inl ⟨rfl, ⟨by rw [hL]; exact hI2 _ _ _ _ iY (by omega), l4, d4, n1, n2⟩, k4⟩⟩
      | ret =>
        obtain ⟨kY, iY⟩ := hp
        obtain ⟨hr, sY, l4, d4, k4⟩ := fin (some .ret) Y kY
        exact ⟨_, _, hr, .inr ⟨rfl, ⟨.ret, by rw [hL]; exact hIx2 _ _ _ _ _ iY (by omega), l4, d4, n1, n2⟩, k4⟩⟩
      | exit id =>
        obtain ⟨kY, iY⟩ := hp
        obtain ⟨hr, sY, l4, d4, k4⟩ := fin (some (.exit id)) Y kY
        exact ⟨_, _, hr, .inr ⟨rfl, ⟨.exit id, by rw [hL]; exact hIx2 _ _ _ _ _ iY (by omega), l4, d4, n1, n2⟩, k4⟩⟩
      | goto t =>
        obtain ⟨kY, iY⟩ := hp
        obtain ⟨hr, sY, l4, d4, k4⟩ := fin (some (.goto t)) Y kY
        exact ⟨_, _, hr, .inr ⟨rfl, ⟨.goto t, by rw [hL]; exact hIx2 _ _ _ _ _ iY (by omega), l4, d4, n1, n2⟩, k4⟩⟩
      | panic ch => exact hp.elim
      | outgrown => exact hp.elim
    · rintro e Y ⟨⟨v, rfl⟩, (⟨xs, O, hS1, hi, hl, hd, n1, n2⟩ | ⟨pre, O, hSp, c, hi, hl, hd, n1, n2⟩)⟩
      · have sY : L < Y.heap.size := (Array.getElem?_eq_some_iff.1 hl).1
        exact ⟨none, _, by have := run_endLoop (P := P) hl (by rw [hrc]; simp); rw [hrc] at this; exact this, hdone _ xs O _ rfl (by rw [hL]; exact hS _ _ _ _ hS1 (hL ▸ hl)) (by rw [hL]; exact hI2 _ _ _ _ hi (by omega)) ((World.putObj_heap_other (by omega)).trans hd)⟩
      · have sY : L < Y.heap.size := (Array.getElem?_eq_some_iff.1 hl).1
        exact ⟨some c, _, by have := run_endLoop (P := P) hl (by rw [hrc]; simp); rw [hrc] at this; exact this, hstop _ c pre O _ rfl (by rw [hL]; exact hSx _ _ _ _ hSp (hL ▸ hl)) (by rw [hL]; exact hIx2 _ _ _ _ _ hi (by omega)) ((World.putObj_heap_other (by omega)).trans hd)⟩
end Go.Proofs.YtnccklbnncaeoaaGreat
