import Derived.Maps.OwnIn
import Derived.Maps.RangeRun
import Derived.RangeFuncNested
/- Maps as lists of entries: what a look-up, a store, a delete, len and a range's step do, whatever the program. -/
namespace Go.Proofs.YtnccklbnncaeoaaGreat
open Go.RowKit
open Go.ChangeMaps (setBlock)

section
variable {κ : Type} [DecidableEq κ]

def ent (mk : κ → Value) (e : κ × Value × Nat) : MapEntry := { key := mk e.1, val := e.2.1, born := e.2.2 }
/-- What lies at a key. -/
def mget : List (κ × Value × Nat) → κ → Option Value
  | [], _ => none
  | e :: es, k => if k = e.1 then some e.2.1 else mget es k
/-- A value is laid at a key. -/
def mput : List (κ × Value × Nat) → κ → Value → Nat → List (κ × Value × Nat)
  | [], k, v, c => [(k, v, c)]
  | e :: es, k, v, c => if k = e.1 then (k, v, e.2.2) :: es else e :: mput es k v c
def mclk : List (κ × Value × Nat) → κ → Nat → Nat
  | [], _, c => c + 1
  | e :: es, k, c => if k = e.1 then c else mclk es k c
/-- A key is taken away. -/
def mdel : List (κ × Value × Nat) → κ → List (κ × Value × Nat)
  | [], _ => []
  | e :: es, k => if k = e.1 then es else e :: mdel es k
def fidx : List (κ × Value × Nat) → κ → Nat → Option (Nat × Value)
  | [], _, _ => none
  | e :: es, k, i => if k = e.1 then some (i, e.2.1) else fidx es k (i + 1)
theorem fidx_get (es : List (κ × Value × Nat)) (k : κ) (i : Nat) : (fidx es k i).map (·.2) = mget es k := by
  induction es generalizing i with
  | nil => rfl
  | cons e es ih => unfold fidx mget; by_cases h : k = e.1 <;> simp [h, ih]
theorem mget_put (es : List (κ × Value × Nat)) (k k' : κ) (v : Value) (c : Nat) : mget (mput es k v c) k' = if k' = k then some v else mget es k' := by
  induction es with
  | nil => simp [mput, mget]
  | cons e es ih =>
    unfold mput
    by_cases h : k = e.1
    · rw [if_pos h]
      by_cases h' : k' = k
      · simp [mget, h']
      · have : ¬ k' = e.1 := fun x => h' (x.trans h.symm)
        simp [mget, h', this]
    · rw [if_neg h]
      simp only [mget]
      by_cases h' : k' = e.1
      · have : ¬ k' = k := fun x => h (x.symm.trans h')
        rw [if_pos h', if_neg this, if_pos h']
      · simp only [if_neg h', ih]
/-- Keys and stamps are all apart; stamps lie below the clock. -/
def Kok (es : List (κ × Value × Nat)) (c : Nat) : Prop := (es.map (·.1)).Nodup ∧ (es.map (·.2.2)).Nodup ∧ ∀ e ∈ es, e.2.2 < c
theorem mput_keys (es : List (κ × Value × Nat)) (k : κ) (v : Value) (c : Nat) : (mput es k v c).map (·.1) = if k ∈ es.map (·.1) then es.map (·.1) else es.map (·.1) ++ [k] := by
  induction es with
  | nil => simp [mput]
  | cons e es ih =>
    unfold mput
    by_cases h : k = e.1
    · simp [h]
    · rw [if_neg h, List.map_cons, ih]
      by_cases h' : k ∈ es.map (·.1)
      · rw [if_pos h', if_pos (by simp only [List.map_cons, List.mem_cons]; exact .inr h')]; rfl
      · rw [if_neg h', if_neg (by simp only [List.map_cons, List.mem_cons, not_or]; exact ⟨h, h'⟩)]; rfl
theorem mput_born (es : List (κ × Value × Nat)) (k : κ) (v : Value) (c : Nat) : (mput es k v c).map (·.2.2) = if k ∈ es.map (·.1) then es.map (·.2.2) else es.map (·.2.2) ++ [c] := by
  induction es with
  | nil => simp [mput]
  | cons e es ih =>
    unfold mput
    by_cases h : k = e.1
    · simp [h]
    · rw [if_neg h, List.map_cons, ih]
      by_cases h' : k ∈ es.map (·.1)
      · rw [if_pos h', if_pos (by simp only [List.map_cons, List.mem_cons]; exact .inr h')]; rfl
      · rw [if_neg h', if_neg (by simp only [List.map_cons, List.mem_cons, not_or]; exact ⟨h, h'⟩)]; rfl
theorem mclk_eq (es : List (κ × Value × Nat)) (k : κ) (c : Nat) : mclk es k c = if k ∈ es.map (·.1) then c else c + 1 := by
  induction es with
  | nil => simp [mclk]
  | cons e es ih =>
    unfold mclk
    by_cases h : k = e.1
    · simp [h]
    · rw [if_neg h, ih]
      simp only [List.map_cons, List.mem_cons, h, false_or]
theorem mget_none (es : List (κ × Value × Nat)) (k : κ) : mget es k = none ↔ k ∉ es.map (·.1) := by
  induction es with
  | nil => simp [mget]
  | cons e es ih =>
    unfold mget
    by_cases h : k = e.1
    · simp [h]
    · rw [if_neg h, ih]
      simp only [List.map_cons, List.mem_cons, h, false_or]
theorem Kok.put {es : List (κ × Value × Nat)} {c : Nat} (h : Kok es c) (k : κ) (v : Value) : Kok (mput es k v c) (mclk es k c) := by
  obtain ⟨h1, h2, h3⟩ := h
  have hb : ∀ b ∈ es.map (·.2.2), b < c := by
    intro b hb
    obtain ⟨e, he, rfl⟩ := List.mem_map.1 hb
    exact h3 e he
  have hq : ∀ b ∈ (mput es k v c).map (·.2.2), b < mclk es k c := by
    intro b hm
    rw [mput_born] at hm
    rw [mclk_eq]
    by_cases hk : k ∈ es.map (·.1)
    · rw [if_pos hk] at hm ⊢; exact hb b hm
    · rw [if_neg hk] at hm ⊢
      rcases List.mem_append.1 hm with hm | hm
      · have := hb b hm; omega
      · simp at hm; omega
  refine ⟨?_, ?_, fun e he => hq _ (List.mem_map_of_mem he)⟩
  · rw [mput_keys]
    by_cases hk : k ∈ es.map (·.1)
    · rw [if_pos hk]; exact h1
    · rw [if_neg hk]
      exact List.nodup_append.2 ⟨h1, by simp, fun a ha b hb => by simp at hb; subst hb; exact fun e => hk (e ▸ ha)⟩
  · rw [mput_born]
    by_cases hk : k ∈ es.map (·.1)
    · rw [if_pos hk]; exact h2
    · rw [if_neg hk]
      exact List.nodup_append.2 ⟨h2, by simp, fun a ha b hb' => by simp at hb'; subst hb'; have := hb a ha; omega⟩
theorem mdel_sub (es : List (κ × Value × Nat)) (k : κ) : (mdel es k).Sublist es := by
  induction es with
  | nil => exact List.Sublist.slnil
  | cons e es ih =>
    unfold mdel
    by_cases h : k = e.1
    · rw [if_pos h]; exact List.sublist_cons_self _ _
    · rw [if_neg h]; exact ih.cons_cons _
theorem mget_del {es : List (κ × Value × Nat)} (hn : (es.map (·.1)).Nodup) (k k' : κ) : mget (mdel es k) k' = if k' = k then none else mget es k' := by
  induction es with
  | nil => simp [mdel, mget]
  | cons e es ih =>
    rw [List.map_cons, List.nodup_cons] at hn
    unfold mdel
    by_cases h : k = e.1
    · rw [if_pos h]
      by_cases h' : k' = k
      · rw [if_pos h', mget_none]; rw [h', h]; exact hn.1
      · rw [if_neg h']; conv => rhs; unfold mget
        rw [if_neg (fun x => h' (x.trans h.symm))]
    · rw [if_neg h]; simp only [mget]
      by_cases h' : k' = e.1
      · rw [if_pos h', if_neg (fun x => h (x.symm.trans h')), if_pos h']
      · rw [if_neg h', if_neg h', ih hn.2]
theorem mget_mem {es : List (κ × Value × Nat)} (hn : (es.map (·.1)).Nodup) {e : κ × Value × Nat} (he : e ∈ es) : mget es e.1 = some e.2.1 := by
  induction es with
  | nil => cases he
  | cons x es ih =>
    rw [List.map_cons, List.nodup_cons] at hn
    unfold mget
    rcases List.mem_cons.1 he with rfl | he
    · simp
    · rw [if_neg (fun h => hn.1 (by rw [← h]; exact List.mem_map_of_mem he))]
      exact ih hn.2 he
theorem mem_of_mget {es : List (κ × Value × Nat)} {k : κ} {v : Value} (h : mget es k = some v) : ∃ b, (k, v, b) ∈ es := by
  induction es with
  | nil => cases h
  | cons e es ih =>
    unfold mget at h
    by_cases hk : k = e.1
    · rw [if_pos hk] at h
      cases h
      exact ⟨e.2.2, by rw [hk]; exact List.mem_cons_self⟩
    · rw [if_neg hk] at h
      obtain ⟨b, hb⟩ := ih h
      exact ⟨b, List.mem_cons_of_mem _ hb⟩
end

theorem Kok.sub {κ : Type} {es es' : List (κ × Value × Nat)} {c : Nat} (h : Kok es c) (hs : es'.Sublist es) : Kok es' c :=
  ⟨h.1.sublist (hs.map _), h.2.1.sublist (hs.map _), fun e he => h.2.2 e (hs.subset he)⟩
/-- Block b is a map with these entries. -/
def Mp {κ : Type} (mk : κ → Value) (w : World) (b : Nat) (es : List (κ × Value × Nat)) (c : Nat) : Prop := w.heap[b]? = some (.map (es.map (ent mk)).toArray c) ∧ Kok es c
theorem Mp.lt {κ : Type} {mk : κ → Value} {w : World} {b : Nat} {es : List (κ × Value × Nat)} {c : Nat} (h : Mp mk w b es c) : b < w.heap.size := (Array.getElem?_eq_some_iff.1 h.1).1
theorem Mp.of_block {κ : Type} {mk : κ → Value} {w w' : World} {b : Nat} {es : List (κ × Value × Nat)} {c : Nat} (h : Mp mk w b es c) (hb : w'.heap[b]? = w.heap[b]?) : Mp mk w' b es c := ⟨hb.trans h.1, h.2⟩
theorem Mp.new {κ : Type} (mk : κ → Value) (w : World) : Mp mk (w.alloc (.map #[] 0)) w.heap.size [] 0 := ⟨(MapKept.heap_alloc w _).1, List.nodup_nil, List.nodup_nil, fun _ h => by cases h⟩

theorem mp_set {κ : Type} {mk : κ → Value} {w : World} {b c c' : Nat} {es es' : List (κ × Value × Nat)} (h : Mp mk w b es c) (hk : Kok es' c') : Mp mk (w.putObj b (.map (es'.map (ent mk)).toArray c')) b es' c' ∧ w.grownBy (w.putObj b (.map (es'.map (ent mk)).toArray c')) (some b) :=
  ⟨⟨World.putObj_heap_same h.lt, hk⟩, ⟨rfl, rfl, rfl, by simp, fun k _ hk => World.putObj_heap_other (fun e => hk (by rw [e]))⟩⟩
/-- What is asked of a key's type. -/
structure Ky {κ : Type} (P : Program) (K : TypeId) (d : TypeDesc) (mk : κ → Value) : Prop where
  und : P.underlying K = some d
  is : ∀ a, MapKept.IsKey d (mk a)
  inj : ∀ a b, mk a = mk b → a = b
theorem ky_int {P : Program} {K : TypeId} {q : IntKind} (h : P.underlying K = some (.int q)) : Ky P K (.int q) (Value.int q) := ⟨h, fun _ => rfl, fun _ _ e => by cases e; rfl⟩
theorem ky_str {P : Program} {K : TypeId} (h : P.underlying K = some .string) : Ky P K .string Value.string := ⟨h, fun _ => trivial, fun _ _ e => by cases e; rfl⟩

theorem run_len_mp {κ : Type} {P : Program} {K E T : TypeId} {mk : κ → Value} (ht : P.underlying T = some (.map K E)) {w : World} {b c : Nat} {es : List (κ × Value × Nat)} (h : Mp mk w b es c) (ty : TypeId) :
    (Builtin.len_ #[T] ty #[.map (some b)]).run P w = .ok (.int .i64 es.length) w := by
  simp [Builtin.len_, run_underlying ht, MapKept.run_getObj_map h.1, goInt]

section
variable {κ : Type} [DecidableEq κ] {P : Program} {K E T : TypeId} {d : TypeDesc} {mk : κ → Value}

theorem Ky.find (ky : Ky P K d mk) (k : κ) (es : List (κ × Value × Nat)) (i : Nat) : Instr.findNow d (mk k) (es.map (ent mk)) i = some (fidx es k i) := by
  induction es generalizing i with
  | nil => rfl
  | cons e es ih =>
    obtain ⟨r, hr, hiff⟩ := MapKept.sameNow_of_keys (ky.is k) (ky.is e.1)
    rw [List.map_cons]
    unfold Instr.findNow fidx
    rw [show (ent mk e).key = mk e.1 from rfl, hr]
    cases r with
    | true => rw [if_pos (ky.inj _ _ (hiff.1 rfl))]; rfl
    | false =>
      rw [if_neg (fun h => by have := hiff.2 (by rw [h]); cases this)]
      exact ih (i + 1)
theorem run_lookup_mp (ky : Ky P K d mk) (ht : P.underlying T = some (.map K E)) {w : World} {b c : Nat} {es : List (κ × Value × Nat)} (h : Mp mk w b es c) {z : Value} (hz : (zeroValue E).run P w = .ok z w) (k : κ) :
    (Instr.lookup T (.map (some b)) (mk k) false).run P w = .ok ((mget es k).getD z) w := by
  have hf := ky.find k es 0
  have hg := fidx_get es k 0
  cases hq : fidx es k 0 with
  | none =>
    rw [hq] at hf hg
    rw [← hg]
    simp [Instr.lookup, run_underlying ht, MapKept.run_getObj_map h.1, MapKept.run_checkKey ky.und (ky.is k), MapKept.run_findKey ky.und hf, hz]
  | some r =>
    rw [hq] at hf hg
    rw [← hg]
    simp [Instr.lookup, run_underlying ht, MapKept.run_getObj_map h.1, MapKept.run_checkKey ky.und (ky.is k), MapKept.run_findKey ky.und hf]
theorem fidx_put (es : List (κ × Value × Nat)) (k : κ) (v : Value) (i c : Nat) : (fidx es k i = none ∧ mput es k v c = es ++ [(k, v, c)] ∧ mclk es k c = c + 1 ∧ mdel es k = es) ∨
    ∃ j u, fidx es k i = some (i + j, u) ∧ ∃ e, es[j]? = some e ∧ e.1 = k ∧ mput es k v c = es.set j (k, v, e.2.2) ∧ mclk es k c = c ∧ mdel es k = es.eraseIdx j := by
  induction es generalizing i with
  | nil => exact .inl ⟨rfl, rfl, rfl, rfl⟩
  | cons e es ih =>
    unfold fidx mput mclk mdel
    by_cases h : k = e.1
    · exact .inr ⟨0, e.2.1, by simp [h], e, rfl, h.symm, by simp [h], by simp [h], by simp [h]⟩
    · rcases ih (i + 1) with ⟨h1, h2, h3, h4⟩ | ⟨j, u, h1, e', h2, h3, h4, h5, h6⟩
      · exact .inl ⟨by simp [h, h1], by simp [h, h2], by simp [h, h3], by simp [h, h4]⟩
      · exact .inr ⟨j + 1, u, by simp [h, h1]; omega, e', by simpa using h2, h3, by simp [h, h4], by simp [h, h5], by simp [h, h6]⟩
theorem run_update_mp (ky : Ky P K d mk) (ht : P.underlying T = some (.map K E)) {w : World} {b c : Nat} {es : List (κ × Value × Nat)} (h : Mp mk w b es c) (k : κ) (v : Value) :
    (Instr.mapUpdate T (.map (some b)) (mk k) v).run P w = .ok () (w.putObj b (.map ((mput es k v c).map (ent mk)).toArray (mclk es k c))) := by
  have hf := ky.find k es 0
  rcases fidx_put es k v 0 c with ⟨h1, h2, h3, _⟩ | ⟨j, u, h1, e, h2, h3, h4, h5, _⟩
  · rw [h1] at hf
    rw [h2, h3]
    simp [Instr.mapUpdate, run_underlying ht, MapKept.run_getObj_map h.1, MapKept.run_checkKey ky.und (ky.is k), MapKept.run_findKey ky.und hf, MapKept.run_setObj_map _ h.1]
    simp [World.putObj, ent]
  · rw [h1, Nat.zero_add] at hf
    rw [h4, h5]
    have hj : j < es.length := (List.getElem?_eq_some_iff.1 h2).1
    have hk : ((es.map (ent mk)).toArray[j]?.map (·.key)).getD (mk k) = mk k := by simp [h2, ent, h3]
    simp [Instr.mapUpdate, run_underlying ht, MapKept.run_getObj_map h.1, MapKept.run_checkKey ky.und (ky.is k), MapKept.run_findKey ky.und hf, MapKept.run_setObj_map _ h.1, MapKept.run_keyThatStays (ky.is k), h2, h3, ent]
    simp only [World.putObj]
    have he : (es.map (ent mk)).modify j (fun e => { key := mk k, val := v, born := e.born }) = (es.map (ent mk)).set j { key := mk k, val := v, born := e.2.2 } := by
      apply List.ext_getElem?
      intro i
      simp only [List.getElem?_modify, List.getElem?_map, List.getElem?_set, List.length_map]
      by_cases hi : j = i
      · subst hi
        rw [if_pos rfl, if_pos hj, h2]
        simp [ent]
      · simp [hi]
    rw [he]
theorem run_delete_mp (ky : Ky P K d mk) (ht : P.underlying T = some (.map K E)) {w : World} {b c : Nat} {es : List (κ × Value × Nat)} (h : Mp mk w b es c) (k : κ) (ty : TypeId) :
    (Builtin.delete_ #[T, K] ty #[.map (some b), mk k]).run P w = .ok (.tuple #[]) (w.putObj b (.map ((mdel es k).map (ent mk)).toArray c)) := by
  have hf := ky.find k es 0
  rcases fidx_put es k undef 0 c with ⟨h1, _, _, h2⟩ | ⟨j, u, h1, e, h2, h3, _, _, h4⟩
  · rw [h1] at hf
    rw [h2]
    simp [Builtin.delete_, run_underlying ht, MapKept.run_getObj_map h.1, MapKept.run_checkKey ky.und (ky.is k), MapKept.run_findKey ky.und hf, MapKept.run_setObj_map _ h.1]
    rfl
  · rw [h1, Nat.zero_add] at hf
    rw [h4]
    simp [Builtin.delete_, run_underlying ht, MapKept.run_getObj_map h.1, MapKept.run_checkKey ky.und (ky.is k), MapKept.run_findKey ky.und hf, MapKept.run_setObj_map _ h.1]
    simp only [World.putObj]
    congr 3
    rw [ChangeMaps.map_eraseIdx]
variable {F : Fence} {nF : Nat} {w : World} {ops : Array Oper} {rest : List Oper} {o : Oper} {a : Act} {Q : Exit → Act → World → Prop}
theorem wpList_lookup_mp (hg : o.guard = none) (m x : Operand) (hop : o.op = Op.lookup T m x false) (ky : Ky P K d mk) (ht : P.underlying T = some (.map K E)) (z : Value) (hz : (zeroValue E).run P w = .ok z w) (b c : Nat) (es : List (κ × Value × Nat))
    (hm : a.eval m = .map (some b)) (h : Mp mk w b es c) (k : κ) (hx : a.eval x = mk k) (v : Value) (hv : (mget es k).getD z = v) (hK : wpList P ops Q rest (a.put o.dst v) w) : wpList P ops Q (o :: rest) a w := by
  refine wpList_plain hg fun K' hK' => ?_
  have hrun := run_lookup_mp ky ht h hz k
  rw [hv] at hrun
  unfold Oper.wp
  simp [execOp, hop, hm, hx, hrun]
  exact hK' _ _ hK
theorem wpListIn_lookup_mp (hg : o.guard = none) (m x : Operand) (hop : o.op = Op.lookup T m x false) (ky : Ky P K d mk) (ht : P.underlying T = some (.map K E)) (z : Value) (hz : (zeroValue E).run P w = .ok z w) (b c : Nat) (es : List (κ × Value × Nat))
    (hm : a.eval m = .map (some b)) (h : Mp mk w b es c) (k : κ) (hx : a.eval x = mk k) (v : Value) (hv : (mget es k).getD z = v) (hK : wpListIn F nF P ops Q rest (a.put o.dst v) w) : wpListIn F nF P ops Q (o :: rest) a w := by
  refine wpListIn_plain hg fun K' hK' => ?_
  have hrun := run_lookup_mp ky ht h hz k
  rw [hv] at hrun
  unfold Oper.wpIn
  refine ⟨by simp [Oper.about, hop], ?_⟩
  rw [Oper.semAt_plain F _ _ (by rw [hop]; intro c hc'; cases hc')]
  simp [execOp, hop, hm, hx, hrun]
  exact hK' _ _ hK
theorem wpList_update_mp (hg : o.guard = none) (m x u : Operand) (hop : o.op = Op.mapUpdate T m x u) (ky : Ky P K d mk) (ht : P.underlying T = some (.map K E)) (b c : Nat) (es : List (κ × Value × Nat))
    (hm : a.eval m = .map (some b)) (h : Mp mk w b es c) (k : κ) (hx : a.eval x = mk k) (v : Value) (hv : a.eval u = v) (hK : ∀ w', Mp mk w' b (mput es k v c) (mclk es k c) → w.grownBy w' (some b) → wpList P ops Q rest (a.put o.dst undef) w') : wpList P ops Q (o :: rest) a w := by
  refine wpList_plain hg fun K' hK' => ?_
  have hrun := run_update_mp ky ht h k v
  obtain ⟨r1, r2⟩ := mp_set h (h.2.put k v)
  unfold Oper.wp
  simp [execOp, hop, hm, hx, hv, hrun]
  exact hK' _ _ (hK _ r1 r2)
theorem wpListIn_update_mp (hg : o.guard = none) (m x u : Operand) (hop : o.op = Op.mapUpdate T m x u) (ky : Ky P K d mk) (ht : P.underlying T = some (.map K E)) (b c : Nat) (es : List (κ × Value × Nat))
    (hm : a.eval m = .map (some b)) (h : Mp mk w b es c) (k : κ) (hx : a.eval x = mk k) (v : Value) (hv : a.eval u = v) (hK : ∀ w', Mp mk w' b (mput es k v c) (mclk es k c) → w.grownBy w' (some b) → wpListIn F nF P ops Q rest (a.put o.dst undef) w') : wpListIn F nF P ops Q (o :: rest) a w := by
  refine wpListIn_plain hg fun K' hK' => ?_
  have hrun := run_update_mp ky ht h k v
  obtain ⟨r1, r2⟩ := mp_set h (h.2.put k v)
  unfold Oper.wpIn
  refine ⟨by simp [Oper.about, hop], ?_⟩
  rw [Oper.semAt_plain F _ _ (by rw [hop]; intro c hc'; cases hc')]
  simp [execOp, hop, hm, hx, hv, hrun]
  exact hK' _ _ (hK _ r1 r2)
theorem wpList_delete_mp (hg : o.guard = none) (m x : Operand) (hop : o.op = Op.call { callee := Callee.builtin Builtin.delete, args := #[m, x], argTypes := #[T, K] }) (ky : Ky P K d mk) (ht : P.underlying T = some (.map K E)) (b c : Nat) (es : List (κ × Value × Nat))
    (hm : a.eval m = .map (some b)) (h : Mp mk w b es c) (k : κ) (hx : a.eval x = mk k) (hK : ∀ w', Mp mk w' b (mdel es k) c → w.grownBy w' (some b) → wpList P ops Q rest (a.put o.dst (.tuple #[])) w') : wpList P ops Q (o :: rest) a w := by
  refine wpList_plain hg fun K' hK' => ?_
  have hrun := run_delete_mp ky ht h k o.type
  obtain ⟨r1, r2⟩ := mp_set h (h.2.sub (mdel_sub es k))
  unfold Oper.wp
  simp [execOp, hop, resolve, invoke, builtin, hm, hx, hrun]
  exact hK' _ _ (hK _ r1 r2)
end
theorem wpList_len_mp {κ : Type} {P : Program} {K E T : TypeId} {mk : κ → Value} {w : World} {ops : Array Oper} {rest : List Oper} {o : Oper} {a : Act} {Q : Exit → Act → World → Prop} (hg : o.guard = none) (m : Operand) (hop : o.op = Op.call { callee := Callee.builtin Builtin.len, args := #[m], argTypes := #[T] }) (ht : P.underlying T = some (.map K E)) (b c : Nat) (es : List (κ × Value × Nat))
    (hm : a.eval m = .map (some b)) (h : Mp mk w b es c) (hK : wpList P ops Q rest (a.put o.dst (.int .i64 es.length)) w) : wpList P ops Q (o :: rest) a w := by
  refine wpList_plain hg fun K' hK' => ?_
  have hrun := run_len_mp ht h o.type
  unfold Oper.wp
  simp [execOp, hop, resolve, invoke, builtin, hm, hrun]
  exact hK' _ _ hK
end Go.Proofs.YtnccklbnncaeoaaGreat
