import Derived.Test.YtnccklbnncaeoaaGreatJai
import Derived.Lib.Strings
import Derived.Lib.Slices
import Derived.Lib.Walk
import Derived.Lib.Bytealg
/- Names, and what speaks against them; a file is looked up; a step. -/
namespace Go.Proofs.YtnccklbnncaeoaaGreat
open Go.RowKit

set_option maxRecDepth 100000 in
set_option maxHeartbeats 1000000 in
theorem sl_IndexByte (s : ByteArray) (c : Int) (w : World) : Calls Tryz.prog 176 #[.string s, .int .u8 c] w fun e w' => e = .returned (.int .i64 (Lib.indexByte s.data.toList c.toNat.toUInt8)) ∧ w' = w := by
  go_enter Tryz.func176, Tryz.ntmps176
  go_wp2
  rw [run_callFunc_extern Tryz.func194 (by kernel_rfl) (by kernel_rfl) (by kernel_rfl) (e := Extern.BytealgIndexByte.indexByte) (by kernel_rfl), Lib.run_indexByteString]
  simp only [Result.andThen]
  rw [Oper.upon_value]
  go_wp2
  go_ret
  exact ⟨rfl, rfl⟩
set_option maxRecDepth 100000 in
set_option maxHeartbeats 1000000 in
theorem s_IndexByte (s : ByteArray) (c : Int) (w : World) : Calls Tryz.prog 135 #[.string s, .int .u8 c] w fun e w' => e = .returned (.int .i64 (Lib.indexByte s.data.toList c.toNat.toUInt8)) ∧ w' = w := by
  go_enter Tryz.func135, Tryz.ntmps135
  go_wp2_with (go_at_call 176; refine (sl_IndexByte _ _ _).mono ?_; rintro e w' ⟨rfl, rfl⟩)
  go_ret
  exact ⟨rfl, rfl⟩
/-- Is it a name? -/
def nmd (s : ByteArray) : Bool := decide (1 ≤ s.size) && decide (s.size ≤ 64) && decide (Lib.indexByte s.data.toList 0 < 0)
theorem nmd_ne {s : ByteArray} (h : nmd s = true) : 1 ≤ s.size ∧ s.size ≤ 64 ∧ Lib.indexByte s.data.toList 0 < 0 := by
  simp only [nmd, Bool.and_eq_true, decide_eq_true_eq] at h
  exact ⟨h.1.1, h.1.2, h.2⟩
set_option maxRecDepth 100000 in
set_option maxHeartbeats 1000000 in
theorem allowed_live (s : ByteArray) (g m : Nat) (w : World) (hc : w.cell? ⟨g, 0, none⟩ = some (.map (some m))) (hs : s.size ≤ maxLen) : Calls Tryz.prog 87 #[.pointer (some ⟨g, 0, none⟩), .string s] w fun e w' => e = .returned (.int .i64 (if nmd s then 0 else 2)) ∧ w' = w := by
  unfold maxLen at hs
  by_cases h0 : s.size = 0
  · have hE : s.toList.isEmpty = true := by rw [ByteArray.toList_eq]; have : s.data = #[] := Array.eq_empty_of_size_eq_zero h0; rw [this]; rfl
    have hn : nmd s = false := by simp [nmd]; omega
    rw [hn]
    go_enter Tryz.func87, Tryz.ntmps87
    go_wp2_with (first | (go_at_call 78; refine (none_live g m _ hc).mono ?_; rintro e w' ⟨rfl, rfl⟩))
    go_ret
    exact ⟨rfl, rfl⟩
  · have hE : s.toList.isEmpty = false := by
      rw [ByteArray.toList_eq]
      cases hq : s.data.toList with
      | nil => exfalso; apply h0; have := congrArg List.length hq; simpa using this
      | cons _ _ => rfl
    have hsz : 1 ≤ s.size := by omega
    by_cases h1 : 64 < s.size
    · have h1' : decide ((64 : Int) < (s.size : Int)) = true := by simp; omega
      have hn : nmd s = false := by simp [nmd]; omega
      rw [hn]
      go_enter Tryz.func87, Tryz.ntmps87
      go_wp2_with (first | (go_at_call 78; refine (none_live g m _ hc).mono ?_; rintro e w' ⟨rfl, rfl⟩))
      go_ret
      exact ⟨rfl, rfl⟩
    · have h1' : decide ((64 : Int) < (s.size : Int)) = false := by simp; omega
      by_cases h2 : Lib.indexByte s.data.toList 0 < 0
      · have hn : nmd s = true := by simp [nmd]; omega
        rw [hn]
        have h2' : Lib.indexByte s.data.toList (0 : Int).toNat.toUInt8 < 0 := h2
        obtain ⟨x, hx⟩ : ∃ x, x = Lib.indexByte s.data.toList (0 : Int).toNat.toUInt8 := ⟨_, rfl⟩
        have HX : Hid (Lib.indexByte s.data.toList (0 : Int).toNat.toUInt8 = x) := hx.symm
        rw [← hx] at h2'
        have h2d : decide (0 ≤ x) = false := by simp; omega
        clear hx h2 hn
        go_enter Tryz.func87, Tryz.ntmps87
        go_wp2_with (first | (go_at_call 78; refine (none_live g m _ hc).mono ?_; rintro e w' ⟨rfl, rfl⟩) | (go_at_call 135; refine (s_IndexByte s 0 _).mono ?_; rintro e w' ⟨rfl, rfl⟩; rw [HX.out]))
        go_ret
        exact ⟨rfl, rfl⟩
      · have hn : nmd s = false := by simp [nmd]; omega
        rw [hn]
        have h2' : ¬ Lib.indexByte s.data.toList (0 : Int).toNat.toUInt8 < 0 := h2
        obtain ⟨x, hx⟩ : ∃ x, x = Lib.indexByte s.data.toList (0 : Int).toNat.toUInt8 := ⟨_, rfl⟩
        have HX : Hid (Lib.indexByte s.data.toList (0 : Int).toNat.toUInt8 = x) := hx.symm
        rw [← hx] at h2'
        have h2d : decide (0 ≤ x) = true := by simp; omega
        clear hx h2 hn
        go_enter Tryz.func87, Tryz.ntmps87
        go_wp2_with (first | (go_at_call 78; refine (none_live g m _ hc).mono ?_; rintro e w' ⟨rfl, rfl⟩) | (go_at_call 135; refine (s_IndexByte s 0 _).mono ?_; rintro e w' ⟨rfl, rfl⟩; rw [HX.out]))
        go_ret
        exact ⟨rfl, rfl⟩
set_option maxRecDepth 100000 in
set_option maxHeartbeats 1000000 in
theorem allowed_nos (s : ByteArray) (v : Value) (w : World) (h : Nos w v) : Calls Tryz.prog 87 #[v, .string s] w fun e w' => e = .returned (.int .i64 1) ∧ w' = w := by
  have H : Hid (Nos w v) := h
  clear h
  go_enter Tryz.func87, Tryz.ntmps87
  go_wp2_with (first | (go_at_call 78; refine (none_nos v _ H.out).mono ?_; rintro e w' ⟨rfl, rfl⟩))
  go_ret
  exact ⟨rfl, rfl⟩
end Go.Proofs.YtnccklbnncaeoaaGreat
/- Fates in memory; a step takes the next one. -/
namespace Go.Proofs.YtnccklbnncaeoaaGreat
open Go.RowKit

/-- A slice of fates. -/
def Fv (w : World) (fv : Value) (ft : List (Int × Int)) : Prop :=
  (fv = .slice none 0 0 ∧ ft = []) ∨ ∃ b o cap cs, fv = .slice (some ⟨b, o * 2, none⟩) ft.length cap ∧ w.heap[b]? = some (.cells cs 137 (0, 0)) ∧ ft.length ≤ cap ∧ cap ≤ 9223372036854775807 ∧ (o + cap) * 2 ≤ cs.size ∧
    ∀ i, i < ft.length → cs[(o + i) * 2]? = some (.int .i64 (ft.getD i (0, 0)).1) ∧ cs[(o + i) * 2 + 1]? = some (.int .i64 (ft.getD i (0, 0)).2)
theorem Fv.kp {F : Nat → Prop} {w w' : World} {fv : Value} {ft : List (Int × Int)} (h : Fv w fv ft) (k : Kp F w w') (hf : ∀ b, fv.ownBlock = some b → ¬ F b) : Fv w' fv ft := by
  rcases h with h | ⟨b, o, cap, cs, rfl, h2, h3⟩
  · exact .inl h
  · exact .inr ⟨b, o, cap, cs, rfl, (k.block b (Array.getElem?_eq_some_iff.1 h2).1 (hf b rfl)).trans h2, h3⟩
theorem Fv.lt {w : World} {fv : Value} {ft : List (Int × Int)} (h : Fv w fv ft) : ∀ b, fv.ownBlock = some b → b < w.heap.size := by
  intro b hb
  rcases h with ⟨h, _⟩ | ⟨b', o, cap, cs, rfl, h2, h3⟩
  · rw [h] at hb; cases hb
  · have : b' = b := by simpa [Value.ownBlock] using hb
    subst this
    exact (Array.getElem?_eq_some_iff.1 h2).1
theorem Fv.shape {w : World} {fv : Value} {ft : List (Int × Int)} (h : Fv w fv ft) : ∃ ao c, fv = .slice ao ft.length c := by
  rcases h with ⟨rfl, rfl⟩ | ⟨b, o, cap, cs, rfl, _⟩
  · exact ⟨none, 0, rfl⟩
  · exact ⟨_, _, rfl⟩
set_option maxRecDepth 100000 in
set_option maxHeartbeats 1000000 in
theorem step_nil (g : Nat) (mv : Value) (ao : Option Addr) (c steps : Nat) (w : World) (hs : St 158 w g #[mv, .slice ao 0 c, .int .i64 steps]) (hb : steps ≤ 1000000000000) :
    Calls Tryz.prog 88 #[.pointer (some ⟨g, 0, none⟩)] w fun e w' => e = .returned (.agg #[.int .i64 0, .int .i64 0]) ∧ St 158 w' g #[mv, .slice ao 0 c, .int .i64 ((steps + 1 : Nat) : Int)] ∧ Kp (fun i => i = g) w w' := by
  have hc1 : w.cell? ⟨g, 1, none⟩ = some (.slice ao 0 c) := hs.cell 1
  have hc2 : w.cell? ⟨g, 2, none⟩ = some (.int .i64 steps) := hs.cell 2
  have hf2 := hs.frozen 2
  have HS : Hid (St 158 w g #[mv, .slice ao 0 c, .int .i64 steps]) := hs
  have hl := hs.lt
  clear hs
  go_enter Tryz.func88, Tryz.ntmps88
  go_wp2
  refine bodyPost_ret (v := .agg #[.int .i64 0, .int .i64 0]) (by simp [results, Tryz.results88, go_sem]) rfl ⟨rfl, ?_, (kp_setCell w g 2 _ (fun i => i = g) rfl).alloc _⟩
  exact (HS.out.set 2 (.int .i64 ((steps : Int) + 1))).kp (F := fun _ => False) ((Kp.refl _ _).alloc _) (fun h => h)
set_option maxRecDepth 100000 in
set_option maxHeartbeats 1000000 in
theorem step_cons (g : Nat) (mv : Value) (b o cap steps n : Nat) (k0 n0 : Int) (w : World) (hs : St 158 w g #[mv, .slice (some ⟨b, o, none⟩) (n + 1) cap, .int .i64 steps]) (hb : steps ≤ 1000000000000) (hn : n + 1 ≤ cap) (hcap : cap ≤ 9223372036854775807)
    (h0 : w.cell? ⟨b, o, none⟩ = some (.int .i64 k0)) (h1 : w.cell? ⟨b, o + 1, none⟩ = some (.int .i64 n0)) (hbg : b ≠ g) :
    Calls Tryz.prog 88 #[.pointer (some ⟨g, 0, none⟩)] w fun e w' => e = .returned (.agg #[.int .i64 k0, .int .i64 n0]) ∧ St 158 w' g #[mv, .slice (some ⟨b, if cap = 1 then o else o + 2, none⟩) n (cap - 1), .int .i64 ((steps + 1 : Nat) : Int)] ∧ Kp (fun i => i = g) w w' := by
  have hc1 : w.cell? ⟨g, 1, none⟩ = some (.slice (some ⟨b, o, none⟩) (n + 1) cap) := hs.cell 1
  have hc2 : w.cell? ⟨g, 2, none⟩ = some (.int .i64 steps) := hs.cell 2
  have hf2 := hs.frozen 2
  have hf1 := hs.frozen 1
  have HS : Hid (St 158 w g #[mv, .slice (some ⟨b, o, none⟩) (n + 1) cap, .int .i64 steps]) := hs
  have hl := hs.lt
  have hbl := block_lt_of_cell h0
  have x0 : ∀ v, (w.setCell ⟨g, 2, none⟩ v).cell? ⟨b, o, none⟩ = some (.int .i64 k0) := fun v => kp_cell (kp_setCell w g 2 v (fun i => i = g) rfl) h0 hbg
  have x1 : ∀ v, (w.setCell ⟨g, 2, none⟩ v).cell? ⟨b, o + 1, none⟩ = some (.int .i64 n0) := fun v => kp_cell (kp_setCell w g 2 v (fun i => i = g) rfl) h1 hbg
  clear hs
  by_cases hcp : cap = 1
  · subst hcp
    obtain rfl : n = 0 := by omega
    go_enter Tryz.func88, Tryz.ntmps88
    go_wp2
    refine bodyPost_ret (v := .agg #[.int .i64 k0, .int .i64 n0]) (by simp [results, Tryz.results88, go_sem]) rfl ⟨rfl, ?_, (((kp_setCell w g 2 _ (fun i => i = g) rfl).trans (kp_setCell _ _ _ _ (fun i => i = g) rfl) (fun _ _ h => h)).alloc _).alloc _⟩
    exact ((HS.out.set 2 (.int .i64 ((steps : Int) + 1))).set 1 _).kp (F := fun _ => False) (((Kp.refl _ _).alloc _).alloc _) (fun h => h)
  · rw [if_neg hcp]
    go_enter Tryz.func88, Tryz.ntmps88
    go_wp2
    refine bodyPost_ret (v := .agg #[.int .i64 k0, .int .i64 n0]) (by simp [results, Tryz.results88, go_sem]) rfl ⟨rfl, ?_, (((kp_setCell w g 2 _ (fun i => i = g) rfl).trans (kp_setCell _ _ _ _ (fun i => i = g) rfl) (fun _ _ h => h)).alloc _).alloc _⟩
    exact ((HS.out.set 2 (.int .i64 ((steps : Int) + 1))).set 1 _).kp (F := fun _ => False) (((Kp.refl _ _).alloc _).alloc _) (fun h => h)
/-- A step: the next fate, or a good one. -/
theorem step_any (g : Nat) (mv fv : Value) (steps : Nat) (ft : List (Int × Int)) (w : World) (hs : St 158 w g #[mv, fv, .int .i64 steps]) (hb : steps ≤ 1000000000000) (hf : Fv w fv ft) (hg : fv.ownBlock ≠ some g) :
    Calls Tryz.prog 88 #[.pointer (some ⟨g, 0, none⟩)] w fun e w' => e = .returned (.agg #[.int .i64 (ft.headD (0, 0)).1, .int .i64 (ft.headD (0, 0)).2]) ∧ ∃ fv', St 158 w' g #[mv, fv', .int .i64 ((steps + 1 : Nat) : Int)] ∧ Fv w' fv' ft.tail ∧ fv'.ownBlock = fv.ownBlock ∧ Kp (fun i => i = g) w w' := by
  cases ft with
  | nil =>
    obtain ⟨ao, c, rfl⟩ := hf.shape
    refine (step_nil g mv ao c steps w hs hb).mono ?_
    rintro e w' ⟨rfl, h1, h2⟩
    exact ⟨rfl, _, h1, hf.kp h2 (fun b hb e => hg (e ▸ hb)), rfl, h2⟩
  | cons f ft =>
    rcases hf with ⟨_, h⟩ | ⟨b, o, cap, cs, rfl, h2, h3, h4, h5, h6⟩
    · cases h
    · have hbg : b ≠ g := fun e => hg (by rw [← e]; rfl)
      obtain ⟨q0, q1⟩ := h6 0 (by simp)
      rw [show o + 0 = o from rfl] at q0 q1
      have p0 : w.cell? ⟨b, o * 2, none⟩ = some (.int .i64 f.1) := (cell_of_row w b (o * 2) _ 137 _ h2).trans (by rw [q0]; rfl)
      have p1 : w.cell? ⟨b, o * 2 + 1, none⟩ = some (.int .i64 f.2) := (cell_of_row w b (o * 2 + 1) _ 137 _ h2).trans (by rw [q1]; rfl)
      refine (step_cons g mv b (o * 2) cap steps ft.length f.1 f.2 w hs hb (by simpa using h3) h4 p0 p1 hbg).mono ?_
      rintro e w' ⟨rfl, h7, h8⟩
      refine ⟨rfl, _, h7, .inr ?_, rfl, h8⟩
      have hh := (h8.block b (Array.getElem?_eq_some_iff.1 h2).1 hbg).trans h2
      by_cases hc : cap = 1
      · have hl : ft.length = 0 := by simp at h3; omega
        obtain rfl : ft = [] := List.eq_nil_of_length_eq_zero hl
        exact ⟨b, o, cap - 1, cs, by rw [if_pos hc]; rfl, hh, by simp, by omega, by omega, fun i hi => by simp at hi⟩
      · refine ⟨b, o + 1, cap - 1, cs, by rw [if_neg hc, show (o + 1) * 2 = o * 2 + 2 by omega]; rfl, hh, by simp at h3; show ft.length ≤ cap - 1; omega, by omega, by simp at h3; omega, fun i hi => ?_⟩
        have := h6 (i + 1) (by simp at hi ⊢; omega)
        rw [show o + 1 + i = o + (i + 1) by omega]
        simpa [List.getD_cons_succ] using this
end Go.Proofs.YtnccklbnncaeoaaGreat
/- A store in memory. -/
namespace Go.Proofs.YtnccklbnncaeoaaGreat
open Go.RowKit

structure Gf where
  sz : Nat
  L : Nat → Int
  ps : List (Nat × List Int)
abbrev Fe := ByteArray × Fa × Gf
/-- What came of a call that may write own. -/
structure Wk (D : Nat → Prop) (w : World) (own : List Nat) (W : World) (D' : Nat → Prop) (own' : List Nat) : Prop where
  k : Kp (fun i => i ∈ own) w W
  o : ∀ i, i ∈ own' → i ∈ own ∨ w.heap.size ≤ i
  d : ∀ i, D i → D' i
  e : ∀ i, D' i → D i ∨ w.heap.size ≤ i
theorem Wk.refl (D : Nat → Prop) (w : World) (own : List Nat) : Wk D w own w D own := ⟨Kp.refl _ _, fun _ h => .inl h, fun _ h => h, fun _ h => .inl h⟩
theorem Wk.trans {D D' D'' : Nat → Prop} {w W X : World} {own own' own'' : List Nat} (h : Wk D w own W D' own') (k : Wk D' W own' X D'' own'') : Wk D w own X D'' own'' :=
  ⟨h.k.trans k.k (fun i hi x => (h.o i x).elim id (fun y => by omega)), fun i hi => (k.o i hi).elim (fun x => h.o i x) (fun x => .inr (Nat.le_trans h.k.size x)), fun i hi => k.d i (h.d i hi), fun i hi => (k.e i hi).elim (fun x => h.e i x) (fun x => .inr (Nat.le_trans h.k.size x))⟩
theorem Wk.kp {D : Nat → Prop} {w W X : World} {own own' : List Nat} {D' : Nat → Prop} (h : Wk D w own W D' own') (k : Kp (fun _ => False) W X) : Wk D w own X D' own' :=
  ⟨h.k.trans k (fun _ _ x => x.elim), h.o, h.d, h.e⟩

def fget : List Fe → ByteArray → Option Fe
  | [], _ => none
  | f :: fs, s => if s = f.1 then some f else fget fs s
def fptr (f : Fe) : Value := .pointer (some ⟨f.2.1.fb, 0, none⟩)
theorem mget_fs {es : List (ByteArray × Value × Nat)} {fs : List Fe} (h : es.map (fun e => (e.1, e.2.1)) = fs.map (fun f => (f.1, fptr f))) (s : ByteArray) : mget es s = (fget fs s).map fptr := by
  induction es generalizing fs with
  | nil =>
    cases fs with
    | nil => rfl
    | cons f fs => simp at h
  | cons e es ih =>
    cases fs with
    | nil => simp at h
    | cons f fs =>
      simp only [List.map_cons, List.cons.injEq, Prod.mk.injEq] at h
      unfold mget fget
      rw [h.1.1]
      by_cases hs : s = f.1
      · rw [if_pos hs, if_pos hs, h.1.2]; rfl
      · rw [if_neg hs, if_neg hs, ih h.2]
theorem fget_split {fs : List Fe} {s : ByteArray} {f : Fe} (h : fget fs s = some f) : ∃ l r, fs = l ++ f :: r ∧ f.1 = s := by
  induction fs with
  | nil => cases h
  | cons x fs ih =>
    unfold fget at h
    by_cases hs : s = x.1
    · rw [if_pos hs] at h; cases h; exact ⟨[], fs, rfl, hs.symm⟩
    · rw [if_neg hs] at h
      obtain ⟨l, r, rfl, h2⟩ := ih h
      exact ⟨x :: l, r, rfl, h2⟩
theorem fget_mem {fs : List Fe} {s : ByteArray} {f : Fe} (h : fget fs s = some f) : f ∈ fs := by
  obtain ⟨l, r, rfl, _⟩ := fget_split h
  simp
def ownF (fs : List Fe) : List Nat := fs.flatMap (fun f => f.2.1.own)
def ownS (g fm : Nat) (fv : Value) (fs : List Fe) : List Nat := g :: fm :: (fv.ownBlock.toList ++ ownF fs)
theorem mem_ownS {g fm : Nat} {fv : Value} {fs : List Fe} {i : Nat} : i ∈ ownS g fm fv fs ↔ i = g ∨ i = fm ∨ fv.ownBlock = some i ∨ ∃ f ∈ fs, i ∈ f.2.1.own := by
  simp only [ownS, ownF, List.mem_cons, List.mem_append, List.mem_flatMap, Option.mem_toList]
/-- A store: its files (in the map's order), its fates, how many steps were done. -/
structure Sr (D : Nat → Prop) (w : World) (g fm : Nat) (fv : Value) (steps : Nat) (fs : List Fe) (ft : List (Int × Int)) (es : List (ByteArray × Value × Nat)) (c : Nat) : Prop where
  st : St 158 w g #[.map (some fm), fv, .int .i64 steps]
  mp : Mp Value.string w fm es c
  ef : es.map (fun e => (e.1, e.2.1)) = fs.map (fun f => (f.1, fptr f))
  fr : ∀ f ∈ fs, Fr D w f.2.1 f.2.2.sz f.2.2.L f.2.2.ps
  nm : ∀ f ∈ fs, nmd f.1 = true
  fa : Fv w fv ft
  nd : (ownS g fm fv fs).Nodup
  dn : ∀ i, D i → i ∉ ownS g fm fv fs
  db : ∀ i, D i → i < w.heap.size
  sb : steps ≤ 1000000000
  nf : fs.length ≤ 256
theorem Sr.lt {D : Nat → Prop} {w : World} {g fm : Nat} {fv : Value} {steps : Nat} {fs : List Fe} {ft : List (Int × Int)} {es : List (ByteArray × Value × Nat)} {c : Nat} (h : Sr D w g fm fv steps fs ft es c) : ∀ i, i ∈ ownS g fm fv fs → i < w.heap.size := by
  intro i hi
  rcases mem_ownS.1 hi with rfl | rfl | h1 | ⟨f, hf, h1⟩
  · exact h.st.lt
  · exact h.mp.lt
  · exact h.fa.lt i h1
  · exact (h.fr f hf).lt i h1
theorem Sr.kp {D F : Nat → Prop} {w w' : World} {g fm : Nat} {fv : Value} {steps : Nat} {fs : List Fe} {ft : List (Int × Int)} {es : List (ByteArray × Value × Nat)} {c : Nat} (h : Sr D w g fm fv steps fs ft es c) (k : Kp F w w') (ho : ∀ i, i ∈ ownS g fm fv fs → ¬ F i) (hd : ∀ i, D i → ¬ F i) : Sr D w' g fm fv steps fs ft es c :=
  ⟨h.st.kp k (ho g (mem_ownS.2 (.inl rfl))), kp_mp h.mp k (ho fm (mem_ownS.2 (.inr (.inl rfl)))), h.ef, fun f hf => (h.fr f hf).kp k (fun i hi => ho i (mem_ownS.2 (.inr (.inr (.inr ⟨f, hf, hi⟩))))) hd, h.nm, h.fa.kp k (fun b hb => ho b (mem_ownS.2 (.inr (.inr (.inl hb))))), h.nd, h.dn, fun i hi => Nat.lt_of_lt_of_le (h.db i hi) k.size, h.sb, h.nf⟩
theorem ownF_append (l r : List Fe) : ownF (l ++ r) = ownF l ++ ownF r := by simp [ownF]
theorem ownF_cons (f : Fe) (r : List Fe) : ownF (f :: r) = f.2.1.own ++ ownF r := by simp [ownF]
theorem Fr.nodup {D : Nat → Prop} {w : World} {a : Fa} {sz : Nat} {L : Nat → Int} {ps : List (Nat × List Int)} (h : Fr D w a sz L ps) : a.own.Nodup := by
  have h1 := h.lm_ne
  have h2 := h.ne
  unfold Fa.own
  cases hp : a.pv.ownBlock with
  | none => simp only [Option.toList_none, List.append_nil, List.nodup_cons, List.mem_cons, List.not_mem_nil, or_false, not_or, List.nodup_nil, and_true, not_false_eq_true]; exact ⟨⟨fun e => h1.1 e.symm, fun e => h1.2 e.symm⟩, h2⟩
  | some b =>
    have h3 := h.fb_ne hp
    simp only [Option.toList_some, List.cons_append, List.nil_append, List.nodup_cons, List.mem_cons, List.not_mem_nil, or_false, not_or, List.nodup_nil, and_true, not_false_eq_true]
    exact ⟨⟨fun e => h1.1 e.symm, fun e => h1.2 e.symm, fun e => h3.1 e.symm⟩, ⟨h2, fun e => h3.2.1 e.symm⟩, fun e => h3.2.2 e.symm⟩
/-- One of its files is another now. -/
theorem Sr.upd {D D' : Nat → Prop} {w W : World} {g fm : Nat} {fv : Value} {steps : Nat} {l r : List Fe} {s : ByteArray} {a a' : Fa} {q q' : Gf} {ft : List (Int × Int)} {es : List (ByteArray × Value × Nat)} {c : Nat} (h : Sr D w g fm fv steps (l ++ (s, a, q) :: r) ft es c) (k : Wk D w a.own W D' a'.own) (hb : a'.fb = a.fb) (hf : Fr D' W a' q'.sz q'.L q'.ps) :
    Sr D' W g fm fv steps (l ++ (s, a', q') :: r) ft es c := by
  have hnd := h.nd
  have hlt := h.lt
  have hn := hf.nodup
  have memo : ∀ i, i ∈ a.own → i ∈ ownS g fm fv (l ++ (s, a, q) :: r) := fun i hi => mem_ownS.2 (.inr (.inr (.inr ⟨(s, a, q), by simp, hi⟩)))
  -- who else owns is apart from a
  have hap : ∀ i, (i = g ∨ i = fm ∨ fv.ownBlock = some i ∨ ∃ f ∈ l ++ r, i ∈ f.2.1.own) → i ∉ a.own := by
    intro i hi hm
    unfold ownS at hnd
    rw [ownF_append, ownF_cons] at hnd
    simp only [List.nodup_cons, List.nodup_append, List.mem_cons, List.mem_append, not_or] at hnd
    obtain ⟨⟨_, h1, h2, h3, _⟩, ⟨h4, h5, h6, _⟩, _, ⟨_, ⟨_, _, h7⟩, h8⟩, h9⟩ := hnd
    rcases hi with rfl | rfl | hi | ⟨f, hf, hi⟩
    · exact h3 hm
    · exact h6 hm
    · exact h9 i (by simpa using hi) i (.inr (.inl hm)) rfl
    · rcases List.mem_append.1 hf with hf | hf
      · exact h8 i (List.mem_flatMap.2 ⟨f, hf, hi⟩) i (.inl hm) rfl
      · exact h7 i hm i (List.mem_flatMap.2 ⟨f, hf, hi⟩) rfl
  have hsz := k.k.size
  have hDo : ∀ i, D' i → ∀ f ∈ l ++ r, i ∉ f.2.1.own := by
    intro i hi f hf hm
    have hm' : i ∈ ownS g fm fv (l ++ (s, a, q) :: r) := mem_ownS.2 (.inr (.inr (.inr ⟨f, by rcases List.mem_append.1 hf with hf | hf <;> simp [hf], hm⟩)))
    rcases k.e i hi with h1 | h1
    · exact h.dn i h1 hm'
    · have := hlt i hm'; omega
  refine ⟨h.st.kp k.k (hap g (.inl rfl)), kp_mp h.mp k.k (hap fm (.inr (.inl rfl))), ?_, ?_, ?_, h.fa.kp k.k (fun b hb => hap b (.inr (.inr (.inl hb)))), ?_, ?_, ?_, h.sb, by simpa using h.nf⟩
  · rw [h.ef]
    simp [fptr, hb]
  · intro f hf'
    have hf2 : f = (s, a', q') ∨ f ∈ l ++ r := by
      simp only [List.mem_append, List.mem_cons] at hf' ⊢
      rcases hf' with h1 | h1 | h1
      · exact .inr (.inl h1)
      · exact .inl h1
      · exact .inr (.inr h1)
    rcases hf2 with rfl | hf2
    · exact hf
    · have h0 := h.fr f (by simp only [List.mem_append, List.mem_cons] at hf2 ⊢; rcases hf2 with h1 | h1; exact .inl h1; exact .inr (.inr h1))
      exact (h0.kp k.k (fun i hi => hap i (.inr (.inr (.inr ⟨f, hf2, hi⟩)))) (fun i hi x => h.dn i hi (memo i x))).mono (fun i _ => k.d i) (fun i hi => hDo i hi f hf2) hf.db
  · intro f hf'
    simp only [List.mem_append, List.mem_cons] at hf'
    rcases hf' with h1 | h1 | h1
    · exact h.nm f (by simp [h1])
    · rw [h1]; exact h.nm (s, a, q) (by simp)
    · exact h.nm f (by simp [h1])
  · -- apart
    have hnew : ∀ i, i ∈ a'.own → ¬ (i = g ∨ i = fm ∨ fv.ownBlock = some i ∨ ∃ f ∈ l ++ r, i ∈ f.2.1.own) := by
      intro i hi hx
      rcases k.o i hi with h1 | h1
      · exact hap i hx h1
      · have : i ∈ ownS g fm fv (l ++ (s, a, q) :: r) := mem_ownS.2 (by
          rcases hx with hx | hx | hx | ⟨f, hf, hx⟩
          · exact .inl hx
          · exact .inr (.inl hx)
          · exact .inr (.inr (.inl hx))
          · exact .inr (.inr (.inr ⟨f, by rcases List.mem_append.1 hf with hf | hf <;> simp [hf], hx⟩)))
        have := hlt i this
        omega
    unfold ownS at hnd ⊢
    rw [ownF_append, ownF_cons] at hnd ⊢
    simp only [List.nodup_cons, List.nodup_append, List.mem_cons, List.mem_append, not_or] at hnd ⊢
    obtain ⟨⟨h1, h2, h3, h4, h5⟩, ⟨h6, h7, h8, h9⟩, h10, ⟨h11, ⟨h12, h13, h14⟩, h15⟩, h16⟩ := hnd
    have inl : ∀ i, i ∈ ownF l → ∃ f ∈ l ++ r, i ∈ f.2.1.own := fun i hi => by obtain ⟨f, hf, hx⟩ := List.mem_flatMap.1 hi; exact ⟨f, by simp [hf], hx⟩
    have inr : ∀ i, i ∈ ownF r → ∃ f ∈ l ++ r, i ∈ f.2.1.own := fun i hi => by obtain ⟨f, hf, hx⟩ := List.mem_flatMap.1 hi; exact ⟨f, by simp [hf], hx⟩
    refine ⟨⟨h1, h2, h3, fun x => hnew _ x (.inl rfl), h5⟩, ⟨h6, h7, fun x => hnew _ x (.inr (.inl rfl)), h9⟩, h10, ⟨h11, ⟨hn, h13, fun x hx y hy e => hnew x hx (.inr (.inr (.inr (inr x (e ▸ hy)))))⟩, ?_⟩, ?_⟩
    · intro x hx y hy e
      rcases hy with hy | hy
      · exact hnew y hy (.inr (.inr (.inr (inl y (e ▸ hx)))))
      · exact h15 x hx y (.inr hy) e
    · intro x hx y hy e
      rcases hy with hy | hy | hy
      · exact h16 x hx y (.inl hy) e
      · exact hnew y hy (.inr (.inr (.inl (by rw [← e]; simpa using hx))))
      · exact h16 x hx y (.inr (.inr hy)) e
  · intro i hi hm
    rcases mem_ownS.1 hm with h1 | h1 | h1 | ⟨f, hf', h1⟩
    · rcases k.e i hi with h2 | h2
      · exact h.dn i h2 (mem_ownS.2 (.inl h1))
      · have := hlt i (mem_ownS.2 (.inl h1)); omega
    · rcases k.e i hi with h2 | h2
      · exact h.dn i h2 (mem_ownS.2 (.inr (.inl h1)))
      · have := hlt i (mem_ownS.2 (.inr (.inl h1))); omega
    · rcases k.e i hi with h2 | h2
      · exact h.dn i h2 (mem_ownS.2 (.inr (.inr (.inl h1))))
      · have := hlt i (mem_ownS.2 (.inr (.inr (.inl h1)))); omega
    · simp only [List.mem_append, List.mem_cons] at hf'
      rcases hf' with h2 | h2 | h2
      · exact hDo i hi f (by simp [h2]) h1
      · rw [h2] at h1; exact hf.nd i hi h1
      · exact hDo i hi f (by simp [h2]) h1
  · exact hf.db
end Go.Proofs.YtnccklbnncaeoaaGreat
/- Picks: are any below 0? taken one by one; a map is cloned. -/
namespace Go.Proofs.YtnccklbnncaeoaaGreat
open Go.RowKit

theorem getD_mem (zs : List Int) (k : Nat) (h : k < zs.length) : zs.getD k 0 ∈ zs := by
  rw [List.getD_eq_getElem?_getD, List.getElem?_eq_getElem h]
  exact List.getElem_mem h
set_option maxRecDepth 100000 in
set_option maxHeartbeats 400000 in
theorem neg_any (a : Int) (w : World) : Calls Tryz.prog 124 #[.int .i64 a] w fun e w' => e = .returned (.bool (decide (a < 0))) ∧ w = w' := by
  go_enter Tryz.func124, Tryz.ntmps124
  go_wp2
  go_ret
  exact ⟨rfl, rfl⟩
set_option maxRecDepth 100000 in
set_option maxHeartbeats 1000000 in
theorem indexf_any (ao : Option Addr) (zs : List Int) (n cap : Nat) (w : World) (hn : n = zs.length) (hb : n ≤ 1000000000000) (hS : Src .i64 w ao zs) :
    Calls Tryz.prog 156 #[.slice ao n cap, .func (.func 124) #[] #[]] w fun e w' => ∃ k : Int, e = .returned (.int .i64 k) ∧ (0 ≤ k ↔ ∃ z ∈ zs, z < 0) ∧ w = w' := by
  have HN : Hid (n = zs.length) := hn
  have HS : Hid (Src .i64 w ao zs) := hS
  clear hn hS
  go_enter Tryz.func156, Tryz.ntmps156
  go_wp2
  go_loop [8] (fun i => ∃ k : Nat, k ≤ n ∧ i = .int .i64 k ∧ ∀ j, j < k → ¬ zs.getD j 0 < 0) (fun i => n - (intOf i).toNat)
  case atStart => exact ⟨0, Nat.zero_le _, rfl, fun j hj => by omega⟩
  case round =>
    obtain ⟨k, hk, rfl, hj⟩ := hrel
    have HJ : Hid (∀ j, j < k → ¬ zs.getD j 0 < 0) := hj
    clear hj
    by_cases hlt : k < n
    · obtain ⟨b, off, rfl, hc⟩ := HS.out (by have := HN.out; omega)
      have hck := hc k (by have := HN.out; omega)
      have hmem : zs.getD k 0 ∈ zs := getD_mem zs k (by have := HN.out; omega)
      obtain ⟨z, hz⟩ : ∃ z, z = zs.getD k 0 := ⟨_, rfl⟩
      rw [← hz] at hck hmem
      have HZ : Hid (z = zs.getD k 0) := hz
      have HMEM : Hid (z ∈ zs) := hmem
      clear hz hmem hc
      by_cases hneg : z < 0
      · have hd : decide (z < 0) = true := by simpa using hneg
        go_wp2_with (first | (go_at_call 124; refine (neg_any _ _).mono ?_; rintro e w' ⟨rfl, rfl⟩))
        go_ret
        exact ⟨(k : Int), rfl, ⟨fun _ => ⟨z, HMEM.out, hneg⟩, fun _ => by omega⟩, rfl⟩
      · have hd : decide (z < 0) = false := by simpa using hneg
        go_wp2_with (first | (go_at_call 124; refine (neg_any _ _).mono ?_; rintro e w' ⟨rfl, rfl⟩))
        go_round
        case rel => exact ⟨k + 1, by omega, by go_num, fun j hj => by
          by_cases e : j = k
          · rw [e, ← HZ.out]; omega
          · have := HJ.out j (by omega); omega⟩
        case measure => simp [intOf]; omega
    · obtain rfl : k = n := by omega
      go_wp2
      go_ret
      refine ⟨-1, rfl, ⟨fun h => by omega, fun ⟨z, hz, h⟩ => ?_⟩, rfl⟩
      obtain ⟨j, hj, rfl⟩ := List.getElem_of_mem hz
      have := HJ.out j (by rw [HN.out]; exact hj)
      simp [List.getD, hj] at this
      omega
set_option maxRecDepth 100000 in
set_option maxHeartbeats 1000000 in
theorem containsf_any (ao : Option Addr) (zs : List Int) (n cap : Nat) (w : World) (hn : n = zs.length) (hb : n ≤ 1000000000000) (hS : Src .i64 w ao zs) :
    Calls Tryz.prog 123 #[.slice ao n cap, .func (.func 124) #[] #[]] w fun e w' => e = .returned (.bool (zs.any (fun z => decide (z < 0)))) ∧ w = w' := by
  have H := indexf_any ao zs n cap w hn hb hS
  have HI : Hid (Calls Tryz.prog 156 #[.slice ao n cap, .func (.func 124) #[] #[]] w fun e w' => ∃ k : Int, e = .returned (.int .i64 k) ∧ (0 ≤ k ↔ ∃ z ∈ zs, z < 0) ∧ w = w') := H
  clear H hn hS
  go_enter Tryz.func123, Tryz.ntmps123
  go_wp2_with (first | (go_at_call 156; refine HI.out.mono ?_; rintro e w' ⟨k, rfl, hk, rfl⟩; have HK : Hid (0 ≤ k ↔ ∃ z ∈ zs, z < 0) := hk; clear hk))
  go_ret
  have hk := HK.out
  refine ⟨ret_bool ?_, rfl⟩
  by_cases h : 0 ≤ k
  · obtain ⟨z, hz, hz2⟩ := hk.1 h
    have : zs.any (fun z => decide (z < 0)) = true := List.any_eq_true.2 ⟨z, hz, by simpa using hz2⟩
    rw [this]; exact decide_eq_true h
  · have : zs.any (fun z => decide (z < 0)) = false := by
      rw [List.any_eq_false]
      intro z hz
      simp
      by_cases h2 : z < 0
      · exact absurd (hk.2 ⟨z, hz, h2⟩) h
      · omega
    rw [this]; exact decide_eq_false h
set_option maxRecDepth 100000 in
set_option maxHeartbeats 400000 in
theorem picker_any (ao : Option Addr) (n cap : Nat) (w : World) : Calls Tryz.prog 125 #[.slice ao n cap] w fun e w' => e = .returned (.func (.func 157) #[] #[.pointer (some ⟨w.heap.size + 1, 0, none⟩), .pointer (some ⟨w.heap.size, 0, none⟩)]) ∧ w' = (w.alloc (.cells #[.slice ao n cap] 52)).alloc (.cells #[.int .i64 0] 3) := by
  go_enter Tryz.func125, Tryz.ntmps125
  go_wp2
  go_ret
  exact ⟨rfl, rfl⟩
/-- The pick of number k. -/
def pck (zs : List Int) (k : Nat) : Bool := zs.getD k 0 % 2 == 1
set_option maxRecDepth 100000 in
set_option maxHeartbeats 1000000 in
theorem pick_any (Bn Bp : Nat) (ao : Option Addr) (zs : List Int) (n cap k : Nat) (w : World) (hne : Bn ≠ Bp) (hn : n = zs.length) (hb : n ≤ 1000000000000) (hz : ∀ z ∈ zs, 0 ≤ z) (hk : k ≤ n) (s1 : St 3 w Bn #[.int .i64 k]) (s2 : St 52 w Bp #[.slice ao n cap]) (hS : Src .i64 w ao zs) (hno : 0 < n → ∀ b off, ao = some ⟨b, off, none⟩ → b ≠ Bn) :
    Calls Tryz.prog 157 #[.pointer (some ⟨Bn, 0, none⟩), .pointer (some ⟨Bp, 0, none⟩)] w fun e w' => e = .returned (.bool (if k < n then pck zs k else false)) ∧ St 3 w' Bn #[.int .i64 ((if k < n then k + 1 else k : Nat) : Int)] ∧ Kp (fun i => i = Bn) w w' := by
  have c1 : w.cell? ⟨Bn, 0, none⟩ = some (.int .i64 k) := s1.cell 0
  have c2 : w.cell? ⟨Bp, 0, none⟩ = some (.slice ao n cap) := s2.cell 0
  have f1 := s1.frozen 0
  by_cases hlt : k < n
  · rw [if_pos hlt, if_pos hlt]
    have hkb : ((k : Int) == (n : Int)) = false := beq_eq_false_iff_ne.2 (by omega)
    obtain ⟨b, off, rfl, hc⟩ := hS (by omega)
    have hck := hc k (by omega)
    obtain ⟨z, hzz⟩ : ∃ z, z = zs.getD k 0 := ⟨_, rfl⟩
    have hz0 : 0 ≤ z := by
      rw [hzz]
      exact hz _ (getD_mem zs k (by omega))
    rw [← hzz] at hck
    have hbn := hno (by omega) b off rfl
    have x2 : ∀ v, (w.setCell ⟨Bn, 0, none⟩ v).cell? ⟨Bp, 0, none⟩ = some (.slice (some ⟨b, off, none⟩) n cap) := fun v => kp_cell (kp_setCell w Bn 0 v (fun i => i = Bn) rfl) c2 (fun e => hne e.symm)
    have x3 : ∀ v, (w.setCell ⟨Bn, 0, none⟩ v).cell? ⟨b, off + k, none⟩ = some (.int .i64 z) := fun v => kp_cell (kp_setCell w Bn 0 v (fun i => i = Bn) rfl) hck hbn
    have x1 : ∀ v, (w.setCell ⟨Bn, 0, none⟩ v).cell? ⟨Bn, 0, none⟩ = some v := fun v => World.cell?_setCell_same' _ _ _ (by rw [c1]; rfl)
    have HS1 : Hid (St 3 w Bn #[.int .i64 k]) := s1
    have HZ : Hid (pck zs k = (z % 2 == 1)) := by show _ = _; unfold pck; rw [← hzz]
    have hadd : (k : Int) + 1 - 1 = (k : Int) := by omega
    clear hzz hc s1 s2 hS hz hno hn
    rw [HZ.out]
    go_enter Tryz.func157, Tryz.ntmps157
    go_wp2
    go_ret
    exact ⟨rfl, HS1.out.set 0 _, kp_setCell _ _ _ _ _ rfl⟩
  · obtain rfl : k = n := by omega
    rw [if_neg hlt, if_neg hlt]
    have HS1 : Hid (St 3 w Bn #[.int .i64 k]) := s1
    have hkb : ((k : Int) == (k : Int)) = true := beq_self_eq_true _
    clear s1 s2 hS hno hz
    go_enter Tryz.func157, Tryz.ntmps157
    go_wp2
    go_ret
    exact ⟨rfl, HS1.out, Kp.refl _ _⟩
theorem run_clone (P : Program) (w : World) (t : TypeId) {r : Nat} {es : Array MapEntry} {c : Nat} (hb : w.heap[r]? = some (.map es c)) : (Extern.MapsClone.clone #[.iface t (.map (some r))]).run P w = .ok (.iface t (.map (some w.heap.size))) (w.alloc (.map es c)) := by
  have e : Extern.MapsClone.clone #[.iface t (.map (some r))] = (getObj r >>= fun o => match o with | .map es c => (newObj (.map es c) >>= fun n => pure (.iface t (.map (some n)))) | _ => stuck "maps.clone: a map expected") := rfl
  rw [e]
  simp [MapKept.run_getObj_map hb]
set_option maxRecDepth 100000 in
set_option maxHeartbeats 1000000 in
/-- maps.Clone of sectors. -/
theorem clone_any (m c : Nat) (es : List (Int × Value × Nat)) (w : World) (hm : Mp (Value.int .i64) w m es c) : Calls Tryz.prog 160 #[.map (some m)] w fun e w' => e = .returned (.map (some w.heap.size)) ∧ Mp (Value.int .i64) w' w.heap.size es c ∧ w' = w.alloc (.map (es.map (ent (Value.int .i64))).toArray c) := by
  have he : ∀ w : World, (binOp .eql 161 (.map (some m)) (.map none)).run Tryz.prog w = .ok (.bool false) w := fun _ => rfl
  have HM : Hid (Mp (Value.int .i64) w m es c) := hm
  have hta : ∀ (w : World) (b : Nat), (Instr.typeAssert (.iface 161 (.map (some b))) 20 161 false).run Tryz.prog w = .ok (.map (some b)) w := fun _ _ => rfl
  clear hm
  go_enter Tryz.func160, Tryz.ntmps160
  go_wp2
  rw [run_callFunc_extern Tryz.func188 (by kernel_rfl) (by kernel_rfl) (by kernel_rfl) (e := Extern.MapsClone.clone) (by kernel_rfl), run_clone Tryz.prog w 161 HM.out.1]
  simp only [Result.andThen]
  rw [Oper.upon_value]
  go_wp2
  go_ret
  exact ⟨rfl, ⟨(MapKept.heap_alloc w _).1, HM.out.2⟩, rfl⟩
end Go.Proofs.YtnccklbnncaeoaaGreat
