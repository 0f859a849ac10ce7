import Derived.Test.YtnccklbnncaeoaaGreatJaj
import Derived.Test.YtnccklbnncaeoaaGreatJbs
import Derived.Test.YtnccklbnncaeoaaGreatJay
/- CacheRoom: marks that ranges over functions leave; counting a range. -/
namespace Go.Proofs.YtnccklbnncaeoaaGreat
open Go.RowKit Go.Shelf
set_option linter.unusedVariables false
/-- A mark that a range over a function has left. -/
def mrk (D : Nat) : Deferred := { target := .collected D, args := #[] }
theorem leaves_marks {F : Fence} {n : Nat} {fn : Func} {tmps : Array Value} {R : Ending → World → Prop} (Ds : List Nat) (w : World) (hD : ∀ D ∈ Ds, w.heap[D]? = some (.deferred (some []))) (hn : Ds.Nodup)
    (fin : ∀ w', Kp (fun i => i ∈ Ds) w w' → LeavesInM F n Tryz.prog fn tmps R [] .returning w') : LeavesInM F n Tryz.prog fn tmps R (Ds.map mrk) .returning w := by
  induction Ds generalizing w with
  | nil => exact fin w (Kp.refl _ _)
  | cons D Ds ih =>
    have h1 := hD D (by simp)
    have hk := kp_put1 w D (.deferred none)
    have hx := ih (w.putObj D (.deferred none)) (fun E hE => by
      have hne : E ≠ D := fun e => (List.nodup_cons.1 hn).1 (e ▸ hE)
      have h2 := hD E (by simp [hE])
      exact (hk.block E (Array.getElem?_eq_some_iff.1 h2).1 hne).trans h2) (List.nodup_cons.1 hn).2
      (fun w' k => fin w' ((hk.mono (G := fun i => i ∈ D :: Ds) (fun i _ e => by rw [e]; simp)).trans k (fun i _ h => by simp [h])))
    exact ⟨by simp, .inl ⟨_, _, rfl, run_takeDeferred h1, hx⟩⟩
theorem results_cell1w {P : Program} {fn : Func} {p : Tmp} {ty : TypeId} (h : fn.results = #[.cell p ty]) (tmps : Array Value) (w : World) (b : Nat) {v : Value} (hp : tmps.getD p undef = .pointer (some ⟨b, 0, none⟩)) (hl : (loadVar ty ⟨b, 0, none⟩).run P w = .ok v w) :
    (results fn tmps).run P w = .ok v w := by
  have hp' : tmps[p]?.getD undef = .pointer (some ⟨b, 0, none⟩) := by simpa using hp
  simp [results, h, hp', asAddr, hl]
/-- What the range over the pages keeps: R is the world ahead of it; so many pages came. -/
structure TnI (R : World) (bt k : Nat) (W : World) : Prop where
  st : St 3 W bt #[.int .i64 k]
  kp : Kp (fun i => i = bt) R W
theorem TnI.own {R : World} {bt k : Nat} {A B : World} {row : Option Nat} (h : TnI R bt k A) (hg : A.grownBy B row) (hr : ∀ r, row = some r → R.heap.size ≤ r ∧ ∃ o : Obj, A.heap[r]? = some o ∧ o.isCells = false) : TnI R bt k B := by
  have hne : ∀ r, row = some r → bt ≠ r := by
    intro r e hb
    obtain ⟨_, o, h1, h2⟩ := hr r e
    have := h.st
    unfold St at this
    rw [hb, h1] at this
    cases this
    cases h2
  have k : Kp (fun i => row = some i) A B := Kp.of_grown hg (fun i e => e)
  refine ⟨h.st.kp k (fun e => hne _ e rfl), h.kp.trans k (fun i hi e => ?_)⟩
  have := (hr i e).1
  omega
theorem act_end {I : Act → World → Prop} {E : Value → (Nat → Value) → Array Value} {C : Value → (Nat → Value) → List Deferred → World → Prop} (hI : I = fun a' w' => ∃ (ds : List Deferred) (iv : Value) (x : Nat → Value), C iv x ds w' ∧ a' = { tmps := E iv x, defers := ds }) (a : Act) (w : World) (iv : Value) (ds : List Deferred) (hc : C iv (fun i => a.tmps.getD i undef) ds w) (ht : a.tmps = E iv (fun i => a.tmps.getD i undef)) (hd : a.defers = ds) : I a w := by
  rw [hI]
  refine ⟨ds, iv, fun i => a.tmps.getD i undef, hc, ?_⟩
  cases a
  simp only at ht hd
  rw [← ht, hd]
theorem kp_res {w w1 w2 : World} {b : Nat} (hb : w.heap.size ≤ b) (k1 : Kp (fun _ => False) w w1) (k2 : Kp (fun _ => False) w1 w2) (v : Value) : Kp (fun _ => False) w (w2.setCell ⟨b, 0, none⟩ v) :=
  ((((k1.trans k2 (fun _ _ h => h)).mono (G := fun i => i = b) (fun _ _ h => h.elim)).trans (kp_setCell w2 b 0 v (fun i => i = b) rfl) (fun _ _ h => h))).mono (fun i hi h => by omega)
theorem fin6 {F : Fence} {n : Nat} {tmps : Array Value} {R : Ending → World → Prop} {w : World} {b : Nat} (h6 : tmps.getD 2 undef = .pointer (some ⟨b, 0, none⟩)) (hc : w.cell? ⟨b, 0, none⟩ = some (.bool true)) (hR : R (.returned (.bool true)) w) : LeavesInM F n Tryz.prog Tryz.f6 tmps R [] .returning w := by
  have hl : (loadVar 4 ⟨b, 0, none⟩).run Tryz.prog w = .ok (.bool true) w := by go_simp
  exact ⟨_, results_cell1w Tryz.results6 _ _ _ h6 hl, hR⟩
/-- The sorted numbers of who is kept are theirs. -/
theorem sno_mem {c : Nat → Pc} {L : List Nat} {z : Int} (h : z ∈ sno c L) : ∃ a ∈ L, z = ((c a).n : Int) := by
  unfold sno at h
  obtain ⟨a, ha, rfl⟩ := List.mem_map.1 (List.mem_mergeSort.1 h)
  exact ⟨a, ha, rfl⟩
theorem sno_len (c : Nat → Pc) (L : List Nat) : (sno c L).length = L.length := by
  unfold sno
  simp
/-- A round's frame: the counter's place, the page. -/
def E6 (c x : Value) (y : Nat → Value) : Array Value := #[y 0, y 1, y 2, y 3, y 4, y 5, y 6, y 7, y 8, y 9, y 10, y 11, c, y 13, x, y 15, y 16, y 17, y 18, y 19, y 20, y 21, y 22, y 23, y 24, y 25, y 26, y 27, y 28, y 29, y 30, y 31, y 32, y 33, y 34, y 35, y 36, y 37, y 38, y 39, y 40, y 41, y 42, y 43, y 44, y 45, y 46, y 47, y 48, y 49, y 50, y 51, y 52, y 53, y 54, y 55, y 56, y 57, y 58, y 59, y 60, y 61, y 62, y 63, y 64, y 65, y 66, y 67, y 68, y 69, y 70, y 71, y 72, y 73, y 74, y 75, y 76, y 77, y 78, y 79, y 80, y 81, y 82, y 83, y 84, y 85, y 86, y 87, y 88, y 89, y 90, y 91, y 92, y 93, y 94, y 95, y 96, y 97, y 98, y 99, y 100, y 101, y 102, y 103, y 104, y 105, y 106, y 107, y 108, y 109, y 110, y 111, y 112, y 113, y 114, y 115, y 116, y 117, y 118, y 119, y 120, y 121, y 122, y 123, y 124, y 125, y 126, y 127, y 128, y 129, y 130, y 131, y 132, y 133, y 134, y 135, y 136, y 137, y 138, y 139, y 140, y 141, y 142, y 143, y 144, y 145, y 146, y 147, y 148, y 149, y 150, y 151, y 152, y 153, y 154, y 155, y 156, y 157, y 158, y 159, y 160, y 161, y 162, y 163, y 164, y 165, y 166, y 167, y 168, y 169, y 170]
def Ax6 (bt : Nat) (x : Int) (a : Act) : Prop := ∃ y, a = { tmps := E6 (.pointer (some ⟨bt, 0, none⟩)) (.int .i64 x) y, defers := [] }
theorem ax6_of (bt : Nat) (x : Int) (a : Act) (ht : a.tmps = E6 (.pointer (some ⟨bt, 0, none⟩)) (.int .i64 x) (fun i => a.tmps.getD i undef)) (hd : a.defers = []) : Ax6 bt x a := by
  refine ⟨fun i => a.tmps.getD i undef, ?_⟩
  cases a
  simp only at ht hd
  rw [← ht, hd]
theorem vrow_kp {w w' : World} {base n : Nat} {v : Value} {l : List Value} (h : w.ownsRow base 2 1 v n l) (k : Kp (fun _ => False) w w') : w'.ownsRow base 2 1 v n l :=
  ⟨h.1, by
    rcases h.2 with h1 | ⟨gg, cap, cur, h1, h2, h3, h4⟩
    · exact .inl h1
    · exact .inr ⟨gg, cap, cur, h1, h2, (k.block gg (Array.getElem?_eq_some_iff.1 h3).1 (fun e => e)).trans h3, h4⟩⟩
theorem vrow_lt {w : World} {base n : Nat} {v : Value} {l : List Value} (h : w.ownsRow base 2 1 v n l) (g : Nat) (hg : v.ownBlock = some g) : g < w.heap.size := by
  rcases h.2 with ⟨h1, _⟩ | ⟨gg, cap, cur, h1, h2, h3, h4⟩
  · rw [h1] at hg
    cases hg
  · rw [h1] at hg
    have e : gg = g := by simpa [Value.ownBlock] using hg
    rw [← e]
    exact (Array.getElem?_eq_some_iff.1 h3).1
/-- What the loop over the calls keeps. -/
def Crm (w2 : World) (g Q bits room n : Nat) (iv : Value) (x : Nat → Value) (ds : List Deferred) (W : World) : Prop :=
  ∃ k us wr G q F N Ds, iv = .int .i64 (k : Nat) ∧ x 6 = .int .i64 (us : Nat) ∧ x 7 = .int .i64 (wr : Nat) ∧ ds = List.map mrk Ds ∧ k ≤ n ∧ us ≤ k ∧ wr ≤ us ∧ Rs w2 g Q bits room us wr (2 + k) G q F N W ∧ Mkd w2.heap.size Ds Q G F W
end Go.Proofs.YtnccklbnncaeoaaGreat
/- CacheRoom: the walk. -/
namespace Go.Proofs.YtnccklbnncaeoaaGreat
open Go.RowKit Go.Shelf
set_option linter.unusedVariables false
set_option linter.unusedSimpArgs false
set_option linter.constructorNameAsVariable false
attribute [local go_sem] Oper.semAt_some
set_option maxRecDepth 100000 in
set_option maxHeartbeats 16000000 in
theorem room_in (sz bt rm : Int) (ts : List Stc) (ao : Option Addr) (n cap : Nat) (w : World) (hN : n = ts.length) (hS : CSrc w ao ts) (hw : ∀ t ∈ ts, Swc w t) :
    CallsIn Fence.wide 8 Tryz.prog 6 #[.agg #[.int .i64 sz, .int .i64 bt, .int .i64 rm, .slice ao n cap]] w fun e w' => e = .returned (.bool true) ∧ Kp (fun _ => False) w w' := by
  have HN := hid hN
  have HS := hid hS
  have HW := hid hw
  have HNU := hid num_any
  have kbx : Kp (fun _ => False) w ((w.alloc (.cells #[.int .i64 sz, .int .i64 bt, .int .i64 rm, .slice ao n cap] 66)).alloc (.cells #[.bool false] 4)) := ((Kp.refl _ _).alloc _).alloc _
  have s66 := St.new 66 w #[.int .i64 sz, .int .i64 bt, .int .i64 rm, .slice ao n cap]
  have s4 := St.new 4 (w.alloc (.cells #[.int .i64 sz, .int .i64 bt, .int .i64 rm, .slice ao n cap] 66)) #[.bool false]
  have s66b := s66.kp ((Kp.refl (fun _ => False) (w.alloc (.cells #[.int .i64 sz, .int .i64 bt, .int .i64 rm, .slice ao n cap] 66))).alloc (.cells #[.bool false] 4)) (fun h => h)
  rw [World.size_alloc] at s4
  have HKX := hid kbx
  have H66 := hid s66b
  have H4 := hid s4
  clear hN hS hw kbx s66 s4 s66b
  refine callsIn_of_wp_marks Tryz.func6 rfl trivial ?_ rfl
  simp only [Tryz.ntmps6, List.size_toArray, List.length_cons, List.length_nil, Nat.reduceAdd, Nat.reduceSub, Array.replicate_succ, Array.replicate_zero, List.push_toArray, List.append_toArray, List.nil_append, List.cons_append]
  gi_wp2_with fail
  obtain ⟨X, hX⟩ : ∃ X, w.heap.size = X := ⟨_, rfl⟩
  obtain ⟨w1, hw1⟩ : ∃ w1, (w.alloc (.cells #[.int .i64 sz, .int .i64 bt, .int .i64 rm, .slice ao n cap] 66)).alloc (.cells #[.bool false] 4) = w1 := ⟨_, rfl⟩
  have HXW : Hid (w.heap.size ≤ X) := by show _ ≤ _; omega
  rw [hw1] at HKX H66 H4
  rw [hX] at H66 H4
  rw [hw1, hX]
  clear hw1 hX
  have hcs := HS.out.kp HKX.out (fun _ _ _ _ h => h)
  refine ⟨trivial, (callsIn_wide.2 (fits_any sz bt rm ts ao n cap w1 HN.out hcs)).mono ?_⟩
  rintro e w2 ⟨fb, rfl, hfit, k2⟩
  replace HKX := hid (HKX.out.trans k2 (fun _ _ h => h))
  replace H66 := hid (H66.out.kp k2 (fun h => h))
  replace H4 := hid (H4.out.kp k2 (fun h => h))
  clear hcs k2
  cases fb with
  | false =>
    clear hfit
    have HWO := hid (works_any w2)
    gi_wp2_with fail
    refine ⟨trivial, (callsIn_wide.2 HWO.out).mono ?_⟩
    rintro _ w3 ⟨rfl, k3⟩
    have h4 := H4.out.kp k3 (fun h => h)
    have fz := h4.frozen 0
    have cz : w3.cell? ⟨X + 1, 0, none⟩ = some (.bool false) := h4.cell 0
    have HT : Hid (St 4 (w3.setCell ⟨X + 1, 0, none⟩ (.bool true)) (X + 1) #[.bool true]) := by show St 4 _ _ _; have := h4.set 0 (.bool true); simpa using this
    have KT : Hid (Kp (fun _ => False) w (w3.setCell ⟨X + 1, 0, none⟩ (.bool true))) := kp_res (by have := HXW.out; omega) HKX.out k3 _
    clear h4 k3
    gi_wp2_with fail
    exact fin6 rfl (HT.out.cell 0) ⟨rfl, KT.out⟩
  | true =>
    obtain ⟨f1, f2, f3, f4, f5, f6, f7, f8⟩ := hfit rfl
    clear hfit
    obtain ⟨sz, rfl⟩ : ∃ k : Nat, sz = (k : Int) := ⟨sz.toNat, by omega⟩
    obtain ⟨bits, rfl⟩ : ∃ k : Nat, bt = (k : Int) := ⟨bt.toNat, by omega⟩
    obtain ⟨room, rfl⟩ : ∃ k : Nat, rm = (k : Int) := ⟨rm.toNat, by omega⟩
    have HBB : Hid (9 ≤ bits ∧ bits ≤ 16) := by show _ ∧ _; omega
    have HRM : Hid (1 ≤ room ∧ room ≤ 20) := by show _ ∧ _; omega
    have HN60 : Hid (n ≤ 60) := f7
    have HT8 := hid f8
    have HF : Hid (Calls Tryz.prog 11 #[.int .i64 sz, .slice none 0 0] w2 fun e w' => ∃ g F, e = .returned (ptr g) ∧ Sw nmf g 2 F ⟨sz, zero, []⟩ [] w' ∧ (∀ i, F i → w2.heap.size ≤ i) ∧ Kp (fun _ => False) w2 w') := file_nil sz (by omega) w2
    have z0 := H66.out.cell 0
    have z1 := H66.out.cell 1
    have z2 := H66.out.cell 2
    simp at z0 z1 z2
    clear f1 f2 f3 f4 f5 f6 f7 f8
    gi_wp2_with fail
    refine ⟨trivial, (callsIn_wide.2 HF.out).mono ?_⟩
    rintro _ w3 ⟨g, F, rfl, hs, hF0, kF0⟩
    have hsz2 : w2.heap.size ≤ w3.heap.size := kF0.size
    have H66a := H66.out
    have H4a := H4.out
    have hlo := Lo.new (S := nmf) (g := g) (bits := bits) (room := room) hF0 kF0
    have hv2 := cache_cv (bits := bits) (room := room) hs HBB.out (by have := HRM.out; omega)
    have HNEW : Hid (Calls Tryz.prog 15 #[ptr g, .string nmf, .int .i64 bits, .int .i64 room] w3 fun e w' => e = .returned (.tuple #[ptr (w3.heap.size + 2), .int .i64 0]) ∧ w' = wCache w3 nmf g bits room) := new_good (bits := bits) (room := room) hs HBB.out (by have := HRM.out; omega)
    have HNB := hid (H66a.kp kF0 (fun h => h))
    have z1 := HNB.out.cell 1
    have z2 := HNB.out.cell 2
    simp at z1 z2
    obtain ⟨Q, hQ⟩ : ∃ Q, w3.heap.size + 2 = Q := ⟨_, rfl⟩
    obtain ⟨m0, hm0⟩ : ∃ m, w3.heap.size = m := ⟨_, rfl⟩
    rw [hQ, hm0] at hv2 hlo
    rw [hQ] at HNEW
    have hu0 : 2 + mu (g0 m0) ≤ 2 := by
      have := mu_len (g0 m0)
      have e : (g0 m0).L.length = 0 := rfl
      omega
    have HRS := hid (Rs.mk (us := 0) (wr := 0) (lim := 2) hv2 (rm0 m0) rfl hu0 hlo)
    have HFX := hid (H66.out.lt)
    have HFR := hid (H4.out.lt)
    clear hs hv2 HF hm0 hF0 kF0 hlo z0 hu0 hsz2 H66a H4a HNB
    unfold ptr at *
    gi_wp2_with fail
    refine ⟨trivial, (callsIn_wide.2 HNEW.out).mono ?_⟩
    rintro _ w4 ⟨rfl, hw4⟩
    rw [← hw4] at HRS
    clear hw4 HNEW z1 z2
    gi_wp2_with (first
      | (refine ⟨trivial, (callsIn_wide.2 (HNU.out _ _)).mono ?_⟩; rintro e w' ⟨rfl, h⟩; replace h := h.symm; subst h))
    repeat (rename_i hk; refine ⟨trivial, hk _ _ ?_⟩; clear hk; gi_wp2_with fail)
    obtain ⟨Iv, hIv⟩ : ∃ Iv : Act → World → Prop, Iv = (fun a' w' => ∃ (ds : List Deferred) (iv : Value) (x : Nat → Value), Crm w2 g Q bits room n iv x ds w' ∧ a' = { tmps := #[Value.agg #[Value.int IntKind.i64 ↑sz, Value.int IntKind.i64 ↑bits, Value.int IntKind.i64 ↑room, Value.slice ao n cap], Value.pointer (some { block := X, off := 0 }), Value.pointer (some { block := X + 1, off := 0 }), Value.pointer (some { block := g, off := 0 }), Value.pointer (some { block := Q, off := 0 }), Value.int IntKind.i64 0, x 6, x 7, iv, x 9, x 10, x 11, x 12, x 13, x 14, x 15, x 16, x 17, x 18, x 19, x 20, x 21, x 22, x 23, x 24, x 25, x 26, x 27, x 28, x 29, x 30, x 31, x 32, x 33, x 34, x 35, x 36, x 37, x 38, x 39, x 40, x 41, x 42, x 43, x 44, x 45, x 46, x 47, x 48, x 49, x 50, x 51, x 52, x 53, x 54, x 55, x 56, x 57, x 58, x 59, x 60, x 61, x 62, x 63, x 64, x 65, x 66, x 67, x 68, x 69, x 70, x 71, x 72, x 73, x 74, x 75, x 76, x 77, x 78, x 79, x 80, x 81, x 82, x 83, x 84, x 85, x 86, x 87, x 88, x 89, x 90, x 91, x 92, x 93, x 94, x 95, x 96, x 97, x 98, x 99, x 100, x 101, x 102, x 103, x 104, x 105, x 106, x 107, x 108, x 109, x 110, x 111, x 112, x 113, x 114, x 115, x 116, x 117, x 118, x 119, x 120, x 121, x 122, x 123, x 124, x 125, x 126, x 127, x 128, x 129, x 130, x 131, x 132, x 133, x 134, x 135, x 136, x 137, x 138, x 139, x 140, x 141, x 142, x 143, x 144, x 145, x 146, x 147, x 148, x 149, x 150, x 151, x 152, x 153, x 154, x 155, x 156, x 157, x 158, x 159, x 160, x 161, x 162, x 163, x 164, x 165, x 166, x 167, x 168, x 169, x 170], defers := ds }) := ⟨_, rfl⟩
    have HIV : Hid (Iv = _) := hIv
    clear hIv
    refine wpIn_loop Iv (fun a' _ => n - (intOf (a'.tmps.getD 8 undef)).toNat) ?_ ?_
    · refine act_end HIV.out _ _ (.int .i64 (0 : Nat)) [] ?_ (by kernel_rfl) rfl
      exact ⟨0, 0, 0, _, _, _, _, [], rfl, rfl, rfl, rfl, Nat.zero_le _, Nat.le_refl _, Nat.le_refl _, HRS.out, List.nodup_nil, fun D hD => by cases hD⟩
    intro a' wr hinv
    rw [HIV.out] at hinv
    obtain ⟨ds, iv, x0, ⟨k, us, wn, G, q, F, N, Ds, rfl, hx6, hx7, rfl, hk, hus, hwu, hrs, hmk⟩, rfl⟩ := hinv
    simp only [hx6, hx7]
    clear HRS hx6 hx7
    replace HRS := hid hrs
    have HMK := hid hmk
    clear hrs hmk
    have z3 := (H66.out.kp HRS.out.lo.kp (fun h => h)).cell 3
    simp at z3
    by_cases hlt : k < n
    · have hlt' : (k : Int) < (n : Int) := by omega
      have hlt2 : k < ts.length := by have := HN.out; omega
      obtain ⟨b, off, rfl, hb, y0, y1, y2, y3, y4, y5⟩ := (HS.out.kp (HKX.out.trans HRS.out.lo.kp (fun _ _ h => h)) (fun _ _ _ _ h => h)).at hlt2
      have htm := getD_memC ts k hlt2
      have HSW := hid (HW.out _ htm)
      have HTT := hid (HT8.out _ htm)
      generalize ts.getD k zsc = t at *
      obtain ⟨kd, a0, n0, pg, ot, ba, bl, bc⟩ := t
      dsimp only at y0 y1 y2 y3 y4 y5
      have s9 := St.new 49 wr #[.int .i64 kd, .int .i64 a0, .int .i64 n0, .int .i64 pg, .int .i64 ot, .slice ba bl bc]
      have k9 : Kp (fun _ => False) wr (wr.alloc (.cells #[.int .i64 kd, .int .i64 a0, .int .i64 n0, .int .i64 pg, .int .i64 ot, .slice ba bl bc] 49)) := (Kp.refl _ _).alloc _
      have hrs1 := HRS.out.kp0 k9
      have hmk1 := HMK.out.ch (cch_kp k9)
      have hba := HSW.out.a
      obtain ⟨xs, hxl, hxs⟩ := HSW.out.b
      have hus1 : us ≤ 1000 := by have := HN60.out; omega
      have hwn1 : wn ≤ 1000 := by omega
      have HME : Hid (n - (intOf (Value.int IntKind.i64 ((k : Int) + 1))).toNat < n - (intOf (Value.int IntKind.i64 (k : Int))).toNat) := by
        show _ < _
        simp only [intOf]
        omega
      have HRD := hid (hrs1.read pg a0 n0 HTT.out.1 hba.2 hus1 (by have := HN60.out; omega))
      have HWR := hid (hrs1.write pg a0 xs ba bl bc hxl.symm HTT.out.2 (hxs.kp HKX.out (fun _ _ _ h => h)) (fun r o e h => Nat.lt_of_lt_of_le (HSW.out.bx r o e h) HKX.out.size) HTT.out.1 hba.2 hus1 (by have := HN60.out; omega))
      have HMK1 := hid hmk1
      have S9 := hid s9
      clear hb htm hrs1 hmk1 hba hxl hxs s9 k9 HMK
      unfold ptr at *
      gi_wp2_with fail
      · refine ⟨trivial, (callsIn_wide.2 HRD.out).mono ?_⟩
        rintro _ w5 ⟨v, z, rfl, ⟨rfl, G2, q2, F2, N2, hrs2, hch⟩ | ⟨hz, G2, q2, F2, N2, hrs2, hch⟩⟩
        · have HRS2 : Hid (Rs w2 g Q bits room (us + 1) (wn) (2 + (k + 1)) G2 q2 F2 N2 w5) := hrs2.up
          have HMK2 := hid (HMK1.out.ch hch)
          have HUK : Hid (us + 1 ≤ k + 1) := by show _ ≤ _; omega
          have HWK : Hid (wn ≤ us + 1) := by show _ ≤ _; omega
          clear HRD HWR hrs2 hch HMK1 S9
          gi_wp2_with (first
            | (refine ⟨trivial, (callsIn_wide.2 (HNU.out _ _)).mono ?_⟩; rintro e w' ⟨rfl, h⟩; replace h := h.symm; subst h))
          have HPG := hid (pages_any HRS2.out.v)
          unfold ptr at HPG
          refine ⟨trivial, (callsIn_wide.2 HPG.out).mono ?_⟩
          rintro e w6 ⟨k6, tb, pv, rfl, htb, hst, hrow⟩
          obtain ⟨ua, uc, hpv⟩ := ownsRow_shape hrow
          subst hpv
          have hlt5 : ∀ i, (Fc Q G2 i ∨ F2 i) → i < w6.heap.size := fun i hi => by
            have := k6.size
            rcases hi with hi | hi
            · have := HRS2.out.v.cm.lt hi; omega
            · have := HRS2.out.v.sw.lt hi; omega
          replace HRS2 := hid (HRS2.out.kp0 k6)
          replace HMK2 := hid (HMK2.out.ch (cch_kp k6))
          have HLT5 := hid hlt5
          obtain ⟨zs, hzs⟩ : ∃ zs, sno G2.c G2.L = zs := ⟨_, rfl⟩
          have hzl : G2.L.length = zs.length := by rw [← hzs, sno_len]
          have HZP : Hid (∀ z ∈ zs, 0 ≤ z ∧ z < 12) := fun z hz => by
            rw [← hzs] at hz
            obtain ⟨a, ha, rfl⟩ := sno_mem hz
            have := HRS2.out.r.p a ha
            omega
          rw [hzs, hzl] at hrow
          rw [hzl] at hst
          have s12 := St.new 3 w6 #[.int .i64 0]
          have k12 : Kp (fun _ => False) w6 (w6.alloc (.cells #[.int .i64 0] 3)) := (Kp.refl _ _).alloc _
          have HTB := hid (hst.kp k12 (fun h => h))
          have HROW := hid (vrow_kp hrow k12)
          have HOB := hid (vrow_lt hrow)
          have HZL := hid hzl
          have HZB : Hid (zs.length ≤ 1000000000) := by
            have := HRS2.out.tell.1
            have := HRM.out
            show _ ≤ _
            omega
          have heq := eqlFun (.func 131) #[] #[.pointer (some ⟨tb, 0, none⟩)]
          clear htb hst hrow HPG k6 hzs hlt5 hzl
          gi_wp2_with fail
          obtain ⟨c12, hc12⟩ : ∃ c, w6.heap.size = c := ⟨_, rfl⟩
          obtain ⟨R, hR⟩ : ∃ R, w6.alloc (.cells #[.int .i64 0] 3) = R := ⟨_, rfl⟩
          rw [hR] at s12 k12 HTB HROW
          rw [hc12] at s12 HOB
          rw [hR, hc12]
          have HRZ : Hid (c12 < R.heap.size ∧ w6.heap.size = c12) := ⟨s12.lt, hc12⟩
          have HK12 := hid k12
          have HS12 := hid s12
          clear hR k12 s12 heq
          refine wpIn_rangeFunc_ownH rfl (by omega) (gf := 131) (lb := #[.pointer (some ⟨tb, 0, none⟩)]) rfl trivial (enters_of Tryz.func131 (by kernel_rfl) rfl)
            (pvals_stops Fence.wide (8 - 1) trivial rfl (by omega) tb _ ua uc zs HZB.out R (HTB.out.cell 0) HROW.out)
            (fun h1 h2 i hi => (h2 i hi).trans (h1 i hi))
            (fun W l o o' hl _ _ _ i hi => World.putObj_heap_other (by have := HOB.out i hi; have := HRZ.out; omega))
            (Below.refl _ _) (fun _ => rfl)
            (fun (pre : List (Vx zs)) W => TnI R c12 pre.length W) (fun _ _ _ => False)
            (fun pp A B row hs hg hr => hs.own hg hr) (fun cc pp A B row hs hg hr => hs) ⟨HS12.out, Kp.refl _ _⟩
            (fun x a1 W => Ax6 c12 x.1 a1) (fun x a1 pp A B row hs hg hr => hs) ?assign ?body ?done (fun D c pre W hD hs hx => hx.elim)
          case assign =>
            intro l pre x W K hi hK
            dsimp only [venc]
            gi_wp2
            exact hK _ _ (KeepsFrom.refl _ _) (fun i _ => rfl) hi (ax6_of _ _ _ (by kernel_rfl) rfl)
          case body =>
            rintro lp pre x a1 W hl hlr hi ⟨y, rfl⟩ hlen
            obtain ⟨z, hz⟩ := x
            have hz0 : ¬ z < 0 := by have := (HZP.out z hz).1; omega
            have hz12 : z < 12 := (HZP.out z hz).2
            have HTN := hid hi
            have y12 := hi.st.cell 0
            have f12 := hi.st.frozen 0
            simp at y12
            have hpl : pre.length ≤ 1000000000 := by have := HZB.out; omega
            have HNX : Hid (TnI R c12 (pre ++ [(⟨z, hz⟩ : Vx zs)]).length (W.setCell ⟨c12, 0, none⟩ (.int .i64 ((pre.length : Int) + 1)))) := by
              have h1 := hi.st.set 0 (.int .i64 ((pre.length : Int) + 1))
              refine ⟨by rw [List.length_append]; simpa using h1, hi.kp.trans (kp_setCell W c12 0 _ (fun i => i = c12) rfl) (fun _ _ h => h)⟩
            have HKS : Hid (Kp (fun i => i = c12) W (W.setCell ⟨c12, 0, none⟩ (.int .i64 ((pre.length : Int) + 1)))) := kp_setCell W c12 0 _ (fun i => i = c12) rfl
            have HC12 : Hid (∃ o, W.heap[c12]? = some o ∧ o.isCells = true) := ⟨_, hi.st, rfl⟩
            clear hi
            unfold E6
            gi_wp2_with fail
            refine ⟨⟨HKS.out.size, fun kk o _ hk ho => ?_⟩, fun i hi2 => HKS.out.block i (by have := HOB.out i hi2; have := HRZ.out; have := HTN.out.kp.size; omega) (by have := HOB.out i hi2; omega), HNX.out⟩
            have hne : kk ≠ c12 := by
              intro e
              subst e
              have h1 := HTN.out.st
              unfold St at h1
              rw [hk] at h1
              cases h1
              cases ho
            exact (HKS.out.block kk (Array.getElem?_eq_some_iff.1 hk).1 hne).trans hk
          case done =>
            intro Dd xs W2 hDd hxs hTI hDm
            have hxl : xs.length = zs.length := by
              have := congrArg List.length hxs
              rw [List.length_map] at this
              exact this
            rw [hxl] at hTI
            have hk6 : Kp (fun _ => False) w6 W2 := ((HK12.out.mono (G := fun i => i = c12) (fun _ _ h => h.elim)).trans hTI.kp (fun _ _ h => h)).mono (fun i hi e => by have := HRZ.out; omega)
            have HRS3 := hid (HRS2.out.kp0 hk6)
            have HMK3 := hid (HMK2.out.new HLT5.out hk6 HRS2.out.lo.kp.size (by have := HRZ.out; omega) hDm)
            have HTI := hid hTI.st
            have hct := hid (counts_any HRS3.out.v)
            obtain ⟨t1, t2, t3, t4⟩ := HRS3.out.tell
            have HT1 := hid t1
            have HT2 := hid t2
            have HT3 := hid t3
            have HT4 := hid t4
            clear hxs hTI hDm hDd hxl hk6 HRS2 HMK2 HLT5 HTB HROW HOB HZP HK12 HS12 t1 t2 t3 t4
            unfold ptr at *
            gi_wp2_with fail
            refine ⟨trivial, (callsIn_wide.2 hct.out).mono ?_⟩
            rintro _ w8 ⟨rfl, k8⟩
            replace HRS3 := hid (HRS3.out.kp0 k8)
            replace HMK3 := hid (HMK3.out.ch (cch_kp k8))
            replace HTI := hid (HTI.out.kp k8 (fun h => h))
            clear hct
            have k79 : Kp (fun _ => False) w8 (w8.alloc (.cells #[.int .i64 G2.n1, .int .i64 G2.n2, .int .i64 G2.n3, .int .i64 G2.n4] 79)) := (Kp.refl _ _).alloc _
            have s79 := St.new 79 w8 #[.int .i64 G2.n1, .int .i64 G2.n2, .int .i64 G2.n3, .int .i64 G2.n4]
            replace HRS3 := hid (HRS3.out.kp0 k79)
            replace HMK3 := hid (HMK3.out.ch (cch_kp k79))
            replace HTI := hid (HTI.out.kp k79 (fun h => h))
            have y12 := HTI.out.cell 0
            have yr := (H66.out.kp HRS3.out.lo.kp (fun h => h)).cell 2
            simp only [List.getElem?_toArray, List.getElem?_cons_zero, List.getElem?_cons_succ] at y12 yr
            obtain ⟨m1, hm1⟩ : ∃ m, G2.n1 = m := ⟨_, rfl⟩
            obtain ⟨m2, hm2⟩ : ∃ m, G2.n2 = m := ⟨_, rfl⟩
            obtain ⟨m3, hm3⟩ : ∃ m, G2.n3 = m := ⟨_, rfl⟩
            obtain ⟨m4, hm4⟩ : ∃ m, zs.length = m := ⟨_, rfl⟩
            have r1 := HT1.out
            have r2 := HT2.out
            have r3 := HT3.out
            have r4 := HT4.out
            rw [hm1, hm2] at r2
            rw [hm2] at r4
            rw [hm3] at r3
            simp only [hm1, hm2, hm3] at y12 yr HRS3 HMK3
            have hkb : k ≤ 60 := by have := HN60.out; omega
            rw [HZL.out, hm4] at r1 r4
            rw [hm4] at y12
            have i1 : ¬ (room : Int) < (m4 : Int) := by omega
            have i2 : (m1 : Int) + (m2 : Int) = (us : Int) + 1 := by omega
            have i3 : ¬ (wn : Int) < (m3 : Int) := by omega
            have i4 : ¬ (m2 : Int) < (m4 : Int) := by omega
            have i5 : (m1 : Int) ≤ 1000 ∧ (m2 : Int) ≤ 1000 := by have := HN60.out; omega
            simp only [hm1, hm2, hm3]
            clear s79 k79 k8 HT1 HT2 HT3 HT4 HZL HZB HTI hm1 hm2 hm3 hm4
            gi_wp2_with fail
            refine ⟨act_end HIV.out _ _ (.int .i64 ((k + 1 : Nat) : Int)) (mrk Dd :: Ds.map mrk) ?_ (by kernel_rfl) rfl, HME.out⟩
            exact ⟨k + 1, us + 1, wn, _, _, _, _, Dd :: Ds, rfl, by first | rfl | go_num, by first | rfl | go_num, rfl, hlt, HUK.out, HWK.out, HRS3.out, HMK3.out⟩
        · have HRS2 : Hid (Rs w2 g Q bits room (us) (wn) (2 + (k + 1)) G2 q2 F2 N2 w5) := hrs2.up
          have HMK2 := hid (HMK1.out.ch hch)
          have HUK : Hid (us ≤ k + 1) := by show _ ≤ _; omega
          have HWK : Hid (wn ≤ us) := by show _ ≤ _; omega
          have hz2 : decide (z = 0) = false := by simpa using hz
          have hz3 : (z == 0) = false := by simpa using hz
          clear HRD HWR hrs2 hch HMK1 S9
          gi_wp2_with (first
            | (refine ⟨trivial, (callsIn_wide.2 (HNU.out _ _)).mono ?_⟩; rintro e w' ⟨rfl, h⟩; replace h := h.symm; subst h))
          have HPG := hid (pages_any HRS2.out.v)
          unfold ptr at HPG
          refine ⟨trivial, (callsIn_wide.2 HPG.out).mono ?_⟩
          rintro e w6 ⟨k6, tb, pv, rfl, htb, hst, hrow⟩
          obtain ⟨ua, uc, hpv⟩ := ownsRow_shape hrow
          subst hpv
          have hlt5 : ∀ i, (Fc Q G2 i ∨ F2 i) → i < w6.heap.size := fun i hi => by
            have := k6.size
            rcases hi with hi | hi
            · have := HRS2.out.v.cm.lt hi; omega
            · have := HRS2.out.v.sw.lt hi; omega
          replace HRS2 := hid (HRS2.out.kp0 k6)
          replace HMK2 := hid (HMK2.out.ch (cch_kp k6))
          have HLT5 := hid hlt5
          obtain ⟨zs, hzs⟩ : ∃ zs, sno G2.c G2.L = zs := ⟨_, rfl⟩
          have hzl : G2.L.length = zs.length := by rw [← hzs, sno_len]
          have HZP : Hid (∀ z ∈ zs, 0 ≤ z ∧ z < 12) := fun z hz => by
            rw [← hzs] at hz
            obtain ⟨a, ha, rfl⟩ := sno_mem hz
            have := HRS2.out.r.p a ha
            omega
          rw [hzs, hzl] at hrow
          rw [hzl] at hst
          have s12 := St.new 3 w6 #[.int .i64 0]
          have k12 : Kp (fun _ => False) w6 (w6.alloc (.cells #[.int .i64 0] 3)) := (Kp.refl _ _).alloc _
          have HTB := hid (hst.kp k12 (fun h => h))
          have HROW := hid (vrow_kp hrow k12)
          have HOB := hid (vrow_lt hrow)
          have HZL := hid hzl
          have HZB : Hid (zs.length ≤ 1000000000) := by
            have := HRS2.out.tell.1
            have := HRM.out
            show _ ≤ _
            omega
          have heq := eqlFun (.func 131) #[] #[.pointer (some ⟨tb, 0, none⟩)]
          clear htb hst hrow HPG k6 hzs hlt5 hzl
          gi_wp2_with fail
          obtain ⟨c12, hc12⟩ : ∃ c, w6.heap.size = c := ⟨_, rfl⟩
          obtain ⟨R, hR⟩ : ∃ R, w6.alloc (.cells #[.int .i64 0] 3) = R := ⟨_, rfl⟩
          rw [hR] at s12 k12 HTB HROW
          rw [hc12] at s12 HOB
          rw [hR, hc12]
          have HRZ : Hid (c12 < R.heap.size ∧ w6.heap.size = c12) := ⟨s12.lt, hc12⟩
          have HK12 := hid k12
          have HS12 := hid s12
          clear hR k12 s12 heq
          refine wpIn_rangeFunc_ownH rfl (by omega) (gf := 131) (lb := #[.pointer (some ⟨tb, 0, none⟩)]) rfl trivial (enters_of Tryz.func131 (by kernel_rfl) rfl)
            (pvals_stops Fence.wide (8 - 1) trivial rfl (by omega) tb _ ua uc zs HZB.out R (HTB.out.cell 0) HROW.out)
            (fun h1 h2 i hi => (h2 i hi).trans (h1 i hi))
            (fun W l o o' hl _ _ _ i hi => World.putObj_heap_other (by have := HOB.out i hi; have := HRZ.out; omega))
            (Below.refl _ _) (fun _ => rfl)
            (fun (pre : List (Vx zs)) W => TnI R c12 pre.length W) (fun _ _ _ => False)
            (fun pp A B row hs hg hr => hs.own hg hr) (fun cc pp A B row hs hg hr => hs) ⟨HS12.out, Kp.refl _ _⟩
            (fun x a1 W => Ax6 c12 x.1 a1) (fun x a1 pp A B row hs hg hr => hs) ?assign ?body ?done (fun D c pre W hD hs hx => hx.elim)
          case assign =>
            intro l pre x W K hi hK
            dsimp only [venc]
            gi_wp2
            exact hK _ _ (KeepsFrom.refl _ _) (fun i _ => rfl) hi (ax6_of _ _ _ (by kernel_rfl) rfl)
          case body =>
            rintro lp pre x a1 W hl hlr hi ⟨y, rfl⟩ hlen
            obtain ⟨z, hz⟩ := x
            have hz0 : ¬ z < 0 := by have := (HZP.out z hz).1; omega
            have hz12 : z < 12 := (HZP.out z hz).2
            have HTN := hid hi
            have y12 := hi.st.cell 0
            have f12 := hi.st.frozen 0
            simp at y12
            have hpl : pre.length ≤ 1000000000 := by have := HZB.out; omega
            have HNX : Hid (TnI R c12 (pre ++ [(⟨z, hz⟩ : Vx zs)]).length (W.setCell ⟨c12, 0, none⟩ (.int .i64 ((pre.length : Int) + 1)))) := by
              have h1 := hi.st.set 0 (.int .i64 ((pre.length : Int) + 1))
              refine ⟨by rw [List.length_append]; simpa using h1, hi.kp.trans (kp_setCell W c12 0 _ (fun i => i = c12) rfl) (fun _ _ h => h)⟩
            have HKS : Hid (Kp (fun i => i = c12) W (W.setCell ⟨c12, 0, none⟩ (.int .i64 ((pre.length : Int) + 1)))) := kp_setCell W c12 0 _ (fun i => i = c12) rfl
            have HC12 : Hid (∃ o, W.heap[c12]? = some o ∧ o.isCells = true) := ⟨_, hi.st, rfl⟩
            clear hi
            unfold E6
            gi_wp2_with fail
            refine ⟨⟨HKS.out.size, fun kk o _ hk ho => ?_⟩, fun i hi2 => HKS.out.block i (by have := HOB.out i hi2; have := HRZ.out; have := HTN.out.kp.size; omega) (by have := HOB.out i hi2; omega), HNX.out⟩
            have hne : kk ≠ c12 := by
              intro e
              subst e
              have h1 := HTN.out.st
              unfold St at h1
              rw [hk] at h1
              cases h1
              cases ho
            exact (HKS.out.block kk (Array.getElem?_eq_some_iff.1 hk).1 hne).trans hk
          case done =>
            intro Dd xs W2 hDd hxs hTI hDm
            have hxl : xs.length = zs.length := by
              have := congrArg List.length hxs
              rw [List.length_map] at this
              exact this
            rw [hxl] at hTI
            have hk6 : Kp (fun _ => False) w6 W2 := ((HK12.out.mono (G := fun i => i = c12) (fun _ _ h => h.elim)).trans hTI.kp (fun _ _ h => h)).mono (fun i hi e => by have := HRZ.out; omega)
            have HRS3 := hid (HRS2.out.kp0 hk6)
            have HMK3 := hid (HMK2.out.new HLT5.out hk6 HRS2.out.lo.kp.size (by have := HRZ.out; omega) hDm)
            have HTI := hid hTI.st
            have hct := hid (counts_any HRS3.out.v)
            obtain ⟨t1, t2, t3, t4⟩ := HRS3.out.tell
            have HT1 := hid t1
            have HT2 := hid t2
            have HT3 := hid t3
            have HT4 := hid t4
            clear hxs hTI hDm hDd hxl hk6 HRS2 HMK2 HLT5 HTB HROW HOB HZP HK12 HS12 t1 t2 t3 t4
            unfold ptr at *
            gi_wp2_with fail
            refine ⟨trivial, (callsIn_wide.2 hct.out).mono ?_⟩
            rintro _ w8 ⟨rfl, k8⟩
            replace HRS3 := hid (HRS3.out.kp0 k8)
            replace HMK3 := hid (HMK3.out.ch (cch_kp k8))
            replace HTI := hid (HTI.out.kp k8 (fun h => h))
            clear hct
            have k79 : Kp (fun _ => False) w8 (w8.alloc (.cells #[.int .i64 G2.n1, .int .i64 G2.n2, .int .i64 G2.n3, .int .i64 G2.n4] 79)) := (Kp.refl _ _).alloc _
            have s79 := St.new 79 w8 #[.int .i64 G2.n1, .int .i64 G2.n2, .int .i64 G2.n3, .int .i64 G2.n4]
            replace HRS3 := hid (HRS3.out.kp0 k79)
            replace HMK3 := hid (HMK3.out.ch (cch_kp k79))
            replace HTI := hid (HTI.out.kp k79 (fun h => h))
            have y12 := HTI.out.cell 0
            have yr := (H66.out.kp HRS3.out.lo.kp (fun h => h)).cell 2
            simp only [List.getElem?_toArray, List.getElem?_cons_zero, List.getElem?_cons_succ] at y12 yr
            obtain ⟨m1, hm1⟩ : ∃ m, G2.n1 = m := ⟨_, rfl⟩
            obtain ⟨m2, hm2⟩ : ∃ m, G2.n2 = m := ⟨_, rfl⟩
            obtain ⟨m3, hm3⟩ : ∃ m, G2.n3 = m := ⟨_, rfl⟩
            obtain ⟨m4, hm4⟩ : ∃ m, zs.length = m := ⟨_, rfl⟩
            have r1 := HT1.out
            have r2 := HT2.out
            have r3 := HT3.out
            have r4 := HT4.out
            rw [hm1, hm2] at r2
            rw [hm2] at r4
            rw [hm3] at r3
            simp only [hm1, hm2, hm3] at y12 yr HRS3 HMK3
            have hkb : k ≤ 60 := by have := HN60.out; omega
            rw [HZL.out, hm4] at r1 r4
            rw [hm4] at y12
            have i1 : ¬ (room : Int) < (m4 : Int) := by omega
            have i2 : (m1 : Int) + (m2 : Int) = (us : Int) := by omega
            have i3 : ¬ (wn : Int) < (m3 : Int) := by omega
            have i4 : ¬ (m2 : Int) < (m4 : Int) := by omega
            have i5 : (m1 : Int) ≤ 1000 ∧ (m2 : Int) ≤ 1000 := by have := HN60.out; omega
            simp only [hm1, hm2, hm3]
            clear s79 k79 k8 HT1 HT2 HT3 HT4 HZL HZB HTI hm1 hm2 hm3 hm4
            gi_wp2_with fail
            refine ⟨act_end HIV.out _ _ (.int .i64 ((k + 1 : Nat) : Int)) (mrk Dd :: Ds.map mrk) ?_ (by kernel_rfl) rfl, HME.out⟩
            exact ⟨k + 1, us, wn, _, _, _, _, Dd :: Ds, rfl, by first | rfl | go_num, by first | rfl | go_num, rfl, hlt, HUK.out, HWK.out, HRS3.out, HMK3.out⟩
      · refine ⟨trivial, (callsIn_wide.2 HWR.out).mono ?_⟩
        rintro _ w5 ⟨z, rfl, ⟨rfl, G2, q2, F2, N2, hrs2, hch⟩ | ⟨hz, G2, q2, F2, N2, hrs2, hch⟩⟩
        · have HRS2 : Hid (Rs w2 g Q bits room (us + 1) (wn + 1) (2 + (k + 1)) G2 q2 F2 N2 w5) := hrs2
          have HMK2 := hid (HMK1.out.ch hch)
          have HUK : Hid (us + 1 ≤ k + 1) := by show _ ≤ _; omega
          have HWK : Hid (wn + 1 ≤ us + 1) := by show _ ≤ _; omega
          clear HRD HWR hrs2 hch HMK1 S9
          gi_wp2_with (first
            | (refine ⟨trivial, (callsIn_wide.2 (HNU.out _ _)).mono ?_⟩; rintro e w' ⟨rfl, h⟩; replace h := h.symm; subst h))
          have HPG := hid (pages_any HRS2.out.v)
          unfold ptr at HPG
          refine ⟨trivial, (callsIn_wide.2 HPG.out).mono ?_⟩
          rintro e w6 ⟨k6, tb, pv, rfl, htb, hst, hrow⟩
          obtain ⟨ua, uc, hpv⟩ := ownsRow_shape hrow
          subst hpv
          have hlt5 : ∀ i, (Fc Q G2 i ∨ F2 i) → i < w6.heap.size := fun i hi => by
            have := k6.size
            rcases hi with hi | hi
            · have := HRS2.out.v.cm.lt hi; omega
            · have := HRS2.out.v.sw.lt hi; omega
          replace HRS2 := hid (HRS2.out.kp0 k6)
          replace HMK2 := hid (HMK2.out.ch (cch_kp k6))
          have HLT5 := hid hlt5
          obtain ⟨zs, hzs⟩ : ∃ zs, sno G2.c G2.L = zs := ⟨_, rfl⟩
          have hzl : G2.L.length = zs.length := by rw [← hzs, sno_len]
          have HZP : Hid (∀ z ∈ zs, 0 ≤ z ∧ z < 12) := fun z hz => by
            rw [← hzs] at hz
            obtain ⟨a, ha, rfl⟩ := sno_mem hz
            have := HRS2.out.r.p a ha
            omega
          rw [hzs, hzl] at hrow
          rw [hzl] at hst
          have s12 := St.new 3 w6 #[.int .i64 0]
          have k12 : Kp (fun _ => False) w6 (w6.alloc (.cells #[.int .i64 0] 3)) := (Kp.refl _ _).alloc _
          have HTB := hid (hst.kp k12 (fun h => h))
          have HROW := hid (vrow_kp hrow k12)
          have HOB := hid (vrow_lt hrow)
          have HZL := hid hzl
          have HZB : Hid (zs.length ≤ 1000000000) := by
            have := HRS2.out.tell.1
            have := HRM.out
            show _ ≤ _
            omega
          have heq := eqlFun (.func 131) #[] #[.pointer (some ⟨tb, 0, none⟩)]
          clear htb hst hrow HPG k6 hzs hlt5 hzl
          gi_wp2_with fail
          obtain ⟨c12, hc12⟩ : ∃ c, w6.heap.size = c := ⟨_, rfl⟩
          obtain ⟨R, hR⟩ : ∃ R, w6.alloc (.cells #[.int .i64 0] 3) = R := ⟨_, rfl⟩
          rw [hR] at s12 k12 HTB HROW
          rw [hc12] at s12 HOB
          rw [hR, hc12]
          have HRZ : Hid (c12 < R.heap.size ∧ w6.heap.size = c12) := ⟨s12.lt, hc12⟩
          have HK12 := hid k12
          have HS12 := hid s12
          clear hR k12 s12 heq
          refine wpIn_rangeFunc_ownH rfl (by omega) (gf := 131) (lb := #[.pointer (some ⟨tb, 0, none⟩)]) rfl trivial (enters_of Tryz.func131 (by kernel_rfl) rfl)
            (pvals_stops Fence.wide (8 - 1) trivial rfl (by omega) tb _ ua uc zs HZB.out R (HTB.out.cell 0) HROW.out)
            (fun h1 h2 i hi => (h2 i hi).trans (h1 i hi))
            (fun W l o o' hl _ _ _ i hi => World.putObj_heap_other (by have := HOB.out i hi; have := HRZ.out; omega))
            (Below.refl _ _) (fun _ => rfl)
            (fun (pre : List (Vx zs)) W => TnI R c12 pre.length W) (fun _ _ _ => False)
            (fun pp A B row hs hg hr => hs.own hg hr) (fun cc pp A B row hs hg hr => hs) ⟨HS12.out, Kp.refl _ _⟩
            (fun x a1 W => Ax6 c12 x.1 a1) (fun x a1 pp A B row hs hg hr => hs) ?assign ?body ?done (fun D c pre W hD hs hx => hx.elim)
          case assign =>
            intro l pre x W K hi hK
            dsimp only [venc]
            gi_wp2
            exact hK _ _ (KeepsFrom.refl _ _) (fun i _ => rfl) hi (ax6_of _ _ _ (by kernel_rfl) rfl)
          case body =>
            rintro lp pre x a1 W hl hlr hi ⟨y, rfl⟩ hlen
            obtain ⟨z, hz⟩ := x
            have hz0 : ¬ z < 0 := by have := (HZP.out z hz).1; omega
            have hz12 : z < 12 := (HZP.out z hz).2
            have HTN := hid hi
            have y12 := hi.st.cell 0
            have f12 := hi.st.frozen 0
            simp at y12
            have hpl : pre.length ≤ 1000000000 := by have := HZB.out; omega
            have HNX : Hid (TnI R c12 (pre ++ [(⟨z, hz⟩ : Vx zs)]).length (W.setCell ⟨c12, 0, none⟩ (.int .i64 ((pre.length : Int) + 1)))) := by
              have h1 := hi.st.set 0 (.int .i64 ((pre.length : Int) + 1))
              refine ⟨by rw [List.length_append]; simpa using h1, hi.kp.trans (kp_setCell W c12 0 _ (fun i => i = c12) rfl) (fun _ _ h => h)⟩
            have HKS : Hid (Kp (fun i => i = c12) W (W.setCell ⟨c12, 0, none⟩ (.int .i64 ((pre.length : Int) + 1)))) := kp_setCell W c12 0 _ (fun i => i = c12) rfl
            have HC12 : Hid (∃ o, W.heap[c12]? = some o ∧ o.isCells = true) := ⟨_, hi.st, rfl⟩
            clear hi
            unfold E6
            gi_wp2_with fail
            refine ⟨⟨HKS.out.size, fun kk o _ hk ho => ?_⟩, fun i hi2 => HKS.out.block i (by have := HOB.out i hi2; have := HRZ.out; have := HTN.out.kp.size; omega) (by have := HOB.out i hi2; omega), HNX.out⟩
            have hne : kk ≠ c12 := by
              intro e
              subst e
              have h1 := HTN.out.st
              unfold St at h1
              rw [hk] at h1
              cases h1
              cases ho
            exact (HKS.out.block kk (Array.getElem?_eq_some_iff.1 hk).1 hne).trans hk
          case done =>
            intro Dd xs W2 hDd hxs hTI hDm
            have hxl : xs.length = zs.length := by
              have := congrArg List.length hxs
              rw [List.length_map] at this
              exact this
            rw [hxl] at hTI
            have hk6 : Kp (fun _ => False) w6 W2 := ((HK12.out.mono (G := fun i => i = c12) (fun _ _ h => h.elim)).trans hTI.kp (fun _ _ h => h)).mono (fun i hi e => by have := HRZ.out; omega)
            have HRS3 := hid (HRS2.out.kp0 hk6)
            have HMK3 := hid (HMK2.out.new HLT5.out hk6 HRS2.out.lo.kp.size (by have := HRZ.out; omega) hDm)
            have HTI := hid hTI.st
            have hct := hid (counts_any HRS3.out.v)
            obtain ⟨t1, t2, t3, t4⟩ := HRS3.out.tell
            have HT1 := hid t1
            have HT2 := hid t2
            have HT3 := hid t3
            have HT4 := hid t4
            clear hxs hTI hDm hDd hxl hk6 HRS2 HMK2 HLT5 HTB HROW HOB HZP HK12 HS12 t1 t2 t3 t4
            unfold ptr at *
            gi_wp2_with fail
            refine ⟨trivial, (callsIn_wide.2 hct.out).mono ?_⟩
            rintro _ w8 ⟨rfl, k8⟩
            replace HRS3 := hid (HRS3.out.kp0 k8)
            replace HMK3 := hid (HMK3.out.ch (cch_kp k8))
            replace HTI := hid (HTI.out.kp k8 (fun h => h))
            clear hct
            have k79 : Kp (fun _ => False) w8 (w8.alloc (.cells #[.int .i64 G2.n1, .int .i64 G2.n2, .int .i64 G2.n3, .int .i64 G2.n4] 79)) := (Kp.refl _ _).alloc _
            have s79 := St.new 79 w8 #[.int .i64 G2.n1, .int .i64 G2.n2, .int .i64 G2.n3, .int .i64 G2.n4]
            replace HRS3 := hid (HRS3.out.kp0 k79)
            replace HMK3 := hid (HMK3.out.ch (cch_kp k79))
            replace HTI := hid (HTI.out.kp k79 (fun h => h))
            have y12 := HTI.out.cell 0
            have yr := (H66.out.kp HRS3.out.lo.kp (fun h => h)).cell 2
            simp only [List.getElem?_toArray, List.getElem?_cons_zero, List.getElem?_cons_succ] at y12 yr
            obtain ⟨m1, hm1⟩ : ∃ m, G2.n1 = m := ⟨_, rfl⟩
            obtain ⟨m2, hm2⟩ : ∃ m, G2.n2 = m := ⟨_, rfl⟩
            obtain ⟨m3, hm3⟩ : ∃ m, G2.n3 = m := ⟨_, rfl⟩
            obtain ⟨m4, hm4⟩ : ∃ m, zs.length = m := ⟨_, rfl⟩
            have r1 := HT1.out
            have r2 := HT2.out
            have r3 := HT3.out
            have r4 := HT4.out
            rw [hm1, hm2] at r2
            rw [hm2] at r4
            rw [hm3] at r3
            simp only [hm1, hm2, hm3] at y12 yr HRS3 HMK3
            have hkb : k ≤ 60 := by have := HN60.out; omega
            rw [HZL.out, hm4] at r1 r4
            rw [hm4] at y12
            have i1 : ¬ (room : Int) < (m4 : Int) := by omega
            have i2 : (m1 : Int) + (m2 : Int) = (us : Int) + 1 := by omega
            have i3 : ¬ (wn : Int) + 1 < (m3 : Int) := by omega
            have i4 : ¬ (m2 : Int) < (m4 : Int) := by omega
            have i5 : (m1 : Int) ≤ 1000 ∧ (m2 : Int) ≤ 1000 := by have := HN60.out; omega
            simp only [hm1, hm2, hm3]
            clear s79 k79 k8 HT1 HT2 HT3 HT4 HZL HZB HTI hm1 hm2 hm3 hm4
            gi_wp2_with fail
            refine ⟨act_end HIV.out _ _ (.int .i64 ((k + 1 : Nat) : Int)) (mrk Dd :: Ds.map mrk) ?_ (by kernel_rfl) rfl, HME.out⟩
            exact ⟨k + 1, us + 1, wn + 1, _, _, _, _, Dd :: Ds, rfl, by first | rfl | go_num, by first | rfl | go_num, rfl, hlt, HUK.out, HWK.out, HRS3.out, HMK3.out⟩
        · have HRS2 : Hid (Rs w2 g Q bits room (us) (wn) (2 + (k + 1)) G2 q2 F2 N2 w5) := hrs2
          have HMK2 := hid (HMK1.out.ch hch)
          have HUK : Hid (us ≤ k + 1) := by show _ ≤ _; omega
          have HWK : Hid (wn ≤ us) := by show _ ≤ _; omega
          have hz2 : decide (z = 0) = false := by simpa using hz
          have hz3 : (z == 0) = false := by simpa using hz
          clear HRD HWR hrs2 hch HMK1 S9
          gi_wp2_with (first
            | (refine ⟨trivial, (callsIn_wide.2 (HNU.out _ _)).mono ?_⟩; rintro e w' ⟨rfl, h⟩; replace h := h.symm; subst h))
          have HPG := hid (pages_any HRS2.out.v)
          unfold ptr at HPG
          refine ⟨trivial, (callsIn_wide.2 HPG.out).mono ?_⟩
          rintro e w6 ⟨k6, tb, pv, rfl, htb, hst, hrow⟩
          obtain ⟨ua, uc, hpv⟩ := ownsRow_shape hrow
          subst hpv
          have hlt5 : ∀ i, (Fc Q G2 i ∨ F2 i) → i < w6.heap.size := fun i hi => by
            have := k6.size
            rcases hi with hi | hi
            · have := HRS2.out.v.cm.lt hi; omega
            · have := HRS2.out.v.sw.lt hi; omega
          replace HRS2 := hid (HRS2.out.kp0 k6)
          replace HMK2 := hid (HMK2.out.ch (cch_kp k6))
          have HLT5 := hid hlt5
          obtain ⟨zs, hzs⟩ : ∃ zs, sno G2.c G2.L = zs := ⟨_, rfl⟩
          have hzl : G2.L.length = zs.length := by rw [← hzs, sno_len]
          have HZP : Hid (∀ z ∈ zs, 0 ≤ z ∧ z < 12) := fun z hz => by
            rw [← hzs] at hz
            obtain ⟨a, ha, rfl⟩ := sno_mem hz
            have := HRS2.out.r.p a ha
            omega
          rw [hzs, hzl] at hrow
          rw [hzl] at hst
          have s12 := St.new 3 w6 #[.int .i64 0]
          have k12 : Kp (fun _ => False) w6 (w6.alloc (.cells #[.int .i64 0] 3)) := (Kp.refl _ _).alloc _
          have HTB := hid (hst.kp k12 (fun h => h))
          have HROW := hid (vrow_kp hrow k12)
          have HOB := hid (vrow_lt hrow)
          have HZL := hid hzl
          have HZB : Hid (zs.length ≤ 1000000000) := by
            have := HRS2.out.tell.1
            have := HRM.out
            show _ ≤ _
            omega
          have heq := eqlFun (.func 131) #[] #[.pointer (some ⟨tb, 0, none⟩)]
          clear htb hst hrow HPG k6 hzs hlt5 hzl
          gi_wp2_with fail
          obtain ⟨c12, hc12⟩ : ∃ c, w6.heap.size = c := ⟨_, rfl⟩
          obtain ⟨R, hR⟩ : ∃ R, w6.alloc (.cells #[.int .i64 0] 3) = R := ⟨_, rfl⟩
          rw [hR] at s12 k12 HTB HROW
          rw [hc12] at s12 HOB
          rw [hR, hc12]
          have HRZ : Hid (c12 < R.heap.size ∧ w6.heap.size = c12) := ⟨s12.lt, hc12⟩
          have HK12 := hid k12
          have HS12 := hid s12
          clear hR k12 s12 heq
          refine wpIn_rangeFunc_ownH rfl (by omega) (gf := 131) (lb := #[.pointer (some ⟨tb, 0, none⟩)]) rfl trivial (enters_of Tryz.func131 (by kernel_rfl) rfl)
            (pvals_stops Fence.wide (8 - 1) trivial rfl (by omega) tb _ ua uc zs HZB.out R (HTB.out.cell 0) HROW.out)
            (fun h1 h2 i hi => (h2 i hi).trans (h1 i hi))
            (fun W l o o' hl _ _ _ i hi => World.putObj_heap_other (by have := HOB.out i hi; have := HRZ.out; omega))
            (Below.refl _ _) (fun _ => rfl)
            (fun (pre : List (Vx zs)) W => TnI R c12 pre.length W) (fun _ _ _ => False)
            (fun pp A B row hs hg hr => hs.own hg hr) (fun cc pp A B row hs hg hr => hs) ⟨HS12.out, Kp.refl _ _⟩
            (fun x a1 W => Ax6 c12 x.1 a1) (fun x a1 pp A B row hs hg hr => hs) ?assign ?body ?done (fun D c pre W hD hs hx => hx.elim)
          case assign =>
            intro l pre x W K hi hK
            dsimp only [venc]
            gi_wp2
            exact hK _ _ (KeepsFrom.refl _ _) (fun i _ => rfl) hi (ax6_of _ _ _ (by kernel_rfl) rfl)
          case body =>
            rintro lp pre x a1 W hl hlr hi ⟨y, rfl⟩ hlen
            obtain ⟨z, hz⟩ := x
            have hz0 : ¬ z < 0 := by have := (HZP.out z hz).1; omega
            have hz12 : z < 12 := (HZP.out z hz).2
            have HTN := hid hi
            have y12 := hi.st.cell 0
            have f12 := hi.st.frozen 0
            simp at y12
            have hpl : pre.length ≤ 1000000000 := by have := HZB.out; omega
            have HNX : Hid (TnI R c12 (pre ++ [(⟨z, hz⟩ : Vx zs)]).length (W.setCell ⟨c12, 0, none⟩ (.int .i64 ((pre.length : Int) + 1)))) := by
              have h1 := hi.st.set 0 (.int .i64 ((pre.length : Int) + 1))
              refine ⟨by rw [List.length_append]; simpa using h1, hi.kp.trans (kp_setCell W c12 0 _ (fun i => i = c12) rfl) (fun _ _ h => h)⟩
            have HKS : Hid (Kp (fun i => i = c12) W (W.setCell ⟨c12, 0, none⟩ (.int .i64 ((pre.length : Int) + 1)))) := kp_setCell W c12 0 _ (fun i => i = c12) rfl
            have HC12 : Hid (∃ o, W.heap[c12]? = some o ∧ o.isCells = true) := ⟨_, hi.st, rfl⟩
            clear hi
            unfold E6
            gi_wp2_with fail
            refine ⟨⟨HKS.out.size, fun kk o _ hk ho => ?_⟩, fun i hi2 => HKS.out.block i (by have := HOB.out i hi2; have := HRZ.out; have := HTN.out.kp.size; omega) (by have := HOB.out i hi2; omega), HNX.out⟩
            have hne : kk ≠ c12 := by
              intro e
              subst e
              have h1 := HTN.out.st
              unfold St at h1
              rw [hk] at h1
              cases h1
              cases ho
            exact (HKS.out.block kk (Array.getElem?_eq_some_iff.1 hk).1 hne).trans hk
          case done =>
            intro Dd xs W2 hDd hxs hTI hDm
            have hxl : xs.length = zs.length := by
              have := congrArg List.length hxs
              rw [List.length_map] at this
              exact this
            rw [hxl] at hTI
            have hk6 : Kp (fun _ => False) w6 W2 := ((HK12.out.mono (G := fun i => i = c12) (fun _ _ h => h.elim)).trans hTI.kp (fun _ _ h => h)).mono (fun i hi e => by have := HRZ.out; omega)
            have HRS3 := hid (HRS2.out.kp0 hk6)
            have HMK3 := hid (HMK2.out.new HLT5.out hk6 HRS2.out.lo.kp.size (by have := HRZ.out; omega) hDm)
            have HTI := hid hTI.st
            have hct := hid (counts_any HRS3.out.v)
            obtain ⟨t1, t2, t3, t4⟩ := HRS3.out.tell
            have HT1 := hid t1
            have HT2 := hid t2
            have HT3 := hid t3
            have HT4 := hid t4
            clear hxs hTI hDm hDd hxl hk6 HRS2 HMK2 HLT5 HTB HROW HOB HZP HK12 HS12 t1 t2 t3 t4
            unfold ptr at *
            gi_wp2_with fail
            refine ⟨trivial, (callsIn_wide.2 hct.out).mono ?_⟩
            rintro _ w8 ⟨rfl, k8⟩
            replace HRS3 := hid (HRS3.out.kp0 k8)
            replace HMK3 := hid (HMK3.out.ch (cch_kp k8))
            replace HTI := hid (HTI.out.kp k8 (fun h => h))
            clear hct
            have k79 : Kp (fun _ => False) w8 (w8.alloc (.cells #[.int .i64 G2.n1, .int .i64 G2.n2, .int .i64 G2.n3, .int .i64 G2.n4] 79)) := (Kp.refl _ _).alloc _
            have s79 := St.new 79 w8 #[.int .i64 G2.n1, .int .i64 G2.n2, .int .i64 G2.n3, .int .i64 G2.n4]
            replace HRS3 := hid (HRS3.out.kp0 k79)
            replace HMK3 := hid (HMK3.out.ch (cch_kp k79))
            replace HTI := hid (HTI.out.kp k79 (fun h => h))
            have y12 := HTI.out.cell 0
            have yr := (H66.out.kp HRS3.out.lo.kp (fun h => h)).cell 2
            simp only [List.getElem?_toArray, List.getElem?_cons_zero, List.getElem?_cons_succ] at y12 yr
            obtain ⟨m1, hm1⟩ : ∃ m, G2.n1 = m := ⟨_, rfl⟩
            obtain ⟨m2, hm2⟩ : ∃ m, G2.n2 = m := ⟨_, rfl⟩
            obtain ⟨m3, hm3⟩ : ∃ m, G2.n3 = m := ⟨_, rfl⟩
            obtain ⟨m4, hm4⟩ : ∃ m, zs.length = m := ⟨_, rfl⟩
            have r1 := HT1.out
            have r2 := HT2.out
            have r3 := HT3.out
            have r4 := HT4.out
            rw [hm1, hm2] at r2
            rw [hm2] at r4
            rw [hm3] at r3
            simp only [hm1, hm2, hm3] at y12 yr HRS3 HMK3
            have hkb : k ≤ 60 := by have := HN60.out; omega
            rw [HZL.out, hm4] at r1 r4
            rw [hm4] at y12
            have i1 : ¬ (room : Int) < (m4 : Int) := by omega
            have i2 : (m1 : Int) + (m2 : Int) = (us : Int) := by omega
            have i3 : ¬ (wn : Int) < (m3 : Int) := by omega
            have i4 : ¬ (m2 : Int) < (m4 : Int) := by omega
            have i5 : (m1 : Int) ≤ 1000 ∧ (m2 : Int) ≤ 1000 := by have := HN60.out; omega
            simp only [hm1, hm2, hm3]
            clear s79 k79 k8 HT1 HT2 HT3 HT4 HZL HZB HTI hm1 hm2 hm3 hm4
            gi_wp2_with fail
            refine ⟨act_end HIV.out _ _ (.int .i64 ((k + 1 : Nat) : Int)) (mrk Dd :: Ds.map mrk) ?_ (by kernel_rfl) rfl, HME.out⟩
            exact ⟨k + 1, us, wn, _, _, _, _, Dd :: Ds, rfl, by first | rfl | go_num, by first | rfl | go_num, rfl, hlt, HUK.out, HWK.out, HRS3.out, HMK3.out⟩
    · obtain rfl : k = n := by omega
      have HCN := hid (counts_any HRS.out.v)
      have HDN : Hid (dn G ≤ room) := by
        have h1 : dn G ≤ G.L.length := List.countP_le_length
        have := HRS.out.tell.1
        show _ ≤ _
        omega
      unfold ptr at *
      gi_wp2_with fail
      refine ⟨trivial, (callsIn_wide.2 HCN.out).mono ?_⟩
      rintro _ w5 ⟨rfl, k5⟩
      have HLT5 : Hid (∀ i, (Fc Q G i ∨ F i) → i < w5.heap.size) := fun i hi => by
        have := k5.size
        rcases hi with hi | hi
        · have := HRS.out.v.cm.lt hi; omega
        · have := HRS.out.v.sw.lt hi; omega
      have k79 : Kp (fun _ => False) w5 (w5.alloc (.cells #[.int .i64 G.n1, .int .i64 G.n2, .int .i64 G.n3, .int .i64 G.n4] 79)) := (Kp.refl _ _).alloc _
      have s79 := St.new 79 w5 #[.int .i64 G.n1, .int .i64 G.n2, .int .i64 G.n3, .int .i64 G.n4]
      replace HRS := hid ((HRS.out.kp0 k5).kp0 k79)
      replace HMK := hid ((HMK.out.ch (cch_kp k5)).ch (cch_kp k79))
      have HFL := hid (HRS.out.flush (by have := HN60.out; omega))
      have S16 := hid s79
      clear HCN k5 k79 s79
      unfold ptr at *
      gi_wp2_with fail
      refine ⟨trivial, (callsIn_wide.2 HFL.out).mono ?_⟩
      rintro _ w6 ⟨rfl, G3, q3, F3, N3, hrs3, hch3, a1, a2, a3⟩
      have hs16 := S16.out.kp hch3.kp (fun hi => by have := HLT5.out _ hi; omega)
      have hno3 : ¬ (Fc Q G3 w5.heap.size ∨ F3 w5.heap.size) := fun hi => by
        have hsz : (w5.alloc (.cells #[.int .i64 G.n1, .int .i64 G.n2, .int .i64 G.n3, .int .i64 G.n4] 79)).heap.size = w5.heap.size + 1 := World.size_alloc _ _
        rcases hi with hi | hi
        · rcases hch3.fc _ hi with h4 | h4
          · have := HLT5.out _ (.inl h4); omega
          · omega
        · rcases hch3.ff _ hi with h4 | h4
          · have := HLT5.out _ (.inr h4); omega
          · omega
      replace HRS := hid hrs3
      replace HMK := hid (HMK.out.ch hch3)
      replace S16 := hid hs16
      have HFL2 := hid (hrs3.flush (by have := HN60.out; omega))
      have HNO := hid hno3
      have HA1 := hid a1
      have HA2 := hid a2
      have HA3 := hid a3
      clear HFL hrs3 hch3 hs16 hno3 a1 a2 a3 HLT5
      unfold ptr at *
      gi_wp2_with (first
        | (refine ⟨trivial, (callsIn_wide.2 (HNU.out _ _)).mono ?_⟩; rintro e w' ⟨rfl, h⟩; replace h := h.symm; subst h))
      refine ⟨trivial, (callsIn_wide.2 HFL2.out).mono ?_⟩
      rintro _ w7 ⟨rfl, G4, q4', F4, N4, hrs4, hch4, b1, b2, b3⟩
      have hs16 := S16.out.kp hch4.kp HNO.out
      replace HMK := hid (HMK.out.ch hch4)
      replace HRS := hid hrs4
      replace S16 := hid hs16
      have HB1 : Hid (G4.n4 = G.n4 + 2) := by show _ = _; rw [b1, HA1.out]
      have HB2 : Hid (G4.n3 = G.n3 + dn G) := by show _ = _; rw [b2, HA2.out, HA3.out]; omega
      have HCN := hid (counts_any hrs4.v)
      clear hrs4 hch4 hs16 HFL2 b1 b2 b3 HA1 HA2 HA3 HNO
      unfold ptr at *
      gi_wp2_with (first
        | (refine ⟨trivial, (callsIn_wide.2 (HNU.out _ _)).mono ?_⟩; rintro e w' ⟨rfl, h⟩; replace h := h.symm; subst h))
      refine ⟨trivial, (callsIn_wide.2 HCN.out).mono ?_⟩
      rintro _ w8 ⟨rfl, k8⟩
      have k79 : Kp (fun _ => False) w8 (w8.alloc (.cells #[.int .i64 G4.n1, .int .i64 G4.n2, .int .i64 G4.n3, .int .i64 G4.n4] 79)) := (Kp.refl _ _).alloc _
      obtain ⟨t1, t2, t3, t4⟩ := HRS.out.tell
      have hnn := HRS.out.v.nn
      have hnu := HRS.out.u
      have hn60 := HN60.out
      replace HRS := hid ((HRS.out.kp0 k8).kp0 k79)
      replace HMK := hid ((HMK.out.ch (cch_kp k8)).ch (cch_kp k79))
      have s16 := (S16.out.kp k8 (fun h => h)).kp k79 (fun h => h)
      have y3 := s16.cell 3
      have y2 := s16.cell 2
      have yr := (H66.out.kp HRS.out.lo.kp (fun h => h)).cell 2
      simp only [List.getElem?_toArray, List.getElem?_cons_zero, List.getElem?_cons_succ] at y3 y2 yr
      have hb1 := HB1.out
      have hb2 := HB2.out
      have hdn := HDN.out
      obtain ⟨m3, hm3⟩ : ∃ m, G4.n3 = m := ⟨_, rfl⟩
      obtain ⟨m4, hm4⟩ : ∃ m, G4.n4 = m := ⟨_, rfl⟩
      obtain ⟨p3, hp3⟩ : ∃ m, G.n3 = m := ⟨_, rfl⟩
      obtain ⟨p4, hp4⟩ : ∃ m, G.n4 = m := ⟨_, rfl⟩
      obtain ⟨dd, hdd⟩ : ∃ m, dn G = m := ⟨_, rfl⟩
      simp only [hm3, hm4, hp3, hp4] at y3 y2 yr HRS HMK
      rw [hm3] at t3
      rw [hm4, hp4] at hb1
      rw [hm3, hp3, hdd] at hb2
      rw [hdd] at hdn
      rw [hm3, hm4] at hnn
      have i1 : ((m4 : Int) == (p4 : Int) + 2) = true := by simp; omega
      have i1' : decide ((m4 : Int) = (p4 : Int) + 2) = true := by simp; omega
      have i2 : (m3 : Int) - (p3 : Int) ≤ (room : Int) := by omega
      have i3 : (m3 : Int) ≤ (wn : Int) := by omega
      have i4 : (p4 : Int) ≤ 100000 := by omega
      have i5 : (m3 : Int) ≤ 100000 := by omega
      have i6 : (p3 : Int) ≤ (m3 : Int) := by omega
      have HWO := fun U => hid (works_any U)
      have HRSF := HRS
      simp only [hm3, hm4]
      clear k8 k79 t1 t2 t3 t4 hnn hnu hn60 s16 hb1 hb2 hdn HB1 HB2 HCN HDN S16 hm3 hm4 hp3 hp4 hdd
      gi_wp2_with fail
      refine ⟨trivial, (callsIn_wide.2 (HWO _).out).mono ?_⟩
      rintro _ w9 ⟨rfl, k9⟩
      replace HRS := hid (HRS.out.kp0 k9)
      replace HMK := hid (HMK.out.ch (cch_kp k9))
      have h4 := H4.out.kp HRS.out.lo.kp (fun h => h)
      have fz := h4.frozen 0
      have cz : w9.cell? ⟨X + 1, 0, none⟩ = some (.bool false) := h4.cell 0
      have HT : Hid (St 4 (w9.setCell ⟨X + 1, 0, none⟩ (.bool true)) (X + 1) #[.bool true]) := by show St 4 _ _ _; have := h4.set 0 (.bool true); simpa using this
      have kset := kp_setCell w9 (X + 1) 0 (.bool true) (fun i => i = X + 1) rfl
      have hfr := HFR.out
      have MRT : Hid (∀ D ∈ Ds, (w9.setCell ⟨X + 1, 0, none⟩ (.bool true)).heap[D]? = some (.deferred (some []))) := fun D hD => (kset.block D (Array.getElem?_eq_some_iff.1 (HMK.out.2 D hD).2.1).1 (by have := (HMK.out.2 D hD).1; omega)).trans (HMK.out.2 D hD).2.1
      have KT : Hid (Kp (fun _ => False) w (w9.setCell ⟨X + 1, 0, none⟩ (.bool true))) := kp_res (by have := HXW.out; omega) HKX.out HRS.out.lo.kp _
      clear h4 k9 kset y3 y2 yr i1 i1' i2 i3 i4 i5 i6
      gi_wp2_with fail
      refine leaves_marks Ds _ MRT.out HMK.out.1 (fun w' kk => fin6 rfl ?_ ⟨rfl, ?_⟩)
      · exact (HT.out.kp kk (fun hm => by have := (HMK.out.2 _ hm).1; omega)).cell 0
      · exact (KT.out.mono (G := fun i => i ∈ Ds) (fun _ _ h => h.elim)).trans kk (fun _ _ h => h) |>.mono (fun i hi hm => by have := (HMK.out.2 _ hm).1; have := HKX.out.size; omega)
end Go.Proofs.YtnccklbnncaeoaaGreat
