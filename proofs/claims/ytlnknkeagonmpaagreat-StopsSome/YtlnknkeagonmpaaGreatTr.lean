/- stops: tried, Some. -/
import Derived.Test.YtlnknkeagonmpaaGreatSd
import Derived.Test.YtlnknkeagonmpaaGreatSt1
namespace Go.Proofs.YtlnknkeagonmpaaGreat
open Go.RowKit

/-- A way for trying. -/
def wy (seed P k : Nat) (i : Nat) : Int := if k < 2 then (k : Int) else ((bit (sd seed ((k - 2) * P + i + 1)) : Nat) : Int)
def wrow (Gs : List Nat) (P n : Nat) : List Value := Gs.map (fun G => Value.slice (some ⟨G, 0, none⟩) P P) ++ List.replicate (n - Gs.length) (.slice none 0 0)
theorem wrow_len (Gs : List Nat) (P n : Nat) (h : Gs.length ≤ n) : (wrow Gs P n).length = n := by simp [wrow]; omega
theorem wrow_set (Gs : List Nat) (P n G : Nat) (h : Gs.length < n) : (wrow Gs P n).set Gs.length (.slice (some ⟨G, 0, none⟩) P P) = wrow (Gs ++ [G]) P n := by
  unfold wrow
  rw [List.set_append, if_neg (by simp)]
  simp only [List.length_map, Nat.sub_self, List.map_append, List.map_cons, List.map_nil, List.append_assoc, List.length_append, List.length_cons, List.length_nil]
  rw [show n - Gs.length = (n - (Gs.length + (0 + 1))) + 1 by omega, List.replicate_succ]
  rfl
theorem wrow_at (Gs : List Nat) (P n : Nat) (h : Gs.length < n) : (wrow Gs P n)[Gs.length]? = some (.slice none 0 0) := by
  unfold wrow
  rw [List.getElem?_append_right (by simp), List.length_map, Nat.sub_self, List.getElem?_replicate, if_pos (by omega)]
/-- Ways that were made, and the drawer's number. -/
structure Tw (base L B P n seed : Nat) (Gs : List Nat) (w : World) : Prop where
  row : St 40 w L (wrow Gs P n).toArray
  box : St 47 w B #[.int .u64 (sd seed ((Gs.length - 2) * P))]
  ws : ∀ j, j < Gs.length → Rw .i64 3 w (Gs.getD j 0) (lst P (wy seed P j))
  nl : ∀ G ∈ Gs, base ≤ G ∧ G ≠ L ∧ G ≠ B
  le : Gs.length ≤ n
theorem getD_memN (Gs : List Nat) (j : Nat) (h : j < Gs.length) : Gs.getD j 0 ∈ Gs := by
  rw [List.getD_eq_getElem?_getD, List.getElem?_eq_getElem h]
  exact List.getElem_mem h
theorem Tw.next {base L B P n seed G : Nat} {Gs : List Nat} {w W : World} (h : Tw base L B P n seed Gs w) (hlt : Gs.length < n) (hne : L ≠ B) (hb : base ≤ w.heap.size) (k : Kp (fun i => i = B) w W) (hbox : St 47 W B #[.int .u64 (sd seed ((Gs.length + 1 - 2) * P))]) (hG : w.heap.size ≤ G) (hr : Rw .i64 3 W G (lst P (wy seed P Gs.length))) :
    Tw base L B P n seed (Gs ++ [G]) (W.setCell ⟨L, Gs.length, none⟩ (.slice (some ⟨G, 0, none⟩) P P)) := by
  have kk := kp_setCell W L Gs.length (.slice (some ⟨G, 0, none⟩) P P) (fun i => i = L) rfl
  have hLl := h.row.lt
  have hBl := h.box.lt
  refine ⟨?_, ?_, fun j hj => ?_, fun g hg => ?_, by simp; omega⟩
  · have := (h.row.kp k hne).set Gs.length (.slice (some ⟨G, 0, none⟩) P P)
    rw [← wrow_set Gs P n G hlt]
    simpa using this
  · rw [List.length_append, List.length_singleton]
    exact hbox.kp kk (fun e => hne e.symm)
  · rw [List.length_append, List.length_singleton] at hj
    by_cases h1 : j < Gs.length
    · have h2 := h.nl _ (getD_memN Gs j h1)
      rw [show (Gs ++ [G]).getD j 0 = Gs.getD j 0 by simp [List.getD, List.getElem?_append_left h1]]
      exact Rw.kp (Rw.kp (h.ws j h1) k h2.2.2) kk h2.2.1
    · obtain rfl : j = Gs.length := by omega
      rw [show (Gs ++ [G]).getD Gs.length 0 = G by simp [List.getD]]
      exact Rw.kp hr kk (by omega)
  · rcases List.mem_append.1 hg with h1 | h1
    · exact h.nl g h1
    · rw [List.mem_singleton.1 h1]
      exact ⟨by omega, by omega, by omega⟩
theorem info40 : (Tryz.prog.info? 40).map (fun i => (i.zero, i.size, i.bytes)) = some (some (.slice none 0 0), 1, 24) := by kernel_rfl
theorem made_nil (n : Nat) : madeCells (Value.slice none 0 0).cells (n * 1) = (wrow [] 0 n).toArray := by
  apply Array.ext
  · simp [madeCells, wrow]
  · intro i h1 h2
    simp [madeCells, wrow, Value.cells, Nat.mod_one]
theorem wpList_make_ws {w : World} {ops : Array Oper} {rest : List Oper} {o : Oper} {a : Act} {Q : Exit → Act → World → Prop} (hgd : o.guard = none) (l c : Operand) (ho : o.op = Op.makeSlice 48 l c)
    (n : Nat) (hl : a.eval l = .int .i64 n) (hc : a.eval c = .int .i64 n) (hn : n ≤ 1000000000)
    (h : wpList Tryz.prog ops Q rest (a.put o.dst (.slice (some ⟨w.heap.size, 0, none⟩) n n)) (w.alloc (.cells (wrow [] 0 n).toArray 40))) : wpList Tryz.prog ops Q (o :: rest) a w := by
  obtain ⟨i0, hi, hz0, hz1, hz2⟩ := info_parts info40
  refine wpList_plain hgd fun K hK => ?_
  have hr := run_make (P := Tryz.prog) w 48 40 i0 (.slice none 0 0) Tryz.underlying48 hi hz0 .i64 .i64 n n (by omega) (Int.le_refl _) (by rw [hz2]; omega) (by omega)
  rw [hz1, Int.toNat_natCast, made_nil] at hr
  unfold Oper.wp
  simp only [execOp, ho, hl, hc, hr, Sem.run_bind, Sem.run_pure, Result.andThen_ok]
  exact hK _ _ h
/-- What Some tells. -/
def Told (w w' : World) (P n seed : Nat) (v : Value) : Prop := ∃ L Gs, v = .slice (some ⟨L, 0, none⟩) n n ∧ (Gs : List Nat).length = n ∧ St 40 w' L (wrow Gs P n).toArray ∧ (∀ j, j < n → Rw .i64 3 w' (Gs.getD j 0) (lst P (wy seed P j))) ∧ Kp (fun _ => False) w w'
set_option maxRecDepth 100000 in
set_option maxHeartbeats 4000000 in
theorem tried_any (P seed n : Nat) (w : World) (hP : P ≤ 1000000000) (hn : n ≤ 1000) :
    Calls Tryz.prog 46 #[.int .i64 P, .int .u64 seed, .int .i64 n] w fun e w' => ∃ v, e = .returned v ∧ Told w w' P n seed v := by
  have hmix : Tryz.prog.follows .mixedOrders = true := by kernel_rfl
  go_enter Tryz.func46, Tryz.ntmps46
  go_wp2_with fail
  refine (drawer_any seed w).mono ?_
  rintro _ w1 ⟨rfl, hw1⟩
  have s1 : St 47 w1 w.heap.size #[.int .u64 seed] := by rw [hw1]; exact St.new 47 w _
  have k1 : Kp (fun _ => False) w w1 := by rw [hw1]; exact (Kp.refl _ _).alloc _
  have z1 : w1.heap.size = w.heap.size + 1 := by rw [hw1]; simp
  clear hw1
  have HS1 := hid s1
  have HK1 := hid k1
  clear s1 k1
  go_wp2_with (first | (at_make; refine wpList_make_ws rfl _ _ rfl n rfl rfl (by omega) ?_))
  have s2 := St.new 40 w1 (wrow [] 0 n).toArray
  have k2 : Kp (fun _ => False) w1 (w1.alloc (.cells (wrow [] 0 n).toArray 40)) := (Kp.refl _ _).alloc _
  have z2 : (w1.alloc (.cells (wrow [] 0 n).toArray 40)).heap.size = w1.heap.size + 1 := by simp
  generalize w1.alloc (.cells (wrow [] 0 n).toArray 40) = w2 at s2 k2 z2 ⊢
  rw [z1] at s2 z2
  have HT : Hid (Tw (w.heap.size + 2) (w.heap.size + 1) w.heap.size P n seed [] w2) := ⟨s2, by have := HS1.out.kp k2 (fun h => h); rw [show ([] : List Nat).length - 2 = 0 from rfl, Nat.zero_mul]; exact this, fun j hj => by simp at hj, fun G hG => by simp at hG, Nat.zero_le _⟩
  have HK2 := hid (HK1.out.trans k2 (fun _ _ h => h))
  clear s2 k2 HS1 HK1 z1
  go_wp2_with fail
  go_loopw [9, 10, 17] (fun _ _ iv wr => ∃ Gs : List Nat, iv = .int .i64 (Gs.length : Nat) ∧ Tw (w.heap.size + 2) (w.heap.size + 1) w.heap.size P n seed Gs wr ∧ Kp (fun _ => False) w wr ∧ w.heap.size + 2 ≤ wr.heap.size) (fun _ _ iv _ => n - (intOf iv).toNat)
  case atStart => exact ⟨[], rfl, HT.out, HK2.out, by omega⟩
  case round =>
    clear HT HK2 z2
    obtain ⟨Gs, rfl, hT, hkp, hz⟩ := hrel
    have HT := hid hT
    have HKP := hid hkp
    have hle := hT.le
    have hbl := hT.box.lt
    have hll := hT.row.lt
    clear hT hkp
    obtain ⟨k, hkk⟩ : ∃ k, k = Gs.length := ⟨_, rfl⟩
    have HKL := hid hkk
    rw [← hkk] at hle ⊢
    clear hkk
    by_cases hlt : k < n
    · have hli : (k : Int) < (n : Int) := by omega
      have sB := St.new 3 wr #[.int .i64 (k : Int)]
      have kB : Kp (fun _ => False) wr (wr.alloc (.cells #[.int .i64 (k : Int)] 3)) := (Kp.refl _ _).alloc _
      have zB : (wr.alloc (.cells #[.int .i64 (k : Int)] 3)).heap.size = wr.heap.size + 1 := by simp
      generalize hBi : wr.heap.size = Bi at *
      by_cases h2 : k < 2
      · have h2i : (k : Int) < 2 := by omega
        go_wp2_with fail
        generalize wr.alloc (.cells #[.int .i64 (k : Int)] 3) = W at sB kB zB ⊢
        have y0 : W.cell? ⟨Bi, 0, none⟩ = some (.int .i64 (k : Int)) := sB.cell 0
        refine wp_region_G (fun w' => w'.cell? ⟨Bi, 0, none⟩ = some (.int .i64 (k : Int))) [6] hmix y0 (fun h0 => ?_)
        refine wpAnyG_takeW (i := 0) (v := .slice (some ⟨w.heap.size + 1, 0, none⟩) n n) rfl (by kernel_rfl) (fun _ _ _ h => h) (Or.inl ⟨by rfl, fun w _ => by go_simp⟩) ?_
        refine wpAnyG_take (i := 1) (v := .int .i64 (k : Int)) rfl (by kernel_rfl) (fun _ _ _ h => h) (Or.inl ⟨by rfl, fun w hSw => by (try dsimp only at hSw); go_simp⟩) h0 ?_
        refine wpAnyG_takeW (i := 2) (v := .int .i64 (P : Int)) rfl (by kernel_rfl) (fun _ _ _ h => h) (Or.inl ⟨by rfl, fun w _ => by go_simp⟩) ?_
        refine wpAnyG_takeW (i := 3) (v := .func (.func 73) #[] #[.pointer (some ⟨Bi, 0, none⟩)]) rfl (by kernel_rfl) (fun _ _ _ h => h) (Or.inl ⟨by rfl, fun w _ => by go_simp⟩) ?_
        refine wpAnyG_one (i := 4) (by kernel_rfl) rfl (fun K hK => ?_)
        go_simp
        refine (filled_i Bi P (k : Int) W.drew hP sB).mono ?_
        rintro _ w6 ⟨G, rfl, hG, hr, s6, k6⟩
        have kA : Kp (fun i => i = w.heap.size) wr w6 := (kB.drew.mono (G := fun i => i = w.heap.size) (fun _ _ h => h.elim)).trans k6 (fun i h1 h2 => by omega)
        have hbox : St 47 w6 w.heap.size #[.int .u64 (sd seed ((Gs.length + 1 - 2) * P))] := by
          have h1 : Kp (fun i => i = Bi) wr w6 := (kB.drew.mono (G := fun i => i = Bi) (fun _ _ h => h.elim)).trans k6 (fun _ _ h => h)
          have h3 := HT.out.box.kp h1 (by omega)
          rw [show (Gs.length - 2) * P = (Gs.length + 1 - 2) * P by rw [← HKL.out, show k - 2 = 0 by omega, show k + 1 - 2 = 0 by omega]] at h3
          exact h3
        have hrw : Rw .i64 3 w6 G (lst P (wy seed P Gs.length)) := by
          rw [← HKL.out, lst_ext (fun i hi => ?_)]
          · exact hr
          · dsimp only [wy]; rw [if_pos h2]
        have hz6 := kA.size
        have hG2 : wr.heap.size ≤ G := by have : W.heap.size ≤ G := hG; omega
        have hT6 := HT.out.next (by rw [← HKL.out]; exact hlt) (by omega) (by omega) kA hbox hG2 hrw
        have hrow6 := HT.out.row.kp kA (by omega)
        rw [← HKL.out] at hT6
        go_wp2_with fail
        refine hK.out _ _ (fun _ _ => s6.cell 0) ?_
        clear hK K h0
        refine wpAnyG_takeW (i := 5) (v := .pointer (some ⟨w.heap.size + 1, k, none⟩)) rfl (by kernel_rfl) (fun _ _ _ h => h) (Or.inl ⟨by rfl, fun w _ => by go_simp⟩) ?_
        refine wpAnyG_one (i := 6) (by kernel_rfl) rfl (fun K hK => ?_)
        have yc : w6.cell? ⟨w.heap.size + 1, k, none⟩ = some (.slice none 0 0) := by
          rw [hrow6.cell k, HKL.out, List.getElem?_toArray]
          exact wrow_at Gs P n (by rw [← HKL.out]; exact hlt)
        have yf := hrow6.frozen k
        have yl := hrow6.lt
        go_simp
        refine hK.out _ _ (fun h => absurd h (by decide)) ?_
        clear hK K
        refine wpAnyG_done (by kernel_rfl) ?_ _
        have HT6 := hid hT6
        have K6 : Hid (Kp (fun _ => False) w (w6.setCell ⟨w.heap.size + 1, k, none⟩ (.slice (some ⟨G, 0, none⟩) P P))) := (HKP.out.trans kA (fun i h1 h2 => by omega)).trans (kp_setCell _ _ _ _ (fun i => i = w.heap.size + 1) rfl) (fun i h1 h2 => by omega)
        clear hT6 hrow6 yc yf yl hbox hrw hr kA
        go_wp2_with fail
        refine ⟨⟨Gs ++ [G], by rw [List.length_append, List.length_singleton, ← HKL.out]; simp, HT6.out, K6.out, by have := K6.out.size; have := (kp_setCell w6 (w.heap.size + 1) k (.slice (some ⟨G, 0, none⟩) P P) (fun _ => True) trivial).size; omega⟩, by simp only [intOf]; omega⟩
      · have h2i : ¬ (k : Int) < 2 := by omega
        go_wp2_with fail
        generalize wr.alloc (.cells #[.int .i64 (k : Int)] 3) = W at sB kB zB ⊢
        have y0 : W.cell? ⟨Bi, 0, none⟩ = some (.int .i64 (k : Int)) := sB.cell 0
        refine wp_region_G (fun w' => w'.cell? ⟨Bi, 0, none⟩ = some (.int .i64 (k : Int))) [6] hmix y0 (fun h0 => ?_)
        refine wpAnyG_takeW (i := 0) (v := .slice (some ⟨w.heap.size + 1, 0, none⟩) n n) rfl (by kernel_rfl) (fun _ _ _ h => h) (Or.inl ⟨by rfl, fun w _ => by go_simp⟩) ?_
        refine wpAnyG_take (i := 1) (v := .int .i64 (k : Int)) rfl (by kernel_rfl) (fun _ _ _ h => h) (Or.inl ⟨by rfl, fun w hSw => by (try dsimp only at hSw); go_simp⟩) h0 ?_
        refine wpAnyG_takeW (i := 2) (v := .int .i64 (P : Int)) rfl (by kernel_rfl) (fun _ _ _ h => h) (Or.inl ⟨by rfl, fun w _ => by go_simp⟩) ?_
        refine wpAnyG_takeW (i := 3) (v := .func (.func 91) #[] #[.pointer (some ⟨w.heap.size, 0, none⟩)]) rfl (by kernel_rfl) (fun _ _ _ h => h) (Or.inl ⟨by rfl, fun w _ => by go_simp⟩) ?_
        refine wpAnyG_one (i := 4) (by kernel_rfl) rfl (fun K hK => ?_)
        go_simp
        have sDD : St 47 W.drew w.heap.size #[.int .u64 (sd seed ((k - 2) * P))] := by
          have := HT.out.box.kp kB (fun h => h)
          rw [← HKL.out] at this
          exact this
        refine (filled_draw w.heap.size P seed ((k - 2) * P) W.drew hP sDD).mono ?_
        rintro _ w6 ⟨G, rfl, hG, hr, hb6, k6⟩
        have kA : Kp (fun i => i = w.heap.size) wr w6 := (kB.drew.mono (G := fun i => i = w.heap.size) (fun _ _ h => h.elim)).trans k6 (fun _ _ h => h)
        have hbox : St 47 w6 w.heap.size #[.int .u64 (sd seed ((Gs.length + 1 - 2) * P))] := by
          rw [show (Gs.length + 1 - 2) * P = (k - 2) * P + P by rw [← HKL.out, show k + 1 - 2 = (k - 2) + 1 by omega, Nat.add_mul, Nat.one_mul]]
          exact hb6
        have hrw : Rw .i64 3 w6 G (lst P (wy seed P Gs.length)) := by
          rw [← HKL.out, lst_ext (fun i hi => ?_)]
          · exact hr
          · dsimp only [wy]; rw [if_neg h2]
        have hz6 := kA.size
        have hG2 : wr.heap.size ≤ G := by have : W.heap.size ≤ G := hG; omega
        have hT6 := HT.out.next (by rw [← HKL.out]; exact hlt) (by omega) (by omega) kA hbox hG2 hrw
        have hrow6 := HT.out.row.kp kA (by omega)
        rw [← HKL.out] at hT6
        go_wp2_with fail
        refine hK.out _ _ (fun _ _ => kp_cell k6 (show W.drew.cell? ⟨Bi, 0, none⟩ = _ from y0) (fun e => by omega)) ?_
        clear hK K h0
        refine wpAnyG_takeW (i := 5) (v := .pointer (some ⟨w.heap.size + 1, k, none⟩)) rfl (by kernel_rfl) (fun _ _ _ h => h) (Or.inl ⟨by rfl, fun w _ => by go_simp⟩) ?_
        refine wpAnyG_one (i := 6) (by kernel_rfl) rfl (fun K hK => ?_)
        have yc : w6.cell? ⟨w.heap.size + 1, k, none⟩ = some (.slice none 0 0) := by
          rw [hrow6.cell k, HKL.out, List.getElem?_toArray]
          exact wrow_at Gs P n (by rw [← HKL.out]; exact hlt)
        have yf := hrow6.frozen k
        have yl := hrow6.lt
        go_simp
        refine hK.out _ _ (fun h => absurd h (by decide)) ?_
        clear hK K
        refine wpAnyG_done (by kernel_rfl) ?_ _
        have HT6 := hid hT6
        have K6 : Hid (Kp (fun _ => False) w (w6.setCell ⟨w.heap.size + 1, k, none⟩ (.slice (some ⟨G, 0, none⟩) P P))) := (HKP.out.trans kA (fun i h1 h2 => by omega)).trans (kp_setCell _ _ _ _ (fun i => i = w.heap.size + 1) rfl) (fun i h1 h2 => by omega)
        clear hT6 hrow6 yc yf yl hbox hrw hr kA
        go_wp2_with fail
        refine ⟨⟨Gs ++ [G], by rw [List.length_append, List.length_singleton, ← HKL.out]; simp, HT6.out, K6.out, by have := K6.out.size; have := (kp_setCell w6 (w.heap.size + 1) k (.slice (some ⟨G, 0, none⟩) P P) (fun _ => True) trivial).size; omega⟩, by simp only [intOf]; omega⟩
    · have hli : ¬ (k : Int) < (n : Int) := by omega
      go_wp2_with fail
      go_ret
      have hkn : k = n := by omega
      refine ⟨_, rfl, w.heap.size + 1, Gs, rfl, by rw [← HKL.out, hkn], HT.out.row, fun j hj => HT.out.ws j (by rw [← HKL.out]; omega), HKP.out⟩
end Go.Proofs.YtlnknkeagonmpaaGreat
