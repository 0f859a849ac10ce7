/- later: Swap of a line. -/
import Derived.Test.YtgfondgejimkkaaLb
import Derived.BigRegion
import Derived.RegionTactic
namespace Go.Proofs.Ytgfondgejimkkaa
open Go.RowKit
set_option linter.unusedVariables false
theorem set_other {W : World} {g h i j : Nat} (v : Value) (hne : ¬ h = g) : (W.setCell ⟨g, i, none⟩ v).cell? ⟨h, j, none⟩ = W.cell? ⟨h, j, none⟩ := by
  have hb := heap_setCell_other W ⟨g, i, none⟩ h v hne
  unfold World.cell?
  simp only [hb]
set_option maxHeartbeats 4000000 in
set_option maxRecDepth 100000 in
theorem swap_raw (w : World) (B g n cap i j x y : Nat) (fv : Value) (xa xn xs ya yn ys : Value) (st : St 69 w B #[.slice (some ⟨g, 0, none⟩) n cap, fv]) (hi : i < n) (hj : j < n) (hij : i ≠ j) (hn : n ≤ 9223372036854775807)
    (ci : w.cell? ⟨g, i, none⟩ = some (ptr x)) (cj : w.cell? ⟨g, j, none⟩ = some (ptr y)) (fi : ∀ k, w.frozen? ⟨g, k, none⟩ = false) (hgB : g ≠ B) (hgx : g ≠ x) (hgy : g ≠ y) (hxy : x ≠ y) (hxB : x ≠ B) (hyB : y ≠ B)
    (sx : St 77 w x #[xa, xn, xs]) (sy : St 77 w y #[ya, yn, ys]) :
    Calls Try.prog 111 #[ptr B, .int .i64 i, .int .i64 j] w fun e w' => e = .returned (.tuple #[]) ∧ ∃ W1, Kp (fun _ => False) ((w.setCell ⟨g, i, none⟩ (ptr y)).setCell ⟨g, j, none⟩ (ptr x)) W1 ∧ Kp (fun _ => False) ((W1.setCell ⟨y, 2, none⟩ (.int .i64 i)).setCell ⟨x, 2, none⟩ (.int .i64 j)) w' := by
  have hgl := block_lt_of_cell ci
  obtain ⟨v', hy'⟩ := cell?_setCell_some (w := w) (p := ⟨g, i, none⟩) (x := ptr y) (q := ⟨g, j, none⟩) cj
  have h1 := st.cell 0
  simp at h1
  have fj := fi j
  have fi0 := fi i
  clear fi
  have hne : (⟨g, j, none⟩ : Addr) ≠ ⟨g, i, none⟩ := fun e => hij (by cases e; rfl)
  have e1 : ((w.setCell ⟨g, i, none⟩ (ptr y)).setCell ⟨g, j, none⟩ (ptr x)).cell? ⟨g, i, none⟩ = some (ptr y) := by rw [World.cell?_setCell_other _ _ _ _ hne]; exact World.cell?_setCell_same _ _ _ ci
  have e2 : ((w.setCell ⟨g, i, none⟩ (ptr y)).setCell ⟨g, j, none⟩ (ptr x)).cell? ⟨g, j, none⟩ = some (ptr x) := World.cell?_setCell_same _ _ _ hy'
  have k1 : Kp (fun k => k = g) w ((w.setCell ⟨g, i, none⟩ (ptr y)).setCell ⟨g, j, none⟩ (ptr x)) := (kp_setCell w g i _ (fun k => k = g) rfl).trans (kp_setCell _ g j _ (fun k => k = g) rfl) (fun _ _ h => h)
  have E1 := hid e1
  have E2 := hid e2
  have SB := hid (st.kp k1 (Ne.symm hgB))
  have SX := hid (sx.kp k1 (Ne.symm hgx))
  have SY := hid (sy.kp k1 (Ne.symm hgy))
  clear e1 e2 k1 sx sy st
  unfold ptr at ci cj hy' ⊢
  go_enter Try.func111, Try.ntmps111
  generalize hC1 : Code.region 1 _ _ = C1
  go_wp2_with fail
  go_region
  go_wp2_with fail
  unfold ptr at E1 E2 SB SX SY
  obtain ⟨V, hV⟩ : ∃ V, V = (w.setCell ⟨g, i, none⟩ (.pointer (some ⟨y, 0, none⟩))).setCell ⟨g, j, none⟩ (.pointer (some ⟨x, 0, none⟩)) := ⟨_, rfl⟩
  rw [← hV] at E1 E2 SB SX SY ⊢
  have HV := hid hV
  clear hV
  have KW : Hid (Kp (fun _ => False) V V.drew) := (Kp.refl _ _).drew
  have c1 : V.drew.cell? ⟨g, i, none⟩ = some (.pointer (some ⟨y, 0, none⟩)) := E1.out
  have c2 : V.drew.cell? ⟨g, j, none⟩ = some (.pointer (some ⟨x, 0, none⟩)) := E2.out
  have c3 : V.drew.cell? ⟨B, 0, none⟩ = some (.slice (some ⟨g, 0, none⟩) n cap) := SB.out.cell 0
  have SY1 : Hid (St 77 V.drew y #[ya, yn, ys]) := SY.out
  have SX1 : Hid (St 77 V.drew x #[xa, xn, xs]) := SX.out
  generalize V.drew = W1 at *
  have y2 : W1.cell? ⟨y, 2, none⟩ = some ys := SY1.out.cell 2
  have fy : W1.frozen? ⟨y, 2, none⟩ = false := SY1.out.frozen 2
  have SX2 := hid (SX1.out.kp (kp_setCell W1 y 2 (.int .i64 i) (fun k => k = y) rfl) hxy)
  have x2 : (W1.setCell ⟨y, 2, none⟩ (.int .i64 i)).cell? ⟨x, 2, none⟩ = some xs := SX2.out.cell 2
  have fx : (W1.setCell ⟨y, 2, none⟩ (.int .i64 i)).frozen? ⟨x, 2, none⟩ = false := SX2.out.frozen 2
  have lx : x < W1.heap.size := SX1.out.lt
  have ly : y < W1.heap.size := SY1.out.lt
  have z1 : W1.cell? ⟨x, 2, none⟩ = some xs := SX1.out.cell 2
  have z2 : W1.frozen? ⟨x, 2, none⟩ = false := SX1.out.frozen 2
  subst hC1
  clear ci cj hy' h1 fj fi0 hgl E1 E2 SB SX SY hne hgB hgx hgy
  go_region
  all_goals (try go_wp2)
  all_goals go_end0
  all_goals exact ⟨rfl, W1, by rw [← HV.out]; exact KW.out, (Kp.refl _ _).drew⟩
theorem lsw_map (L : List Nat) (i j : Nat) : (lsw L i j).map ptr = ((L.map ptr).set i (ptr (L.getD j 0))).set j (ptr (L.getD i 0)) := by simp [lsw, List.map_set]
/-- The blocks that change when two change their slots. -/
def LnF (v : Value) (L : List Nat) (k : Nat) : Prop := v.ownBlock = some k ∨ k ∈ L
theorem LnF.perm {v : Value} {L L' : List Nat} (h : L'.Perm L) {k : Nat} (hk : LnF v L' k) : LnF v L k := hk.imp id (fun h' => h.mem_iff.1 h')
theorem swap_any (c : Nat → Rn) (w : World) (base B : Nat) (v : Value) (L : List Nat) (h : Ln c w base B v L) (i j : Nat) (hi : i < L.length) (hj : j < L.length) (hij : i ≠ j) :
    Calls Try.prog 111 #[ptr B, .int .i64 i, .int .i64 j] w fun e w' => e = .returned (.tuple #[]) ∧ Ln c w' base B v (lsw L i j) ∧ Kp (LnF v L) w w' := by
  obtain ⟨g, cap, rfl, hb, hgl, hc1, hc2, hcells, hfr⟩ := h.row (by omega)
  have hgn := h.ne g rfl
  have tx := h.tr i hi
  have ty := h.tr j hj
  have mx := gn_mem hi
  have my := gn_mem hj
  have hxy : L.getD i 0 ≠ L.getD j 0 := fun e => hij (h.inj hi hj e)
  have hxB : L.getD i 0 ≠ B := fun e => h.nb (e ▸ mx)
  have hyB : L.getD j 0 ≠ B := fun e => h.nb (e ▸ my)
  have hgx : g ≠ L.getD i 0 := fun e => hgn.2 (e ▸ mx)
  have hgy : g ≠ L.getD j 0 := fun e => hgn.2 (e ▸ my)
  refine (swap_raw w B g L.length cap i j (L.getD i 0) (L.getD j 0) (fvo B) _ _ _ _ _ _ h.st hi hj hij (by unfold maxLen at hc2; omega) (hcells i hi) (hcells j hj) hfr hgn.1 hgx hgy hxy hxB hyB tx ty).mono ?_
  rintro e w' ⟨rfl, W1, k1, k2⟩
  obtain ⟨o1, _⟩ := h.own.stored i (ptr (L.getD j 0))
  obtain ⟨o2, _⟩ := o1.stored j (ptr (L.getD i 0))
  rw [← lsw_map] at o2
  have hp := lsw_perm L i j hi hj
  have kA : Kp (fun k => k = g) w ((w.setCell ⟨g, i, none⟩ (ptr (L.getD j 0))).setCell ⟨g, j, none⟩ (ptr (L.getD i 0))) := (kp_setCell w g i _ (fun k => k = g) rfl).trans (kp_setCell _ g j _ (fun k => k = g) rfl) (fun _ _ h => h)
  have kB : Kp (fun k => k = g) w W1 := kA.trans k1 (fun _ _ h => h.elim)
  have oW : W1.ownsRow base 74 1 (.slice (some ⟨g, 0, none⟩) L.length cap) (lsw L i j).length ((lsw L i j).map ptr) := by rw [lsw_length]; exact own_kp o2 k1 (fun _ _ h => h)
  generalize hx : L.getD i 0 = x at *
  generalize hy : L.getD j 0 = y at *
  have wx : Wt c W1 x i := tx.kp kB (Ne.symm hgx)
  have wy : Wt c W1 y j := ty.kp kB (Ne.symm hgy)
  have kC : Kp (fun k => k = y ∨ k = x) W1 ((W1.setCell ⟨y, 2, none⟩ (.int .i64 i)).setCell ⟨x, 2, none⟩ (.int .i64 j)) := ((kp_setCell W1 y 2 _ (fun k => k = y) rfl).mono (fun _ _ h => .inl h)).trans (kp_setCell _ x 2 _ (fun k => k = x) rfl) (fun _ _ h => .inr h)
  have kD : Kp (fun k => k = y ∨ k = x) W1 w' := kC.trans k2 (fun _ _ h => h.elim)
  have vy : Wt c w' y i := by
    have h1 : Wt c (W1.setCell ⟨y, 2, none⟩ (.int .i64 i)) y i := St.set wy 2 (.int .i64 i)
    exact (h1.kp (kp_setCell _ x 2 _ (fun k => k = x) rfl) (Ne.symm hxy)).kp k2 (fun h => h)
  have vx : Wt c w' x j := by
    have h1 : Wt c (W1.setCell ⟨y, 2, none⟩ (.int .i64 i)) x i := wx.kp (kp_setCell _ y 2 _ (fun k => k = y) rfl) hxy
    have h2 : Wt c ((W1.setCell ⟨y, 2, none⟩ (.int .i64 i)).setCell ⟨x, 2, none⟩ (.int .i64 j)) x j := St.set h1 2 (.int .i64 j)
    exact h2.kp k2 (fun h => h)
  refine ⟨rfl, ⟨(h.st.kp kB (Ne.symm hgn.1)).kp kD (by omega), ?_, fun k hk => ?_, fun b hb => h.may b (hp.mem_iff.1 hb)⟩, ?_⟩
  · exact own_kp oW kD (fun g' e => by simp [Value.ownBlock] at e; omega)
  · rw [lsw_length] at hk
    rw [lsw_getD L i j hi hj]
    unfold sw
    split
    · rename_i e; dsimp only; rw [hy, e]; exact vy
    · split
      · rename_i e1 e; dsimp only; rw [hx, e]; exact vx
      · rename_i e1 e2
        have hkx : L.getD k 0 ≠ x := fun e => e1 (h.inj hk hi (e.trans hx.symm))
        have hky : L.getD k 0 ≠ y := fun e => e2 (h.inj hk hj (e.trans hy.symm))
        exact ((h.tr k hk).kp kB (fun e => hgn.2 (e ▸ gn_mem hk))).kp kD (by omega)
  · refine (kB.mono (G := LnF (.slice (some ⟨g, 0, none⟩) L.length cap) L) (fun k _ e => .inl (by rw [e]; rfl))).trans kD (fun k _ e => .inr ?_)
    rcases e with rfl | rfl
    · exact my
    · exact mx
end Go.Proofs.Ytgfondgejimkkaa
