import Derived.Test.YtnccklbnncaeoaaGreatJar
import Derived.BigRegion
import Derived.RegionTactic
/- later: Swap of a line. -/
namespace Go.Proofs.YtnccklbnncaeoaaGreat
open Go.RowKit
set_option linter.unusedVariables false
set_option maxHeartbeats 4000000 in
set_option maxRecDepth 100000 in
theorem swap_raw (w : World) (B g n cap i j x y : Nat) (xa xb xc xd xe xs xf xg ya yb yc yd ye ys yf yg : Value) (st : St 110 w B #[.slice (some ⟨g, 0, none⟩) n cap]) (hi : i < n) (hj : j < n) (hij : i ≠ j) (hn : n ≤ 9223372036854775807)
    (ci : w.cell? ⟨g, i, none⟩ = some (ptr x)) (cj : w.cell? ⟨g, j, none⟩ = some (ptr y)) (fi : ∀ k, w.frozen? ⟨g, k, none⟩ = false) (hgB : g ≠ B) (hgx : g ≠ x) (hgy : g ≠ y) (hxy : x ≠ y) (hxB : x ≠ B) (hyB : y ≠ B)
    (sx : St 142 w x #[xa, xb, xc, xd, xe, xs, xf, xg]) (sy : St 142 w y #[ya, yb, yc, yd, ye, ys, yf, yg]) :
    Calls Tryz.prog 245 #[ptr B, .int .i64 i, .int .i64 j] w fun e w' => e = .returned (.tuple #[]) ∧ ∃ W1, Kp (fun _ => False) ((w.setCell ⟨g, i, none⟩ (ptr y)).setCell ⟨g, j, none⟩ (ptr x)) W1 ∧ Kp (fun _ => False) ((W1.setCell ⟨y, 5, none⟩ (.int .i64 i)).setCell ⟨x, 5, none⟩ (.int .i64 j)) w' := by
  have hgl := block_lt_of_cell ci
  obtain ⟨v', hy'⟩ := cell?_setCell_some (w := w) (p := ⟨g, i, none⟩) (x := ptr y) (q := ⟨g, j, none⟩) cj
  have h1 := st.cell 0
  simp at h1
  have fj := fi j
  have fi0 := fi i
  clear fi
  have hne : (⟨g, j, none⟩ : Addr) ≠ ⟨g, i, none⟩ := fun e => hij (by cases e; rfl)
  have e1 : ((w.setCell ⟨g, i, none⟩ (ptr y)).setCell ⟨g, j, none⟩ (ptr x)).cell? ⟨g, i, none⟩ = some (ptr y) := by rw [World.cell?_setCell_other _ _ _ _ hne]; exact World.cell?_setCell_same _ _ _ ci
  have e2 : ((w.setCell ⟨g, i, none⟩ (ptr y)).setCell ⟨g, j, none⟩ (ptr x)).cell? ⟨g, j, none⟩ = some (ptr x) := World.cell?_setCell_same _ _ _ hy'
  have k1 : Kp (fun k => k = g) w ((w.setCell ⟨g, i, none⟩ (ptr y)).setCell ⟨g, j, none⟩ (ptr x)) := (kp_setCell w g i _ (fun k => k = g) rfl).trans (kp_setCell _ g j _ (fun k => k = g) rfl) (fun _ _ h => h)
  have E1 := hid e1
  have E2 := hid e2
  have SB := hid (st.kp k1 (Ne.symm hgB))
  have SX := hid (sx.kp k1 (Ne.symm hgx))
  have SY := hid (sy.kp k1 (Ne.symm hgy))
  clear e1 e2 k1 sx sy st
  unfold ptr at ci cj hy' ⊢
  go_enter Tryz.func245, Tryz.ntmps245
  generalize hC1 : Code.region 1 _ _ = C1
  go_wp2_with fail
  go_region
  go_wp2_with fail
  unfold ptr at E1 E2 SB SX SY
  obtain ⟨V, hV⟩ : ∃ V, V = (w.setCell ⟨g, i, none⟩ (.pointer (some ⟨y, 0, none⟩))).setCell ⟨g, j, none⟩ (.pointer (some ⟨x, 0, none⟩)) := ⟨_, rfl⟩
  rw [← hV] at E1 E2 SB SX SY ⊢
  have HV := hid hV
  clear hV
  have KW : Hid (Kp (fun _ => False) V V.drew) := (Kp.refl _ _).drew
  have c1 : V.drew.cell? ⟨g, i, none⟩ = some (.pointer (some ⟨y, 0, none⟩)) := E1.out
  have c2 : V.drew.cell? ⟨g, j, none⟩ = some (.pointer (some ⟨x, 0, none⟩)) := E2.out
  have c3 : V.drew.cell? ⟨B, 0, none⟩ = some (.slice (some ⟨g, 0, none⟩) n cap) := SB.out.cell 0
  have SY1 : Hid (St 142 V.drew y #[ya, yb, yc, yd, ye, ys, yf, yg]) := SY.out
  have SX1 : Hid (St 142 V.drew x #[xa, xb, xc, xd, xe, xs, xf, xg]) := SX.out
  generalize V.drew = W1 at *
  have y2 : W1.cell? ⟨y, 5, none⟩ = some ys := SY1.out.cell 5
  have fy : W1.frozen? ⟨y, 5, none⟩ = false := SY1.out.frozen 5
  have SX2 := hid (SX1.out.kp (kp_setCell W1 y 5 (.int .i64 i) (fun k => k = y) rfl) hxy)
  have x2 : (W1.setCell ⟨y, 5, none⟩ (.int .i64 i)).cell? ⟨x, 5, none⟩ = some xs := SX2.out.cell 5
  have fx : (W1.setCell ⟨y, 5, none⟩ (.int .i64 i)).frozen? ⟨x, 5, none⟩ = false := SX2.out.frozen 5
  have lx : x < W1.heap.size := SX1.out.lt
  have ly : y < W1.heap.size := SY1.out.lt
  have z1 : W1.cell? ⟨x, 5, none⟩ = some xs := SX1.out.cell 5
  have z2 : W1.frozen? ⟨x, 5, none⟩ = false := SX1.out.frozen 5
  subst hC1
  clear ci cj hy' h1 fj fi0 hgl E1 E2 SB SX SY hne hgB hgx hgy
  go_region
  all_goals (try go_wp2)
  all_goals go_end0
  all_goals exact ⟨rfl, W1, by rw [← HV.out]; exact KW.out, (Kp.refl _ _).drew⟩
theorem lsw_map (L : List Nat) (i j : Nat) : (lsw L i j).map ptr = ((L.map ptr).set i (ptr (L.getD j 0))).set j (ptr (L.getD i 0)) := by simp [lsw, List.map_set]
/-- The blocks that change when two change their slots. -/
def LnF (v : Value) (L : List Nat) (k : Nat) : Prop := v.ownBlock = some k ∨ k ∈ L
theorem LnF.perm {v : Value} {L L' : List Nat} (h : L'.Perm L) {k : Nat} (hk : LnF v L' k) : LnF v L k := hk.imp id (fun h' => h.mem_iff.1 h')
theorem swap_any (c : Nat → Pc) (w : World) (base B : Nat) (v : Value) (L : List Nat) (h : Ln c w base B v L) (i j : Nat) (hi : i < L.length) (hj : j < L.length) (hij : i ≠ j) :
    Calls Tryz.prog 245 #[ptr B, .int .i64 i, .int .i64 j] w fun e w' => e = .returned (.tuple #[]) ∧ Ln c w' base B v (lsw L i j) ∧ Kp (LnF v L) w w' := by
  obtain ⟨g, cap, rfl, hb, hgl, hc1, hc2, hcells, hfr⟩ := h.row (by omega)
  have hgn := h.ne g rfl
  have tx := h.tr i hi
  have ty := h.tr j hj
  have mx := gn_mem hi
  have my := gn_mem hj
  have hxy : L.getD i 0 ≠ L.getD j 0 := fun e => hij (h.inj hi hj e)
  have hxB : L.getD i 0 ≠ B := fun e => h.nb (e ▸ mx)
  have hyB : L.getD j 0 ≠ B := fun e => h.nb (e ▸ my)
  have hgx : g ≠ L.getD i 0 := fun e => hgn.2 (e ▸ mx)
  have hgy : g ≠ L.getD j 0 := fun e => hgn.2 (e ▸ my)
  refine (swap_raw w B g L.length cap i j (L.getD i 0) (L.getD j 0) _ _ _ _ _ _ _ _ _ _ _ _ _ _ _ _ h.st hi hj hij (by unfold maxLen at hc2; omega) (hcells i hi) (hcells j hj) hfr hgn.1 hgx hgy hxy hxB hyB tx ty).mono ?_
  rintro e w' ⟨rfl, W1, k1, k2⟩
  obtain ⟨o1, _⟩ := h.own.stored i (ptr (L.getD j 0))
  obtain ⟨o2, _⟩ := o1.stored j (ptr (L.getD i 0))
  rw [← lsw_map] at o2
  have hp := lsw_perm L i j hi hj
  have kA : Kp (fun k => k = g) w ((w.setCell ⟨g, i, none⟩ (ptr (L.getD j 0))).setCell ⟨g, j, none⟩ (ptr (L.getD i 0))) := (kp_setCell w g i _ (fun k => k = g) rfl).trans (kp_setCell _ g j _ (fun k => k = g) rfl) (fun _ _ h => h)
  have kB : Kp (fun k => k = g) w W1 := kA.trans k1 (fun _ _ h => h.elim)
  have oW : W1.ownsRow base 138 1 (.slice (some ⟨g, 0, none⟩) L.length cap) (lsw L i j).length ((lsw L i j).map ptr) := by rw [lsw_length]; exact own_kp o2 k1 (fun _ _ h => h)
  generalize hx : L.getD i 0 = x at *
  generalize hy : L.getD j 0 = y at *
  have wx : Wt c W1 x i := tx.kp kB (Ne.symm hgx)
  have wy : Wt c W1 y j := ty.kp kB (Ne.symm hgy)
  have kC : Kp (fun k => k = y ∨ k = x) W1 ((W1.setCell ⟨y, 5, none⟩ (.int .i64 i)).setCell ⟨x, 5, none⟩ (.int .i64 j)) := ((kp_setCell W1 y 5 _ (fun k => k = y) rfl).mono (fun _ _ h => .inl h)).trans (kp_setCell _ x 5 _ (fun k => k = x) rfl) (fun _ _ h => .inr h)
  have kD : Kp (fun k => k = y ∨ k = x) W1 w' := kC.trans k2 (fun _ _ h => h.elim)
  have vy : Wt c w' y i := by
    have h1 : Wt c (W1.setCell ⟨y, 5, none⟩ (.int .i64 i)) y i := St.set wy 5 (.int .i64 i)
    exact (h1.kp (kp_setCell _ x 5 _ (fun k => k = x) rfl) (Ne.symm hxy)).kp k2 (fun h => h)
  have vx : Wt c w' x j := by
    have h1 : Wt c (W1.setCell ⟨y, 5, none⟩ (.int .i64 i)) x i := wx.kp (kp_setCell _ y 5 _ (fun k => k = y) rfl) hxy
    have h2 : Wt c ((W1.setCell ⟨y, 5, none⟩ (.int .i64 i)).setCell ⟨x, 5, none⟩ (.int .i64 j)) x j := St.set h1 5 (.int .i64 j)
    exact h2.kp k2 (fun h => h)
  refine ⟨rfl, ⟨(h.st.kp kB (Ne.symm hgn.1)).kp kD (by omega), ?_, fun k hk => ?_, fun b hb => h.may b (hp.mem_iff.1 hb)⟩, ?_⟩
  · exact own_kp oW kD (fun g' e => by simp [Value.ownBlock] at e; omega)
  · rw [lsw_length] at hk
    rw [lsw_getD L i j hi hj]
    unfold sw
    split
    · rename_i e; dsimp only; rw [hy, e]; exact vy
    · split
      · rename_i e1 e; dsimp only; rw [hx, e]; exact vx
      · rename_i e1 e2
        have hkx : L.getD k 0 ≠ x := fun e => e1 (h.inj hk hi (e.trans hx.symm))
        have hky : L.getD k 0 ≠ y := fun e => e2 (h.inj hk hj (e.trans hy.symm))
        exact ((h.tr k hk).kp kB (fun e => hgn.2 (e ▸ gn_mem hk))).kp kD (by omega)
  · refine (kB.mono (G := LnF (.slice (some ⟨g, 0, none⟩) L.length cap) L) (fun k _ e => .inl (by rw [e]; rfl))).trans kD (fun k _ e => .inr ?_)
    rcases e with rfl | rfl
    · exact my
    · exact mx
end Go.Proofs.YtnccklbnncaeoaaGreat
/- cache: what one change leaves of a cache in memory. -/
namespace Go.Proofs.YtnccklbnncaeoaaGreat
open Go.RowKit
set_option linter.unusedVariables false
/-- What kind of block. -/
def tag (w : World) (i : Nat) : Nat := match w.heap[i]? with
  | some (.cells _ t _) => t + 1
  | some (.map _ _) => 0
  | _ => 1
theorem St.tag {t : TypeId} {w : World} {b : Nat} {cs : Array Value} (h : St t w b cs) : tag w b = t + 1 := by
  unfold St at h
  unfold YtnccklbnncaeoaaGreat.tag
  rw [h]
theorem Wt.tag {c : Nat → Pc} {w : World} {b s : Nat} (h : Wt c w b s) : tag w b = 143 := St.tag h
theorem Mn.tag {c : Nat → Pc} {w : World} {m : Nat} {L : List Nat} (h : Mn c w m L) : tag w m = 0 := by
  obtain ⟨es, q, h1, h2⟩ := h
  unfold YtnccklbnncaeoaaGreat.tag
  rw [h1.1]
theorem own_tag {w : World} {base n : Nat} {v : Value} {xs : List Value} {t : TypeId} {g : Nat} (h : w.ownsRow base t 1 v n xs) (e : v.ownBlock = some g) : tag w g = t + 1 := by
  obtain ⟨cur, h1, _⟩ := ownb h e
  unfold tag
  rw [h1]
theorem rw_tag {κ : IntKind} {t : TypeId} {w : World} {g : Nat} {L : List Int} (h : Rw κ t w g L) : tag w g = t + 1 := by
  unfold Rw at h
  unfold tag
  rw [h]
theorem tag_ne {w : World} {i j m n : Nat} (hi : tag w i = m) (hj : tag w j = n) (h : m ≠ n) : i ≠ j := fun e => h (by rw [← hi, ← hj, e])
def upd {α : Type} (f : Nat → α) (b : Nat) (x : α) : Nat → α := fun a => if a = b then x else f a
theorem upd_same {α : Type} (f : Nat → α) (b : Nat) (x : α) : upd f b x b = x := if_pos rfl
theorem upd_other {α : Type} (f : Nat → α) {a b : Nat} (x : α) (h : a ≠ b) : upd f b x a = f a := if_neg h
theorem upd_self {α : Type} (f : Nat → α) (b : Nat) : upd f b (f b) = f := by
  funext a
  unfold upd
  split
  · rename_i h; rw [h]
  · rfl
section
variable {S : ByteArray} {g bits room Q : Nat} {G : Gc} {w : World}
theorem Cm.pt (h : Cm S g bits room Q G w) {b : Nat} (hb : b ∈ G.B) : tag w b = 143 := by
  obtain ⟨s, hs⟩ := (h.pg b hb).wt
  exact hs.tag
theorem Cm.yt (h : Cm S g bits room Q G w) {b i : Nat} {zs : List Int} (hb : b ∈ G.B) (e : G.y b = some (i, zs)) : tag w i = 6 := by
  have := (h.pg b hb).ys
  rw [e] at this
  exact rw_tag this.2
/-- A page's cells are others now. -/
theorem Cm.page (h : Cm S g bits room Q G w) {b : Nat} (hb : b ∈ G.B) {p : Pc} {y : Option (Nat × List Int)} {w' : World} (hs : ∀ s, Wt G.c w b s → St 142 w' b (p.cs s)) (k : Kp (fun i => i = b) w w') (hn : p.n = (G.c b).n) (hw : p.wm = (G.c b).wm) (hr : p.rm = (G.c b).rm) (hm : b ∈ G.L → Mayp p)
    (hy : Yb w' p.bv y) (hyi : ∀ i zs, y = some (i, zs) → ∀ a ∈ G.B, a ≠ b → ∀ zs', G.y a ≠ some (i, zs')) : Cm S g bits room Q { G with c := upd G.c b p, y := upd G.y b y } w' := by
  have tb := h.pt hb
  have hc : ∀ a, (upd G.c b p a).n = (G.c a).n ∧ (upd G.c b p a).wm = (G.c a).wm ∧ (upd G.c b p a).rm = (G.c a).rm := by
    intro a
    unfold upd
    by_cases e : a = b
    · subst e
      rw [if_pos rfl]
      exact ⟨hn, hw, hr⟩
    · rw [if_neg e]
      exact ⟨rfl, rfl, rfl⟩
  have hwt : ∀ a s, Wt G.c w a s → (∃ s0, Wt G.c w b s0) → Wt (upd G.c b p) w' a s := by
    intro a s h1 _
    by_cases e : a = b
    · subst e
      have := hs s h1
      unfold Wt
      rw [upd_same]
      exact this
    · have h2 : Wt G.c w' a s := h1.kp k e
      exact h2.congr (upd_other _ _ e)
  refine ⟨h.st.kp k (tag_ne h.st.tag tb (by decide)), ⟨h.ln.st.kp k (tag_ne h.ln.st.tag tb (by decide)), own_kp h.ln.own k (fun i e => tag_ne (own_tag h.ln.own e) tb (by decide)), fun i hi => hwt _ _ (h.ln.tr i hi) (h.pg b hb).wt, fun a ha => ?_⟩, own_kp h.pd k (fun i e => tag_ne (own_tag h.pd e) tb (by decide)), ?_, fun a ha => ?_, h.ap, fun x hx z hz => ?_, fun x hx => ?_, fun x hx z hz i zs zs' e1 e2 => ?_, h.kb, h.lb, h.pb⟩
  · show Mayp (upd G.c b p a)
    by_cases e : a = b
    · subst e; rw [upd_same]; exact hm ha
    · rw [upd_other _ _ e]; exact h.ln.may a ha
  · exact (h.ks.kp k (tag_ne h.ks.tag tb (by decide))).congr (fun a _ => (hc a).1)
  · have hp := h.pg a ha
    obtain ⟨s, hs1⟩ := hp.wt
    refine ⟨⟨s, hwt a s hs1 (h.pg b hb).wt⟩, ?_, ?_, ?_⟩
    · show Mn (upd G.c b p) w' (upd G.c b p a).wm (G.W a)
      rw [(hc a).2.1]
      exact (hp.ws.kp k (tag_ne hp.ws.tag tb (by decide))).congr (fun a _ => (hc a).1)
    · show Mn (upd G.c b p) w' (upd G.c b p a).rm (G.R a)
      rw [(hc a).2.2]
      exact (hp.rs.kp k (tag_ne hp.rs.tag tb (by decide))).congr (fun a _ => (hc a).1)
    · show Yb w' (upd G.c b p a).bv (upd G.y b y a)
      by_cases e : a = b
      · subst e; rw [upd_same, upd_same]; exact hy
      · rw [upd_other _ _ e, upd_other _ _ e]
        exact hp.ys.kp k (fun i zs e => tag_ne (h.yt ha e) tb (by decide))
  · show ((upd G.c b p x).wm = (upd G.c b p z).wm → x = z) ∧ ((upd G.c b p x).rm = (upd G.c b p z).rm → x = z) ∧ (upd G.c b p x).wm ≠ (upd G.c b p z).rm
    rw [(hc x).2.1, (hc x).2.2, (hc z).2.1, (hc z).2.2]
    exact h.mi x hx z hz
  · show (upd G.c b p x).wm ≠ G.pm ∧ (upd G.c b p x).rm ≠ G.pm
    rw [(hc x).2.1, (hc x).2.2]
    exact h.mp x hx
  · change upd G.y b y x = some (i, zs) at e1
    change upd G.y b y z = some (i, zs') at e2
    by_cases ex : x = b
    · by_cases ez : z = b
      · rw [ex, ez]
      · rw [ex, upd_same] at e1
        rw [upd_other _ _ ez] at e2
        exact absurd e2 (hyi i zs e1 z hz ez zs')
    · rw [upd_other _ _ ex] at e1
      by_cases ez : z = b
      · rw [ez, upd_same] at e2
        exact absurd e1 (hyi i zs' e2 x hx ex zs)
      · rw [upd_other _ _ ez] at e2
        exact h.yi x hx z hz i zs zs' e1 e2
/-- For whom a page waits is others now. -/
theorem Cm.waits (h : Cm S g bits room Q G w) {b : Nat} (hb : b ∈ G.B) {W : List Nat} {w' : World} (hw : Mn G.c w' (G.c b).wm W) (k : Kp (fun i => i = (G.c b).wm) w w') : Cm S g bits room Q { G with W := upd G.W b W } w' := by
  have tb := (h.pg b hb).ws.tag
  refine ⟨h.st.kp k (tag_ne h.st.tag tb (by decide)), h.ln.kp k (tag_ne h.ln.st.tag tb (by decide)) (fun i e => tag_ne (own_tag h.ln.own e) tb (by decide)) (fun a ha => tag_ne (h.pt (h.lb a ha)) tb (by decide)), own_kp h.pd k (fun i e => tag_ne (own_tag h.pd e) tb (by decide)), h.ks.kp k (fun e => (h.mp b hb).1 e.symm), fun a ha => ?_, h.ap, h.mi, h.mp, h.yi, h.kb, h.lb, h.pb⟩
  have hp := h.pg a ha
  obtain ⟨s, hs⟩ := hp.wt
  refine ⟨⟨s, hs.kp k (tag_ne hs.tag tb (by decide))⟩, ?_, hp.rs.kp k (fun e => (h.mi b hb a ha).2.2 e.symm), hp.ys.kp k (fun i zs e => tag_ne (h.yt ha e) tb (by decide))⟩
  show Mn G.c w' (G.c a).wm (upd G.W b W a)
  by_cases e : a = b
  · subst e; rw [upd_same]; exact hw
  · rw [upd_other _ _ e]
    exact hp.ws.kp k (fun e2 => e ((h.mi a ha b hb).1 e2))
/-- Who waits for a page is others now. -/
theorem Cm.waiters (h : Cm S g bits room Q G w) {b : Nat} (hb : b ∈ G.B) {R : List Nat} {w' : World} (hw : Mn G.c w' (G.c b).rm R) (k : Kp (fun i => i = (G.c b).rm) w w') : Cm S g bits room Q { G with R := upd G.R b R } w' := by
  have tb := (h.pg b hb).rs.tag
  refine ⟨h.st.kp k (tag_ne h.st.tag tb (by decide)), h.ln.kp k (tag_ne h.ln.st.tag tb (by decide)) (fun i e => tag_ne (own_tag h.ln.own e) tb (by decide)) (fun a ha => tag_ne (h.pt (h.lb a ha)) tb (by decide)), own_kp h.pd k (fun i e => tag_ne (own_tag h.pd e) tb (by decide)), h.ks.kp k (fun e => (h.mp b hb).2 e.symm), fun a ha => ?_, h.ap, h.mi, h.mp, h.yi, h.kb, h.lb, h.pb⟩
  have hp := h.pg a ha
  obtain ⟨s, hs⟩ := hp.wt
  refine ⟨⟨s, hs.kp k (tag_ne hs.tag tb (by decide))⟩, hp.ws.kp k (fun e => (h.mi a ha b hb).2.2 e), ?_, hp.ys.kp k (fun i zs e => tag_ne (h.yt ha e) tb (by decide))⟩
  show Mn G.c w' (G.c a).rm (upd G.R b R a)
  by_cases e : a = b
  · subst e; rw [upd_same]; exact hw
  · rw [upd_other _ _ e]
    exact hp.rs.kp k (fun e2 => e ((h.mi a ha b hb).2.1 e2))
/-- The pages that are known are others now. -/
theorem Cm.known (h : Cm S g bits room Q G w) {K : List Nat} {w' : World} (hw : Mn G.c w' G.pm K) (k : Kp (fun i => i = G.pm) w w') (hK : ∀ b ∈ K, b ∈ G.B) : Cm S g bits room Q { G with K := K } w' := by
  have tb := h.ks.tag
  refine ⟨h.st.kp k (tag_ne h.st.tag tb (by decide)), h.ln.kp k (tag_ne h.ln.st.tag tb (by decide)) (fun i e => tag_ne (own_tag h.ln.own e) tb (by decide)) (fun a ha => tag_ne (h.pt (h.lb a ha)) tb (by decide)), own_kp h.pd k (fun i e => tag_ne (own_tag h.pd e) tb (by decide)), hw, fun a ha => ?_, h.ap, h.mi, h.mp, h.yi, hK, h.lb, h.pb⟩
  have hp := h.pg a ha
  obtain ⟨s, hs⟩ := hp.wt
  exact ⟨⟨s, hs.kp k (tag_ne hs.tag tb (by decide))⟩, hp.ws.kp k (h.mp a ha).1, hp.rs.kp k (h.mp a ha).2, hp.ys.kp k (fun i zs e => tag_ne (h.yt ha e) tb (by decide))⟩
/-- The numbers of the cache's own block are others now. -/
theorem Cm.nums (h : Cm S g bits room Q G w) {t n1 n2 n3 n4 : Nat} {w' : World} (hs : St 112 w' Q #[ptr g, .string S, .int .i64 bits, .int .i64 room, .map (some G.pm), ptr G.kl, G.pv, .int .i64 t, .int .i64 n1, .int .i64 n2, .int .i64 n3, .int .i64 n4]) (k : Kp (fun i => i = Q) w w') : Cm S g bits room Q { G with t := t, n1 := n1, n2 := n2, n3 := n3, n4 := n4 } w' := by
  have tb := h.st.tag
  refine ⟨hs, h.ln.kp k (tag_ne h.ln.st.tag tb (by decide)) (fun i e => tag_ne (own_tag h.ln.own e) tb (by decide)) (fun a ha => tag_ne (h.pt (h.lb a ha)) tb (by decide)), own_kp h.pd k (fun i e => tag_ne (own_tag h.pd e) tb (by decide)), h.ks.kp k (tag_ne h.ks.tag tb (by decide)), fun a ha => ?_, h.ap, h.mi, h.mp, h.yi, h.kb, h.lb, h.pb⟩
  have hp := h.pg a ha
  obtain ⟨s, hs⟩ := hp.wt
  exact ⟨⟨s, hs.kp k (tag_ne hs.tag tb (by decide))⟩, hp.ws.kp k (tag_ne hp.ws.tag tb (by decide)), hp.rs.kp k (tag_ne hp.rs.tag tb (by decide)), hp.ys.kp k (fun i zs e => tag_ne (h.yt ha e) tb (by decide))⟩
/-- The line is another now. -/
theorem Cm.line (h : Cm S g bits room Q G w) {lv : Value} {L : List Nat} {w' : World} (hl : Ln G.c w' 0 G.kl lv L) (k : Kp (fun i => i = G.kl ∨ G.lv.ownBlock = some i ∨ i ∈ G.B) w w') (hB : ∀ b ∈ G.B, ∃ s, Wt G.c w' b s) (hL : ∀ b ∈ L, b ∈ G.B) (ho : lv.ownBlock = G.lv.ownBlock ∨ ∃ i, lv.ownBlock = some i ∧ w.heap.size ≤ i) : Cm S g bits room Q { G with lv := lv, L := L } w' := by
  have no : ∀ i m, tag w i = m → m ≠ 111 → m ≠ 139 → m ≠ 143 → ¬ (i = G.kl ∨ G.lv.ownBlock = some i ∨ i ∈ G.B) := by
    rintro i m hi h1 h2 h3 (e | e | e)
    · exact tag_ne hi h.ln.st.tag h1 e
    · exact h2 (by rw [← hi, own_tag h.ln.own e])
    · exact h3 (by rw [← hi, h.pt e])
  have hpv : ∀ i, G.pv.ownBlock = some i → ¬ (i = G.kl ∨ G.lv.ownBlock = some i ∨ i ∈ G.B) := by
    rintro i e (e1 | e1 | e1)
    · exact tag_ne (own_tag h.pd e) h.ln.st.tag (by decide) e1
    · exact h.ap i e1 e
    · exact tag_ne (own_tag h.pd e) (h.pt e1) (by decide) rfl
  refine ⟨h.st.kp k (no _ _ h.st.tag (by decide) (by decide) (by decide)), hl, own_kp h.pd k hpv, h.ks.kp k (no _ _ h.ks.tag (by decide) (by decide) (by decide)), fun a ha => ?_, fun i e1 e2 => ?_, h.mi, h.mp, h.yi, h.kb, hL, h.pb⟩
  · have hp := h.pg a ha
    exact ⟨hB a ha, hp.ws.kp k (no _ _ hp.ws.tag (by decide) (by decide) (by decide)), hp.rs.kp k (no _ _ hp.rs.tag (by decide) (by decide) (by decide)), hp.ys.kp k (fun i zs e => no _ _ (h.yt ha e) (by decide) (by decide) (by decide))⟩
  · rcases ho with ho | ⟨j, ho, hj⟩
    · exact h.ap i (ho ▸ e1) e2
    · rw [ho] at e1
      obtain ⟨cur, h1, _⟩ := ownb h.pd e2
      have := (Array.getElem?_eq_some_iff.1 h1).1
      simp only [Option.some.injEq] at e1
      omega
/-- The row of those that are pending is another now. -/
theorem Cm.pend (h : Cm S g bits room Q G w) {pv : Value} {P : List Nat} {w' : World} (hs : St 112 w' Q #[ptr g, .string S, .int .i64 bits, .int .i64 room, .map (some G.pm), ptr G.kl, pv, .int .i64 G.t, .int .i64 G.n1, .int .i64 G.n2, .int .i64 G.n3, .int .i64 G.n4]) (hp : w'.ownsRow 0 138 1 pv P.length (P.map ptr)) (k : Kp (fun i => i = Q ∨ G.pv.ownBlock = some i) w w') (hP : ∀ b ∈ P, b ∈ G.B) (ho : pv.ownBlock = none ∨ pv.ownBlock = G.pv.ownBlock ∨ ∃ i, pv.ownBlock = some i ∧ w.heap.size ≤ i) : Cm S g bits room Q { G with pv := pv, P := P } w' := by
  have no : ∀ i m, tag w i = m → m ≠ 113 → m ≠ 139 → ¬ (i = Q ∨ G.pv.ownBlock = some i) := by
    rintro i m hi h1 h2 (e | e)
    · exact tag_ne hi h.st.tag h1 e
    · exact h2 (by rw [← hi, own_tag h.pd e])
  have hlv : ∀ i, G.lv.ownBlock = some i → ¬ (i = Q ∨ G.pv.ownBlock = some i) := by
    rintro i e (e1 | e1)
    · exact tag_ne (own_tag h.ln.own e) h.st.tag (by decide) e1
    · exact h.ap i e e1
  refine ⟨hs, h.ln.kp k (no _ _ h.ln.st.tag (by decide) (by decide)) hlv (fun a ha => no _ _ (h.pt (h.lb a ha)) (by decide) (by decide)), hp, h.ks.kp k (no _ _ h.ks.tag (by decide) (by decide)), fun a ha => ?_, fun i e1 e2 => ?_, h.mi, h.mp, h.yi, h.kb, h.lb, hP⟩
  · have hp := h.pg a ha
    obtain ⟨s, hs⟩ := hp.wt
    exact ⟨⟨s, hs.kp k (no _ _ hs.tag (by decide) (by decide))⟩, hp.ws.kp k (no _ _ hp.ws.tag (by decide) (by decide)), hp.rs.kp k (no _ _ hp.rs.tag (by decide) (by decide)), hp.ys.kp k (fun i zs e => no _ _ (h.yt ha e) (by decide) (by decide))⟩
  · rcases ho with ho | ho | ⟨j, ho, hj⟩
    · rw [ho] at e2; cases e2
    · exact h.ap i e1 (ho ▸ e2)
    · rw [ho] at e2
      obtain ⟨cur, h1, _⟩ := ownb h.ln.own e1
      have := (Array.getElem?_eq_some_iff.1 h1).1
      simp only [Option.some.injEq] at e2
      omega
/-- The bytes of a page are others now. -/
theorem Cm.bytes (h : Cm S g bits room Q G w) {b i : Nat} (hb : b ∈ G.B) {zs zs' : List Int} (e : G.y b = some (i, zs)) (hl : zs'.length = zs.length) {w' : World} (hr : Rw .u8 5 w' i zs') (k : Kp (fun j => j = i) w w') : Cm S g bits room Q { G with y := upd G.y b (some (i, zs')) } w' := by
  have tb := h.yt hb e
  refine ⟨h.st.kp k (tag_ne h.st.tag tb (by decide)), h.ln.kp k (tag_ne h.ln.st.tag tb (by decide)) (fun i e => tag_ne (own_tag h.ln.own e) tb (by decide)) (fun a ha => tag_ne (h.pt (h.lb a ha)) tb (by decide)), own_kp h.pd k (fun i e => tag_ne (own_tag h.pd e) tb (by decide)), h.ks.kp k (tag_ne h.ks.tag tb (by decide)), fun a ha => ?_, h.ap, h.mi, h.mp, fun x hx z hz j us us' e1 e2 => ?_, h.kb, h.lb, h.pb⟩
  · have hp := h.pg a ha
    obtain ⟨s, hs⟩ := hp.wt
    refine ⟨⟨s, hs.kp k (tag_ne hs.tag tb (by decide))⟩, hp.ws.kp k (tag_ne hp.ws.tag tb (by decide)), hp.rs.kp k (tag_ne hp.rs.tag tb (by decide)), ?_⟩
    show Yb w' (G.c a).bv (upd G.y b (some (i, zs')) a)
    by_cases ea : a = b
    · subst ea
      have := hp.ys
      rw [e] at this
      rw [upd_same]
      exact ⟨by rw [hl]; exact this.1, hr⟩
    · rw [upd_other _ _ ea]
      exact hp.ys.kp k (fun j us e1 e2 => ea (h.yi a ha b hb i us zs (e2 ▸ e1) e))
  · change upd G.y b (some (i, zs')) x = some (j, us) at e1
    change upd G.y b (some (i, zs')) z = some (j, us') at e2
    by_cases ex : x = b
    · by_cases ez : z = b
      · rw [ex, ez]
      · rw [ex, upd_same] at e1
        rw [upd_other _ _ ez] at e2
        simp only [Option.some.injEq, Prod.mk.injEq] at e1
        exact ex.trans (h.yi b hb z hz i zs us' e (by rw [e2, e1.1]))
    · rw [upd_other _ _ ex] at e1
      by_cases ez : z = b
      · rw [ez, upd_same] at e2
        simp only [Option.some.injEq, Prod.mk.injEq] at e2
        exact (h.yi x hx b hb i us zs (by rw [e1, e2.1]) e).trans ez.symm
      · rw [upd_other _ _ ez] at e2
        exact h.yi x hx z hz j us us' e1 e2
end
end Go.Proofs.YtnccklbnncaeoaaGreat
/- cache: forget. -/
namespace Go.Proofs.YtnccklbnncaeoaaGreat
open Go.RowKit
set_option linter.unusedVariables false
set_option linter.unusedSimpArgs false
/-- What is nothing is let go of. -/
def dead (G : Gc) (b : Nat) : Prop := G.y b = none ∧ (G.c b).pe = false ∧ G.W b = []
def dead_dec (G : Gc) (b : Nat) : Decidable (dead G b) := by unfold dead; exact inferInstance
def gForget (G : Gc) (b : Nat) : Gc := @ite Gc (dead G b) (dead_dec G b) { G with K := G.K.filter (fun a => decide (a ≠ b)) } G
set_option maxHeartbeats 4000000 in
set_option maxRecDepth 100000 in
theorem forget_any {S : ByteArray} {g bits room Q : Nat} {G : Gc} {w : World} (h : Cm S g bits room Q G w) (b : Nat) (hb : b ∈ G.K) :
    Calls Tryz.prog 155 #[ptr Q, ptr b] w fun e w' => e = .returned (.tuple #[]) ∧ Cm S g bits room Q (gForget G b) w' ∧ Kp (fun i => i = G.pm) w w' := by
  have hp := h.pg b (h.kb b hb)
  obtain ⟨s, hs⟩ := hp.wt
  have HK : Hid (Calls Tryz.prog 113 #[ptr b] w fun e w' => e = .returned (.bool (G.y b).isSome) ∧ w = w') := (pkept_any G.c w b s (G.y b) hs hp.ys).mono (fun _ _ h => ⟨h.1, h.2.symm⟩)
  have hlen := fun ty => run_len_mn hp.ws ty
  have y0 := St.cell hs 0
  have y3 := St.cell hs 3
  have y6 := St.cell hs 6
  simp [Pc.cs] at y0 y3 y6
  have z4 := h.st.cell 4
  simp at z4
  obtain ⟨o', hdl, hm, hk⟩ := (h.ks.kp (Kp.refl (fun _ => False) w).drew (fun h => h)).del (G.c b).n
  have HH := hid h
  have HM := hid hm
  have HKP := hid hk
  have HF := hid (filter_ne h.ks.nin hb)
  have hdead : dead G b ↔ (G.y b = none ∧ (G.c b).pe = false ∧ G.W b = []) := Iff.rfl
  clear h hm hk hp hs
  unfold ptr
  unfold ptr at HK
  unfold gForget
  cases hy : G.y b with
  | some x =>
    have hdd : ¬ dead G b := by rw [hdead]; rw [hy]; simp
    rw [if_neg hdd]
    rw [hy] at HK
    simp only [Option.isSome_some] at HK
    go_enter Tryz.func155, Tryz.ntmps155
    go_wp2_with (first | (go_at_call 113; refine HK.out.mono ?_; rintro _ _ ⟨rfl, rfl⟩))
    go_end0
    exact ⟨rfl, HH.out, Kp.refl _ _⟩
  | none =>
    rw [hy] at HK
    simp only [Option.isSome_none] at HK
    cases hpe : (G.c b).pe with
    | true =>
      have hdd : ¬ dead G b := by rw [hdead, hpe]; simp
      rw [if_neg hdd]
      rw [hpe] at y3
      go_enter Tryz.func155, Tryz.ntmps155
      go_wp2_with (first | (go_at_call 113; refine HK.out.mono ?_; rintro _ _ ⟨rfl, rfl⟩))
      go_end0
      exact ⟨rfl, HH.out, Kp.refl _ _⟩
    | false =>
      rw [hpe] at y3
      cases hW : G.W b with
      | cons x l =>
        have hdd : ¬ dead G b := by rw [hdead, hW]; simp
        rw [if_neg hdd]
        rw [hW] at hlen
        have hz : ¬ ((l.length : Int) + 1 = 0) := by omega
        simp only [List.length_cons] at hlen
        go_enter Tryz.func155, Tryz.ntmps155
        go_wp2_with (first | (simp only [hlen]) | (go_at_call 113; refine HK.out.mono ?_; rintro _ _ ⟨rfl, rfl⟩))
        go_end0
        exact ⟨rfl, HH.out, Kp.refl _ _⟩
      | nil =>
        have hdd : dead G b := by rw [hdead, hW]; exact ⟨hy, hpe, rfl⟩
        rw [if_pos hdd]
        rw [hW] at hlen
        simp only [List.length_nil] at hlen
        go_enter Tryz.func155, Tryz.ntmps155
        go_wp2_with (first | (simp only [hlen]) | (go_at_call 113; refine HK.out.mono ?_; rintro _ _ ⟨rfl, rfl⟩))
        go_region
        all_goals (try go_wp2_with (simp only [hdl]))
        all_goals go_end0
        rw [HF.out] at HM
        exact ⟨rfl, (HH.out.kp0 (Kp.refl _ _).drew).known HM.out HKP.out (fun a ha => HH.out.kb a ((List.mem_filter.1 ha).1)), ((Kp.refl (fun _ => False) w).drew.mono (fun _ _ h => h.elim)).trans HKP.out (fun _ _ h => h)⟩
end Go.Proofs.YtnccklbnncaeoaaGreat
/- cache: settle. -/
namespace Go.Proofs.YtnccklbnncaeoaaGreat
open Go.RowKit
set_option linter.unusedVariables false
set_option linter.unusedSimpArgs false
/-- Is one nothing, when it waits for b no more? -/
def dz (G : Gc) (b a : Nat) : Bool := decide (G.y a = none ∧ (G.c a).pe = false ∧ (G.W a).filter (fun x => decide (x ≠ b)) = [])
/-- Those of ds wait for b no more; who is nothing then is let go of. -/
def gS (G : Gc) (b : Nat) (ds : List Nat) : Gc :=
  { G with W := fun a => if a ∈ ds then (G.W a).filter (fun x => decide (x ≠ b)) else G.W a,
           K := G.K.filter (fun a => !(decide (a ∈ ds) && dz G b a)) }
theorem gS_nil (G : Gc) (b : Nat) : gS G b [] = G := by
  have : List.filter (fun _ => true) G.K = G.K := List.filter_eq_self.2 (by simp)
  unfold gS
  simp [this]
theorem gS_congr (G : Gc) (b : Nat) {ds es : List Nat} (h : ∀ x, x ∈ ds ↔ x ∈ es) : gS G b ds = gS G b es := by
  unfold gS
  simp only [h]
theorem gS_snoc (G : Gc) (b : Nat) (ds : List Nat) (a : Nat) (ha : a ∉ ds) :
    gForget { gS G b ds with W := upd (gS G b ds).W a (((gS G b ds).W a).filter (fun x => decide (x ≠ b))) } a = gS G b (ds ++ [a]) := by
  have hW : upd (gS G b ds).W a (((gS G b ds).W a).filter (fun x => decide (x ≠ b))) = (gS G b (ds ++ [a])).W := by
    funext x
    unfold upd gS
    dsimp only
    by_cases hx : x = a
    · subst hx
      simp [ha]
    · simp [hx]
  rw [hW]
  unfold gForget
  have hd : dead { gS G b ds with W := (gS G b (ds ++ [a])).W } a ↔ dz G b a = true := by
    unfold dead gS dz
    simp
  by_cases hdd : dead { gS G b ds with W := (gS G b (ds ++ [a])).W } a
  · rw [if_pos hdd]
    have h1 := hd.1 hdd
    unfold gS
    dsimp only
    congr 1
    rw [List.filter_filter]
    refine List.filter_congr fun x _ => ?_
    by_cases hx : x = a
    · subst hx
      simp [h1]
    · simp [hx]
  · rw [if_neg hdd]
    have h1 : dz G b a = false := by
      cases hz : dz G b a with
      | false => rfl
      | true => exact absurd (hd.2 hz) hdd
    unfold gS
    dsimp only
    congr 1
    refine List.filter_congr fun x _ => ?_
    by_cases hx : x = a
    · subst hx
      simp [h1]
    · simp [hx]
/-- What settle leaves of a page that is neither dirty nor pending. -/
def gSettle (G : Gc) (b : Nat) : Gc := gForget { gS G b (G.R b) with R := upd G.R b [] } b
/-- Which block an entry tells. -/
def blk (e : Int × Value × Nat) : Nat := match e.2.1 with
  | .pointer (some ad) => ad.block
  | _ => 0
theorem blk_map {c : Nat → Pc} {es : List (Int × Value × Nat)} {L : List Nat} (h : es.map (fun e => (e.1, e.2.1)) = L.map (fun b => (((c b).n : Int), ptr b))) : es.map blk = L ∧ ∀ e ∈ es, e.1 = ((c (blk e)).n : Int) ∧ e.2.1 = ptr (blk e) := by
  induction es generalizing L with
  | nil =>
    cases L with
    | nil => exact ⟨rfl, fun e he => by cases he⟩
    | cons b L => simp at h
  | cons e es ih =>
    cases L with
    | nil => simp at h
    | cons b L =>
      simp only [List.map_cons, List.cons.injEq, Prod.mk.injEq] at h
      have hb : blk e = b := by unfold blk; rw [h.1.2]; rfl
      obtain ⟨h1, h2⟩ := ih h.2
      refine ⟨by rw [List.map_cons, hb, h1], fun x hx => ?_⟩
      rcases List.mem_cons.1 hx with rfl | hx
      · rw [hb]; exact h.1
      · exact h2 x hx
theorem blk_new {c : Nat → Pc} {L : List Nat} {es ds : List (Int × Value × Nat)} {q : Nat} (hk : Kok es q) (h : es.map (fun e => (e.1, e.2.1)) = L.map (fun b => (((c b).n : Int), ptr b))) (hs : ∀ e ∈ ds, e ∈ es) {e : Int × Value × Nat} (he : e ∈ es) (hn : e ∉ ds) : blk e ∉ ds.map blk := by
  intro hm
  obtain ⟨d, hd, hb⟩ := List.mem_map.1 hm
  have h1 := (blk_map h).2 d (hs d hd)
  have h2 := (blk_map h).2 e he
  rw [hb] at h1
  have := key_inj_mp hk (hs d hd) he (h1.1.trans h2.1.symm)
  exact hn (this ▸ hd)
theorem Tryz.und106' : Tryz.prog.underlying 106 = some (.map 2 138) := by kernel_rfl
theorem Cm.gS_ok {S : ByteArray} {g bits room Q : Nat} {G : Gc} {w : World} {b : Nat} {ds : List Nat} (h : Cm S g bits room Q (gS G b ds) w) {a : Nat} (hK : a ∈ G.K) (ha : a ∉ ds) : a ∈ (gS G b ds).K := by
  unfold gS
  dsimp only
  rw [List.mem_filter]
  exact ⟨hK, by simp [ha]⟩
set_option maxHeartbeats 4000000 in
set_option maxRecDepth 100000 in
/-- One that is dirty or pending is left as it is. -/
theorem settle_not {S : ByteArray} {g bits room Q : Nat} {G : Gc} {w : World} (h : Cm S g bits room Q G w) (b : Nat) (hb : b ∈ G.K) (hu : ((G.c b).di || (G.c b).pe) = true) :
    Calls Tryz.prog 122 #[ptr Q, ptr b] w fun e w' => e = .returned (.tuple #[]) ∧ Cm S g bits room Q (gForget G b) w' ∧ Kp (fun i => i = G.pm) w w' := by
  obtain ⟨s, hs⟩ := (h.pg b (h.kb b hb)).wt
  have HU : Hid (Calls Tryz.prog 67 #[ptr b] w fun e w' => e = .returned (.bool true) ∧ w = w') := (unsettled_any G.c w b s hs).mono (fun _ _ h => ⟨by rw [h.1, hu], h.2.symm⟩)
  have HF := hid (forget_any h b hb)
  clear h hs hu
  unfold ptr at *
  go_enter Tryz.func122, Tryz.ntmps122
  go_wp2_with (first | (go_at_call 67; refine HU.out.mono ?_; rintro _ _ ⟨rfl, rfl⟩) | (go_at_call 155; refine HF.out.mono ?_; rintro _ w1 ⟨rfl, H1⟩))
  go_end0
  exact ⟨rfl, H1⟩
theorem gS_get {G : Gc} {b a : Nat} {ds : List Nat} (ha : a ∉ ds) : (gS G b ds).W a = G.W a := if_neg ha
set_option maxHeartbeats 4000000 in
set_option maxRecDepth 100000 in
theorem settle_any {S : ByteArray} {g bits room Q : Nat} {G : Gc} {w : World} (h : Cm S g bits room Q G w) (b : Nat) (hb : b ∈ G.K) (hu : ((G.c b).di || (G.c b).pe) = false) (hR : ∀ a ∈ G.R b, a ∈ G.K ∧ a ≠ b ∧ ∀ x ∈ G.W a, x ∈ G.K) :
    Calls Tryz.prog 122 #[ptr Q, ptr b] w fun e w' => e = .returned (.tuple #[]) ∧ Cm S g bits room Q (gSettle G b) w' ∧ Kp (fun i => i = G.pm ∨ i = (G.c b).rm ∨ ∃ a ∈ G.R b, i = (G.c a).wm) w w' := by
  have hp := h.pg b (h.kb b hb)
  obtain ⟨s, hs⟩ := hp.wt
  have HU : Hid (Calls Tryz.prog 67 #[ptr b] w fun e w' => e = .returned (.bool false) ∧ w = w') := (unsettled_any G.c w b s hs).mono (fun _ _ h => ⟨by rw [h.1, hu], h.2.symm⟩)
  obtain ⟨es, q, hm, hes⟩ := hp.rs
  have hrg := run_range_mp (P := Tryz.prog) Tryz.und106 hm
  have y7 := St.cell hs 7
  simp [Pc.cs] at y7
  have HS := hid h
  have HES := hid hes
  have HM := hid hm
  have HR0 := hid hR
  have HB := hid hb
  have hmlt := hm.lt
  clear h hp hs hu hes hm hR hb
  unfold ptr at HU ⊢
  go_enter Tryz.func122, Tryz.ntmps122
  go_wp2_with (first | (go_at_call 67; refine HU.out.mono ?_; rintro _ _ ⟨rfl, rfl⟩))
  have H0 : Hid (Mi (w.alloc (.mapIter (some (G.c b).rm) q #[] q)) w.heap.size (G.c b).rm q es []) := mi_new w (G.c b).rm q es
  have K0 : Hid (Kp (fun _ => False) w (w.alloc (.mapIter (some (G.c b).rm) q #[] q))) := (Kp.refl _ _).alloc _
  clear hrg y7
  generalize hr : w.heap.size = r at H0 ⊢
  generalize w.alloc (.mapIter (some (G.c b).rm) q #[] q) = W at H0 K0 ⊢
  have HR : Hid (w.heap.size = r) := hr
  clear hr
  go_loopw [5] (fun _ wr => ∃ ds, Mi wr r (G.c b).rm q es ds ∧ Cm S g bits room Q (gS G b (ds.map blk)) wr ∧ Kp (fun i => i = G.pm ∨ ∃ a ∈ G.R b, i = (G.c a).wm) w wr) (fun _ wr => es.length - itn wr r)
  case atStart =>
    refine ⟨[], H0.out, ?_, K0.out.mono (fun _ _ h => h.elim)⟩
    rw [List.map_nil, gS_nil]
    exact HS.out.kp0 K0.out
  case round =>
    clear H0 K0
    obtain ⟨ds, hmi, hcm, hkp⟩ := hrel
    have hbB := HS.out.kb b HB.out
    have hmap := blk_map HES.out
    have hRB : ∀ a ∈ G.R b, a ∈ G.B := fun a ha => HS.out.kb a (HR0.out a ha).1
    have hrm : r ≠ (G.c b).rm := by have := HR.out; omega
    have hnm : ¬ ((G.c b).rm = G.pm ∨ ∃ a ∈ G.R b, (G.c b).rm = (G.c a).wm) := by
      rintro (e | ⟨a, ha, e⟩)
      · exact (HS.out.mp b hbB).2 e
      · exact (HS.out.mi a (hRB a ha) b hbB).2.2 e.symm
    have hm2 : Mp (Value.int .i64) wr (G.c b).rm es q := kp_mp HM.out hkp hnm
    have hin := hmi.itn
    have hle := hmi.le
    rcases hmi.next (P := Tryz.prog) hm2 hrm 0 with ⟨hp, hrun⟩ | ⟨e, w2, he, hne, hrun, hmi2, hk2, hent⟩
    · have hset : gS G b (ds.map blk) = gS G b (G.R b) := gS_congr G b (fun x => by rw [← hmap.1]; exact (hp.map blk).mem_iff)
      rw [hset] at hcm
      have hpb := hcm.pg b hbB
      obtain ⟨s2, hs2⟩ := hpb.wt
      have y7 := St.cell hs2 7
      simp [Pc.cs] at y7
      change wr.cell? _ = some (.map (some (G.c b).rm)) at y7
      obtain ⟨o', hcl, hcm1, hck⟩ := Mn.clear hpb.rs
      have HC := hid (hcm.waiters hbB hcm1 hck)
      have HKC : Hid (Kp (fun i => i = (G.c b).rm) wr (wr.putObj (G.c b).rm o')) := hck
      have hbK : b ∈ (gS G b (G.R b)).K := hcm.gS_ok HB.out (fun hx => (HR0.out b hx).2.1 rfl)
      have HF := hid (forget_any HC.out b hbK)
      have HKP := hid hkp
      change ∀ ty, (Builtin.clear_ #[106] ty #[.map (some (G.c b).rm)]).run Tryz.prog wr = _ at hcl
      clear hcm hpb hs2 hcm1 hck hkp hmi hm2 hp hset hmap
      unfold ptr at HF
      go_wp2_with (first | (simp only [hcl]) | (go_at_call 155; refine HF.out.mono ?_; rintro _ w1 ⟨rfl, H1, H2⟩))
      go_end0
      exact ⟨rfl, H1, ((HKP.out.mono (fun i _ h => h.elim .inl (fun h => .inr (.inr h)))).trans HKC.out (fun i _ h => .inr (.inl h))).trans H2 (fun i _ h => .inl h)⟩
    · obtain ⟨a, hae⟩ : ∃ a, blk e = a := ⟨_, rfl⟩
      have hea := hmap.2 e he
      rw [hae] at hea
      have haR : a ∈ G.R b := by rw [← hmap.1, ← hae]; exact List.mem_map_of_mem he
      obtain ⟨haK, hab, hWK⟩ := HR0.out a haR
      have haB := hRB a haR
      have had : a ∉ ds.map blk := by
        rw [← hae]
        exact blk_new HM.out.2 HES.out hmi.sub he hne
      have hcm2 : Cm S g bits room Q (gS G b (ds.map blk)) w2 := hcm.kp hk2 (fun i hi e => by
        have h1 := HS.out.lt (i := i) hi
        have h2 := HR.out
        subst e
        omega)
      have hcm3 := hcm2.kp0 (Kp.refl (fun _ => False) w2).drew
      obtain ⟨s1, ha1⟩ := (hcm2.pg a haB).wt
      obtain ⟨s2, hb1⟩ := (hcm2.pg b hbB).wt
      have ya := St.cell ha1 6
      have yb := St.cell hb1 0
      simp [Pc.cs] at ya yb
      change w2.cell? _ = some (.map (some (G.c a).wm)) at ya
      change w2.cell? _ = some (.int .i64 ((G.c b).n : Int)) at yb
      have hwa : Mn G.c w2.drew (G.c a).wm (G.W a) := by
        have := (hcm3.pg a haB).ws
        rw [gS_get had] at this
        exact this
      obtain ⟨o', hdl, hdm, hdk⟩ := hwa.del (G.c b).n
      have hfl : (G.W a).filter (fun x => decide ((G.c x).n ≠ (G.c b).n)) = ((gS G b (ds.map blk)).W a).filter (fun x => decide (x ≠ b)) := by
        rw [gS_get had]
        refine List.filter_congr fun x hx => ?_
        by_cases e1 : x = b
        · subst e1; simp
        · have : (G.c x).n ≠ (G.c b).n := fun e2 => e1 (HS.out.ks.nin x (hWK x hx) b HB.out e2)
          simp [e1, this]
      rw [hfl] at hdm
      have hc4 := hcm3.waits haB hdm hdk
      have HF := hid (forget_any hc4 a (hcm2.gS_ok haK had))
      rw [gS_snoc G b (ds.map blk) a had] at HF
      have HKP : Hid (Kp (fun i => i = G.pm ∨ ∃ a ∈ G.R b, i = (G.c a).wm) w (w2.drew.putObj (G.c a).wm o')) := by
        refine ((hkp.trans hk2 (fun i hi h => ?_)).trans (Kp.refl (fun _ => False) w2).drew (fun i _ h => h.elim)).trans hdk (fun i _ h => .inr ⟨a, haR, h⟩)
        have := HR.out
        omega
      have hin2 := hmi2.itn
      rw [List.length_append, List.length_singleton] at hin2
      have hle2 := hmi2.le
      rw [List.length_append, List.length_singleton] at hle2
      have HMI : Hid (Mi (w2.drew.putObj (G.c a).wm o') r (G.c b).rm q es (ds ++ [e])) := (hmi2.kp (Kp.refl (fun _ => False) w2).drew (fun h => h)).kp hdk (fun e2 => by
        have h1 := (HS.out.pg a haB).ws.lt
        have h2 := HR.out
        omega)
      have HIN : Hid (itn wr r = ds.length) := hin
      have HAE := hid hae
      have HLT : Hid (∀ i, Fc Q G i → i < r) := fun i hi => by rw [← HR.out]; exact HS.out.lt hi
      rw [hea.2] at hrun hent
      unfold ptr at hrun hent HF
      clear hcm hcm2 hcm3 hc4 hwa hdm hdk hfl ha1 hb1 hkp hmi hmi2 hk2 hm2 hin hin2 hmap hWK hae
      go_wp2
      go_region
      all_goals (try go_wp2_with (first | (simp only [hdl]) | (go_at_call 155; refine HF.out.mono ?_; rintro _ w1 ⟨rfl, H1, H2⟩)))
      have hmi3 := HMI.out.kp H2 (fun e2 => by have e3 : r = G.pm := e2; have := HLT.out G.pm (.inr (.inr (.inl rfl))); omega)
      have h4 := hmi3.itn
      rw [List.length_append, List.length_singleton] at h4
      refine ⟨⟨ds ++ [e], hmi3, ?_, HKP.out.trans H2 (fun i _ h => .inl h)⟩, by rw [HIN.out, h4]; omega⟩
      rw [List.map_append, List.map_singleton, HAE.out]
      exact H1
end Go.Proofs.YtnccklbnncaeoaaGreat
/- container/heap's up and down over a line. -/
namespace Go.Proofs.YtnccklbnncaeoaaGreat
open Go.RowKit

theorem find_less (B : Nat) (w : World) : Sem.run Tryz.prog (method 399 107 (ptr B) "Less") w = .ok (242, ptr B) w := by kernel_rfl
theorem find_swap (B : Nat) (w : World) : Sem.run Tryz.prog (method 399 107 (ptr B) "Swap") w = .ok (245, ptr B) w := by kernel_rfl
theorem find_len (B : Nat) (w : World) : Sem.run Tryz.prog (method 399 107 (ptr B) "Len") w = .ok (180, ptr B) w := by kernel_rfl
theorem find_push (B : Nat) (w : World) : Sem.run Tryz.prog (method 399 107 (ptr B) "Push") w = .ok (244, ptr B) w := by kernel_rfl
theorem find_pop (B : Nat) (w : World) : Sem.run Tryz.prog (method 399 107 (ptr B) "Pop") w = .ok (243, ptr B) w := by kernel_rfl

set_option maxHeartbeats 4000000 in
set_option maxRecDepth 100000 in
theorem up_any (c : Nat → Pc) (w : World) (base B : Nat) (v : Value) (L : List Nat) (h : Ln c w base B v L) (m j : Nat) (hml : m ≤ L.length) (hj : j < m) (hu : Hu (kf (key c) L) m j) :
    Calls Tryz.prog 147 #[.iface 107 (ptr B), .int .i64 j] w fun e w' => e = .returned (.tuple #[]) ∧ ∃ L', Mv m L L' ∧ Ln c w' base B v L' ∧ Hx (kf (key c) L') 0 m ∧ Kp (LnF v L) w w' := by
  have mL := find_less B
  have mS := find_swap B
  have hm : L.length ≤ 9223372036854775807 := by obtain ⟨_, _, _, h⟩ := h.len; exact h
  go_enter Tryz.func147, Tryz.ntmps147
  go_wp2
  go_loopw [1] (fun vj wr => ∃ (k : Nat) (L' : List Nat), vj = .int .i64 k ∧ k < m ∧ Hid (Mv m L L' ∧ Ln c wr base B v L' ∧ Hu (kf (key c) L') m k ∧ Kp (LnF v L) w wr)) (fun vj _ => (intOf vj).toNat)
  case atStart => exact ⟨j, L, rfl, hj, Mv.refl _ _, h, hu, Kp.refl _ _⟩
  case round =>
    obtain ⟨k, L', rfl, hk, HH⟩ := hrel
    cases k with
    | zero =>
      go_wp2
      go_end0
      exact ⟨rfl, L', HH.out.1, HH.out.2.1, HH.out.2.2.1.fin (.inl rfl), HH.out.2.2.2⟩
    | succ k =>
      have hP := HH.out.2.1
      have hMl := HH.out.1.len
      have HL : Hid (Calls Tryz.prog 242 #[ptr B, .int .i64 ((k : Int) + 1), .int .i64 ((k : Int) / 2)] wr fun e w' => e = .returned (.bool (decide (kf (key c) L' (k + 1) < kf (key c) L' (k / 2)))) ∧ ∃ q, w' = wr.drewN q) := less_any c wr base B v L' hP (k + 1) (k / 2) (by omega) (by omega)
      have HS : Hid (∀ q, Calls Tryz.prog 245 #[ptr B, .int .i64 ((k : Int) / 2), .int .i64 ((k : Int) + 1)] (wr.drewN q) fun e w' => e = .returned (.tuple #[]) ∧ Ln c w' base B v (lsw L' (k / 2) (k + 1)) ∧ Kp (LnF v L) (wr.drewN q) w') := fun q => (swap_any c (wr.drewN q) base B v L' (hP.kp (drewN_kp (fun _ => False) wr q) (fun h => h) (fun _ _ h => h) (fun _ _ h => h)) (k / 2) (k + 1) (by omega) (by omega) (by omega)).mono (fun e w' hw => ⟨hw.1, hw.2.1, hw.2.2.mono (fun k _ e => LnF.perm HH.out.1.perm e)⟩)
      clear hP
      go_wp2_with (first
        | (go_at_call 242; refine HL.out.mono ?_; rintro _ _ ⟨rfl, q, rfl⟩)
        | (go_at_call 245; refine (HS.out q).mono ?_; rintro _ w3 ⟨rfl, P3, K3⟩))
      · rename_i hh
        have hge : kf (key c) L' ((k + 1 - 1) / 2) ≤ kf (key c) L' (k + 1) := by
          rcases hh with hh | hh
          · simp at hh; omega
          · simp at hh; exact hh
        go_end0
        exact ⟨rfl, L', HH.out.1, HH.out.2.1.kp (drewN_kp (fun _ => False) wr q) (fun h => h) (fun _ _ h => h) (fun _ _ h => h), HH.out.2.2.1.fin (.inr hge), HH.out.2.2.2.trans (drewN_kp (fun _ => False) wr q) (fun _ _ h => False.elim h)⟩
      · rename_i hh
        have hlt : kf (key c) L' (k + 1) < kf (key c) L' ((k + 1 - 1) / 2) := by
          have := hh.2
          simp at this
          exact this
        refine ⟨⟨k / 2, lsw L' (k / 2) (k + 1), rfl, by omega, HH.out.1.sw (by omega) (by omega) hml, P3, ?_, (HH.out.2.2.2.trans (drewN_kp (fun _ => False) wr q) (fun _ _ h => False.elim h)).trans K3 (fun _ _ h => h)⟩, by simp [intOf]; omega⟩
        rw [kf_lsw (key c) L' _ _ (by omega) (by omega)]
        exact HH.out.2.2.1.step (by omega) hk (Nat.le_of_lt hlt)

/-- A bool comes back. -/
def RB (e : Ending) : Prop := ∃ b, e = .returned (.bool b)
theorem less_at (c : Nat → Pc) (w : World) (base B : Nat) (v : Value) (L : List Nat) (h : Ln c w base B v L) : Hid (∀ W, Kp (fun _ => False) w W → ∀ (x y : Int) (i j : Nat) (b : Bool), x = (i : Int) → y = (j : Int) → i < L.length → j < L.length → b = decide (kf (key c) L i < kf (key c) L j) →
    Calls Tryz.prog 242 #[ptr B, .int .i64 x, .int .i64 y] W fun e w' => e = .returned (.bool b) ∧ ∃ q, w' = W.drewN q) := by
  intro W k x y i j b hx hy hi hj hb
  subst hx hy hb
  exact less_any c W base B v L (h.kp k (fun h => h) (fun _ _ h => h) (fun _ _ h => h)) i j hi hj
theorem swap_at (c : Nat → Pc) (w : World) (base B : Nat) (v : Value) (L : List Nat) (h : Ln c w base B v L) (L0 : List Nat) (hp : L.Perm L0) : Hid (∀ W, Kp (fun _ => False) w W → ∀ (x y : Int) (i j : Nat), x = (i : Int) → y = (j : Int) → i < L.length → j < L.length → i ≠ j →
    Calls Tryz.prog 245 #[ptr B, .int .i64 x, .int .i64 y] W fun e w' => e = .returned (.tuple #[]) ∧ Ln c w' base B v (lsw L i j) ∧ Kp (LnF v L0) W w') := by
  intro W k x y i j hx hy hi hj hij
  subst hx hy
  exact (swap_any c W base B v L (h.kp0 k) i j hi hj hij).mono (fun e w' hw => ⟨hw.1, hw.2.1, hw.2.2.mono (fun k _ e => LnF.perm hp e)⟩)

set_option maxHeartbeats 4000000 in
set_option maxRecDepth 100000 in
theorem down_any (c : Nat → Pc) (w : World) (base B : Nat) (v : Value) (L : List Nat) (h : Ln c w base B v L) (lo i0 n : Nat) (hn : n ≤ L.length) (hi0 : i0 ≤ L.length) (hL : L.length < 4611686018427387904) (hd : Hd (kf (key c) L) lo n i0) :
    Calls Tryz.prog 146 #[.iface 107 (ptr B), .int .i64 i0, .int .i64 n] w fun e w' => RB e ∧ ∃ L', Mv n L L' ∧ Ln c w' base B v L' ∧ Hx (kf (key c) L') lo n ∧ Kp (LnF v L) w w' := by
  have mL := find_less B
  have mS := find_swap B
  go_enter Tryz.func146, Tryz.ntmps146
  go_wp2
  go_loopw [7] (fun vj wr => ∃ (k : Nat) (L' : List Nat), vj = .int .i64 k ∧ k ≤ L.length ∧ Hid (Mv n L L' ∧ Ln c wr base B v L' ∧ Hd (kf (key c) L') lo n k ∧ Kp (LnF v L) w wr)) (fun vj _ => L.length - (intOf vj).toNat)
  case atStart => exact ⟨i0, L, rfl, hi0, Mv.refl _ _, h, hd, Kp.refl _ _⟩
  case round =>
    obtain ⟨k, L', rfl, hk, HH⟩ := hrel
    have hP := HH.out.2.1
    have hMl := HH.out.1.len
    have HL := less_at c wr base B v L' hP
    have HS := swap_at c wr base B v L' hP L HH.out.1.perm
    clear hP
    by_cases h1 : 2 * k + 1 < n
    · by_cases h2 : 2 * k + 2 < n
      · by_cases hl : kf (key c) L' (2 * k + 2) < kf (key c) L' (2 * k + 1)
        · have hch : ∀ x, 0 < x → x < n → (x - 1) / 2 = k → kf (key c) L' (2 * k + 2) ≤ kf (key c) L' x := by (intro x hx0 hxn hp; rcases (show x = 2 * k + 1 ∨ x = 2 * k + 2 by omega) with e | e <;> subst e <;> omega)
          by_cases hs : kf (key c) L' (2 * k + 2) < kf (key c) L' k
          · go_wp2_with (first
              | (go_at_call 242; refine (HL.out _ (Kp.refl _ _) _ _ (2 * k + 2) (2 * k + 1) true (by omega) (by omega) (by omega) (by omega) (by simp; omega)).mono ?_; rintro _ _ ⟨rfl, q0, rfl⟩)
              | (go_at_call 242; refine (HL.out _ (drewN_kp (fun _ => False) wr q0) _ _ (2 * k + 2) k true (by omega) (by omega) (by omega) (by omega) (by simp; omega)).mono ?_; rintro _ _ ⟨rfl, q1, rfl⟩)
              | (go_at_call 245; refine (HS.out _ (drewN_kp (fun _ => False) wr (q0 + q1)) _ _ k (2 * k + 2) (by omega) (by omega) (by omega) (by omega) (by omega)).mono ?_; rintro _ w3 ⟨rfl, P3, K3⟩))
            have K4 : Kp (LnF v L) w w3 := (HH.out.2.2.2.trans (drewN_kp (fun _ => False) wr (q0 + q1)) (fun _ _ h => False.elim h)).trans K3 (fun _ _ h => h)
            refine ⟨⟨2 * k + 2, lsw L' k (2 * k + 2), by go_num, by omega, HH.out.1.sw (by omega) (by omega) hn, P3, ?_, K4⟩, by simp [intOf]; omega⟩
            rw [kf_lsw (key c) L' _ _ (by omega) (by omega)]
            exact HH.out.2.2.1.step (by omega) (by omega) (Nat.le_of_lt hs) hch
          · go_wp2_with (first
              | (go_at_call 242; refine (HL.out _ (Kp.refl _ _) _ _ (2 * k + 2) (2 * k + 1) true (by omega) (by omega) (by omega) (by omega) (by simp; omega)).mono ?_; rintro _ _ ⟨rfl, q0, rfl⟩)
              | (go_at_call 242; refine (HL.out _ (drewN_kp (fun _ => False) wr q0) _ _ (2 * k + 2) k false (by omega) (by omega) (by omega) (by omega) (by simp; omega)).mono ?_; rintro _ _ ⟨rfl, q1, rfl⟩)
              | fail)
            have K4 : Kp (fun _ => False) wr _ := (drewN_kp (fun _ => False) wr (q0 + q1))
            go_ret
            exact ⟨⟨_, rfl⟩, L', HH.out.1, HH.out.2.1.kp K4 (fun h => h) (fun _ _ h => h) (fun _ _ h => h), HH.out.2.2.1.fin (fun x h0 hx hp => Nat.le_trans (Nat.le_of_not_lt hs) (hch x h0 hx hp)), HH.out.2.2.2.trans K4 (fun _ _ h => False.elim h)⟩
        · have hch : ∀ x, 0 < x → x < n → (x - 1) / 2 = k → kf (key c) L' (2 * k + 1) ≤ kf (key c) L' x := by (intro x hx0 hxn hp; rcases (show x = 2 * k + 1 ∨ x = 2 * k + 2 by omega) with e | e <;> subst e <;> omega)
          by_cases hs : kf (key c) L' (2 * k + 1) < kf (key c) L' k
          · go_wp2_with (first
              | (go_at_call 242; refine (HL.out _ (Kp.refl _ _) _ _ (2 * k + 2) (2 * k + 1) false (by omega) (by omega) (by omega) (by omega) (by simp; omega)).mono ?_; rintro _ _ ⟨rfl, q0, rfl⟩)
              | (go_at_call 242; refine (HL.out _ (drewN_kp (fun _ => False) wr q0) _ _ (2 * k + 1) k true (by omega) (by omega) (by omega) (by omega) (by simp; omega)).mono ?_; rintro _ _ ⟨rfl, q1, rfl⟩)
              | (go_at_call 245; refine (HS.out _ (drewN_kp (fun _ => False) wr (q0 + q1)) _ _ k (2 * k + 1) (by omega) (by omega) (by omega) (by omega) (by omega)).mono ?_; rintro _ w3 ⟨rfl, P3, K3⟩))
            have K4 : Kp (LnF v L) w w3 := (HH.out.2.2.2.trans (drewN_kp (fun _ => False) wr (q0 + q1)) (fun _ _ h => False.elim h)).trans K3 (fun _ _ h => h)
            refine ⟨⟨2 * k + 1, lsw L' k (2 * k + 1), by go_num, by omega, HH.out.1.sw (by omega) (by omega) hn, P3, ?_, K4⟩, by simp [intOf]; omega⟩
            rw [kf_lsw (key c) L' _ _ (by omega) (by omega)]
            exact HH.out.2.2.1.step (by omega) (by omega) (Nat.le_of_lt hs) hch
          · go_wp2_with (first
              | (go_at_call 242; refine (HL.out _ (Kp.refl _ _) _ _ (2 * k + 2) (2 * k + 1) false (by omega) (by omega) (by omega) (by omega) (by simp; omega)).mono ?_; rintro _ _ ⟨rfl, q0, rfl⟩)
              | (go_at_call 242; refine (HL.out _ (drewN_kp (fun _ => False) wr q0) _ _ (2 * k + 1) k false (by omega) (by omega) (by omega) (by omega) (by simp; omega)).mono ?_; rintro _ _ ⟨rfl, q1, rfl⟩)
              | fail)
            have K4 : Kp (fun _ => False) wr _ := (drewN_kp (fun _ => False) wr (q0 + q1))
            go_ret
            exact ⟨⟨_, rfl⟩, L', HH.out.1, HH.out.2.1.kp K4 (fun h => h) (fun _ _ h => h) (fun _ _ h => h), HH.out.2.2.1.fin (fun x h0 hx hp => Nat.le_trans (Nat.le_of_not_lt hs) (hch x h0 hx hp)), HH.out.2.2.2.trans K4 (fun _ _ h => False.elim h)⟩
      · have hch : ∀ x, 0 < x → x < n → (x - 1) / 2 = k → kf (key c) L' (2 * k + 1) ≤ kf (key c) L' x := by (intro x hx0 hxn hp; obtain rfl : x = 2 * k + 1 := (by omega); exact Nat.le_refl _)
        by_cases hs : kf (key c) L' (2 * k + 1) < kf (key c) L' k
        · go_wp2_with (first
            | (go_at_call 242; refine (HL.out _ (Kp.refl _ _) _ _ (2 * k + 1) k true (by omega) (by omega) (by omega) (by omega) (by simp; omega)).mono ?_; rintro _ _ ⟨rfl, q1, rfl⟩)
            | (go_at_call 245; refine (HS.out _ (drewN_kp (fun _ => False) wr q1) _ _ k (2 * k + 1) (by omega) (by omega) (by omega) (by omega) (by omega)).mono ?_; rintro _ w3 ⟨rfl, P3, K3⟩))
          have K4 : Kp (LnF v L) w w3 := (HH.out.2.2.2.trans (drewN_kp (fun _ => False) wr q1) (fun _ _ h => False.elim h)).trans K3 (fun _ _ h => h)
          refine ⟨⟨2 * k + 1, lsw L' k (2 * k + 1), by go_num, by omega, HH.out.1.sw (by omega) (by omega) hn, P3, ?_, K4⟩, by simp [intOf]; omega⟩
          rw [kf_lsw (key c) L' _ _ (by omega) (by omega)]
          exact HH.out.2.2.1.step (by omega) (by omega) (Nat.le_of_lt hs) hch
        · go_wp2_with (first
            | (go_at_call 242; refine (HL.out _ (Kp.refl _ _) _ _ (2 * k + 1) k false (by omega) (by omega) (by omega) (by omega) (by simp; omega)).mono ?_; rintro _ _ ⟨rfl, q1, rfl⟩)
            | fail)
          have K4 : Kp (fun _ => False) wr _ := (drewN_kp (fun _ => False) wr q1)
          go_ret
          exact ⟨⟨_, rfl⟩, L', HH.out.1, HH.out.2.1.kp K4 (fun h => h) (fun _ _ h => h) (fun _ _ h => h), HH.out.2.2.1.fin (fun x h0 hx hp => Nat.le_trans (Nat.le_of_not_lt hs) (hch x h0 hx hp)), HH.out.2.2.2.trans K4 (fun _ _ h => False.elim h)⟩
    · go_wp2
      go_ret
      exact ⟨⟨_, rfl⟩, L', HH.out.1, HH.out.2.1, HH.out.2.2.1.fin (fun x h0 hx hp => by omega), HH.out.2.2.2⟩
set_option maxHeartbeats 4000000 in
set_option maxRecDepth 100000 in
theorem down_stay (c : Nat → Pc) (w : World) (base B : Nat) (v : Value) (L : List Nat) (h : Ln c w base B v L) (i0 n : Nat) (hn : n ≤ L.length) (hi0 : i0 < n) (hL : L.length < 4611686018427387904) (hc : ∀ k, 0 < k → k < n → (k - 1) / 2 = i0 → kf (key c) L i0 ≤ kf (key c) L k) :
    Calls Tryz.prog 146 #[.iface 107 (ptr B), .int .i64 i0, .int .i64 n] w fun e w' => e = .returned (.bool false) ∧ Kp (fun _ => False) w w' := by
  have mL := find_less B
  have HL := less_at c w base B v L h
  have HC := hid hc
  clear hc h
  go_enter Tryz.func146, Tryz.ntmps146
  go_wp2
  go_loopw [7] (fun vj wr => vj = .int .i64 (i0 : Int) ∧ wr = w) (fun vj _ => 0)
  case atStart => exact ⟨rfl, rfl⟩
  case round =>
    obtain ⟨rfl, rfl⟩ := hrel
    by_cases h1 : 2 * i0 + 1 < n
    · have c1 := HC.out (2 * i0 + 1) (by omega) h1 (by omega)
      by_cases h2 : 2 * i0 + 2 < n
      · have c2 := HC.out (2 * i0 + 2) (by omega) h2 (by omega)
        by_cases hl : kf (key c) L (2 * i0 + 2) < kf (key c) L (2 * i0 + 1)
        · go_wp2_with (first
            | (go_at_call 242; refine (HL.out _ (Kp.refl _ _) _ _ (2 * i0 + 2) (2 * i0 + 1) true (by omega) (by omega) (by omega) (by omega) (by simp; omega)).mono ?_; rintro _ _ ⟨rfl, q0, rfl⟩)
            | (go_at_call 242; refine (HL.out _ (drewN_kp (fun _ => False) wr q0) _ _ (2 * i0 + 2) i0 false (by omega) (by omega) (by omega) (by omega) (by simp; omega)).mono ?_; rintro _ _ ⟨rfl, q1, rfl⟩)
            | fail)
          go_ret
          exact ⟨by simp, drewN_kp _ _ _⟩
        · go_wp2_with (first
            | (go_at_call 242; refine (HL.out _ (Kp.refl _ _) _ _ (2 * i0 + 2) (2 * i0 + 1) false (by omega) (by omega) (by omega) (by omega) (by simp; omega)).mono ?_; rintro _ _ ⟨rfl, q0, rfl⟩)
            | (go_at_call 242; refine (HL.out _ (drewN_kp (fun _ => False) wr q0) _ _ (2 * i0 + 1) i0 false (by omega) (by omega) (by omega) (by omega) (by simp; omega)).mono ?_; rintro _ _ ⟨rfl, q1, rfl⟩)
            | fail)
          go_ret
          exact ⟨by simp, drewN_kp _ _ _⟩
      · go_wp2_with (first
          | (go_at_call 242; refine (HL.out _ (Kp.refl _ _) _ _ (2 * i0 + 1) i0 false (by omega) (by omega) (by omega) (by omega) (by simp; omega)).mono ?_; rintro _ _ ⟨rfl, q1, rfl⟩)
          | fail)
        go_ret
        exact ⟨by simp, drewN_kp _ _ _⟩
    · go_wp2
      go_ret
      exact ⟨by simp, Kp.refl _ _⟩
end Go.Proofs.YtnccklbnncaeoaaGreat
/- later: Push and Pop of a line. -/
namespace Go.Proofs.YtnccklbnncaeoaaGreat
open Go.RowKit
set_option linter.unusedVariables false
theorem own_short {w : World} {base g n cap : Nat} {z : Value} {xs : List Value} {t : TypeId} (h : w.ownsRow base t 1 (.slice (some ⟨g, 0, none⟩) (n + 1) cap) (n + 1) (xs ++ [z])) (hx : xs.length = n) : w.ownsRow base t 1 (.slice (some ⟨g, 0, none⟩) n cap) n xs := by
  refine ⟨by simpa using hx, ?_⟩
  rcases h.2 with ⟨e, h0⟩ | ⟨g', cap', cur, e, h1, h2, h3, h4, h5, h6⟩
  · omega
  · cases e
    refine .inr ⟨g, cap, cur, rfl, h1, h2, by omega, h4, h5, ?_⟩
    have := congrArg (List.take n) h6
    rw [List.take_take, List.take_left' hx] at this
    rw [← this]
    congr 1
    omega
set_option maxHeartbeats 4000000 in
set_option maxRecDepth 100000 in
theorem pop_any (c : Nat → Pc) (w : World) (base B : Nat) (v : Value) (M : List Nat) (b : Nat) (h : Ln c w base B v (M ++ [b])) (hM : M.length < 4611686018427387904) :
    Calls Tryz.prog 243 #[ptr B] w fun e w' => e = .returned (.iface 138 (ptr b)) ∧ ∃ v', Ln c w' base B v' M ∧ v'.ownBlock = v.ownBlock ∧ Kp (fun k => k = B ∨ v.ownBlock = some k) w w' ∧ ∃ s, Wt c w' b s := by
  obtain ⟨g, cap, rfl, hb, hgl, hc1, hc2, hcells, hfr⟩ := h.row (by simp)
  have hl : (M ++ [b]).length = M.length + 1 := by simp
  have HO := hid h.own
  rw [hl] at hc1 hcells h HO ⊢
  have hgn := h.ne g rfl
  have h1 := h.st.cell 0
  have cb := hcells M.length (by omega)
  have fg := hfr M.length
  rw [show (M ++ [b]).getD M.length 0 = b by simp] at cb
  simp at h1
  have hm2 : cap ≤ 9223372036854775807 := by unfold maxLen at hc2; omega
  have hib : b ∈ M ++ [b] := by simp
  obtain ⟨sb, hsb⟩ := h.wt hib
  have hbB : b ≠ B := fun e => h.nb (e ▸ hib)
  have kg := kp_setCell w g M.length (.pointer none) (fun k => k = g) rfl
  have SB := hid (h.st.kp kg (Ne.symm hgn.1))
  have d1 : (w.setCell ⟨g, M.length, none⟩ (.pointer none)).cell? ⟨B, 0, none⟩ = some (.slice (some ⟨g, 0, none⟩) (M.length + 1) cap) := SB.out.cell 0
  have f1 : (w.setCell ⟨g, M.length, none⟩ (.pointer none)).frozen? ⟨B, 0, none⟩ = false := SB.out.frozen 0
  have KG := hid kg
  have HH := hid h
  have HW := hid hsb
  have HN := hid hgn
  clear h kg hsb hgn hcells hfr
  unfold ptr at *
  go_enter Tryz.func243, Tryz.ntmps243
  go_wp2
  go_ret
  refine ⟨rfl, .slice (some ⟨g, 0, none⟩) M.length cap, ?_, rfl, ?_, ?_⟩
  · have hg := HN.out
    obtain ⟨o1, _⟩ := HO.out.stored M.length (.pointer none)
    have o2 : (w.setCell ⟨g, M.length, none⟩ (.pointer none)).ownsRow base 138 1 (.slice (some ⟨g, 0, none⟩) M.length cap) M.length (M.map ptr) := by
      refine own_short (z := .pointer none) ?_ (by simp)
      have e : ((M ++ [b]).map ptr).set M.length (.pointer none) = M.map ptr ++ [.pointer none] := by simp
      rw [← e]
      exact o1
    have kB := kp_setCell (w.setCell ⟨g, M.length, none⟩ (.pointer none)) B 0 (.slice (some ⟨g, 0, none⟩) M.length cap) (fun k => k = B) rfl
    refine ⟨by simpa using SB.out.set 0 (.slice (some ⟨g, 0, none⟩) M.length cap), own_kp o2 kB (fun g' e => by simp [Value.ownBlock] at e; omega), fun i hi => ?_, fun x hx => HH.out.may x (by simp [hx])⟩
    have ht := HH.out.tr i (by simp; omega)
    have he : (M ++ [b]).getD i 0 = M.getD i 0 := by simp [List.getD, List.getElem?_append_left hi]
    rw [he] at ht
    have hm : M.getD i 0 ∈ M ++ [b] := List.mem_append_left _ (gn_mem hi)
    exact (ht.kp KG.out (fun e => hg.2 (e ▸ hm))).kp kB (fun e => HH.out.nb (e ▸ hm))
  · exact (KG.out.mono (G := fun k => k = B ∨ (Value.slice (some ⟨g, 0, none⟩) (M.length + 1) cap).ownBlock = some k) (fun k _ e => .inr (by rw [e]; rfl))).trans (kp_setCell _ B 0 _ (fun k => k = B) rfl) (fun k _ e => .inl e)
  · exact ⟨sb, (HW.out.kp KG.out (fun e => HN.out.2 (e ▸ hib))).kp (kp_setCell _ B 0 _ (fun k => k = B) rfl) hbB⟩
/-- append onto a row of one's own of a slice that may be nil or not. -/
theorem wpList_append_any {P : Program} {w : World} {ops : Array Oper} {rest : List Oper} {o : Oper} {a : Act} {Q : Exit → Act → World → Prop} (hgd : o.guard = none) (s x : Operand) (t : TypeId)
    (ho : o.op = .call { callee := .builtin .append, args := #[s, x], argTypes := #[t, t] }) (base : Nat) (e : TypeId) (z : Value) (size bytes : Nat) (ht : P.underlying t = some (.slice e)) (hinfo : (P.info? e).map (fun i => (i.zero, i.size, i.bytes)) = some (some z, size, bytes)) (hzs : z.cells.size = size) (hsz : 0 < size)
    (v : Value) (n : Nat) (xs : List Value) (hs : a.eval s = v) (hown : w.ownsRow base e size v n xs)
    (ao : Option Addr) (m c : Nat) (news : List Value) (hx : a.eval x = .slice ao m c) (hnone : ao = none → m = 0 ∧ c = 0) (hl : news.length = m * size) (hnews : ∀ ad, ao = some ad → ∀ j u, news[j]? = some u → w.cell? (ad.add j) = some u) (h1 : ∀ u ∈ news, u.oneCell' = true)
    (h63 : n + m ≤ maxLen) (hbytes : (n + m) * bytes ≤ 140737488355328) (hbase : base ≤ w.heap.size)
    (h : ∀ v' w', w'.ownsRow base e size v' (n + m) (xs ++ news) → Kp (fun i => v.ownBlock = some i) w w' → (v'.ownBlock = v.ownBlock ∨ v'.ownBlock = some w.heap.size) → wpList P ops Q rest (a.put o.dst v') w') : wpList P ops Q (o :: rest) a w := by
  obtain ⟨i0, hi, hz0, hz1, hz2⟩ := info_parts hinfo
  cases ao with
  | none =>
    obtain ⟨hm0, hc⟩ := hnone rfl
    subst hm0 hc
    obtain rfl : news = [] := List.eq_nil_of_length_eq_zero (by simpa using hl)
    refine wpList_append_own_none hgd s x t ho base e i0 size ht hi v n xs hs hown hx (h v w ?_ (Kp.refl _ _) (.inl rfl))
    rw [Nat.add_zero, List.append_nil]
    exact hown
  | some ad =>
    refine wpList_append_own_at w hgd s x t ho base e i0 z size bytes ht hi hz0 hz1 hz2 hzs hsz v n xs hs hown ad m c news hx hl (hnews ad rfl) h1 h63 hbytes hbase ?_
    intro v' w' h2 h3 _ h4
    exact h v' w' h2 (Kp.of_grown h3 (fun i e => e.symm ▸ rfl)) h4
theorem Tryz.info138 : (Tryz.prog.info? 138).map (fun i => (i.zero, i.size, i.bytes)) = some (some (.pointer none), 1, 8) := by kernel_rfl
theorem is_waits (b : Nat) (w : World) : Sem.run Tryz.prog (Instr.typeAssert (.iface 138 (.pointer (some ⟨b, 0, none⟩))) 20 138 false) w = .ok (.pointer (some ⟨b, 0, none⟩)) w := by kernel_rfl
theorem own_slice {w : World} {base n : Nat} {v : Value} {xs : List Value} (h : w.ownsRow base 138 1 v (n + 1) xs) : ∃ g cap, v = .slice (some ⟨g, 0, none⟩) (n + 1) cap := by
  rcases h.2 with ⟨_, h0⟩ | ⟨g, cap, cur, rfl, _⟩
  · omega
  · exact ⟨g, cap, rfl⟩
/-- What a push leaves. -/
structure Pushed (c : Nat → Pc) (w w' : World) (base B b : Nat) (v v' : Value) (L : List Nat) : Prop where
  ln : Ln c w' base B v' L
  own : v'.ownBlock = v.ownBlock ∨ ∃ g, v'.ownBlock = some g ∧ w.heap.size ≤ g
  kp : Kp (fun k => k = B ∨ v.ownBlock = some k ∨ k = b) w w'
theorem push_parts (c : Nat → Pc) (w w2 : World) (base B : Nat) (v v2 : Value) (L : List Nat) (b s : Nat) (o : Obj) (h : Ln c w base B v L) (hb : Wt c w b s) (hm : Mayp (c b)) (hbL : b ∉ L)
    (O2 : w2.ownsRow base 138 1 v2 (L.length + 1) (L.map ptr ++ [ptr b])) (K2 : Kp (fun i => v.ownBlock = some i) ((w.setCell ⟨b, 5, none⟩ (.int .i64 (L.length : Int))).alloc o) w2) (L2 : v2.ownBlock = v.ownBlock ∨ v2.ownBlock = some ((w.setCell ⟨b, 5, none⟩ (.int .i64 (L.length : Int))).alloc o).heap.size) : Pushed c w (w2.setCell ⟨B, 0, none⟩ v2) base B b v v2 (L ++ [b]) := by
  have kb := kp_setCell w b 5 (.int .i64 (L.length : Int)) (fun k => k = b) rfl
  have hbB : b ≠ B := fun e => by subst e; exact apart_types h.st hb (by decide)
  have hbv : v.ownBlock ≠ some b := fun e => by obtain ⟨cur, hg, _⟩ := ownb h.own e; exact apart_types hg hb (by decide)
  have wb : Wt c (w.setCell ⟨b, 5, none⟩ (.int .i64 (L.length : Int))) b L.length := St.set hb 5 (.int .i64 (L.length : Int))
  have K1 : Kp (fun i => v.ownBlock = some i) (w.setCell ⟨b, 5, none⟩ (.int .i64 (L.length : Int))) w2 := ((Kp.refl _ _).alloc o).trans K2 (fun _ _ h => h)
  have hln : Ln c (w.setCell ⟨b, 5, none⟩ (.int .i64 (L.length : Int))) base B v L := h.kp kb (Ne.symm hbB) (fun g e e2 => hbv (e2 ▸ e)) (fun x hx e => hbL (e ▸ hx))
  have S2 := hln.st.kp K1 (fun e => (hln.ne _ e).1 rfl)
  have wb2 := wb.kp K1 hbv
  have kB := kp_setCell w2 B 0 v2 (fun k => k = B) rfl
  have hnB : v2.ownBlock ≠ some B := fun e => by obtain ⟨cur, hg, _⟩ := ownb O2 e; exact apart_types hg S2 (by decide)
  have hsz : ((w.setCell ⟨b, 5, none⟩ (.int .i64 (L.length : Int))).alloc o).heap.size = w.heap.size + 1 := by simp
  refine ⟨⟨by simpa using S2.set 0 v2, ?_, fun i hi => ?_, fun x hx => ?_⟩, ?_, ?_⟩
  · have h3 : w2.ownsRow base 138 1 v2 (L ++ [b]).length ((L ++ [b]).map ptr) := by simpa using O2
    exact own_kp h3 kB (fun g e e2 => hnB (e2 ▸ e))
  · rw [List.length_append, List.length_singleton] at hi
    by_cases e : i = L.length
    · subst e
      rw [show (L ++ [b]).getD L.length 0 = b by simp]
      exact wb2.kp kB hbB
    · have hi2 : i < L.length := by omega
      rw [show (L ++ [b]).getD i 0 = L.getD i 0 by simp [List.getD, List.getElem?_append_left hi2]]
      exact ((hln.tr i hi2).kp K1 (fun e => (hln.ne _ e).2 (gn_mem hi2))).kp kB (fun e => h.nb (e ▸ gn_mem hi2))
  · rcases List.mem_append.1 hx with hx | hx
    · exact h.may x hx
    · simp at hx; rw [hx]; exact hm
  · rcases L2 with e2 | e2
    · exact .inl e2
    · exact .inr ⟨_, e2, by omega⟩
  · exact ((kb.mono (G := fun k => k = B ∨ v.ownBlock = some k ∨ k = b) (fun _ _ h => .inr (.inr h))).trans K1 (fun _ _ h => .inr (.inl h))).trans kB (fun _ _ h => .inl h)
set_option maxHeartbeats 4000000 in
set_option maxRecDepth 100000 in
theorem push_any (c : Nat → Pc) (w : World) (base B : Nat) (v : Value) (L : List Nat) (b s : Nat) (h : Ln c w base B v L) (hb : Wt c w b s) (hm : Mayp (c b)) (hbL : b ∉ L) (hbase : base ≤ w.heap.size) (hL : L.length < 17592186044415) :
    Calls Tryz.prog 244 #[ptr B, .iface 138 (ptr b)] w fun e w' => e = .returned (.tuple #[]) ∧ ∃ v', Pushed c w w' base B b v v' (L ++ [b]) := by
  have hbB : b ≠ B := fun e => by subst e; exact apart_types h.st hb (by decide)
  have hbv : v.ownBlock ≠ some b := fun e => by obtain ⟨cur, hg, _⟩ := ownb h.own e; exact apart_types hg hb (by decide)
  have kb := kp_setCell w b 5 (.int .i64 (L.length : Int)) (fun k => k = b) rfl
  have hln := hid (h.kp kb (Ne.symm hbB) (fun g e e2 => hbv (e2 ▸ e)) (fun x hx e => hbL (e ▸ hx)))
  obtain ⟨ao, cap, hv, _⟩ := h.len
  subst hv
  have h1 : w.cell? ⟨B, 0, none⟩ = some (.slice ao L.length cap) := h.st.cell 0
  have y2 : w.cell? ⟨b, 5, none⟩ = some (.int .i64 (s : Int)) := St.cell hb 5
  have f2 : w.frozen? ⟨b, 5, none⟩ = false := St.frozen hb 5
  have hbl := hb.lt
  have z1 : (w.setCell ⟨b, 5, none⟩ (.int .i64 (L.length : Int))).cell? ⟨B, 0, none⟩ = some (.slice ao L.length cap) := hln.out.st.cell 0
  have HH := hid h
  have HB := hid hb
  have HM := hid hm
  have mT := is_waits b
  clear h hb kb
  unfold ptr at *
  go_enter Tryz.func244, Tryz.ntmps244
  generalize hC2 : Code.region 2 _ _ = C2
  go_wp2_with fail
  subst hC2
  obtain ⟨W1, hW⟩ : ∃ W1, W1 = w.setCell ⟨b, 5, none⟩ (.int .i64 (L.length : Int)) := ⟨_, rfl⟩
  have hsz : W1.heap.size = w.heap.size := by rw [hW]; simp
  rw [← hW] at z1 hln ⊢
  have HWW := hid hW
  clear hW
  go_wp2_with (first
    | (at_builtin; refine wpList_append_any rfl (.tmp 19) (.tmp 21) 108 rfl base 138 (.pointer none) 1 8 Tryz.underlying108 Tryz.info138 rfl (by decide) _ L.length (L.map ptr) rfl (hln.out.own.alloc _) (some ⟨W1.heap.size, 0, none⟩) 1 1 [ptr b] (by first | rfl | simp [Act.eval]) (fun h => by cases h) rfl (fun ad e j u hu => by (cases e; rw [add_z]; exact ((St.new 138 W1 #[ptr b]).cell j).trans (by simpa using hu))) (fun u hu => by (simp at hu; subst hu; rfl)) (by unfold maxLen; omega) (by omega) (by simp; omega) ?_; intro v2 w2 O2 K2 L2; obtain ⟨g2, cap2, hv2⟩ := own_slice O2; subst hv2; have S2 := (hln.out.st.kp (Kp.alloc (Kp.refl (fun _ => False) W1) _) (fun h => h)).kp K2 (fun e => (hln.out.ne _ e).1 rfl); have C2 := S2.cell 0; have F2 := S2.frozen 0; simp at C2))
  go_end0
  rw [HWW.out] at K2 L2
  exact ⟨rfl, _, push_parts c w w2 base B _ _ L b s _ HH.out HB.out HM.out hbL O2 K2 L2⟩
end Go.Proofs.YtnccklbnncaeoaaGreat
