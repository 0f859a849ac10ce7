/- What spent's second loop counts. -/
import Derived.Test.YthpocbpleffdpaaSa
namespace Go.Proofs.Ythpocbpleffdpaa
open Go.RowKit
set_option linter.unusedVariables false

/-- What a tree costs is what its parts cost, and a leaf costs 1 or more. -/
def Cw (F : List Nd) : Prop := ∀ k, k < F.length → ((F.getD k nd0).2.2 = none → 1 ≤ (F.getD k nd0).1) ∧ ∀ p, (F.getD k nd0).2.2 = some p → p.1 < k ∧ p.2 < k ∧ (F.getD p.1 nd0).1 + (F.getD p.2 nd0).1 ≤ (F.getD k nd0).1
theorem Cw.more {F : List Nd} {x : Nd} (h : Cw F) (h1 : x.2.2 = none → 1 ≤ x.1) (h2 : ∀ p, x.2.2 = some p → p.1 < F.length ∧ p.2 < F.length ∧ (F.getD p.1 nd0).1 + (F.getD p.2 nd0).1 ≤ x.1) : Cw (F ++ [x]) := by
  intro k hk
  by_cases hk2 : k < F.length
  · rw [getD_front hk2]
    obtain ⟨a, b⟩ := h k hk2
    refine ⟨a, fun p e => ?_⟩
    obtain ⟨b1, b2, b3⟩ := b p e
    rw [getD_front (show p.1 < F.length by omega), getD_front (show p.2 < F.length by omega)]
    exact ⟨b1, b2, b3⟩
  · have e : k = F.length := by simp at hk; omega
    have e2 : (F ++ [x]).getD k nd0 = x := by rw [e]; simp
    rw [e2]
    refine ⟨h1, fun p ep => ?_⟩
    obtain ⟨b1, b2, b3⟩ := h2 p ep
    rw [getD_front b1, getD_front b2]
    exact ⟨by omega, by omega, b3⟩
theorem Cw.lv {F : List Nd} (h : Cw F) (zs : List Int) : ∀ i, Cw (F ++ Go.Proofs.Ythpocbpleffdpaa.lv zs i)
  | 0 => by rw [lv_zero, List.append_nil]; exact h
  | i + 1 => by
    by_cases hp : 0 < zs.getD i 0
    · rw [lv_yes hp, ← List.append_assoc]
      exact (Cw.lv h zs i).more (fun _ => by show 1 ≤ (zs.getD i 0).toNat; omega) (fun p e => by cases e)
    · rw [lv_no hp]
      exact Cw.lv h zs i
theorem Cw.prs : ∀ (j : Nat) (F : List Nd) (K N : List Nat), 2 * j ≤ K.length → (∀ k ∈ K, k < F.length) → Cw F → Cw (prs j (F, K, N)).1
  | 0, F, K, N, _, _, h => h
  | j + 1, F, K, N, hj, hk, h => by
    have h1 : 1 < K.length := by omega
    obtain ⟨m1, _⟩ := mn_mem F (ne_nil_of (show 0 < K.length by omega))
    have l1 := erase_len m1
    obtain ⟨m2, _⟩ := mn_mem F (two_ne (F := F) h1)
    have l2 := erase_len m2
    have l3 : 2 * j ≤ ((K.erase (mn F K)).erase (mn F (K.erase (mn F K)))).length := by omega
    refine Cw.prs j _ _ _ l3 (fun k hk2 => ?_) ?_
    · have := hk k (List.mem_of_mem_erase (List.mem_of_mem_erase hk2))
      simp
      omega
    · refine h.more (fun e => by simp [jnd] at e) (fun p e => ?_)
      simp only [jnd, Option.some.injEq] at e
      subst e
      exact ⟨hk _ m1, hk _ (List.mem_of_mem_erase m2), Nat.le_refl _⟩
theorem cw_spS {zs : List Int} (hl : zs.length ≤ 320) : ∀ t, t ≤ 1000 → Cw (Pm.spS zs t).1
  | 0, _ => by
    have := Cw.lv (F := []) (fun k hk => by simp at hk) zs zs.length
    rw [List.nil_append] at this
    exact this
  | t + 1, h => by
    have hv := Pm.spS_lv hl t (by omega)
    refine Cw.prs _ _ _ _ (by omega) (fun k hk => ?_) ((cw_spS hl t (by omega)).lv zs zs.length)
    have := hv.kl k hk
    simp
    omega
theorem Cw.wf {F : List Nd} (h : Cw F) : Pm.Wf F := fun k hk p e => ⟨((h k hk).2 p e).1, ((h k hk).2 p e).2.1⟩
theorem Cw.lvc {F : List Nd} (h : Cw F) : ∀ n k, k < F.length → Go.Proofs.Ythpocbpleffdpaa.lvc F n k ≤ (F.getD k nd0).1
  | 0, k, hk => Nat.zero_le _
  | n + 1, k, hk => by
    obtain ⟨a, b⟩ := h k hk
    unfold Go.Proofs.Ythpocbpleffdpaa.lvc
    cases e : (F.getD k nd0).2.2 with
    | none => exact a e
    | some p =>
      obtain ⟨b1, b2, b3⟩ := b p e
      have h1 := Cw.lvc h n p.1 (by omega)
      have h2 := Cw.lvc h n p.2 (by omega)
      simp only
      omega
theorem tly_tl {F : List Nd} (h : Pm.Wf F) : ∀ (n k : Nat) (Z : List Int), k < n → k < F.length → Sy F Z.length → ∀ i, (tly F n k Z).getD i 0 = Z.getD i 0 + ((Pm.tl F k i : Nat) : Int)
  | 0, k, Z, h1, _, _, _ => by omega
  | n + 1, k, Z, h1, h2, hs, i => by
    unfold tly
    cases e : (F.getD k nd0).2.2 with
    | none =>
      have h3 := hs k h2 e
      simp only
      rw [Pm.tl_leaf i e]
      unfold Pm.sy
      by_cases e2 : (F.getD k nd0).2.1 = i
      · rw [if_pos e2, ← e2]
        simp [List.getD_eq_getElem?_getD, List.getElem?_set] at *
        simp [h3]
      · rw [if_neg e2]
        simp [List.getD_eq_getElem?_getD, List.getElem?_set] at *
        simp [e2]
    | some p =>
      obtain ⟨_, h3, h4⟩ := Pm.wf_kid h e
      simp only
      rw [tly_tl h n p.2 _ (by omega) (by omega) (by rw [tly_len]; exact hs), tly_tl h n p.1 Z (by omega) (by omega) hs, Pm.tl_node h i e]
      omega
/-- The first n that come off, each counted. -/
def tkn (F : List Nd) : Nat → List Nat × List Int → List Nat × List Int
  | 0, S => S
  | n + 1, S => tkn F n (S.1.erase (mn F S.1), tly F F.length (mn F S.1) S.2)
theorem tkn_get {F : List Nd} (h : Pm.Wf F) : ∀ (n : Nat) (K : List Nat) (Z : List Int), n ≤ K.length → (∀ k ∈ K, k < F.length) → Sy F Z.length → (tkn F n (K, Z)).2.length = Z.length ∧ ∀ i, (tkn F n (K, Z)).2.getD i 0 = Z.getD i 0 + ((Pm.tsum F (Pm.pks F n K) i : Nat) : Int)
  | 0, K, Z, _, _, _ => ⟨rfl, fun i => by show Z.getD i 0 = _; unfold Pm.tsum Pm.pks; simp⟩
  | n + 1, K, Z, hn, hk, hs => by
    obtain ⟨m1, _⟩ := mn_mem F (ne_nil_of (show 0 < K.length by omega))
    have l1 := erase_len m1
    obtain ⟨a, b⟩ := tkn_get h n (K.erase (mn F K)) (tly F F.length (mn F K) Z) (by omega) (fun k hk2 => hk k (List.mem_of_mem_erase hk2)) (by rw [tly_len]; exact hs)
    refine ⟨a.trans (tly_len _ _ _ _), fun i => ?_⟩
    refine (b i).trans ?_
    rw [tly_tl h _ _ _ (hk _ m1) (hk _ m1) hs]
    have e : Pm.pks F (n + 1) K = mn F K :: Pm.pks F n (K.erase (mn F K)) := rfl
    rw [e]
    unfold Pm.tsum
    simp only [List.map_cons, List.sum_cons]
    omega
/-- The lengths that spent tells. -/
def spl (zs : List Int) (m : Nat) : List Int := (tkn (Pm.spS zs m).1 (2 * ((lv zs zs.length).length - 1)) ((Pm.spS zs m).2, List.replicate zs.length 0)).2
theorem sy_lev {zs : List Int} {t : Nat} {F : List Nd} {K : List Nat} (h : Pm.Lv zs t F K) : Sy F zs.length := fun j hj e => (Pm.pos_mem.1 (h.lf j hj e)).1
theorem spl_get {zs : List Int} {m : Nat} (hl : zs.length ≤ 320) (hm : m ≤ 1000) (hr : 2 * ((lv zs zs.length).length - 1) ≤ (Pm.row (Pm.base zs) m).length) : (spl zs m).length = zs.length ∧ ∀ i, (spl zs m).getD i 0 = ((Pm.tsum (Pm.spS zs m).1 (Pm.pks (Pm.spS zs m).1 (2 * (Pm.pos zs).length - 2) (Pm.spS zs m).2) i : Nat) : Int) := by
  have hv := Pm.spS_lv hl m hm
  have hp := Pm.lv_plen zs
  obtain ⟨a, b⟩ := tkn_get (F := (Pm.spS zs m).1) hv.wf (2 * ((lv zs zs.length).length - 1)) (Pm.spS zs m).2 (List.replicate zs.length 0) (by rw [hv.len]; exact hr) hv.kl (by rw [List.length_replicate]; exact sy_lev hv)
  refine ⟨a.trans List.length_replicate, fun i => ?_⟩
  refine (b i).trans ?_
  rw [show 2 * ((lv zs zs.length).length - 1) = 2 * (Pm.pos zs).length - 2 by omega]
  have : (List.replicate zs.length (0 : Int)).getD i 0 = 0 := by
    rw [List.getD_eq_getElem?_getD, List.getElem?_replicate]
    split <;> rfl
  omega

/-- What spent's second loop holds. -/
structure Sr (n : Nat) (w wr : World) (base Fb B G : Nat) (v : Value) (F : List Nd) (bs K L : List Nat) (Z : List Int) (q : Nat) (T : List Nat × List Int) : Prop where
  gp : Gp wr base Fb B v F bs K L
  row : Rw .i64 3 wr G Z
  kp : Kp (fun _ => False) w wr
  big : w.heap.size ≤ base ∧ w.heap.size ≤ Fb ∧ w.heap.size ≤ B ∧ base ≤ wr.heap.size ∧ w.heap.size ≤ G
  tk : tkn F q (K, Z) = T
  len : Z.length = n
  num : q ≤ K.length
  bnd : ∀ i, 0 ≤ Z.getD i 0 ∧ Z.getD i 0 + cst F K ≤ 4611686018427387904
  sym : Sy F n
  cw : Cw F
  few : F.length ≤ 1000000 ∧ n ≤ 320 ∧ K.length ≤ 1000000
theorem Sq.then {zs : List Int} {w wr : World} {base Fb B G : Nat} {v : Value} {F : List Nd} {bs K L : List Nat} {t : Nat} (h : Sq zs w wr base Fb B G v F bs K L t) (hl : zs.length ≤ 320) (ht : t ≤ 20) (hz : ∀ z ∈ zs, 0 ≤ z ∧ z < 4294967296) (hG : w.heap.size ≤ G) (q : Nat) (hq : q ≤ (Pm.row (Pm.base zs) t).length) :
    Sr zs.length w wr base Fb B G v F bs K L (List.replicate zs.length 0) q (tkn (Pm.spS zs t).1 q ((Pm.spS zs t).2, List.replicate zs.length 0)) := by
  have hv := h.lev hl (by omega)
  have hb := hv.bd
  have hk := hv.len
  have hr := Pm.row_two (Pm.base zs) t
  have hbl := Pm.base_plen zs
  have hpl := Pm.pos_le zs
  have hc := cst_small hv hz hl ht
  have hcw := cw_spS hl t (by omega)
  rw [h.eq] at hcw ⊢
  refine ⟨h.gp, h.row, h.kp, ⟨h.big.1, h.big.2.1, h.big.2.2.1, h.big.2.2.2, hG⟩, rfl, List.length_replicate, by omega, fun i => ?_, sy_lev hv, hcw, ⟨by omega, hl, by omega⟩⟩
  have : (List.replicate zs.length (0 : Int)).getD i 0 = 0 := by
    rw [List.getD_eq_getElem?_getD, List.getElem?_replicate]
    split <;> rfl
  omega
theorem Sr.least {n : Nat} {w wr : World} {base Fb B G : Nat} {v : Value} {F : List Nd} {bs K L : List Nat} {Z : List Int} {q : Nat} {T : List Nat × List Int} (h : Sr n w wr base Fb B G v F bs K L Z (q + 1) T) :
    Calls Try.prog 74 #[ptr B] wr fun e w' => e = .returned (ptr (bs.getD (mn F K) 0)) ∧ ∃ v' L', Gp w' base Fb B v' F bs (K.erase (mn F K)) L' ∧ Rw .i64 3 w' G Z ∧ Kp (fun _ => False) w w' ∧ base ≤ w'.heap.size := by
  have hn := h.num
  have hf := h.few
  refine (least_gp wr base Fb B v F bs K L h.gp (ne_nil_of (by omega)) (by omega)).mono ?_
  rintro e w' ⟨rfl, v', L', g', _, k1⟩
  have hg := h.gp.notG h.row
  have hlt := fun x e => (h.gp.pil.own.lt x e).1
  have hbg := h.big
  refine ⟨rfl, v', L', g', h.row.kp k1 (fun e => e.elim hg.1 hg.2.1), h.kp.trans k1 (fun i hi e => ?_), Nat.le_trans hbg.2.2.2.1 k1.size⟩
  rcases e with e | e
  · omega
  · have := hlt i e
    omega
theorem Sr.tally {n : Nat} {w wr w1 : World} {base Fb B G : Nat} {v v1 : Value} {F : List Nd} {bs K L L1 : List Nat} {Z : List Int} {q : Nat} {T : List Nat × List Int} (h : Sr n w wr base Fb B G v F bs K L Z (q + 1) T) (h1 : Gp w1 base Fb B v1 F bs (K.erase (mn F K)) L1 ∧ Rw .i64 3 w1 G Z ∧ Kp (fun _ => False) w w1 ∧ base ≤ w1.heap.size) :
    Calls Try.prog 79 #[ptr (bs.getD (mn F K) 0), .slice (some ⟨G, 0, none⟩) n n] w1 fun e w' => e = .returned (.tuple #[]) ∧ Sr n w w' base Fb B G v1 F bs (K.erase (mn F K)) L1 (tly F F.length (mn F K) Z) q T := by
  obtain ⟨g1, r1, k1, b1⟩ := h1
  have hn := h.num
  obtain ⟨m1, _⟩ := mn_mem F (ne_nil_of (show 0 < K.length by omega))
  have l1 := erase_len m1
  have m2 := h.gp.lt _ m1
  have c1 := cst_erase (F := F) m1
  have hlc := h.cw.lvc F.length (mn F K) m2
  have hbd := h.bnd
  have hf := h.few
  have := tally_any F bs Fb G F.length (mn F K) Z w1 m2 m2 (fun j => by have := hbd j; omega) g1.fo r1 (by rw [h.len]; exact h.sym) (by rw [h.len]; omega)
  rw [h.len] at this
  refine this.mono ?_
  rintro e w' ⟨rfl, r2, k2⟩
  have hg := g1.notG r1
  have hbg := h.big
  refine ⟨rfl, ⟨⟨g1.fo.kp k2 (fun e => hg.2.2.1 e.symm) (fun b hb e => hg.2.2.2 (e ▸ hb)), g1.pil.kp k2 (fun e => hg.1 e.symm) (fun g e e2 => hg.2.1 (e2 ▸ e)) (fun b hb e => by obtain ⟨_, _, _, hm⟩ := g1.sub hb; exact hg.2.2.2 (e ▸ hm)), g1.hx, g1.perm, g1.lt⟩, r2, k1.trans k2 (fun i hi e => by omega), ⟨hbg.1, hbg.2.1, hbg.2.2.1, Nat.le_trans b1 k2.size, hbg.2.2.2.2⟩, h.tk, (tly_len _ _ _ _).trans h.len, by omega, fun i => ?_, h.sym, h.cw, ⟨hf.1, hf.2.1, by omega⟩⟩⟩
  have h3 := tly_le F F.length (mn F K) Z i
  have h4 := hbd i
  omega
end Go.Proofs.Ythpocbpleffdpaa
