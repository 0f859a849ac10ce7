/- What Lengths tells is good: it fits, it costs least, it weighs the whole. -/
import Derived.Test.YthpocbpleffdpaaXhX
import Derived.Test.YthpocbpleffdpaaNd
import Derived.Test.YthpocbpleffdpaaNg
namespace Go.Proofs.Ythpocbpleffdpaa
open Go.RowKit

theorem cF_app {F X : List Nd} {bs Y : List Nat} (hl : bs.length = F.length) {b : Nat} (hb : b ∈ bs) : cF (F ++ X) (bs ++ Y) b = cF F bs b := by
  have h1 := List.idxOf_lt_length_of_mem hb
  unfold cF
  rw [List.idxOf_append, if_pos hb]
  simp [List.getD, List.getElem?_append_left (show bs.idxOf b < F.length by omega)]
/-- A pile, the forest having grown. -/
theorem Gp.more {w w' : World} {base Fb B : Nat} {v : Value} {F X : List Nd} {bs Y K L : List Nat} (h : Gp w base Fb B v F bs K L) (f : Fo w' Fb (F ++ X) (bs ++ Y)) (k : Kp (fun x => x = Fb) w w') : Gp w' base Fb B v (F ++ X) (bs ++ Y) K L := by
  have hap := h.apart
  have hce : ∀ x ∈ L, Go.Proofs.Ythpocbpleffdpaa.cF (F ++ X) (bs ++ Y) x = Go.Proofs.Ythpocbpleffdpaa.cF F bs x := fun x hx => by
    obtain ⟨_, _, _, hm⟩ := h.sub hx
    exact cF_app h.fo.len hm
  have p1 : Pil (Go.Proofs.Ythpocbpleffdpaa.cF F bs) w' base B v (fvo (ptr Fb)) L := h.pil.kp k (fun e => hap.1.1 e.symm) (fun g e e2 => hap.1.2 (e2 ▸ e)) (fun x hx e => by obtain ⟨_, _, _, hm⟩ := h.sub hx; exact (h.fo.lt hm).2 e)
  refine ⟨f, p1.congr hce, h.hx.congr (fun k hk => kf_congr hce k hk), ?_, fun k hk => by have := h.lt k hk; simp; omega⟩
  have hm : K.map (fun k => (bs ++ Y).getD k 0) = K.map (fun k => bs.getD k 0) := by
    refine List.map_congr_left fun k hk => ?_
    have h1 := h.lt k hk
    have h2 := h.fo.len
    simp [List.getD, List.getElem?_append_left (show k < bs.length by omega)]
  rw [hm]
  exact h.perm
/-- A row of one's own as a slice. -/
theorem own_parts {w : World} {base e n : Nat} {v : Value} {xs : List Value} (h : w.ownsRow base e 1 v n xs) : ∃ ao c, v = .slice ao n c ∧ (ao = none → n = 0 ∧ c = 0) ∧ ∀ ad, ao = some ad → ∀ (j : Nat) (u : Value), xs[j]? = some u → w.cell? (ad.add j) = some u := by
  have h2 := h.2
  rcases h2 with ⟨rfl, rfl⟩ | ⟨g, cap, cur, rfl, _⟩
  · exact ⟨none, 0, rfl, fun _ => ⟨rfl, rfl⟩, fun ad e => by cases e⟩
  · exact ⟨_, cap, rfl, fun e => (by cases e), fun ad e j u hu => by cases e; exact h.cells rfl j u hu⟩
/-- No tree lies in a row of pointers. -/
theorem own_tree {w : World} {base n Fb : Nat} {v : Value} {xs : List Value} {F : List Nd} {bs : List Nat} (h : w.ownsRow base 116 1 v n xs) (f : Fo w Fb F bs) : (∀ b ∈ bs, v.ownBlock ≠ some b) ∧ v.ownBlock ≠ some Fb := by
  refine ⟨fun b hb e => ?_, fun e => ?_⟩
  · obtain ⟨k, hk, rfl⟩ := f.mem hb
    rcases h.2 with ⟨rfl, _⟩ | ⟨g', cap, cur, rfl, _, hg2, _⟩
    · simp [Value.ownBlock] at e
    · obtain rfl : g' = bs.getD k 0 := by simpa [Value.ownBlock] using e
      exact apart_types (t := 116) (u := 131) (by decide) hg2 (f.nd k hk)
  · rcases h.2 with ⟨rfl, _⟩ | ⟨g', cap, cur, rfl, _, hg2, _⟩
    · simp [Value.ownBlock] at e
    · obtain rfl : g' = Fb := by simpa [Value.ownBlock] using e
      exact apart_types (t := 116) (u := 111) (by decide) hg2 f.st
theorem lnum_bs {zs : List Int} {F : List Nd} {bs La R : List Nat} (hb : bs.length = F.length) (hL : La.length = (Pm.pos zs).length) : (Pm.lnum zs F.length).map (fun k => (bs ++ La ++ R).getD k 0) = La := by
  unfold Pm.lnum
  rw [List.map_map]
  apply List.ext_getElem
  · simp [hL]
  · intro i h1 h2
    have h3 : i < La.length := h2
    simp only [List.getElem_map, List.getElem_range, Function.comp_apply]
    rw [List.getD_eq_getElem?_getD, List.append_assoc, List.getElem?_append_right (by omega), show F.length + i - bs.length = i by omega, List.getElem?_append_left h3, List.getElem?_eq_getElem h3]
    rfl

/-- What spent's first loop holds. -/
structure Sq (zs : List Int) (w wr : World) (base Fb B G : Nat) (v : Value) (F : List Nd) (bs K L : List Nat) (t : Nat) : Prop where
  gp : Gp wr base Fb B v F bs K L
  row : Rw .i64 3 wr G (List.replicate zs.length 0)
  kp : Kp (fun _ => False) w wr
  big : w.heap.size ≤ base ∧ w.heap.size ≤ Fb ∧ w.heap.size ≤ B ∧ base ≤ wr.heap.size
  eq : Pm.spS zs t = (F, K)
theorem Sq.lev {zs : List Int} {w wr : World} {base Fb B G : Nat} {v : Value} {F : List Nd} {bs K L : List Nat} {t : Nat} (h : Sq zs w wr base Fb B G v F bs K L t) (hl : zs.length ≤ 320) (ht : t ≤ 1000) : Pm.Lv zs t F K := by
  have := Pm.spS_lv hl t ht
  rw [h.eq] at this
  exact this
theorem cst_row {zs : List Int} {t : Nat} {F : List Nd} {K : List Nat} (h : Pm.Lv zs t F K) : cst F K = (Pm.row (Pm.base zs) t).sum := by
  rw [← Pm.ar_row, ← h.cs, List.map_map]
  unfold cst
  rw [← ((Pm.isk_perm F K).map (fun k => (F.getD k nd0).1)).sum_nat]
  rfl
theorem cst_small {zs : List Int} {t : Nat} {F : List Nd} {K : List Nat} (h : Pm.Lv zs t F K) (hz : ∀ z ∈ zs, 0 ≤ z ∧ z < 4294967296) (hl : zs.length ≤ 320) (ht : t ≤ 20) : cst F K ≤ 28862180229120 := by
  rw [cst_row h]
  have h1 := row_sum (Pm.base zs) t
  have h2 := base_sum (zs := zs) hz
  have h3 : (t + 1) * (Pm.base zs).sum ≤ 21 * 1374389534720 := Nat.mul_le_mul (by omega) (by omega)
  omega
theorem Sq.leaves {zs : List Int} {w wr : World} {base Fb B G : Nat} {v : Value} {F : List Nd} {bs K L : List Nat} {t : Nat} (h : Sq zs w wr base Fb B G v F bs K L t) (hl : zs.length ≤ 320) (ht : t ≤ 20) (ao : Option Addr) (cap : Nat) (hz : ∀ z ∈ zs, 0 ≤ z ∧ z < 4294967296) (hs : Src .u32 w ao zs) :
    Calls Try.prog 72 #[ptr Fb, .slice ao zs.length cap] wr fun e w' => ∃ v L, e = .returned v ∧ Lvs wr w' Fb F bs zs v zs.length L := by
  have hb := (h.lev hl (by omega)).bd
  refine leaves_any wr Fb F bs ao cap zs (by omega) (by omega) hz (hs.kp h.kp (fun _ _ _ h => h)) (fun b off e h0 => ?_) h.gp.fo
  subst e
  obtain ⟨b', off', e, hc⟩ := hs h0
  cases e
  have := block_lt_of_cell (hc 0 h0)
  have := h.big.2.1
  simp at *
  omega
theorem Sq.pairs {zs : List Int} {w wr wb : World} {base Fb B G : Nat} {v va : Value} {F : List Nd} {bs K L La : List Nat} {t : Nat} (h : Sq zs w wr base Fb B G v F bs K L t) (hl : zs.length ≤ 320) (ht : t ≤ 20) (hz : ∀ z ∈ zs, 0 ≤ z ∧ z < 4294967296) (hL : Lvs wr wb Fb F bs zs va zs.length La) :
    Calls Try.prog 78 #[ptr Fb, ptr B] wb fun e w' => ∃ v5 v' F2 bs2 K2 L2 N, e = .returned v5 ∧ Pj wb w' base Fb B v v' v5 F2 bs2 K2 L2 N (F2, K2, N) (bs ++ La) ∧ Pm.spS zs (t + 1) = (F2, Pm.lnum zs F.length ++ N) := by
  have hv := h.lev hl (by omega)
  have hb := hv.bd
  have hk := hv.len
  have hr := Pm.row_two (Pm.base zs) t
  have hbl := Pm.base_plen zs
  have hpl := Pm.pos_le zs
  have hlv := lv_len zs zs.length
  have hc := cst_small hv hz hl ht
  have hce : cst (F ++ lv zs zs.length) K = cst F K := by
    unfold cst
    congr 1
    refine List.map_congr_left fun k hk => ?_
    rw [Pm.get_app (hv.kl k hk)]
  refine (pairs_any wb base Fb B v _ _ K L (h.gp.more hL.fo hL.kp) (by omega) (by simp; omega)).mono ?_
  rintro e w' ⟨v5, v', F2, bs2, K2, L2, N, rfl, hj, hk2⟩
  have hjs := hj.js
  rw [show K2.length / 2 = 0 by omega] at hjs
  have hjs2 : (F2, K2, N) = prs (K.length / 2) (F ++ lv zs zs.length, K, []) := hjs
  refine ⟨v5, v', F2, bs2, K2, L2, N, rfl, by rw [hjs2]; exact hj, ?_⟩
  show Pm.sp1 zs (Pm.spS zs t) = _
  rw [h.eq]
  unfold Pm.sp1
  simp only
  rw [← hjs2]
theorem Sq.owns {zs : List Int} {w wr wb wc : World} {base Fb B G : Nat} {v va v' v5 : Value} {F F2 : List Nd} {bs K L La bs2 K2 L2 N : List Nat} {T : List Nd × List Nat × List Nat} {t : Nat} (h : Sq zs w wr base Fb B G v F bs K L t) (hL : Lvs wr wb Fb F bs zs va zs.length La) (hj : Pj wb wc base Fb B v v' v5 F2 bs2 K2 L2 N T (bs ++ La)) :
    wc.ownsRow wr.heap.size 116 1 va La.length (La.map ptr) ∧ wr.heap.size ≤ wc.heap.size ∧ La.length ≤ 1000000000 ∧ N.length ≤ 1000000000 := by
  have h1 := h.gp.fo.st.lt
  have h2 := h.gp.pil.st.lt
  have h3 := fun x e => (h.gp.pil.own.lt x e).2
  have z1 := hL.kp.size
  have z2 := hj.kp.size
  have n1 := hj.nums
  have n2 := hj.few.1
  refine ⟨own_kp hL.own hj.kp (fun g e => ?_), by omega, ?_, by omega⟩
  · have h4 := (hL.own.lt g e).1
    rintro (e2 | e2 | e2)
    · omega
    · omega
    · have := h3 g e2; omega
  · have := hj.pre.length_le
    have h5 := hj.gp.fo.len
    have h6 : (bs ++ La).length = bs.length + La.length := List.length_append
    omega
/-- The next pile. -/
theorem Sq.pile {zs : List Int} {w wr wb wc wd : World} {base Fb B G : Nat} {v va v' v5 vd : Value} {F F2 : List Nd} {bs K L La bs2 K2 L2 N : List Nat} {T : List Nd × List Nat × List Nat} {t : Nat} (h : Sq zs w wr base Fb B G v F bs K L t) (hL : Lvs wr wb Fb F bs zs va zs.length La) (hj : Pj wb wc base Fb B v v' v5 F2 bs2 K2 L2 N T (bs ++ La))
    (he : Pm.spS zs (t + 1) = (F2, Pm.lnum zs F.length ++ N)) (od : wd.ownsRow wr.heap.size 116 1 vd (La.length + N.length) (La.map ptr ++ (N.map fun k => bs2.getD k 0).map ptr)) (kd : Kp (fun k => va.ownBlock = some k) wc wd) :
    Calls Try.prog 71 #[ptr Fb, vd] wd fun e w' => e = .returned (ptr wd.heap.size) ∧ ∃ L', Sq zs w w' wr.heap.size Fb wd.heap.size G vd F2 bs2 (Pm.lnum zs F.length ++ N) L' (t + 1) := by
  obtain ⟨oc, zwc, nL, nN⟩ := h.owns hL hj
  obtain ⟨R, hR⟩ := hj.pre
  have hla : La.length = (Pm.pos zs).length := by
    have h1 := hL.fo.len
    have h2 := h.gp.fo.len
    have h3 := Pm.lv_plen zs
    simp at h1
    omega
  obtain ⟨t1, t2⟩ := own_tree oc hj.gp.fo
  have hfo : Fo wd Fb F2 bs2 := hj.gp.fo.kp kd t2 t1
  obtain ⟨d1, d2⟩ := own_tree od hfo
  have hmap : (Pm.lnum zs F.length ++ N).map (fun k => bs2.getD k 0) = La ++ N.map (fun k => bs2.getD k 0) := by
    rw [List.map_append, ← hR, lnum_bs h.gp.fo.len hla]
  have hin : ∀ b ∈ La ++ N.map (fun k => bs2.getD k 0), b ∈ bs2 := by
    intro b hb
    rcases List.mem_append.1 hb with hb | hb
    · rw [← hR]; simp [hb]
    · obtain ⟨k, hk, rfl⟩ := List.mem_map.1 hb
      have h1 := hj.few.2 k hk
      have h2 := hj.gp.fo.len
      simp [List.getD, show k < bs2.length by omega]
  refine (pile_any (cF F2 bs2) wd wr.heap.size Fb vd (La ++ N.map (fun k => bs2.getD k 0)) (by simpa using od) (fun b hb => hfo.tk (hin b hb)) (fun g e hm => d1 g (hin g hm) e) (by simp; omega)).mono ?_
  rintro e w' ⟨rfl, L', hp, hP, hX, k4⟩
  have hG := h.row.lt
  have hn := h.gp.notG h.row
  have r1 := h.row.kp hL.kp hn.2.2.1
  have r2 := r1.kp hj.kp (fun e => by rcases e with e | e | e; exact hn.2.2.1 e; exact hn.1 e; exact hn.2.1 e)
  have r3 := r2.kp kd (fun e => by have := (hL.own.lt _ e).1; omega)
  have r4 := r3.kp k4 (fun e => by have := (od.lt _ e).1; omega)
  have z0 := h.kp.size
  have z1 := hL.kp.size
  have z2 := hj.kp.size
  have z3 := kd.size
  have z4 := k4.size
  have hbg := h.big
  have q1 : Kp (fun _ => False) w wb := h.kp.trans hL.kp (fun i hi e => by omega)
  have q2 : Kp (fun _ => False) w wc := q1.trans hj.kp (fun i hi e => by
    rcases e with e | e | e
    · omega
    · omega
    · have := (h.gp.pil.own.lt i e).1; omega)
  have q3 : Kp (fun _ => False) w wd := q2.trans kd (fun i hi e => by have := (hL.own.lt _ e).1; omega)
  have q4 : Kp (fun _ => False) w w' := q3.trans k4 (fun i hi e => by have := (od.lt _ e).1; omega)
  refine ⟨rfl, L', ⟨hfo.kp k4 d2 d1, hP, hX, ?_, ?_⟩, r4, q4, ⟨by omega, by omega, by omega, by omega⟩, he⟩
  · rw [hmap]; exact hp
  · intro k hk
    rcases List.mem_append.1 hk with hk | hk
    · have h1 := (Pm.lnum_mem hk).2
      have h2 := hj.gp.fo.len
      have h3 := h.gp.fo.len
      have h4 := congrArg List.length hR
      simp at h4
      omega
    · exact hj.few.2 k hk
/-- The first pile. -/
theorem Sq.start {zs : List Int} {w w1 w3 w4 : World} {v : Value} {L L' : List Nat} (m : Mk w w1 zs.length) (h : Lvs (w1.alloc (.cells #[.int .i64 0] 111)) w3 w1.heap.size [] [] zs v zs.length L)
    (r : L'.Perm L ∧ Pil (cF (lv zs zs.length) L) w4 (w1.alloc (.cells #[.int .i64 0] 111)).heap.size w3.heap.size v (fvo (ptr w1.heap.size)) L' ∧ Hx (kf (cF (lv zs zs.length) L) L') 0 L'.length ∧ Kp (fun k => v.ownBlock = some k) w3 w4) :
    Sq zs w w4 (w1.alloc (.cells #[.int .i64 0] 111)).heap.size w1.heap.size w3.heap.size w.heap.size v (lv zs zs.length) L (List.range (lv zs zs.length).length) L' 0 := by
  obtain ⟨hp, hP, hX, k4⟩ := r
  have hfo : Fo w3 w1.heap.size (lv zs zs.length) L := by have := h.fo; simpa using this
  have hne := h.ne
  have hll := hfo.len
  have hlv := lv_len zs zs.length
  have hG := m.row.lt
  have hol := fun x e => (h.own.lt x e).1
  have hsz : (w1.alloc (.cells #[.int .i64 0] 111)).heap.size = w1.heap.size + 1 := by simp
  have z3 := h.kp.size
  have z4 := k4.size
  have g : Gp w4 (w1.alloc (.cells #[.int .i64 0] 111)).heap.size w1.heap.size w3.heap.size v (lv zs zs.length) L (List.range (lv zs zs.length).length) L' := by
    refine ⟨hfo.kp k4 (fun e => (hne _ e).1 rfl) (fun b hb e => (hne _ e).2 (by simpa using hb)), hP, hX, ?_, fun k hk => List.mem_range.1 hk⟩
    rw [← hll, map_range]
    exact hp
  obtain ⟨f1, f2⟩ := frame4 m h k4
  exact ⟨g, f1, f2, ⟨by omega, by omega, by omega, by omega⟩, by rw [Pm.lv_plen]; rfl⟩
end Go.Proofs.Ythpocbpleffdpaa

namespace Go.Proofs.Ythpocbpleffdpaa
open Go.RowKit
set_option linter.unusedVariables false

/-- What a tree costs is what its parts cost, and a leaf costs 1 or more. -/
def Cw (F : List Nd) : Prop := ∀ k, k < F.length → ((F.getD k nd0).2.2 = none → 1 ≤ (F.getD k nd0).1) ∧ ∀ p, (F.getD k nd0).2.2 = some p → p.1 < k ∧ p.2 < k ∧ (F.getD p.1 nd0).1 + (F.getD p.2 nd0).1 ≤ (F.getD k nd0).1
theorem Cw.more {F : List Nd} {x : Nd} (h : Cw F) (h1 : x.2.2 = none → 1 ≤ x.1) (h2 : ∀ p, x.2.2 = some p → p.1 < F.length ∧ p.2 < F.length ∧ (F.getD p.1 nd0).1 + (F.getD p.2 nd0).1 ≤ x.1) : Cw (F ++ [x]) := by
  intro k hk
  by_cases hk2 : k < F.length
  · rw [getD_front hk2]
    obtain ⟨a, b⟩ := h k hk2
    refine ⟨a, fun p e => ?_⟩
    obtain ⟨b1, b2, b3⟩ := b p e
    rw [getD_front (show p.1 < F.length by omega), getD_front (show p.2 < F.length by omega)]
    exact ⟨b1, b2, b3⟩
  · have e : k = F.length := by simp at hk; omega
    have e2 : (F ++ [x]).getD k nd0 = x := by rw [e]; simp
    rw [e2]
    refine ⟨h1, fun p ep => ?_⟩
    obtain ⟨b1, b2, b3⟩ := h2 p ep
    rw [getD_front b1, getD_front b2]
    exact ⟨by omega, by omega, b3⟩
theorem Cw.lv {F : List Nd} (h : Cw F) (zs : List Int) : ∀ i, Cw (F ++ Go.Proofs.Ythpocbpleffdpaa.lv zs i)
  | 0 => by rw [lv_zero, List.append_nil]; exact h
  | i + 1 => by
    by_cases hp : 0 < zs.getD i 0
    · rw [lv_yes hp, ← List.append_assoc]
      exact (Cw.lv h zs i).more (fun _ => by show 1 ≤ (zs.getD i 0).toNat; omega) (fun p e => by cases e)
    · rw [lv_no hp]
      exact Cw.lv h zs i
theorem Cw.prs : ∀ (j : Nat) (F : List Nd) (K N : List Nat), 2 * j ≤ K.length → (∀ k ∈ K, k < F.length) → Cw F → Cw (prs j (F, K, N)).1
  | 0, F, K, N, _, _, h => h
  | j + 1, F, K, N, hj, hk, h => by
    have h1 : 1 < K.length := by omega
    obtain ⟨m1, _⟩ := mn_mem F (ne_nil_of (show 0 < K.length by omega))
    have l1 := erase_len m1
    obtain ⟨m2, _⟩ := mn_mem F (two_ne (F := F) h1)
    have l2 := erase_len m2
    have l3 : 2 * j ≤ ((K.erase (mn F K)).erase (mn F (K.erase (mn F K)))).length := by omega
    refine Cw.prs j _ _ _ l3 (fun k hk2 => ?_) ?_
    · have := hk k (List.mem_of_mem_erase (List.mem_of_mem_erase hk2))
      simp
      omega
    · refine h.more (fun e => by simp [jnd] at e) (fun p e => ?_)
      simp only [jnd, Option.some.injEq] at e
      subst e
      exact ⟨hk _ m1, hk _ (List.mem_of_mem_erase m2), Nat.le_refl _⟩
theorem cw_spS {zs : List Int} (hl : zs.length ≤ 320) : ∀ t, t ≤ 1000 → Cw (Pm.spS zs t).1
  | 0, _ => by
    have := Cw.lv (F := []) (fun k hk => by simp at hk) zs zs.length
    rw [List.nil_append] at this
    exact this
  | t + 1, h => by
    have hv := Pm.spS_lv hl t (by omega)
    refine Cw.prs _ _ _ _ (by omega) (fun k hk => ?_) ((cw_spS hl t (by omega)).lv zs zs.length)
    have := hv.kl k hk
    simp
    omega
theorem Cw.wf {F : List Nd} (h : Cw F) : Pm.Wf F := fun k hk p e => ⟨((h k hk).2 p e).1, ((h k hk).2 p e).2.1⟩
theorem Cw.lvc {F : List Nd} (h : Cw F) : ∀ n k, k < F.length → Go.Proofs.Ythpocbpleffdpaa.lvc F n k ≤ (F.getD k nd0).1
  | 0, k, hk => Nat.zero_le _
  | n + 1, k, hk => by
    obtain ⟨a, b⟩ := h k hk
    unfold Go.Proofs.Ythpocbpleffdpaa.lvc
    cases e : (F.getD k nd0).2.2 with
    | none => exact a e
    | some p =>
      obtain ⟨b1, b2, b3⟩ := b p e
      have h1 := Cw.lvc h n p.1 (by omega)
      have h2 := Cw.lvc h n p.2 (by omega)
      simp only
      omega
theorem tly_tl {F : List Nd} (h : Pm.Wf F) : ∀ (n k : Nat) (Z : List Int), k < n → k < F.length → Sy F Z.length → ∀ i, (tly F n k Z).getD i 0 = Z.getD i 0 + ((Pm.tl F k i : Nat) : Int)
  | 0, k, Z, h1, _, _, _ => by omega
  | n + 1, k, Z, h1, h2, hs, i => by
    unfold tly
    cases e : (F.getD k nd0).2.2 with
    | none =>
      have h3 := hs k h2 e
      simp only
      rw [Pm.tl_leaf i e]
      unfold Pm.sy
      by_cases e2 : (F.getD k nd0).2.1 = i
      · rw [if_pos e2, ← e2]
        simp [List.getD_eq_getElem?_getD, List.getElem?_set] at *
        simp [h3]
      · rw [if_neg e2]
        simp [List.getD_eq_getElem?_getD, List.getElem?_set] at *
        simp [e2]
    | some p =>
      obtain ⟨_, h3, h4⟩ := Pm.wf_kid h e
      simp only
      rw [tly_tl h n p.2 _ (by omega) (by omega) (by rw [tly_len]; exact hs), tly_tl h n p.1 Z (by omega) (by omega) hs, Pm.tl_node h i e]
      omega
/-- The first n that come off, each counted. -/
def tkn (F : List Nd) : Nat → List Nat × List Int → List Nat × List Int
  | 0, S => S
  | n + 1, S => tkn F n (S.1.erase (mn F S.1), tly F F.length (mn F S.1) S.2)
theorem tkn_get {F : List Nd} (h : Pm.Wf F) : ∀ (n : Nat) (K : List Nat) (Z : List Int), n ≤ K.length → (∀ k ∈ K, k < F.length) → Sy F Z.length → (tkn F n (K, Z)).2.length = Z.length ∧ ∀ i, (tkn F n (K, Z)).2.getD i 0 = Z.getD i 0 + ((Pm.tsum F (Pm.pks F n K) i : Nat) : Int)
  | 0, K, Z, _, _, _ => ⟨rfl, fun i => by show Z.getD i 0 = _; unfold Pm.tsum Pm.pks; simp⟩
  | n + 1, K, Z, hn, hk, hs => by
    obtain ⟨m1, _⟩ := mn_mem F (ne_nil_of (show 0 < K.length by omega))
    have l1 := erase_len m1
    obtain ⟨a, b⟩ := tkn_get h n (K.erase (mn F K)) (tly F F.length (mn F K) Z) (by omega) (fun k hk2 => hk k (List.mem_of_mem_erase hk2)) (by rw [tly_len]; exact hs)
    refine ⟨a.trans (tly_len _ _ _ _), fun i => ?_⟩
    refine (b i).trans ?_
    rw [tly_tl h _ _ _ (hk _ m1) (hk _ m1) hs]
    have e : Pm.pks F (n + 1) K = mn F K :: Pm.pks F n (K.erase (mn F K)) := rfl
    rw [e]
    unfold Pm.tsum
    simp only [List.map_cons, List.sum_cons]
    omega
/-- The lengths that spent tells. -/
def spl (zs : List Int) (m : Nat) : List Int := (tkn (Pm.spS zs m).1 (2 * ((lv zs zs.length).length - 1)) ((Pm.spS zs m).2, List.replicate zs.length 0)).2
theorem sy_lev {zs : List Int} {t : Nat} {F : List Nd} {K : List Nat} (h : Pm.Lv zs t F K) : Sy F zs.length := fun j hj e => (Pm.pos_mem.1 (h.lf j hj e)).1
theorem spl_get {zs : List Int} {m : Nat} (hl : zs.length ≤ 320) (hm : m ≤ 1000) (hr : 2 * ((lv zs zs.length).length - 1) ≤ (Pm.row (Pm.base zs) m).length) : (spl zs m).length = zs.length ∧ ∀ i, (spl zs m).getD i 0 = ((Pm.tsum (Pm.spS zs m).1 (Pm.pks (Pm.spS zs m).1 (2 * (Pm.pos zs).length - 2) (Pm.spS zs m).2) i : Nat) : Int) := by
  have hv := Pm.spS_lv hl m hm
  have hp := Pm.lv_plen zs
  obtain ⟨a, b⟩ := tkn_get (F := (Pm.spS zs m).1) hv.wf (2 * ((lv zs zs.length).length - 1)) (Pm.spS zs m).2 (List.replicate zs.length 0) (by rw [hv.len]; exact hr) hv.kl (by rw [List.length_replicate]; exact sy_lev hv)
  refine ⟨a.trans List.length_replicate, fun i => ?_⟩
  refine (b i).trans ?_
  rw [show 2 * ((lv zs zs.length).length - 1) = 2 * (Pm.pos zs).length - 2 by omega]
  have : (List.replicate zs.length (0 : Int)).getD i 0 = 0 := by
    rw [List.getD_eq_getElem?_getD, List.getElem?_replicate]
    split <;> rfl
  omega

/-- What spent's second loop holds. -/
structure Sr (n : Nat) (w wr : World) (base Fb B G : Nat) (v : Value) (F : List Nd) (bs K L : List Nat) (Z : List Int) (q : Nat) (T : List Nat × List Int) : Prop where
  gp : Gp wr base Fb B v F bs K L
  row : Rw .i64 3 wr G Z
  kp : Kp (fun _ => False) w wr
  big : w.heap.size ≤ base ∧ w.heap.size ≤ Fb ∧ w.heap.size ≤ B ∧ base ≤ wr.heap.size ∧ w.heap.size ≤ G
  tk : tkn F q (K, Z) = T
  len : Z.length = n
  num : q ≤ K.length
  bnd : ∀ i, 0 ≤ Z.getD i 0 ∧ Z.getD i 0 + cst F K ≤ 4611686018427387904
  sym : Sy F n
  cw : Cw F
  few : F.length ≤ 1000000 ∧ n ≤ 320 ∧ K.length ≤ 1000000
theorem Sq.then {zs : List Int} {w wr : World} {base Fb B G : Nat} {v : Value} {F : List Nd} {bs K L : List Nat} {t : Nat} (h : Sq zs w wr base Fb B G v F bs K L t) (hl : zs.length ≤ 320) (ht : t ≤ 20) (hz : ∀ z ∈ zs, 0 ≤ z ∧ z < 4294967296) (hG : w.heap.size ≤ G) (q : Nat) (hq : q ≤ (Pm.row (Pm.base zs) t).length) :
    Sr zs.length w wr base Fb B G v F bs K L (List.replicate zs.length 0) q (tkn (Pm.spS zs t).1 q ((Pm.spS zs t).2, List.replicate zs.length 0)) := by
  have hv := h.lev hl (by omega)
  have hb := hv.bd
  have hk := hv.len
  have hr := Pm.row_two (Pm.base zs) t
  have hbl := Pm.base_plen zs
  have hpl := Pm.pos_le zs
  have hc := cst_small hv hz hl ht
  have hcw := cw_spS hl t (by omega)
  rw [h.eq] at hcw ⊢
  refine ⟨h.gp, h.row, h.kp, ⟨h.big.1, h.big.2.1, h.big.2.2.1, h.big.2.2.2, hG⟩, rfl, List.length_replicate, by omega, fun i => ?_, sy_lev hv, hcw, ⟨by omega, hl, by omega⟩⟩
  have : (List.replicate zs.length (0 : Int)).getD i 0 = 0 := by
    rw [List.getD_eq_getElem?_getD, List.getElem?_replicate]
    split <;> rfl
  omega
theorem Sr.least {n : Nat} {w wr : World} {base Fb B G : Nat} {v : Value} {F : List Nd} {bs K L : List Nat} {Z : List Int} {q : Nat} {T : List Nat × List Int} (h : Sr n w wr base Fb B G v F bs K L Z (q + 1) T) :
    Calls Try.prog 74 #[ptr B] wr fun e w' => e = .returned (ptr (bs.getD (mn F K) 0)) ∧ ∃ v' L', Gp w' base Fb B v' F bs (K.erase (mn F K)) L' ∧ Rw .i64 3 w' G Z ∧ Kp (fun _ => False) w w' ∧ base ≤ w'.heap.size := by
  have hn := h.num
  have hf := h.few
  refine (least_gp wr base Fb B v F bs K L h.gp (ne_nil_of (by omega)) (by omega)).mono ?_
  rintro e w' ⟨rfl, v', L', g', _, k1⟩
  have hg := h.gp.notG h.row
  have hlt := fun x e => (h.gp.pil.own.lt x e).1
  have hbg := h.big
  refine ⟨rfl, v', L', g', h.row.kp k1 (fun e => e.elim hg.1 hg.2.1), h.kp.trans k1 (fun i hi e => ?_), Nat.le_trans hbg.2.2.2.1 k1.size⟩
  rcases e with e | e
  · omega
  · have := hlt i e
    omega
theorem Sr.tally {n : Nat} {w wr w1 : World} {base Fb B G : Nat} {v v1 : Value} {F : List Nd} {bs K L L1 : List Nat} {Z : List Int} {q : Nat} {T : List Nat × List Int} (h : Sr n w wr base Fb B G v F bs K L Z (q + 1) T) (h1 : Gp w1 base Fb B v1 F bs (K.erase (mn F K)) L1 ∧ Rw .i64 3 w1 G Z ∧ Kp (fun _ => False) w w1 ∧ base ≤ w1.heap.size) :
    Calls Try.prog 79 #[ptr (bs.getD (mn F K) 0), .slice (some ⟨G, 0, none⟩) n n] w1 fun e w' => e = .returned (.tuple #[]) ∧ Sr n w w' base Fb B G v1 F bs (K.erase (mn F K)) L1 (tly F F.length (mn F K) Z) q T := by
  obtain ⟨g1, r1, k1, b1⟩ := h1
  have hn := h.num
  obtain ⟨m1, _⟩ := mn_mem F (ne_nil_of (show 0 < K.length by omega))
  have l1 := erase_len m1
  have m2 := h.gp.lt _ m1
  have c1 := cst_erase (F := F) m1
  have hlc := h.cw.lvc F.length (mn F K) m2
  have hbd := h.bnd
  have hf := h.few
  have := tally_any F bs Fb G F.length (mn F K) Z w1 m2 m2 (fun j => by have := hbd j; omega) g1.fo r1 (by rw [h.len]; exact h.sym) (by rw [h.len]; omega)
  rw [h.len] at this
  refine this.mono ?_
  rintro e w' ⟨rfl, r2, k2⟩
  have hg := g1.notG r1
  have hbg := h.big
  refine ⟨rfl, ⟨⟨g1.fo.kp k2 (fun e => hg.2.2.1 e.symm) (fun b hb e => hg.2.2.2 (e ▸ hb)), g1.pil.kp k2 (fun e => hg.1 e.symm) (fun g e e2 => hg.2.1 (e2 ▸ e)) (fun b hb e => by obtain ⟨_, _, _, hm⟩ := g1.sub hb; exact hg.2.2.2 (e ▸ hm)), g1.hx, g1.perm, g1.lt⟩, r2, k1.trans k2 (fun i hi e => by omega), ⟨hbg.1, hbg.2.1, hbg.2.2.1, Nat.le_trans b1 k2.size, hbg.2.2.2.2⟩, h.tk, (tly_len _ _ _ _).trans h.len, by omega, fun i => ?_, h.sym, h.cw, ⟨hf.1, hf.2.1, by omega⟩⟩⟩
  have h3 := tly_le F F.length (mn F K) Z i
  have h4 := hbd i
  omega
end Go.Proofs.Ythpocbpleffdpaa

namespace Go.Proofs.Ythpocbpleffdpaa
open Go.RowKit

set_option maxHeartbeats 4000000 in
set_option maxRecDepth 100000 in
theorem spent_any (w : World) (m : Nat) (hm : m ≤ 14) (ao : Option Addr) (cap : Nat) (zs : List Int) (hl : zs.length ≤ 320) (hz : ∀ z ∈ zs, 0 ≤ z ∧ z < 4294967296) (hs : Src .u32 w ao zs) (h0 : 1 < (lv zs zs.length).length) (hr : 2 * ((lv zs zs.length).length - 1) ≤ (Pm.row (Pm.base zs) m).length) :
    Calls Try.prog 52 #[.int .i64 ((m + 1 : Nat) : Int), .slice ao zs.length cap] w fun e w' => e = .returned (.slice (some ⟨w.heap.size, 0, none⟩) zs.length zs.length) ∧ Rw .i64 3 w' w.heap.size (spl zs m) ∧ Kp (fun _ => False) w w' := by
  have HS := hid hs
  have HZ := hid hz
  have hl2 : zs.length ≤ 1000000 := by omega
  have hlv : (lv zs zs.length).length ≤ 320 := Nat.le_trans (lv_len zs zs.length) hl
  have HE : Hid (spl zs m = (tkn (Pm.spS zs m).1 (2 * ((lv zs zs.length).length - 1)) ((Pm.spS zs m).2, List.replicate zs.length 0)).2) := rfl
  have HPR : Hid (∀ W, Kp (fun _ => False) w W → Calls Try.prog 49 #[.slice ao zs.length cap] W fun e w' => e = .returned (.int .i64 ((lv zs zs.length).length : Nat)) ∧ W = w') := fun W k => present_any W ao cap zs hl2 hz (hs.kp k (fun _ _ _ h => h))
  have HR := hid hr
  generalize hlen : (lv zs zs.length).length = nl at hlv h0 HE HPR HR
  clear hs hz hr hlen
  go_enter Try.func52, Try.ntmps52
  go_wp2_with (first
    | (at_make; refine wpList_make_rw 22 3 8 Try.underlying22 Try.info3p (by decide) rfl _ _ rfl zs.length rfl rfl (by omega) ?_; intro w1 hrow hb1; have HM := hid (Mk.mk hrow hb1); clear hrow hb1)
    | (go_at_call 72; refine (leaves_new hl2 HZ.out HS.out HM.out).mono ?_; rintro _ w3 ⟨v, L, rfl, HL0⟩; have HL := hid HL0; clear HL0)
    | (go_at_call 71; refine (pile_new hl2 HL.out).mono ?_; rintro _ w4 ⟨rfl, L4, R4⟩; have HQ := hid (Sq.start HM.out HL.out R4); clear R4))
  have HG : Hid (w.heap.size ≤ w.heap.size) := Nat.le_refl _
  clear HM HL
  generalize (w1.alloc (.cells #[.int .i64 0] 111)).heap.size = base0 at HQ
  generalize w1.heap.size = Fb at *
  generalize w3.heap.size = B0 at *
  go_loopw [7, 16] (fun pv iv wr => ∃ (t base B : Nat) (v : Value) (F : List Nd) (bs K L : List Nat), pv = ptr B ∧ iv = .int .i64 t ∧ t ≤ m ∧ Hid (Sq zs w wr base Fb B w.heap.size v F bs K L t)) (fun _ iv _ => m - (intOf iv).toNat)
  case atStart => exact ⟨0, base0, B0, v, _, L, _, L4, rfl, rfl, Nat.zero_le _, HQ.out⟩
  case round =>
    clear HQ
    obtain ⟨t, base, B, v, F, bs, K, L, rfl, rfl, ht, HQ⟩ := hrel
    have ht2 : t ≤ 20 := by omega
    by_cases htm : t < m
    · go_wp2_with (first
        | (go_at_call 72; refine (HQ.out.leaves hl ht2 ao cap HZ.out HS.out).mono ?_; rintro _ wb ⟨va, La, rfl, HL0⟩; have HL := hid HL0; clear HL0; have HPA := hid (HQ.out.pairs hl ht2 HZ.out HL.out))
        | (go_at_call 78; refine HPA.out.mono ?_; rintro _ wc ⟨v5, v', F2, bs2, K2, L2, N, rfl, HJ0, he⟩; have HJ := hid (And.intro HJ0 he); clear HJ0 he HPA; have HO := hid (HQ.out.owns HL.out HJ.out.1); obtain ⟨ao5, c5, rfl, hn5, hc5⟩ := own_parts HJ.out.1.own; have H5 := hid (And.intro hn5 hc5); clear hn5 hc5)
        | (at_builtin; refine wpList_append_any rfl (.tmp 19) (.tmp 21) 114 rfl _ 116 (.pointer none) 1 8 Try.underlying114 Try.info116b rfl (by decide) va La.length (La.map ptr) rfl HO.out.1 ao5 N.length c5 ((N.map fun k => bs2.getD k 0).map ptr) rfl H5.out.1 (by simp) H5.out.2 (fun u hu => by (obtain ⟨b, _, rfl⟩ := List.mem_map.1 hu; rfl)) (by have := HO.out.2.2; unfold maxLen; omega) (by have := HO.out.2.2; omega) HO.out.2.1 ?_; intro vd wd od kd _; have HP := hid (HQ.out.pile HL.out HJ.out.1 HJ.out.2 od kd); clear od kd)
        | (go_at_call 71; refine HP.out.mono ?_; rintro _ we ⟨rfl, L3, HS3⟩; have HS4 := hid HS3; clear HS3))
      exact ⟨⟨t + 1, _, _, vd, F2, bs2, _, L3, rfl, rfl, by omega, HS4.out⟩, by simp [intOf]; omega⟩
    · obtain rfl : t = m := by omega
      have HPW := hid (HPR.out _ HQ.out.kp)
      have HN := hid (HQ.out.then hl ht2 HZ.out HG.out (2 * (nl - 1)) HR.out)
      go_wp2_with (first
        | (go_at_call 49; refine HPW.out.mono ?_; rintro _ _ ⟨rfl, rfl⟩))
      have HT : Hid ((tkn (Pm.spS zs t).1 (2 * (nl - 1)) ((Pm.spS zs t).2, List.replicate zs.length 0)).2 = spl zs t) := HE.out.symm
      clear HQ HPW HPR HE HS HZ HR HG
      generalize tkn (Pm.spS zs t).1 (2 * (nl - 1)) ((Pm.spS zs t).2, List.replicate zs.length 0) = T at HT HN
      go_loopw [29] (fun iv wr => ∃ (j q : Nat) (v : Value) (K L : List Nat) (Z : List Int), iv = .int .i64 j ∧ j + q = 2 * (nl - 1) ∧ Hid (Sr zs.length w wr base Fb B w.heap.size v F bs K L Z q T)) (fun iv _ => 2 * (nl - 1) - (intOf iv).toNat)
      case atStart => exact ⟨0, 2 * (nl - 1), v, K, L, _, rfl, by omega, HN.out⟩
      case round =>
        clear HN
        obtain ⟨j, q, v, K, L, Z, rfl, hj, HN⟩ := hrel
        cases q with
        | zero =>
          go_wp2_with fail
          go_ret
          have e := HN.out.tk
          have e2 : Z = T.2 := by rw [← e]; rfl
          exact ⟨rfl, by rw [← HT.out, ← e2]; exact HN.out.row, HN.out.kp⟩
        | succ q =>
          have HL1 := hid HN.out.least
          go_wp2_with (first
            | (go_at_call 74; refine HL1.out.mono ?_; rintro _ wa ⟨rfl, va, La, hga⟩; have HTL := hid (HN.out.tally hga); clear hga HL1)
            | (go_at_call 79; refine HTL.out.mono ?_; rintro _ wb ⟨rfl, hsr⟩; have HSR := hid hsr; clear hsr HTL))
          exact ⟨⟨j + 1, q, va, _, La, _, rfl, by omega, HSR.out⟩, by simp [intOf]; omega⟩
end Go.Proofs.Ythpocbpleffdpaa

namespace Go.Proofs.Ythpocbpleffdpaa
open Go.RowKit

theorem two_wrap {m : Nat} (hm : m ≤ 14) : wrap64 ((2 : Int) ^ (m + 1)) = ((2 ^ (m + 1) : Nat) : Int) ∧ 2 ≤ 2 ^ (m + 1) ∧ 2 ^ (m + 1) ≤ 32768 := by
  have h : m = 0 ∨ m = 1 ∨ m = 2 ∨ m = 3 ∨ m = 4 ∨ m = 5 ∨ m = 6 ∨ m = 7 ∨ m = 8 ∨ m = 9 ∨ m = 10 ∨ m = 11 ∨ m = 12 ∨ m = 13 ∨ m = 14 := by omega
  rcases h with rfl | rfl | rfl | rfl | rfl | rfl | rfl | rfl | rfl | rfl | rfl | rfl | rfl | rfl | rfl <;> exact ⟨by kernel_rfl, by decide, by decide⟩

/-- The least most is out of bounds. -/
theorem lengths_low (w : World) (mz : Int) (hm : mz < 1) (ao : Option Addr) (cap n : Nat) :
    Calls Try.prog 18 #[.int .i64 mz, .slice ao n cap] w fun e w' => e = .returned (.tuple #[.slice none 0 0, .int .i64 2]) ∧ Kp (fun _ => False) w w' := by
  go_enter Try.func18, Try.ntmps18
  go_wp2_with fail
  go_ret2
  exact ⟨rfl, Kp.refl _ _⟩
theorem lengths_high (w : World) (mz : Int) (hm : 15 < mz) (ao : Option Addr) (cap n : Nat) :
    Calls Try.prog 18 #[.int .i64 mz, .slice ao n cap] w fun e w' => e = .returned (.tuple #[.slice none 0 0, .int .i64 2]) ∧ Kp (fun _ => False) w w' := by
  go_enter Try.func18, Try.ntmps18
  go_wp2_with fail
  go_ret2
  exact ⟨rfl, Kp.refl _ _⟩
theorem lengths_long (w : World) (mz : Int) (h1 : 1 ≤ mz) (h2 : mz ≤ 15) (ao : Option Addr) (cap n : Nat) (hl : 320 < n) (hn : n ≤ 4000000000000000000) :
    Calls Try.prog 18 #[.int .i64 mz, .slice ao n cap] w fun e w' => e = .returned (.tuple #[.slice none 0 0, .int .i64 3]) ∧ Kp (fun _ => False) w w' := by
  go_enter Try.func18, Try.ntmps18
  go_wp2_with fail
  go_ret2
  exact ⟨rfl, Kp.refl _ _⟩
set_option maxHeartbeats 2000000 in
set_option maxRecDepth 100000 in
theorem lengths_over (w : World) (m : Nat) (hm : m ≤ 14) (ao : Option Addr) (cap : Nat) (zs : List Int) (hl : zs.length ≤ 320) (hz : ∀ z ∈ zs, 0 ≤ z ∧ z < 4294967296) (hs : Src .u32 w ao zs) (hw : 2 ^ (m + 1) < (lv zs zs.length).length) :
    Calls Try.prog 18 #[.int .i64 ((m + 1 : Nat) : Int), .slice ao zs.length cap] w fun e w' => e = .returned (.tuple #[.slice none 0 0, .int .i64 130]) ∧ Kp (fun _ => False) w w' := by
  have hlv : (lv zs zs.length).length ≤ 320 := Nat.le_trans (lv_len zs zs.length) hl
  have hsW := fun q => hs.kp (drewN_kp (fun _ => False) w q) (fun _ _ _ h => h)
  have HP : Hid (∀ q, Calls Try.prog 49 #[.slice ao zs.length cap] (w.drewN q) fun e w' => e = .returned (.int .i64 ((lv zs zs.length).length : Nat)) ∧ w.drewN q = w') := fun q => present_any (w.drewN q) ao cap zs (by omega) hz (hsW q)
  obtain ⟨hwr, _, _⟩ := two_wrap hm
  clear hsW hs hz
  generalize (lv zs zs.length).length = nl at *
  generalize 2 ^ (m + 1) = P at *
  have HW := hid hwr
  clear hwr
  go_enter Try.func18, Try.ntmps18
  go_wp2_with fail
  go_quiet (first | (go_at_call 49; refine Calls.quiet_of_same ((HP.out _).mono (fun _ _ h => ⟨h.1, h.2.symm⟩))))
  rw [HW.out]
  go_wp2_with fail
  go_ret2
  exact ⟨rfl, drewN_kp _ _ _⟩
set_option maxHeartbeats 2000000 in
set_option maxRecDepth 100000 in
/-- Huffman's lengths, where they are within. -/
theorem lengths_plain (w : World) (m : Nat) (hm : m ≤ 14) (ao : Option Addr) (cap : Nat) (zs : List Int) (hl : zs.length ≤ 320) (hz : ∀ z ∈ zs, 0 ≤ z ∧ z < 4294967296) (hs : Src .u32 w ao zs) (hw : (lv zs zs.length).length ≤ 2 ^ (m + 1)) (hi : Wi (m + 1 : Nat) (hzl zs)) :
    Calls Try.prog 18 #[.int .i64 ((m + 1 : Nat) : Int), .slice ao zs.length cap] w fun e w' => e = .returned (.tuple #[.slice (some ⟨w.heap.size, 0, none⟩) zs.length zs.length, .int .i64 0]) ∧ Rw .i64 3 w' w.heap.size (hzl zs) ∧ Kp (fun _ => False) w w' := by
  have hlv : (lv zs zs.length).length ≤ 320 := Nat.le_trans (lv_len zs zs.length) hl
  have hsW := fun q => hs.kp (drewN_kp (fun _ => False) w q) (fun _ _ _ h => h)
  have HP : Hid (∀ q, Calls Try.prog 49 #[.slice ao zs.length cap] (w.drewN q) fun e w' => e = .returned (.int .i64 ((lv zs zs.length).length : Nat)) ∧ w.drewN q = w') := fun q => present_any (w.drewN q) ao cap zs (by omega) hz (hsW q)
  have HQ : Hid (∀ q, Calls Try.prog 50 #[.slice ao zs.length cap] (w.drewN q) fun e w' => e = .returned (.slice (some ⟨w.heap.size, 0, none⟩) zs.length zs.length) ∧ Rw .i64 3 w' w.heap.size (hzl zs) ∧ Kp (fun _ => False) w w') := fun q => by
    have e : (w.drewN q).heap.size = w.heap.size := by
      induction q with
      | zero => rfl
      | succ q ih => exact ih
    have := plain_any (w.drewN q) ao cap zs (by omega) hz (hsW q)
    rw [e] at this
    exact this.mono (fun e w' h => ⟨h.1, h.2.1, (drewN_kp (fun _ => False) w q).trans h.2.2 (fun _ _ h => h)⟩)
  have HI : Hid (∀ W, Rw .i64 3 W w.heap.size (hzl zs) → Calls Try.prog 51 #[.slice (some ⟨w.heap.size, 0, none⟩) zs.length zs.length, .int .i64 ((m + 1 : Nat) : Int)] W fun e w' => e = .returned (.bool true) ∧ W = w') := fun W hW => by
    have := within_any (some ⟨w.heap.size, 0, none⟩) zs.length (hzl zs) (m + 1 : Nat) W (by rw [hzl_len]; omega) hW.src
    rw [hzl_len, decide_eq_true hi] at this
    exact this
  obtain ⟨hwr, _, _⟩ := two_wrap hm
  clear hsW hs hi hz
  generalize (lv zs zs.length).length = nl at *
  generalize 2 ^ (m + 1) = P at *
  have HW := hid hwr
  clear hwr
  go_enter Try.func18, Try.ntmps18
  go_wp2_with fail
  go_quiet (first | (go_at_call 49; refine Calls.quiet_of_same ((HP.out _).mono (fun _ _ h => ⟨h.1, h.2.symm⟩))))
  rw [HW.out]
  go_wp2_with (first
    | (go_at_call 50; refine (HQ.out _).mono ?_; rintro _ w1 ⟨rfl, R1, K1⟩; have HR := hid (And.intro R1 K1); have HT := hid (HI.out w1 R1); clear R1 K1)
    | (go_at_call 51; refine HT.out.mono ?_; rintro _ _ ⟨rfl, rfl⟩))
  go_ret2
  exact ⟨rfl, HR.out.1, HR.out.2⟩
set_option maxHeartbeats 2000000 in
set_option maxRecDepth 100000 in
/-- The coins' lengths, where Huffman's are not within. -/
theorem lengths_spent (w : World) (m : Nat) (hm : m ≤ 14) (ao : Option Addr) (cap : Nat) (zs : List Int) (hl : zs.length ≤ 320) (hz : ∀ z ∈ zs, 0 ≤ z ∧ z < 4294967296) (hs : Src .u32 w ao zs) (hw : (lv zs zs.length).length ≤ 2 ^ (m + 1)) (hi : ¬ Wi (m + 1 : Nat) (hzl zs)) (h0 : 1 < (lv zs zs.length).length) (hr : 2 * ((lv zs zs.length).length - 1) ≤ (Pm.row (Pm.base zs) m).length) :
    Calls Try.prog 18 #[.int .i64 ((m + 1 : Nat) : Int), .slice ao zs.length cap] w fun e w' => ∃ G, w.heap.size ≤ G ∧ e = .returned (.tuple #[.slice (some ⟨G, 0, none⟩) zs.length zs.length, .int .i64 0]) ∧ Rw .i64 3 w' G (spl zs m) ∧ Kp (fun _ => False) w w' := by
  have hlv : (lv zs zs.length).length ≤ 320 := Nat.le_trans (lv_len zs zs.length) hl
  have hsW := fun q => hs.kp (drewN_kp (fun _ => False) w q) (fun _ _ _ h => h)
  have HP : Hid (∀ q, Calls Try.prog 49 #[.slice ao zs.length cap] (w.drewN q) fun e w' => e = .returned (.int .i64 ((lv zs zs.length).length : Nat)) ∧ w.drewN q = w') := fun q => present_any (w.drewN q) ao cap zs (by omega) hz (hsW q)
  have HQ : Hid (∀ q, Calls Try.prog 50 #[.slice ao zs.length cap] (w.drewN q) fun e w' => e = .returned (.slice (some ⟨w.heap.size, 0, none⟩) zs.length zs.length) ∧ Rw .i64 3 w' w.heap.size (hzl zs) ∧ Kp (fun _ => False) w w') := fun q => by
    have e : (w.drewN q).heap.size = w.heap.size := by
      induction q with
      | zero => rfl
      | succ q ih => exact ih
    have := plain_any (w.drewN q) ao cap zs (by omega) hz (hsW q)
    rw [e] at this
    exact this.mono (fun e w' h => ⟨h.1, h.2.1, (drewN_kp (fun _ => False) w q).trans h.2.2 (fun _ _ h => h)⟩)
  have HI : Hid (∀ W, Rw .i64 3 W w.heap.size (hzl zs) → Calls Try.prog 51 #[.slice (some ⟨w.heap.size, 0, none⟩) zs.length zs.length, .int .i64 ((m + 1 : Nat) : Int)] W fun e w' => e = .returned (.bool false) ∧ W = w') := fun W hW => by
    have := within_any (some ⟨w.heap.size, 0, none⟩) zs.length (hzl zs) (m + 1 : Nat) W (by rw [hzl_len]; omega) hW.src
    rw [hzl_len, decide_eq_false hi] at this
    exact this
  have HSP : Hid (∀ W, Kp (fun _ => False) w W → Calls Try.prog 52 #[.int .i64 ((m + 1 : Nat) : Int), .slice ao zs.length cap] W fun e w' => e = .returned (.slice (some ⟨W.heap.size, 0, none⟩) zs.length zs.length) ∧ w.heap.size ≤ W.heap.size ∧ Rw .i64 3 w' W.heap.size (spl zs m) ∧ Kp (fun _ => False) w w') := fun W k => (spent_any W m hm ao cap zs hl hz (hs.kp k (fun _ _ _ h => h)) h0 hr).mono (fun e w' x => ⟨x.1, k.size, x.2.1, k.trans x.2.2 (fun _ _ h => h)⟩)
  obtain ⟨hwr, _, _⟩ := two_wrap hm
  clear hsW hs hi hz hr h0
  generalize (lv zs zs.length).length = nl at *
  generalize 2 ^ (m + 1) = P at *
  have HW := hid hwr
  clear hwr
  go_enter Try.func18, Try.ntmps18
  go_wp2_with fail
  go_quiet (first | (go_at_call 49; refine Calls.quiet_of_same ((HP.out _).mono (fun _ _ h => ⟨h.1, h.2.symm⟩))))
  rw [HW.out]
  go_wp2_with (first
    | (go_at_call 50; refine (HQ.out _).mono ?_; rintro _ w1 ⟨rfl, R1, K1⟩; have HT := hid (HI.out w1 R1); have HS := hid (HSP.out w1 K1); clear R1 K1)
    | (go_at_call 51; refine HT.out.mono ?_; rintro _ _ ⟨rfl, rfl⟩)
    | (go_at_call 52; refine HS.out.mono ?_; rintro _ w2 ⟨rfl, hsz, R2, K2⟩))
  go_ret2
  exact ⟨_, hsz, rfl, R2, K2⟩
end Go.Proofs.Ythpocbpleffdpaa

namespace Go.Proofs.Ythpocbpleffdpaa
open Go.RowKit
set_option linter.unusedVariables false

theorem row_many (b : List Nat) : ∀ t s, b.length ≤ 2 ^ (t + s) → 2 * b.length ≤ (Pm.row b t).length + 2 ^ s
  | 0, s, h => by
    have : (Pm.row b 0).length = b.length := rfl
    rw [Nat.zero_add] at h
    omega
  | t + 1, s, h => by
    have h1 := row_many b t (s + 1) (by rw [show t + (s + 1) = t + 1 + s by omega]; exact h)
    rw [Pm.row_len]
    have : 2 ^ (s + 1) = 2 * 2 ^ s := by rw [Nat.pow_succ, Nat.mul_comm]
    omega
theorem wgt_range (ls : List Int) : ∀ n, n ≤ ls.length → wgt (ls.take n) = ((List.range n).map (fun i => if 0 < ls.getD i 0 then 32768 / 2 ^ (ls.getD i 0).toNat else 0)).sum
  | 0, _ => by simp [wgt]
  | n + 1, h => by rw [wgt_snoc ls n h, wgt_range ls n (by omega), List.range_succ, List.map_append, List.sum_append]; simp
theorem wgt_pos {zs ls : List Int} (h1 : ls.length = zs.length) (h0 : ∀ i, i ∉ Pm.pos zs → ls.getD i 0 = 0) (hp : ∀ s ∈ Pm.pos zs, 1 ≤ ls.getD s 0 ∧ ls.getD s 0 ≤ 15) : wgt ls = ((Pm.pos zs).map (fun s => 2 ^ (15 - (ls.getD s 0).toNat))).sum := by
  have e := wgt_range ls ls.length (Nat.le_refl _)
  rw [List.take_length] at e
  rw [e, h1, ← sum_filter (fun j => decide (0 < zs.getD j 0)) _ (fun i hi => ?_)]
  · show ((Pm.pos zs).map _).sum = _
    congr 1
    refine List.map_congr_left (fun s hs => ?_)
    obtain ⟨a, b⟩ := hp s hs
    rw [if_pos (by omega)]
    have hk : (ls.getD s 0).toNat ≤ 15 := by omega
    rw [show (32768 : Nat) = 2 ^ 15 by rfl, Nat.pow_div hk (by decide)]
  · by_cases hil : i < zs.length
    · have hi2 : i ∉ Pm.pos zs := fun hm => by
        have h5 := (Pm.pos_mem.1 hm).2
        have h6 : ¬ 0 < zs.getD i 0 := by simpa using hi
        exact h6 h5
      rw [h0 i hi2]
      rfl
    · rw [List.getD_eq_getElem?_getD, List.getElem?_eq_none (by omega)]
      rfl
/-- What the least lengths cost. -/
def lst (zs : List Int) (m : Nat) : Nat := if 2 ≤ (Pm.pos zs).length then Pm.ps (Pm.row (Pm.base zs) m) (2 * (Pm.pos zs).length - 2) else (Pm.base zs).getD 0 0
structure Good (zs : List Int) (m : Nat) (Y : List Int) : Prop where
  len : Y.length = zs.length
  fit : ∀ i, i < zs.length → 0 ≤ Y.getD i 0 ∧ Y.getD i 0 ≤ ((m + 1 : Nat) : Int) ∧ (Y.getD i 0 = 0 ↔ zs.getD i 0 = 0)
  cost : ctot Y zs zs.length = lst zs m
  two : 2 ≤ (Pm.pos zs).length → wgt Y = 32768
  one : (Pm.pos zs).length = 1 → wgt Y = 16384
  hz : 2 ≤ (Pm.pos zs).length → Pm.Hz zs Y
theorem fit_pos {zs Y : List Int} (hz : Ct zs) {i : Nat} (h : Y.getD i 0 = 0 ↔ zs.getD i 0 = 0) (h0 : 0 ≤ Y.getD i 0) (hm : i ∈ Pm.pos zs) : 1 ≤ Y.getD i 0 := by
  have h2 := (Pm.pos_mem.1 hm).2
  have : Y.getD i 0 ≠ 0 := fun e => by have := h.1 e; omega
  omega
theorem hz_fit {zs Y : List Int} (hz : Ct zs) {L : Nat} (h : Pm.Hz zs Y) (hL : ∀ s ∈ Pm.pos zs, (Y.getD s 0).toNat ≤ L) : ∀ i, i < zs.length → 0 ≤ Y.getD i 0 ∧ Y.getD i 0 ≤ (L : Int) ∧ (Y.getD i 0 = 0 ↔ zs.getD i 0 = 0) := by
  intro i hi
  by_cases hm : i ∈ Pm.pos zs
  · have a1 := h.one i hm
    have a2 := hL i hm
    have a3 := (Pm.pos_mem.1 hm).2
    exact ⟨by omega, by omega, ⟨fun e => by omega, fun e => by omega⟩⟩
  · rw [h.zero i hm]
    exact ⟨by omega, by omega, ⟨fun _ => (pos_ct hz hi).1 hm, fun _ => rfl⟩⟩
theorem hz_wgt {zs Y : List Int} {L : Nat} (hL0 : L ≤ 15) (h : Pm.Hz zs Y) (hL : ∀ s ∈ Pm.pos zs, (Y.getD s 0).toNat ≤ L) : wgt Y = 32768 := by
  rw [wgt_pos h.len h.zero (fun s hs => by have := h.one s hs; have := hL s hs; omega)]
  exact h.kraft 15 (fun s hs => by have := hL s hs; omega)
/-- Huffman's lengths, where they are within. -/
theorem good_plain {zs : List Int} (hl : zs.length ≤ 320) (hz : Ct zs) {m : Nat} (hm : m ≤ 14) (hi : Wi (m + 1 : Nat) (hzl zs)) : Good zs m (hzl zs) := by
  have hf := hzl_fit hl hz
  have hw := fun i => Wi.at hi (by omega) i
  have hlen := hzl_len zs
  refine ⟨hlen, fun i h => ⟨(hf i h).1, (hw i).2, (hf i h).2.2⟩, ?_, fun h2 => ?_, fun h1 => ?_, fun h2 => (Pm.hzl_many (by omega) h2).1⟩
  · rw [ctot_ltot]
    unfold lst
    by_cases h2 : 2 ≤ (Pm.pos zs).length
    · rw [if_pos h2]
      exact (Pm.hzl_cost (L := m + 1) (by omega) h2 (by omega) (fun s hs => by have := hw s; omega)).2
    · rw [if_neg h2]
      exact hzl_few (by omega)
  · exact hz_wgt (L := m + 1) (by omega) (Pm.hzl_many (by omega) h2).1 (fun s hs => by have := hw s; omega)
  · obtain ⟨s, e⟩ := List.length_eq_one_iff.1 h1
    have hs : s ∈ Pm.pos zs := by rw [e]; simp
    have hs2 := Pm.pos_mem.1 hs
    have e1 : (hzl zs).getD s 0 = 1 := by
      rw [Pm.hzl_one e, List.getD_eq_getElem?_getD, List.getElem?_set_self (by rw [List.length_replicate]; exact hs2.1)]
      rfl
    rw [wgt_pos hlen (fun i hi2 => ?_) (fun x hx => by
      rw [e] at hx
      rw [List.mem_singleton.1 hx, e1]
      omega), e]
    · simp only [List.map_cons, List.map_nil, List.sum_cons, List.sum_nil]
      rw [e1]
      rfl
    · by_cases hil : i < zs.length
      · exact (hf i hil).2.2.2 ((pos_ct hz hil).1 hi2)
      · rw [List.getD_eq_getElem?_getD, List.getElem?_eq_none (by omega)]
        rfl
/-- The coins' lengths. -/
theorem good_spent {zs : List Int} (hl : zs.length ≤ 320) (hz : Ct zs) {m : Nat} (hm : m ≤ 14) (h2 : 2 ≤ (Pm.pos zs).length) (hr : 2 * (Pm.pos zs).length - 2 ≤ (Pm.row (Pm.base zs) m).length) : Good zs m (spl zs m) := by
  have hp := Pm.lv_plen zs
  obtain ⟨a, b⟩ := spl_get hl (show m ≤ 1000 by omega) (by rw [hp]; omega)
  obtain ⟨c1, c2, c3, c4⟩ := Pm.spent_hz (L := m + 1) hl h2 (by omega) (by omega) (by rw [Nat.add_sub_cancel]; exact hr) a (fun i _ => by rw [Nat.add_sub_cancel]; exact b i)
  rw [Nat.add_sub_cancel] at c2
  refine ⟨a, hz_fit hz c1 c3, ?_, fun _ => hz_wgt (by omega) c1 c3, fun h1 => by omega, fun _ => c1⟩
  rw [ctot_ltot, c2]
  unfold lst
  rw [if_pos h2]
theorem row_enough {zs : List Int} {m : Nat} (hw : (lv zs zs.length).length ≤ 2 ^ (m + 1)) : 2 * (Pm.pos zs).length - 2 ≤ (Pm.row (Pm.base zs) m).length := by
  have hp := Pm.lv_plen zs
  have hb := Pm.base_plen zs
  have := row_many (Pm.base zs) m 1 (by omega)
  omega
theorem not_wi {zs : List Int} (hl : zs.length ≤ 320) (hz : Ct zs) {m : Nat} (hi : ¬ Wi (m + 1 : Nat) (hzl zs)) : 2 ≤ (Pm.pos zs).length := by
  rcases Nat.lt_or_ge 1 (Pm.pos zs).length with h | h
  · exact h
  · exfalso
    refine hi ?_
    have hf := hzl_fit hl hz
    intro z hzm
    obtain ⟨i, h1, rfl⟩ := List.mem_iff_getElem.1 hzm
    rw [hzl_len] at h1
    have hfi := hf i h1
    have hle : (hzl zs).getD i 0 ≤ 1 := by
      rcases (show (Pm.pos zs).length = 0 ∨ (Pm.pos zs).length = 1 by omega) with h0 | h0
      · rw [Pm.hzl_none (List.length_eq_zero_iff.1 h0), rep_get]; omega
      · obtain ⟨s, e⟩ := List.length_eq_one_iff.1 h0
        rw [Pm.hzl_one e]
        by_cases his : i = s
        · subst his
          rw [List.getD_eq_getElem?_getD, List.getElem?_set_self (by rw [List.length_replicate]; exact h1)]
          simp
        · rw [List.getD_eq_getElem?_getD, List.getElem?_set_ne (fun e => his e.symm), ← List.getD_eq_getElem?_getD, rep_get]
          omega
    have e : (hzl zs).getD i 0 = (hzl zs)[i] := by rw [List.getD_eq_getElem?_getD, List.getElem?_eq_getElem (by rw [hzl_len]; exact h1)]; rfl
    rw [e] at hfi hle
    omega
/-- Lengths, where it tells any. -/
theorem lengths_good (w : World) (m : Nat) (hm : m ≤ 14) (ao : Option Addr) (cap : Nat) (zs : List Int) (hl : zs.length ≤ 320) (hz : Ct zs) (hs : Src .u32 w ao zs) (hw : (lv zs zs.length).length ≤ 2 ^ (m + 1)) :
    Calls Try.prog 18 #[.int .i64 ((m + 1 : Nat) : Int), .slice ao zs.length cap] w fun e w' => ∃ G Y, w.heap.size ≤ G ∧ e = .returned (.tuple #[.slice (some ⟨G, 0, none⟩) zs.length zs.length, .int .i64 0]) ∧ Rw .i64 3 w' G Y ∧ Kp (fun _ => False) w w' ∧ Good zs m Y := by
  by_cases hi : Wi (m + 1 : Nat) (hzl zs)
  · exact (lengths_plain w m hm ao cap zs hl hz hs hw hi).mono (fun e w' x => ⟨_, _, Nat.le_refl _, x.1, x.2.1, x.2.2, good_plain hl hz hm hi⟩)
  · have h2 := not_wi hl hz hi
    have hr := row_enough hw
    have hp := Pm.lv_plen zs
    exact (lengths_spent w m hm ao cap zs hl hz hs hw hi (by omega) (by rw [hp]; omega)).mono (fun e w' x => by
      obtain ⟨G, g1, g2, g3, g4⟩ := x
      exact ⟨G, _, g1, g2, g3, g4, good_spent hl hz hm h2 hr⟩)
end Go.Proofs.Ythpocbpleffdpaa
