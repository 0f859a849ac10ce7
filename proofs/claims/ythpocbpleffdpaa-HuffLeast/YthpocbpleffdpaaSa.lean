/- spent: what its rounds hold, and what is left of them. -/
import Derived.Test.YthpocbpleffdpaaMk
import Derived.Test.YthpocbpleffdpaaNd
namespace Go.Proofs.Ythpocbpleffdpaa
open Go.RowKit

theorem cF_app {F X : List Nd} {bs Y : List Nat} (hl : bs.length = F.length) {b : Nat} (hb : b ∈ bs) : cF (F ++ X) (bs ++ Y) b = cF F bs b := by
  have h1 := List.idxOf_lt_length_of_mem hb
  unfold cF
  rw [List.idxOf_append, if_pos hb]
  simp [List.getD, List.getElem?_append_left (show bs.idxOf b < F.length by omega)]
/-- A pile, the forest having grown. -/
theorem Gp.more {w w' : World} {base Fb B : Nat} {v : Value} {F X : List Nd} {bs Y K L : List Nat} (h : Gp w base Fb B v F bs K L) (f : Fo w' Fb (F ++ X) (bs ++ Y)) (k : Kp (fun x => x = Fb) w w') : Gp w' base Fb B v (F ++ X) (bs ++ Y) K L := by
  have hap := h.apart
  have hce : ∀ x ∈ L, Go.Proofs.Ythpocbpleffdpaa.cF (F ++ X) (bs ++ Y) x = Go.Proofs.Ythpocbpleffdpaa.cF F bs x := fun x hx => by
    obtain ⟨_, _, _, hm⟩ := h.sub hx
    exact cF_app h.fo.len hm
  have p1 : Pil (Go.Proofs.Ythpocbpleffdpaa.cF F bs) w' base B v (fvo (ptr Fb)) L := h.pil.kp k (fun e => hap.1.1 e.symm) (fun g e e2 => hap.1.2 (e2 ▸ e)) (fun x hx e => by obtain ⟨_, _, _, hm⟩ := h.sub hx; exact (h.fo.lt hm).2 e)
  refine ⟨f, p1.congr hce, h.hx.congr (fun k hk => kf_congr hce k hk), ?_, fun k hk => by have := h.lt k hk; simp; omega⟩
  have hm : K.map (fun k => (bs ++ Y).getD k 0) = K.map (fun k => bs.getD k 0) := by
    refine List.map_congr_left fun k hk => ?_
    have h1 := h.lt k hk
    have h2 := h.fo.len
    simp [List.getD, List.getElem?_append_left (show k < bs.length by omega)]
  rw [hm]
  exact h.perm
/-- A row of one's own as a slice. -/
theorem own_parts {w : World} {base e n : Nat} {v : Value} {xs : List Value} (h : w.ownsRow base e 1 v n xs) : ∃ ao c, v = .slice ao n c ∧ (ao = none → n = 0 ∧ c = 0) ∧ ∀ ad, ao = some ad → ∀ (j : Nat) (u : Value), xs[j]? = some u → w.cell? (ad.add j) = some u := by
  have h2 := h.2
  rcases h2 with ⟨rfl, rfl⟩ | ⟨g, cap, cur, rfl, _⟩
  · exact ⟨none, 0, rfl, fun _ => ⟨rfl, rfl⟩, fun ad e => by cases e⟩
  · exact ⟨_, cap, rfl, fun e => (by cases e), fun ad e j u hu => by cases e; exact h.cells rfl j u hu⟩
/-- No tree lies in a row of pointers. -/
theorem own_tree {w : World} {base n Fb : Nat} {v : Value} {xs : List Value} {F : List Nd} {bs : List Nat} (h : w.ownsRow base 116 1 v n xs) (f : Fo w Fb F bs) : (∀ b ∈ bs, v.ownBlock ≠ some b) ∧ v.ownBlock ≠ some Fb := by
  refine ⟨fun b hb e => ?_, fun e => ?_⟩
  · obtain ⟨k, hk, rfl⟩ := f.mem hb
    rcases h.2 with ⟨rfl, _⟩ | ⟨g', cap, cur, rfl, _, hg2, _⟩
    · simp [Value.ownBlock] at e
    · obtain rfl : g' = bs.getD k 0 := by simpa [Value.ownBlock] using e
      exact apart_types (t := 116) (u := 131) (by decide) hg2 (f.nd k hk)
  · rcases h.2 with ⟨rfl, _⟩ | ⟨g', cap, cur, rfl, _, hg2, _⟩
    · simp [Value.ownBlock] at e
    · obtain rfl : g' = Fb := by simpa [Value.ownBlock] using e
      exact apart_types (t := 116) (u := 111) (by decide) hg2 f.st
theorem lnum_bs {zs : List Int} {F : List Nd} {bs La R : List Nat} (hb : bs.length = F.length) (hL : La.length = (Pm.pos zs).length) : (Pm.lnum zs F.length).map (fun k => (bs ++ La ++ R).getD k 0) = La := by
  unfold Pm.lnum
  rw [List.map_map]
  apply List.ext_getElem
  · simp [hL]
  · intro i h1 h2
    have h3 : i < La.length := h2
    simp only [List.getElem_map, List.getElem_range, Function.comp_apply]
    rw [List.getD_eq_getElem?_getD, List.append_assoc, List.getElem?_append_right (by omega), show F.length + i - bs.length = i by omega, List.getElem?_append_left h3, List.getElem?_eq_getElem h3]
    rfl

/-- What spent's first loop holds. -/
structure Sq (zs : List Int) (w wr : World) (base Fb B G : Nat) (v : Value) (F : List Nd) (bs K L : List Nat) (t : Nat) : Prop where
  gp : Gp wr base Fb B v F bs K L
  row : Rw .i64 3 wr G (List.replicate zs.length 0)
  kp : Kp (fun _ => False) w wr
  big : w.heap.size ≤ base ∧ w.heap.size ≤ Fb ∧ w.heap.size ≤ B ∧ base ≤ wr.heap.size
  eq : Pm.spS zs t = (F, K)
theorem Sq.lev {zs : List Int} {w wr : World} {base Fb B G : Nat} {v : Value} {F : List Nd} {bs K L : List Nat} {t : Nat} (h : Sq zs w wr base Fb B G v F bs K L t) (hl : zs.length ≤ 320) (ht : t ≤ 1000) : Pm.Lv zs t F K := by
  have := Pm.spS_lv hl t ht
  rw [h.eq] at this
  exact this
theorem cst_row {zs : List Int} {t : Nat} {F : List Nd} {K : List Nat} (h : Pm.Lv zs t F K) : cst F K = (Pm.row (Pm.base zs) t).sum := by
  rw [← Pm.ar_row, ← h.cs, List.map_map]
  unfold cst
  rw [← ((Pm.isk_perm F K).map (fun k => (F.getD k nd0).1)).sum_nat]
  rfl
theorem cst_small {zs : List Int} {t : Nat} {F : List Nd} {K : List Nat} (h : Pm.Lv zs t F K) (hz : ∀ z ∈ zs, 0 ≤ z ∧ z < 4294967296) (hl : zs.length ≤ 320) (ht : t ≤ 20) : cst F K ≤ 28862180229120 := by
  rw [cst_row h]
  have h1 := row_sum (Pm.base zs) t
  have h2 := base_sum (zs := zs) hz
  have h3 : (t + 1) * (Pm.base zs).sum ≤ 21 * 1374389534720 := Nat.mul_le_mul (by omega) (by omega)
  omega
theorem Sq.leaves {zs : List Int} {w wr : World} {base Fb B G : Nat} {v : Value} {F : List Nd} {bs K L : List Nat} {t : Nat} (h : Sq zs w wr base Fb B G v F bs K L t) (hl : zs.length ≤ 320) (ht : t ≤ 20) (ao : Option Addr) (cap : Nat) (hz : ∀ z ∈ zs, 0 ≤ z ∧ z < 4294967296) (hs : Src .u32 w ao zs) :
    Calls Try.prog 72 #[ptr Fb, .slice ao zs.length cap] wr fun e w' => ∃ v L, e = .returned v ∧ Lvs wr w' Fb F bs zs v zs.length L := by
  have hb := (h.lev hl (by omega)).bd
  refine leaves_any wr Fb F bs ao cap zs (by omega) (by omega) hz (hs.kp h.kp (fun _ _ _ h => h)) (fun b off e h0 => ?_) h.gp.fo
  subst e
  obtain ⟨b', off', e, hc⟩ := hs h0
  cases e
  have := block_lt_of_cell (hc 0 h0)
  have := h.big.2.1
  simp at *
  omega
theorem Sq.pairs {zs : List Int} {w wr wb : World} {base Fb B G : Nat} {v va : Value} {F : List Nd} {bs K L La : List Nat} {t : Nat} (h : Sq zs w wr base Fb B G v F bs K L t) (hl : zs.length ≤ 320) (ht : t ≤ 20) (hz : ∀ z ∈ zs, 0 ≤ z ∧ z < 4294967296) (hL : Lvs wr wb Fb F bs zs va zs.length La) :
    Calls Try.prog 78 #[ptr Fb, ptr B] wb fun e w' => ∃ v5 v' F2 bs2 K2 L2 N, e = .returned v5 ∧ Pj wb w' base Fb B v v' v5 F2 bs2 K2 L2 N (F2, K2, N) (bs ++ La) ∧ Pm.spS zs (t + 1) = (F2, Pm.lnum zs F.length ++ N) := by
  have hv := h.lev hl (by omega)
  have hb := hv.bd
  have hk := hv.len
  have hr := Pm.row_two (Pm.base zs) t
  have hbl := Pm.base_plen zs
  have hpl := Pm.pos_le zs
  have hlv := lv_len zs zs.length
  have hc := cst_small hv hz hl ht
  have hce : cst (F ++ lv zs zs.length) K = cst F K := by
    unfold cst
    congr 1
    refine List.map_congr_left fun k hk => ?_
    rw [Pm.get_app (hv.kl k hk)]
  refine (pairs_any wb base Fb B v _ _ K L (h.gp.more hL.fo hL.kp) (by omega) (by simp; omega)).mono ?_
  rintro e w' ⟨v5, v', F2, bs2, K2, L2, N, rfl, hj, hk2⟩
  have hjs := hj.js
  rw [show K2.length / 2 = 0 by omega] at hjs
  have hjs2 : (F2, K2, N) = prs (K.length / 2) (F ++ lv zs zs.length, K, []) := hjs
  refine ⟨v5, v', F2, bs2, K2, L2, N, rfl, by rw [hjs2]; exact hj, ?_⟩
  show Pm.sp1 zs (Pm.spS zs t) = _
  rw [h.eq]
  unfold Pm.sp1
  simp only
  rw [← hjs2]
theorem Sq.owns {zs : List Int} {w wr wb wc : World} {base Fb B G : Nat} {v va v' v5 : Value} {F F2 : List Nd} {bs K L La bs2 K2 L2 N : List Nat} {T : List Nd × List Nat × List Nat} {t : Nat} (h : Sq zs w wr base Fb B G v F bs K L t) (hL : Lvs wr wb Fb F bs zs va zs.length La) (hj : Pj wb wc base Fb B v v' v5 F2 bs2 K2 L2 N T (bs ++ La)) :
    wc.ownsRow wr.heap.size 116 1 va La.length (La.map ptr) ∧ wr.heap.size ≤ wc.heap.size ∧ La.length ≤ 1000000000 ∧ N.length ≤ 1000000000 := by
  have h1 := h.gp.fo.st.lt
  have h2 := h.gp.pil.st.lt
  have h3 := fun x e => (h.gp.pil.own.lt x e).2
  have z1 := hL.kp.size
  have z2 := hj.kp.size
  have n1 := hj.nums
  have n2 := hj.few.1
  refine ⟨own_kp hL.own hj.kp (fun g e => ?_), by omega, ?_, by omega⟩
  · have h4 := (hL.own.lt g e).1
    rintro (e2 | e2 | e2)
    · omega
    · omega
    · have := h3 g e2; omega
  · have := hj.pre.length_le
    have h5 := hj.gp.fo.len
    have h6 : (bs ++ La).length = bs.length + La.length := List.length_append
    omega
/-- The next pile. -/
theorem Sq.pile {zs : List Int} {w wr wb wc wd : World} {base Fb B G : Nat} {v va v' v5 vd : Value} {F F2 : List Nd} {bs K L La bs2 K2 L2 N : List Nat} {T : List Nd × List Nat × List Nat} {t : Nat} (h : Sq zs w wr base Fb B G v F bs K L t) (hL : Lvs wr wb Fb F bs zs va zs.length La) (hj : Pj wb wc base Fb B v v' v5 F2 bs2 K2 L2 N T (bs ++ La))
    (he : Pm.spS zs (t + 1) = (F2, Pm.lnum zs F.length ++ N)) (od : wd.ownsRow wr.heap.size 116 1 vd (La.length + N.length) (La.map ptr ++ (N.map fun k => bs2.getD k 0).map ptr)) (kd : Kp (fun k => va.ownBlock = some k) wc wd) :
    Calls Try.prog 71 #[ptr Fb, vd] wd fun e w' => e = .returned (ptr wd.heap.size) ∧ ∃ L', Sq zs w w' wr.heap.size Fb wd.heap.size G vd F2 bs2 (Pm.lnum zs F.length ++ N) L' (t + 1) := by
  obtain ⟨oc, zwc, nL, nN⟩ := h.owns hL hj
  obtain ⟨R, hR⟩ := hj.pre
  have hla : La.length = (Pm.pos zs).length := by
    have h1 := hL.fo.len
    have h2 := h.gp.fo.len
    have h3 := Pm.lv_plen zs
    simp at h1
    omega
  obtain ⟨t1, t2⟩ := own_tree oc hj.gp.fo
  have hfo : Fo wd Fb F2 bs2 := hj.gp.fo.kp kd t2 t1
  obtain ⟨d1, d2⟩ := own_tree od hfo
  have hmap : (Pm.lnum zs F.length ++ N).map (fun k => bs2.getD k 0) = La ++ N.map (fun k => bs2.getD k 0) := by
    rw [List.map_append, ← hR, lnum_bs h.gp.fo.len hla]
  have hin : ∀ b ∈ La ++ N.map (fun k => bs2.getD k 0), b ∈ bs2 := by
    intro b hb
    rcases List.mem_append.1 hb with hb | hb
    · rw [← hR]; simp [hb]
    · obtain ⟨k, hk, rfl⟩ := List.mem_map.1 hb
      have h1 := hj.few.2 k hk
      have h2 := hj.gp.fo.len
      simp [List.getD, show k < bs2.length by omega]
  refine (pile_any (cF F2 bs2) wd wr.heap.size Fb vd (La ++ N.map (fun k => bs2.getD k 0)) (by simpa using od) (fun b hb => hfo.tk (hin b hb)) (fun g e hm => d1 g (hin g hm) e) (by simp; omega)).mono ?_
  rintro e w' ⟨rfl, L', hp, hP, hX, k4⟩
  have hG := h.row.lt
  have hn := h.gp.notG h.row
  have r1 := h.row.kp hL.kp hn.2.2.1
  have r2 := r1.kp hj.kp (fun e => by rcases e with e | e | e; exact hn.2.2.1 e; exact hn.1 e; exact hn.2.1 e)
  have r3 := r2.kp kd (fun e => by have := (hL.own.lt _ e).1; omega)
  have r4 := r3.kp k4 (fun e => by have := (od.lt _ e).1; omega)
  have z0 := h.kp.size
  have z1 := hL.kp.size
  have z2 := hj.kp.size
  have z3 := kd.size
  have z4 := k4.size
  have hbg := h.big
  have q1 : Kp (fun _ => False) w wb := h.kp.trans hL.kp (fun i hi e => by omega)
  have q2 : Kp (fun _ => False) w wc := q1.trans hj.kp (fun i hi e => by
    rcases e with e | e | e
    · omega
    · omega
    · have := (h.gp.pil.own.lt i e).1; omega)
  have q3 : Kp (fun _ => False) w wd := q2.trans kd (fun i hi e => by have := (hL.own.lt _ e).1; omega)
  have q4 : Kp (fun _ => False) w w' := q3.trans k4 (fun i hi e => by have := (od.lt _ e).1; omega)
  refine ⟨rfl, L', ⟨hfo.kp k4 d2 d1, hP, hX, ?_, ?_⟩, r4, q4, ⟨by omega, by omega, by omega, by omega⟩, he⟩
  · rw [hmap]; exact hp
  · intro k hk
    rcases List.mem_append.1 hk with hk | hk
    · have h1 := (Pm.lnum_mem hk).2
      have h2 := hj.gp.fo.len
      have h3 := h.gp.fo.len
      have h4 := congrArg List.length hR
      simp at h4
      omega
    · exact hj.few.2 k hk
/-- The first pile. -/
theorem Sq.start {zs : List Int} {w w1 w3 w4 : World} {v : Value} {L L' : List Nat} (m : Mk w w1 zs.length) (h : Lvs (w1.alloc (.cells #[.int .i64 0] 111)) w3 w1.heap.size [] [] zs v zs.length L)
    (r : L'.Perm L ∧ Pil (cF (lv zs zs.length) L) w4 (w1.alloc (.cells #[.int .i64 0] 111)).heap.size w3.heap.size v (fvo (ptr w1.heap.size)) L' ∧ Hx (kf (cF (lv zs zs.length) L) L') 0 L'.length ∧ Kp (fun k => v.ownBlock = some k) w3 w4) :
    Sq zs w w4 (w1.alloc (.cells #[.int .i64 0] 111)).heap.size w1.heap.size w3.heap.size w.heap.size v (lv zs zs.length) L (List.range (lv zs zs.length).length) L' 0 := by
  obtain ⟨hp, hP, hX, k4⟩ := r
  have hfo : Fo w3 w1.heap.size (lv zs zs.length) L := by have := h.fo; simpa using this
  have hne := h.ne
  have hll := hfo.len
  have hlv := lv_len zs zs.length
  have hG := m.row.lt
  have hol := fun x e => (h.own.lt x e).1
  have hsz : (w1.alloc (.cells #[.int .i64 0] 111)).heap.size = w1.heap.size + 1 := by simp
  have z3 := h.kp.size
  have z4 := k4.size
  have g : Gp w4 (w1.alloc (.cells #[.int .i64 0] 111)).heap.size w1.heap.size w3.heap.size v (lv zs zs.length) L (List.range (lv zs zs.length).length) L' := by
    refine ⟨hfo.kp k4 (fun e => (hne _ e).1 rfl) (fun b hb e => (hne _ e).2 (by simpa using hb)), hP, hX, ?_, fun k hk => List.mem_range.1 hk⟩
    rw [← hll, map_range]
    exact hp
  obtain ⟨f1, f2⟩ := frame4 m h k4
  exact ⟨g, f1, f2, ⟨by omega, by omega, by omega, by omega⟩, by rw [Pm.lv_plen]; rfl⟩
end Go.Proofs.Ythpocbpleffdpaa
