/- HuffBack: what is not gone into. -/
import Derived.Test.YthpocbpleffdpaaXfX
import Derived.Test.YthpocbpleffdpaaDt
import Derived.Test.YthpocbpleffdpaaDp
import Derived.Test.YthpocbpleffdpaaSf
import Derived.Test.YthpocbpleffdpaaDn
import Derived.Test.YthpocbpleffdpaaBzWorks
namespace Go.Proofs.Ythpocbpleffdpaa
open Go.RowKit
set_option linter.unusedVariables false

theorem sum_two_out {l : List Nat} {i k : Nat} (hi : i ∈ l) (hk : k ∈ l) (hik : i ≠ k) (f : Nat → Nat) : (l.map f).sum = f i + (f k + (((l.erase i).erase k).map f).sum) := by
  have p := List.perm_cons_erase hi
  have hk2 : k ∈ l.erase i := (List.mem_erase_of_ne hik.symm).2 hk
  have p2 := List.perm_cons_erase hk2
  rw [(p.map f).sum_nat, List.map_cons, List.sum_cons, (p2.map f).sum_nat, List.map_cons, List.sum_cons]
theorem in_rest {l : List Nat} (hn : l.Nodup) {i k x : Nat} (h : x ∈ (l.erase i).erase k) : x ≠ i ∧ x ≠ k ∧ x ∈ l := by
  obtain ⟨h1, h2⟩ := (List.Nodup.mem_erase_iff (hn.erase i)).1 h
  obtain ⟨h3, h4⟩ := (List.Nodup.mem_erase_iff hn).1 h2
  exact ⟨h3, h1, h4⟩
/-- Two lengths change places. -/
def swp (Y : List Int) (i k : Nat) : List Int := (Y.set i (Y.getD k 0)).set k (Y.getD i 0)
theorem swp_get {Y : List Int} {i k : Nat} (hi : i < Y.length) (hk : k < Y.length) (hik : i ≠ k) : (swp Y i k).getD i 0 = Y.getD k 0 ∧ (swp Y i k).getD k 0 = Y.getD i 0 ∧ ∀ x, x ≠ i → x ≠ k → (swp Y i k).getD x 0 = Y.getD x 0 := by
  unfold swp
  refine ⟨?_, ?_, fun x h1 h2 => ?_⟩
  · rw [List.getD_eq_getElem?_getD, List.getElem?_set_ne (fun e => hik e.symm), List.getElem?_set_self hi]
    rfl
  · rw [List.getD_eq_getElem?_getD, List.getElem?_set_self (by rw [List.length_set]; exact hk)]
    rfl
  · rw [List.getD_eq_getElem?_getD, List.getElem?_set_ne (fun e => h2 e.symm), List.getElem?_set_ne (fun e => h1 e.symm), ← List.getD_eq_getElem?_getD]
theorem hz_swp {zs Y : List Int} (h : Pm.Hz zs Y) {i k : Nat} (hi : i ∈ Pm.pos zs) (hk : k ∈ Pm.pos zs) (hik : i ≠ k) : Pm.Hz zs (swp Y i k) := by
  have hi2 := (Pm.pos_mem.1 hi).1
  have hk2 := (Pm.pos_mem.1 hk).1
  have hl := h.len
  obtain ⟨g1, g2, g3⟩ := swp_get (Y := Y) (i := i) (k := k) (by omega) (by omega) hik
  refine ⟨by unfold swp; rw [List.length_set, List.length_set]; exact hl, fun x hx => ?_, fun s hs => ?_, fun D hD => ?_⟩
  · rw [g3 x (fun e => hx (e ▸ hi)) (fun e => hx (e ▸ hk))]
    exact h.zero x hx
  · by_cases e1 : s = i
    · rw [e1, g1]; exact h.one k hk
    · by_cases e2 : s = k
      · rw [e2, g2]; exact h.one i hi
      · rw [g3 s e1 e2]; exact h.one s hs
  · have hD2 : ∀ s ∈ Pm.pos zs, (Y.getD s 0).toNat ≤ D := fun s hs => by
      by_cases e1 : s = i
      · rw [e1, ← g2]; exact hD k hk
      · by_cases e2 : s = k
        · rw [e2, ← g1]; exact hD i hi
        · rw [← g3 s e1 e2]; exact hD s hs
    have h5 := h.kraft D hD2
    rw [sum_two_out hi hk hik] at h5 ⊢
    have e : (((Pm.pos zs).erase i).erase k).map (fun s => 2 ^ (D - ((swp Y i k).getD s 0).toNat)) = (((Pm.pos zs).erase i).erase k).map (fun s => 2 ^ (D - (Y.getD s 0).toNat)) := List.map_congr_left (fun x hx => by
      obtain ⟨a, b, _⟩ := in_rest (Pm.pos_nodup zs) hx
      rw [g3 x a b])
    rw [e, g1, g2]
    omega
theorem ltot_swp {zs Y : List Int} (h : Pm.Hz zs Y) {i k : Nat} (hi : i ∈ Pm.pos zs) (hk : k ∈ Pm.pos zs) (hik : i ≠ k) (hc : Pm.cnv zs k < Pm.cnv zs i) (hy : Y.getD k 0 < Y.getD i 0) : Pm.ltot zs (swp Y i k) < Pm.ltot zs Y := by
  have hi2 := (Pm.pos_mem.1 hi).1
  have hk2 := (Pm.pos_mem.1 hk).1
  have hl := h.len
  have o1 := h.one i hi
  have o2 := h.one k hk
  obtain ⟨g1, g2, g3⟩ := swp_get (Y := Y) (i := i) (k := k) (by omega) (by omega) hik
  unfold Pm.ltot
  rw [sum_two_out hi hk hik, sum_two_out hi hk hik]
  have e : (((Pm.pos zs).erase i).erase k).map (fun s => Pm.cnv zs s * ((swp Y i k).getD s 0).toNat) = (((Pm.pos zs).erase i).erase k).map (fun s => Pm.cnv zs s * (Y.getD s 0).toNat) := List.map_congr_left (fun x hx => by
    obtain ⟨a, b, _⟩ := in_rest (Pm.pos_nodup zs) hx
    rw [g3 x a b])
  rw [e, g1, g2]
  obtain ⟨a, ha⟩ : ∃ a, Pm.cnv zs i = Pm.cnv zs k + (a + 1) := ⟨Pm.cnv zs i - Pm.cnv zs k - 1, by omega⟩
  obtain ⟨b, hb⟩ : ∃ b, (Y.getD i 0).toNat = (Y.getD k 0).toNat + (b + 1) := ⟨(Y.getD i 0).toNat - (Y.getD k 0).toNat - 1, by omega⟩
  rw [ha, hb]
  generalize Pm.cnv zs k = c
  generalize (Y.getD k 0).toNat = y
  simp only [Nat.add_mul, Nat.mul_add]
  omega
/-- Huffman's lengths: what comes more often has no longer one. -/
theorem hzl_mono {zs : List Int} (hl : zs.length ≤ 320) (h2 : 2 ≤ (Pm.pos zs).length) {s s' : Nat} (hs : s ∈ Pm.pos zs) (hs' : s' ∈ Pm.pos zs) (hc : Pm.cnv zs s' < Pm.cnv zs s) : (hzl zs).getD s 0 ≤ (hzl zs).getD s' 0 := by
  rcases Int.lt_or_le ((hzl zs).getD s' 0) ((hzl zs).getD s 0) with h | h
  · exfalso
    obtain ⟨hz, _, _, _⟩ := Pm.hzl_many (zs := zs) (by omega) h2
    have hne : s ≠ s' := fun e => by rw [e] at hc; omega
    have a := Pm.hzl_least (by omega) h2 (hz_swp hz hs hs' hne)
    have b := ltot_swp hz hs hs' hne hc h
    omega
  · exact h
/-- What else is wanted of Lengths' answer. -/
structure Best (zs : List Int) (m : Nat) (Y : List Int) : Prop where
  good : Good zs m Y
  ge : ctot (hzl zs) zs zs.length ≤ ctot Y zs zs.length
  short : Wi (m + 1 : Nat) (hzl zs) → Y = hzl zs
  mono : ∀ i k, i < zs.length → k < zs.length → zs.getD k 0 < zs.getD i 0 → 0 < zs.getD k 0 → Y.getD i 0 ≤ Y.getD k 0
theorem best_plain {zs : List Int} (hl : zs.length ≤ 320) (hz : Ct zs) {m : Nat} (hm : m ≤ 14) (hi : Wi (m + 1 : Nat) (hzl zs)) : Best zs m (hzl zs) := by
  refine ⟨good_plain hl hz hm hi, Nat.le_refl _, fun _ => rfl, fun i k h1 h2 h3 h4 => ?_⟩
  have m1 : i ∈ Pm.pos zs := Pm.pos_mem.2 ⟨h1, by omega⟩
  have m2 : k ∈ Pm.pos zs := Pm.pos_mem.2 ⟨h2, by omega⟩
  have hik : i ≠ k := fun e => by rw [e] at h3; omega
  have hn : 2 ≤ (Pm.pos zs).length := by
    have e1 := List.length_erase_of_mem m1
    have e2 : k ∈ (Pm.pos zs).erase i := (List.mem_erase_of_ne hik.symm).2 m2
    have e3 := List.length_pos_of_mem e2
    omega
  refine hzl_mono hl hn m1 m2 ?_
  unfold Pm.cnv
  omega
theorem best_spent {zs : List Int} (hl : zs.length ≤ 320) (hz : Ct zs) {m : Nat} (hm : m ≤ 14) (h2 : 2 ≤ (Pm.pos zs).length) (hr : 2 * (Pm.pos zs).length - 2 ≤ (Pm.row (Pm.base zs) m).length) (hi : ¬ Wi (m + 1 : Nat) (hzl zs)) : Best zs m (spl zs m) := by
  have hp := Pm.lv_plen zs
  obtain ⟨a, b⟩ := spl_get hl (show m ≤ 1000 by omega) (by rw [hp]; omega)
  obtain ⟨c1, c2, c3, c4⟩ := Pm.spent_hz (L := m + 1) hl h2 (by omega) (by omega) (by rw [Nat.add_sub_cancel]; exact hr) a (fun i _ => by rw [Nat.add_sub_cancel]; exact b i)
  refine ⟨good_spent hl hz hm h2 hr, ?_, fun h => absurd h hi, fun i k h1 h3 h4 h5 => ?_⟩
  · rw [ctot_ltot, ctot_ltot]
    exact Pm.hzl_least (by omega) h2 c1
  · refine c4 i (Pm.pos_mem.2 ⟨h1, by omega⟩) k (Pm.pos_mem.2 ⟨h3, by omega⟩) ?_
    unfold Pm.cnv
    omega
/-- Lengths, where it tells any. -/
theorem lengths_best (w : World) (m : Nat) (hm : m ≤ 14) (ao : Option Addr) (cap : Nat) (zs : List Int) (hl : zs.length ≤ 320) (hz : Ct zs) (hs : Src .u32 w ao zs) (hw : (lv zs zs.length).length ≤ 2 ^ (m + 1)) :
    Calls Try.prog 18 #[.int .i64 ((m + 1 : Nat) : Int), .slice ao zs.length cap] w fun e w' => ∃ G Y, w.heap.size ≤ G ∧ e = .returned (.tuple #[.slice (some ⟨G, 0, none⟩) zs.length zs.length, .int .i64 0]) ∧ Rw .i64 3 w' G Y ∧ Kp (fun _ => False) w w' ∧ Best zs m Y := by
  by_cases hi : Wi (m + 1 : Nat) (hzl zs)
  · exact (lengths_plain w m hm ao cap zs hl hz hs hw hi).mono (fun e w' x => ⟨_, _, Nat.le_refl _, x.1, x.2.1, x.2.2, best_plain hl hz hm hi⟩)
  · have h2 := not_wi hl hz hi
    have hr := row_enough hw
    have hp := Pm.lv_plen zs
    exact (lengths_spent w m hm ao cap zs hl hz hs hw hi (by omega) (by rw [hp]; omega)).mono (fun e w' x => by
      obtain ⟨G, g1, g2, g3, g4⟩ := x
      exact ⟨G, _, g1, g2, g3, g4, best_spent hl hz hm h2 hr hi⟩)
end Go.Proofs.Ythpocbpleffdpaa

namespace Go.Proofs.Ythpocbpleffdpaa
open Go.RowKit
set_option linter.unusedVariables false

theorem fn_up (zs : List Int) (q : Nat) : ∀ j, fn zs q * 2 ^ j ≤ fn zs (q + j)
  | 0 => by simp
  | j + 1 => by
    have := fn_up zs q j
    rw [show q + (j + 1) = q + j + 1 by omega, fn_succ, Nat.pow_succ, ← Nat.mul_assoc]
    omega
theorem xv_down (b : Nat → Nat) (hb : ∀ k, b k ≤ 1) (q : Nat) : ∀ j, xv b (q + j) + 1 ≤ (xv b q + 1) * 2 ^ j
  | 0 => by simp
  | j + 1 => by
    have h1 := xv_down b hb q j
    have h2 := hb (q + j)
    rw [show q + (j + 1) = q + j + 1 by omega, Nat.pow_succ, ← Nat.mul_assoc]
    simp only [xv]
    omega
/-- Where the next bits are a code, no shorter one is there. -/
theorem nm_code {zs : List Int} {b : Nat → Nat} (hb : ∀ k, b k ≤ 1) {k m : Nat} (e : Go.Proofs.Ythpocbpleffdpaa.fc zs (m + 1) + cnt zs (m + 1) k = xv b (m + 1)) : Nm zs b m := by
  intro q hq
  rcases Nat.lt_or_ge (xv b q) (fn zs q) with h | h
  · exfalso
    obtain ⟨j, rfl⟩ : ∃ j, m = q + j := ⟨m - q, by omega⟩
    have h1 := xv_down b hb q (j + 1)
    have h2 := fn_up zs q j
    have h3 : (xv b q + 1) * 2 ^ (j + 1) ≤ fn zs q * 2 ^ (j + 1) := Nat.mul_le_mul_right _ h
    have h4 := fc_succ zs (q + j)
    rw [Nat.pow_succ, ← Nat.mul_assoc] at h3 h1
    rw [show q + (j + 1) = q + j + 1 by omega] at h1
    rw [← Nat.mul_assoc] at h3
    omega
  · exact h
theorem dec_code {zs : List Int} {b : Nat → Nat} (hb : ∀ k, b k ≤ 1) {k n there : Nat} (hn : 1 ≤ n) (ht : n ≤ there) (hk : zs.getD k 0 = (n : Int)) (e : Go.Proofs.Ythpocbpleffdpaa.fc zs n + cnt zs n k = xv b n) : Dec zs b there (k : Int) (n : Int) 0 := by
  obtain ⟨m, rfl⟩ : ∃ m, n = m + 1 := ⟨n - 1, by omega⟩
  exact .inl ⟨k, m, rfl, rfl, rfl, ht, hk, e, nm_code hb e⟩
theorem bt_le (V p k : Nat) : bt V p k ≤ 1 := by unfold bt; omega
theorem xv_turn (V p : Nat) : ∀ n, xv (bt V p) n = Bz.turn (V / 2 ^ p) n
  | 0 => rfl
  | n + 1 => by
    simp only [xv, Bz.turn]
    rw [xv_turn V p n]
    unfold bt
    rw [Nat.div_div_eq_div_mul, ← Nat.pow_add]
    omega
theorem turn_mod (x : Nat) : ∀ m n, m ≤ n → Bz.turn (x % 2 ^ n) m = Bz.turn x m
  | 0, _, _ => rfl
  | m + 1, n, h => by
    simp only [Bz.turn]
    rw [turn_mod x m n (by omega)]
    have : x % 2 ^ n / 2 ^ m % 2 = x / 2 ^ m % 2 := Bz.div_mod_pow 2 x n m h
    omega
theorem pvn_mod (zs ss : List Int) (j : Nat) : ∀ i, pvn zs ss (j + i) % 2 ^ lgn zs ss j = pvn zs ss j
  | 0 => Nat.mod_eq_of_lt (pvn_lt zs ss j)
  | i + 1 => by
    have h := pvn_mod zs ss j i
    rw [show j + (i + 1) = j + i + 1 by omega]
    simp only [pvn]
    have hge : ∀ i, lgn zs ss j ≤ lgn zs ss (j + i) := by
      intro i
      induction i with
      | zero => exact Nat.le_refl _
      | succ i ih => rw [show j + (i + 1) = j + i + 1 by omega]; simp only [lgn]; omega
    obtain ⟨d, hd⟩ : ∃ d, lgn zs ss (j + i) = lgn zs ss j + d := ⟨lgn zs ss (j + i) - lgn zs ss j, by have := hge i; omega⟩
    rw [hd, Nat.pow_add, Nat.mul_comm (2 ^ lgn zs ss j), ← Nat.mul_assoc, Nat.add_mul_mod_self_right]
    exact h
theorem lgn_mono (zs ss : List Int) {i j : Nat} (h : i ≤ j) : lgn zs ss i ≤ lgn zs ss j := by
  induction j with
  | zero => obtain rfl : i = 0 := by omega
            exact Nat.le_refl _
  | succ j ih =>
    by_cases e : i = j + 1
    · subst e; exact Nat.le_refl _
    · have := ih (by omega)
      simp only [lgn]
      omega
/-- The next bits behind j symbols are the next symbol's code. -/
theorem pvn_next (zs ss : List Int) {j n : Nat} (h : j < n) : pvn zs ss n / 2 ^ lgn zs ss j % 2 ^ sln zs ss j = Bz.turn (scd zs ss j) (sln zs ss j) := by
  have h1 := pvn_mod zs ss (j + 1) (n - (j + 1))
  rw [show j + 1 + (n - (j + 1)) = n by omega] at h1
  rw [← Nat.mod_mul_right_div_self, ← Nat.pow_add]
  have e : lgn zs ss (j + 1) = lgn zs ss j + sln zs ss j := rfl
  rw [e] at h1
  rw [h1]
  simp only [pvn]
  have h2 := pvn_lt zs ss j
  rw [Nat.add_mul_div_right _ _ (Nat.two_pow_pos _), Nat.div_eq_of_lt h2, Nat.zero_add]
/-- The symbol that is taken behind j of them. -/
theorem dec_put {zs ss : List Int} (hw : Wi 15 zs) (hwt : wgt zs ≤ 32768) {j n there : Nat} (h : j < n) (hs : hasb zs (ss.getD j 0) = true) (ht : sln zs ss j ≤ there) : Dec zs (bt (pvn zs ss n) (lgn zs ss j)) there (ss.getD j 0) (sln zs ss j : Nat) 0 ∧ 1 ≤ sln zs ss j ∧ sln zs ss j ≤ 15 := by
  unfold hasb at hs
  simp only [Bool.and_eq_true, decide_eq_true_eq] at hs
  obtain ⟨h0, h1, h2⟩ := hs
  obtain ⟨k, hk⟩ := Int.eq_ofNat_of_zero_le h0
  obtain ⟨q, hq⟩ : ∃ q, q = sln zs ss j := ⟨_, rfl⟩
  have hq2 : zs.getD k 0 = (q : Int) := by
    rw [hq]
    unfold sln
    rw [hk, Int.toNat_natCast]
    rw [hk, Int.toNat_natCast] at h2
    omega
  have hq1 : 1 ≤ q := by
    rw [hk, Int.toNat_natCast, hq2] at h2
    omega
  have hkl : k < zs.length := by rw [hk] at h1; omega
  have hq15 : q ≤ 15 := by
    have h5 := hw (zs.getD k 0) (by rw [List.getD_eq_getElem?_getD, List.getElem?_eq_getElem hkl]; exact List.getElem_mem _)
    rw [hq2] at h5
    omega
  have hc := scd_is hw hq1 hk hq2
  have hlt : scd zs ss j < 2 ^ q := by
    have h3 := cd_lt hq1 hq2
    have h4 := fn_wgt hw hq15
    have h5 : fn zs q * 2 ^ (15 - q) ≤ 2 ^ q * 2 ^ (15 - q) := by
      rw [← Nat.pow_add, show q + (15 - q) = 15 by omega]
      omega
    have h6 := Nat.le_of_mul_le_mul_right h5 (Nat.two_pow_pos _)
    omega
  have hx := pvn_next zs ss h
  rw [← hq] at hx ht ⊢
  refine ⟨?_, hq1, hq15⟩
  rw [hk]
  refine dec_code (bt_le _ _) hq1 ht hq2 ?_
  rw [xv_turn, ← turn_mod _ q q (Nat.le_refl _), hx, Bz.turn_turn, Nat.mod_eq_of_lt hlt, hc]
end Go.Proofs.Ythpocbpleffdpaa

namespace Go.Proofs.Ythpocbpleffdpaa
open Go.RowKit
set_option linter.unusedVariables false

/-- How often each of forty symbols comes among the first j. -/
def ctr (ss : List Int) : Nat → List Int
  | 0 => List.replicate 40 0
  | j + 1 => (ctr ss j).set (ss.getD j 0).toNat ((ctr ss j).getD (ss.getD j 0).toNat 0 + 1)
theorem ctr_len (ss : List Int) : ∀ j, (ctr ss j).length = 40
  | 0 => List.length_replicate
  | j + 1 => by simp only [ctr, List.length_set]; exact ctr_len ss j
theorem set_getD (l : List Int) (x i : Nat) (v : Int) (h : x < l.length) : (l.set x v).getD i 0 = if i = x then v else l.getD i 0 := by
  split
  · rename_i e
    rw [e, List.getD_eq_getElem?_getD, List.getElem?_set_self h]
    rfl
  · rename_i e
    rw [List.getD_eq_getElem?_getD, List.getElem?_set_ne (fun e2 => e e2.symm), ← List.getD_eq_getElem?_getD]
/-- Symbols below 40. -/
def Sb (ss : List Int) : Prop := ∀ j, j < ss.length → 0 ≤ ss.getD j 0 ∧ ss.getD j 0 < 40
theorem ctr_get {ss : List Int} (h : Sb ss) {j : Nat} (hj : j < ss.length) (i : Nat) : (ctr ss (j + 1)).getD i 0 = if i = (ss.getD j 0).toNat then (ctr ss j).getD i 0 + 1 else (ctr ss j).getD i 0 := by
  have := h j hj
  show ((ctr ss j).set _ _).getD i 0 = _
  rw [set_getD _ _ _ _ (by rw [ctr_len]; omega)]
  split
  · rename_i e; rw [e]
  · rfl
theorem ctr_bd {ss : List Int} (h : Sb ss) : ∀ j, j ≤ ss.length → ∀ i, 0 ≤ (ctr ss j).getD i 0 ∧ (ctr ss j).getD i 0 ≤ (j : Int)
  | 0, _, i => by
    have : (ctr ss 0).getD i 0 = 0 := rep_get 40 i
    omega
  | j + 1, hj, i => by
    have := ctr_bd h j (by omega) i
    rw [ctr_get h (by omega)]
    split <;> omega
theorem ctr_pos {ss : List Int} (h : Sb ss) : ∀ j, j ≤ ss.length → ∀ q, q < j → 0 < (ctr ss j).getD (ss.getD q 0).toNat 0
  | 0, _, q, hq => by omega
  | j + 1, hj, q, hq => by
    rw [ctr_get h (by omega)]
    have h1 := ctr_bd h j (by omega) (ss.getD q 0).toNat
    split
    · omega
    · rename_i e
      exact ctr_pos h j (by omega) q (by
        rcases Nat.lt_or_ge q j with h2 | h2
        · exact h2
        · have : q = j := by omega
          subst this
          exact absurd rfl e)
theorem ctot_set (Y zs : List Int) (x : Nat) (hx : x < zs.length) (h0 : 0 ≤ zs.getD x 0) : ∀ n, ctot Y (zs.set x (zs.getD x 0 + 1)) n = ctot Y zs n + if x < n then (Y.getD x 0).toNat else 0
  | 0 => by simp [ctot]
  | n + 1 => by
    simp only [ctot]
    rw [ctot_set Y zs x hx h0 n, set_getD _ _ _ _ hx]
    by_cases e : n = x
    · subst e
      rw [if_pos rfl, if_neg (by omega), if_pos (by omega)]
      have : (zs.getD n 0 + 1).toNat = (zs.getD n 0).toNat + 1 := by omega
      rw [this, Nat.mul_add]
      omega
    · rw [if_neg e]
      by_cases e2 : x < n
      · rw [if_pos e2, if_pos (by omega)]; omega
      · rw [if_neg e2, if_neg (by omega)]; omega
/-- What the counts' codes take in all is what the symbols' codes take. -/
theorem ctr_cost {ss : List Int} (h : Sb ss) (Y : List Int) : ∀ j, j ≤ ss.length → ctot Y (ctr ss j) 40 = lgn Y ss j
  | 0, _ => by
    have : ∀ n, ctot Y (ctr ss 0) n = 0 := by
      intro n
      induction n with
      | zero => rfl
      | succ n ih =>
        simp only [ctot]
        rw [ih]
        have : (ctr ss 0).getD n 0 = 0 := rep_get 40 n
        rw [this]
        simp
    exact this 40
  | j + 1, hj => by
    have h1 := h j (by omega)
    have h2 := ctr_bd h j (by omega) (ss.getD j 0).toNat
    show ctot Y ((ctr ss j).set _ _) 40 = lgn Y ss j + sln Y ss j
    rw [ctot_set Y _ _ (by rw [ctr_len]; omega) h2.1, if_pos (by omega), ctr_cost h Y j (by omega)]
    rfl
theorem ctr_ct {ss : List Int} (h : Sb ss) (hl : ss.length ≤ 1000) {j : Nat} (hj : j ≤ ss.length) : Ct (ctr ss j) := by
  intro z hz
  obtain ⟨i, hi, rfl⟩ := List.mem_iff_getElem.1 hz
  have := ctr_bd h j hj i
  rw [List.getD_eq_getElem?_getD, List.getElem?_eq_getElem hi] at this
  simp only [Option.getD_some] at this
  omega
/-- Good lengths are such as a code is made of. -/
theorem good_may {zs Y : List Int} {m : Nat} (hm : m ≤ 14) (hl : zs.length ≤ 320) (hz : Ct zs) (g : Good zs m Y) : Wi 15 Y ∧ wgt Y ≤ 32768 ∧ may Y = 0 := by
  have hw : Wi 15 Y := by
    intro z hzm
    obtain ⟨i, h1, rfl⟩ := List.mem_iff_getElem.1 hzm
    have h3 := g.fit i (by rw [← g.len]; exact h1)
    rw [List.getD_eq_getElem?_getD, List.getElem?_eq_getElem h1] at h3
    simp only [Option.getD_some] at h3
    omega
  have hwg : wgt Y ≤ 32768 := by
    rcases (show (Pm.pos zs).length = 0 ∨ (Pm.pos zs).length = 1 ∨ 2 ≤ (Pm.pos zs).length by omega) with h | h | h
    · have e := List.length_eq_zero_iff.1 h
      have h0 : ∀ i, i ∉ Pm.pos zs → Y.getD i 0 = 0 := fun i hi => by
        by_cases hil : i < zs.length
        · exact (g.fit i hil).2.2.2 ((pos_ct hz hil).1 hi)
        · rw [List.getD_eq_getElem?_getD, List.getElem?_eq_none (by rw [g.len]; omega)]
          rfl
      rw [wgt_pos g.len h0 (fun s hs => by rw [e] at hs; simp at hs), e]
      simp
    · rw [g.one h]; omega
    · rw [g.two h]; omega
  refine ⟨hw, hwg, ?_⟩
  have hb : bad Y = 0 := by
    unfold bad
    rw [if_pos hw, if_neg (by rw [g.len]; omega)]
  unfold may
  rw [if_pos hb, if_neg (by omega)]
theorem good_has {ss Y : List Int} {m : Nat} (h : Sb ss) (hl : ss.length ≤ 1000) (g : Good (ctr ss ss.length) m Y) : ∀ j, j < ss.length → hasb Y (ss.getD j 0) = true := by
  intro j hj
  have h1 := h j hj
  have h2 := ctr_pos h ss.length (Nat.le_refl _) j hj
  have h3 := g.fit (ss.getD j 0).toNat (by rw [ctr_len]; omega)
  have h4 := g.len
  rw [ctr_len] at h4
  unfold hasb
  simp only [Bool.and_eq_true, decide_eq_true_eq]
  refine ⟨h1.1, by omega, ?_⟩
  have : Y.getD (ss.getD j 0).toNat 0 ≠ 0 := fun e => by have := h3.2.2.1 e; omega
  omega
theorem few_enough (ss : List Int) (j : Nat) {m : Nat} (hm : 5 ≤ m) : (lv (ctr ss j) (ctr ss j).length).length ≤ 2 ^ (m + 1) := by
  have h1 := lv_len (ctr ss j) (ctr ss j).length
  have h2 := ctr_len ss j
  have h3 : 2 ^ 6 ≤ 2 ^ (m + 1) := Nat.pow_le_pow_right (by decide) (by omega)
  omega
end Go.Proofs.Ythpocbpleffdpaa

namespace Go.Proofs.Ythpocbpleffdpaa
open Go.RowKit
set_option linter.unusedVariables false
set_option linter.unusedSimpArgs false
set_option maxRecDepth 100000

/-- What the law's first loop holds. -/
structure Fr (w wr : World) (base Cb : Nat) (sv : Value) (ss : List Int) (j : Nat) : Prop where
  own : OwnI .i64 3 wr base sv (ss.take j)
  row : Rw .u32 38 wr Cb (ctr ss j)
  kp : Kp (fun _ => False) w wr
  big : w.heap.size ≤ Cb ∧ Cb < base ∧ base ≤ wr.heap.size
theorem below_kp {B : Nat} {w w' : World} (b : Below B w w') : Kp (fun i => B ≤ i) w w' := ⟨b.os, b.tape, b.output, b.size, fun i _ hn => b.block i (by omega)⟩
theorem Fr.mid {w wr w2 : World} {base Cb : Nat} {sv : Value} {ss : List Int} {j : Nat} {o : Obj} (h : Fr w wr base Cb sv ss j) (b2 : Below base (wr.alloc o) w2) : Kp (fun _ => False) w w2 ∧ Rw .u32 38 w2 Cb (ctr ss j) := by
  have hb := h.big
  refine ⟨(h.kp.alloc o).trans (below_kp b2) (fun i hi e => by omega), (h.row.alloc o).kp (below_kp b2) (fun e => by omega)⟩
theorem Fr.next {w wr w2 : World} {base Cb : Nat} {sv v2 : Value} {ss : List Int} {j : Nat} {o : Obj} (h : Fr w wr base Cb sv ss j) (hj : j < ss.length) (b2 : Below base (wr.alloc o) w2) (o2 : OwnI .i64 3 w2 base v2 (ss.take j ++ [ss.getD j 0])) :
    Fr w (w2.setCell ⟨Cb, (ss.getD j 0).toNat, none⟩ (.int .u32 ((ctr ss j).getD (ss.getD j 0).toNat 0 + 1))) base Cb v2 ss (j + 1) := by
  obtain ⟨k2, r2⟩ := h.mid b2
  have hb := h.big
  have kc : Kp (fun k => k = Cb) w2 (w2.setCell ⟨Cb, (ss.getD j 0).toNat, none⟩ (.int .u32 ((ctr ss j).getD (ss.getD j 0).toNat 0 + 1))) := kp_setCell w2 Cb _ _ (fun k => k = Cb) rfl
  have e : ss.take (j + 1) = ss.take j ++ [ss.getD j 0] := by
    rw [List.take_add_one, List.getElem?_eq_getElem hj, List.getD_eq_getElem?_getD, List.getElem?_eq_getElem hj]
    rfl
  refine ⟨?_, r2.set _ _, k2.trans kc (fun i hi e => by omega), ⟨hb.1, hb.2.1, ?_⟩⟩
  · rw [e]
    exact o2.kp kc (fun b eb => by have := (o2.lt b eb).1; omega)
  · have h1 := b2.size
    have h2 := kc.size
    rw [World.size_alloc] at h1
    omega
/-- Are the first i of them at most m + 1? -/
def shp (P : List Int) (m : Nat) : Nat → Bool
  | 0 => true
  | i + 1 => shp P m i && decide (P.getD i 0 ≤ ((m + 1 : Nat) : Int))
theorem shp_all {P : List Int} {m : Nat} : ∀ n, shp P m n = true → ∀ i, i < n → P.getD i 0 ≤ ((m + 1 : Nat) : Int)
  | 0, _, i, hi => by omega
  | n + 1, h, i, hi => by
    simp only [shp, Bool.and_eq_true, decide_eq_true_eq] at h
    by_cases e : i = n
    · subst e; exact h.2
    · exact shp_all n h.1 i (by omega)
/-- What there is behind the reckonings. -/
structure Mi (w X : World) (Cb G P m : Nat) (sv : Value) (ss Y : List Int) : Prop where
  rowC : Rw .u32 38 X Cb (ctr ss ss.length)
  rowY : Rw .i64 3 X G Y
  rowP : Rw .i64 3 X P (hzl (ctr ss ss.length))
  own : ∃ so oc, sv = .slice so ss.length oc ∧ Src .i64 X so ss
  kp : Kp (fun _ => False) w X
  best : Best (ctr ss ss.length) m Y
  sb : Sb ss
  few : ss.length ≤ 500 ∧ m ≤ 14
theorem Mi.ok {w X X2 : World} {Cb G P m : Nat} {sv : Value} {ss Y : List Int} (h : Mi w X Cb G P m sv ss Y) (k : Kp (fun _ => False) X X2) : Mi w X2 Cb G P m sv ss Y := by
  obtain ⟨so, oc, e, hs⟩ := h.own
  exact ⟨h.rowC.kp k (fun x => x), h.rowY.kp k (fun x => x), h.rowP.kp k (fun x => x), ⟨so, oc, e, hs.kp k (fun _ _ _ x => x)⟩, h.kp.trans k (fun _ _ x => x), h.best, h.sb, h.few⟩
theorem Mi.ylen {w X : World} {Cb G P m : Nat} {sv : Value} {ss Y : List Int} (h : Mi w X Cb G P m sv ss Y) : Y.length = 40 := by rw [h.best.good.len, ctr_len]
theorem Mi.ct {w X : World} {Cb G P m : Nat} {sv : Value} {ss Y : List Int} (h : Mi w X Cb G P m sv ss Y) : Ct (ctr ss ss.length) := ctr_ct h.sb (by have := h.few.1; omega) (Nat.le_refl _)
theorem Fr.lengths {w wr : World} {base Cb : Nat} {sv : Value} {ss : List Int} (h : Fr w wr base Cb sv ss ss.length) (hb : Sb ss) (hl : ss.length ≤ 500) {m : Nat} (hm : m ≤ 14) (hm5 : 5 ≤ m) :
    Calls Try.prog 18 #[.int .i64 ((m + 1 : Nat) : Int), .slice (some ⟨Cb, 0, none⟩) 40 40] wr fun e w' => ∃ G Y, e = .returned (.tuple #[.slice (some ⟨G, 0, none⟩) 40 40, .int .i64 0]) ∧ Calls Try.prog 23 #[.slice (some ⟨Cb, 0, none⟩) 40 40] w' fun e w'' => ∃ P, e = .returned (.tuple #[.slice (some ⟨P, 0, none⟩) 40 40, .int .i64 0]) ∧ Mi w w'' Cb G P m sv ss Y := by
  have hl40 := ctr_len ss ss.length
  have hct := ctr_ct hb (by omega) (Nat.le_refl ss.length)
  have h1 := lengths_best wr m hm (some ⟨Cb, 0, none⟩) 40 (ctr ss ss.length) (by omega) hct h.row.src (few_enough ss _ hm5)
  rw [hl40] at h1
  refine h1.mono ?_
  rintro e w2 ⟨G, Y, hG, rfl, rY, k2, hbest⟩
  refine ⟨G, Y, rfl, ?_⟩
  have h2 := plain_ok w2 (some ⟨Cb, 0, none⟩) 40 (ctr ss ss.length) (by omega) hct (h.row.kp k2 (fun x => x)).src
  rw [hl40] at h2
  refine h2.mono ?_
  rintro e w3 ⟨rfl, rP, k3⟩
  obtain ⟨so, oc, e, hs⟩ := h.own.str
  rw [List.take_length] at hs e
  exact ⟨_, rfl, ((h.row.kp k2 (fun x => x)).kp k3 (fun x => x)), rY.kp k3 (fun x => x), rP, ⟨so, oc, e, (hs.kp k2 (fun _ _ _ x => x)).kp k3 (fun _ _ _ x => x)⟩, (h.kp.trans k2 (fun _ _ x => x)).trans k3 (fun _ _ x => x), hbest, hb, ⟨hl, hm⟩⟩
theorem Mi.wiP {w X : World} {Cb G P m : Nat} {sv : Value} {ss Y : List Int} (h : Mi w X Cb G P m sv ss Y) : Wi 320 (hzl (ctr ss ss.length)) := hzl_wi (by rw [ctr_len]; decide) h.ct
theorem Mi.may {w X : World} {Cb G P m : Nat} {sv : Value} {ss Y : List Int} (h : Mi w X Cb G P m sv ss Y) : Wi 15 Y ∧ wgt Y ≤ 32768 ∧ Go.Proofs.Ythpocbpleffdpaa.may Y = 0 := good_may h.few.2 (by rw [ctr_len]; decide) h.ct h.best.good
theorem Mi.costY {w X U : World} {Cb G P m : Nat} {sv : Value} {ss Y : List Int} (h : Mi w X Cb G P m sv ss Y) (k : Kp (fun _ => False) X U) : Calls Try.prog 25 #[.slice (some ⟨G, 0, none⟩) 40 40, .slice (some ⟨Cb, 0, none⟩) 40 40] U fun e w' => e = .returned (.tuple #[.int .u64 (ctot Y (ctr ss ss.length) 40 : Nat), .int .i64 0]) ∧ Kp (fun _ => False) X w' :=
  (hcost_ok U _ _ 40 40 40 Y (ctr ss ss.length) (by decide) h.ylen (ctr_len _ _) (fun z hz => by have := h.may.1 z hz; omega) h.ct (h.rowY.kp k (fun x => x)).src (h.rowC.kp k (fun x => x)).src).mono (fun e w' x => ⟨x.1, k.trans x.2 (fun _ _ x => x)⟩)
theorem Mi.costP {w X U : World} {Cb G P m : Nat} {sv : Value} {ss Y : List Int} (h : Mi w X Cb G P m sv ss Y) (k : Kp (fun _ => False) X U) : Calls Try.prog 25 #[.slice (some ⟨P, 0, none⟩) 40 40, .slice (some ⟨Cb, 0, none⟩) 40 40] U fun e w' => e = .returned (.tuple #[.int .u64 (ctot (hzl (ctr ss ss.length)) (ctr ss ss.length) 40 : Nat), .int .i64 0]) ∧ Kp (fun _ => False) X w' :=
  (hcost_ok U _ _ 40 40 40 _ (ctr ss ss.length) (by decide) (by rw [hzl_len, ctr_len]) (ctr_len _ _) h.wiP h.ct (h.rowP.kp k (fun x => x)).src (h.rowC.kp k (fun x => x)).src).mono (fun e w' x => ⟨x.1, k.trans x.2 (fun _ _ x => x)⟩)
theorem Mi.cmp {w X : World} {Cb G P m : Nat} {sv : Value} {ss Y : List Int} (h : Mi w X Cb G P m sv ss Y) : ctot (hzl (ctr ss ss.length)) (ctr ss ss.length) 40 ≤ ctot Y (ctr ss ss.length) 40 ∧ (shp (hzl (ctr ss ss.length)) m 40 = true → Y = hzl (ctr ss ss.length)) ∧ ctot Y (ctr ss ss.length) 40 = lgn Y ss ss.length := by
  have h1 := h.best.ge
  rw [ctr_len] at h1
  refine ⟨h1, fun hs => h.best.short (fun z hz => ?_), ctr_cost h.sb Y _ (Nat.le_refl _)⟩
  have h2 := h.wiP z hz
  obtain ⟨i, hi, rfl⟩ := List.mem_iff_getElem.1 hz
  rw [hzl_len, ctr_len] at hi
  have h3 := shp_all 40 hs i hi
  rw [List.getD_eq_getElem?_getD, List.getElem?_eq_getElem (by rw [hzl_len, ctr_len]; exact hi)] at h3
  simp only [Option.getD_some] at h3
  omega
end Go.Proofs.Ythpocbpleffdpaa

namespace Go.Proofs.Ythpocbpleffdpaa
open Go.RowKit
set_option linter.unusedVariables false

theorem Mi.new {w X : World} {Cb G P m : Nat} {sv : Value} {ss Y : List Int} (h : Mi w X Cb G P m sv ss Y) :
    Calls Try.prog 26 #[.slice (some ⟨G, 0, none⟩) 40 40] X fun e w' => ∃ g la ca sa lc cc sc S, e = .returned (.tuple #[.pointer (some ⟨g, 0, none⟩), .int .i64 0]) ∧ Cd w' g la ca sa lc cc sc Y S ∧ (∀ i, Cdf g la ca sa i → X.heap.size ≤ i ∧ i < w'.heap.size) ∧ Kp (fun _ => False) X w' := by
  obtain ⟨h1, h2, h3⟩ := h.may
  have := new_ok ⟨G, 0, none⟩ 40 Y X h.rowY.src h3 h1 (by rw [h.ylen]; decide)
  rw [h.ylen] at this
  refine this.mono ?_
  rintro e w' ⟨g, la, ca, sa, lc, cc, sc, S, rfl, a, b, _, d⟩
  exact ⟨g, la, ca, sa, lc, cc, sc, S, rfl, a, b, Kp.of_below d⟩
theorem Mi.put {w X w1 w2 : World} {Cb G P m g gw : Nat} {sv : Value} {ss Y S : List Int} {la ca sa : Option Addr} {lc cc sc : Nat} (h : Mi w X Cb G P m sv ss Y) (hcd : Cd w1 g la ca sa lc cc sc Y S) (k : Kp (fun _ => False) X w1) (hW : Bz.WrO w1 w2 gw 0 0) :
    ∃ so oc, sv = .slice so ss.length oc ∧ Calls Try.prog 33 #[.pointer (some ⟨g, 0, none⟩), .pointer (some ⟨gw, 0, none⟩), .slice so ss.length oc] w2 fun e w' => e = .returned (.tuple #[.int .i64 (lgn Y ss ss.length : Int), .int .i64 0]) ∧ Bz.WrO w1 w' gw (lgn Y ss ss.length) (pvn Y ss ss.length) := by
  obtain ⟨so, oc, e, hs⟩ := h.own
  have hg := good_has h.sb (by have := h.few.1; omega) h.best.good
  refine ⟨so, oc, e, (put_any w1 w2 g gw 0 0 la ca sa so lc cc sc oc Y S ss hcd h.may.2.1 (hs.kp k (fun _ _ _ x => x)) (by have := h.few.1; omega) hW (by omega)).mono ?_⟩
  rintro e w' (⟨⟨s, hm, hf⟩, _⟩ | ⟨_, rfl, hw⟩)
  · exfalso
    obtain ⟨j, hj, rfl⟩ := List.mem_iff_getElem.1 hm
    have := hg j hj
    rw [List.getD_eq_getElem?_getD, List.getElem?_eq_getElem hj] at this
    simp only [Option.getD_some] at this
    rw [this] at hf
    cases hf
  · refine ⟨rfl, ?_⟩
    simpa using hw
end Go.Proofs.Ythpocbpleffdpaa

namespace Go.Proofs.Ythpocbpleffdpaa
open Go.RowKit
set_option linter.unusedVariables false

/-- The bytes that hold n symbols' codes. -/
def pb (Y ss : List Int) : List Int := Bz.dig 256 (pvn Y ss ss.length) ((lgn Y ss ss.length + 7) / 8)
theorem pb_len (Y ss : List Int) : (pb Y ss).length = (lgn Y ss ss.length + 7) / 8 := Bz.dig_length _ _ _
theorem pb_und (Y ss : List Int) : Bz.und 256 (pb Y ss) = pvn Y ss ss.length := by
  unfold pb
  rw [Bz.und_dig, Bz.pow_256]
  refine Nat.mod_eq_of_lt (Nat.lt_of_lt_of_le (pvn_lt Y ss ss.length) (Nat.pow_le_pow_right (by decide) (by omega)))
theorem Mi.take {w X w1 : World} {Cb G P m g gr cap : Nat} {sv : Value} {ss Y S : List Int} {la ca sa ao : Option Addr} {lc cc sc : Nat} (h : Mi w X Cb G P m sv ss Y) (hcd : Cd w1 g la ca sa lc cc sc Y S) {j : Nat} (hj : j < ss.length) (hr : Bz.Rd w1 gr ao cap (pb Y ss) (lgn Y ss j)) (hne : ∀ i, Cdf g la ca sa i → i ≠ gr) :
    Calls Try.prog 41 #[.pointer (some ⟨g, 0, none⟩), .pointer (some ⟨gr, 0, none⟩)] w1 fun e w' => e = .returned (.tuple #[.int .i64 (ss.getD j 0), .int .i64 0]) ∧ Bz.Rd w' gr ao cap (pb Y ss) (lgn Y ss (j + 1)) ∧ Kp (fun i => i = gr) w1 w' := by
  refine (take_any w1 g gr la ca sa ao lc cc sc cap Y S (pb Y ss) (lgn Y ss j) hcd hr hne).mono ?_
  rintro e w' ⟨s, er, n, rfl, hd, hp, hr2, k⟩
  rw [pb_und] at hd
  obtain ⟨hw, hwt, _⟩ := h.may
  have hh := good_has h.sb (by have := h.few.1; omega) h.best.good j hj
  have hmono := lgn_mono Y ss (show j + 1 ≤ ss.length by omega)
  have hstep : lgn Y ss (j + 1) = lgn Y ss j + sln Y ss j := rfl
  have hlen := pb_len Y ss
  have h15 := (dec_put (zs := Y) (ss := ss) hw hwt (there := 15 + sln Y ss j) hj hh (by omega)).2
  have hd2 := (dec_put (zs := Y) (ss := ss) hw hwt (there := min 15 (8 * (pb Y ss).length - lgn Y ss j)) hj hh (by omega)).1
  obtain ⟨rfl, hn, rfl⟩ := Dec.uniq hw (Nat.min_le_left _ _) hd hd2
  have hn2 : n = sln Y ss j := by omega
  subst hn2
  exact ⟨rfl, hr2, k⟩
end Go.Proofs.Ythpocbpleffdpaa

namespace Go.Proofs.Ythpocbpleffdpaa
open Go.RowKit
set_option linter.unusedVariables false

theorem wro_kp2 {W0 U : World} {g N v : Nat} (h : Bz.WrO W0 U g N v) : Kp (fun _ => False) W0 U := by
  obtain ⟨sl, _, k, _, _⟩ := h
  exact kpB k
theorem Mi.lgn {w X : World} {Cb G P m : Nat} {sv : Value} {ss Y : List Int} (h : Mi w X Cb G P m sv ss Y) : Go.Proofs.Ythpocbpleffdpaa.lgn Y ss ss.length ≤ 7500 := by
  obtain ⟨hw, hwt, _⟩ := h.may
  have hg := good_has h.sb (by have := h.few.1; omega) h.best.good
  have key : ∀ j, j ≤ ss.length → Go.Proofs.Ythpocbpleffdpaa.lgn Y ss j ≤ 15 * j := by
    intro j
    induction j with
    | zero => intro _; exact Nat.le_refl _
    | succ j ih =>
      intro hj
      have h1 := ih (by omega)
      have h2 := (dec_put (zs := Y) (ss := ss) hw hwt (there := 15 + sln Y ss j) (n := ss.length) (j := j) (by omega) (hg j (by omega)) (by omega)).2.2
      show Go.Proofs.Ythpocbpleffdpaa.lgn Y ss j + sln Y ss j ≤ _
      omega
  have := key _ (Nat.le_refl _)
  have := h.few.1
  omega
theorem Mi.reader {w3 : World} {GB av : Nat} {Y ss : List Int} (hav : av = Go.Proofs.Ythpocbpleffdpaa.lgn Y ss ss.length) (rB : Bz.Rw 5 w3 GB (Bz.dig 256 (pvn Y ss ss.length) ((av + 7) / 8))) (hs : av ≤ 7500 := by omega) :
    Calls Try.prog 40 #[.slice (some ⟨GB, 0, none⟩) ((av + 7) / 8) ((av + 7) / 8)] w3 fun e w' => ∃ g G, e = .returned (.pointer (some ⟨g, 0, none⟩)) ∧ w3.heap.size ≤ g ∧ Bz.Rd w' g (some ⟨G, 0, none⟩) ((av + 7) / 8) (pb Y ss) 0 ∧ Bz.Ok' w3 w' := by
  have e : pb Y ss = Bz.dig 256 (pvn Y ss ss.length) ((av + 7) / 8) := by unfold pb; rw [hav]
  have hl : (pb Y ss).length = (av + 7) / 8 := by rw [e, Bz.dig_length]
  have := Bz.newr_any (some ⟨GB, 0, none⟩) ((av + 7) / 8) (pb Y ss) w3 (by rw [hl]; omega) (by rw [e]; exact Bz.dig_byt _ _) (by rw [e]; exact rB.src)
  rw [hl] at this
  refine this.mono ?_
  rintro e w' ⟨g, G, h1, h2, h3, h4, h5⟩
  exact ⟨g, G, h1, h2, h4, h5⟩
theorem Mi.wlen {w1 w5 : World} {gw av v : Nat} (hav : av ≤ 7500) (o : Bz.WrO w1 w5 gw av v) :
    Calls Try.prog 35 #[.pointer (some ⟨gw, 0, none⟩)] w5 fun e w' => e = .returned (.int .i64 av) ∧ Bz.Ok' w5 w' := by
  obtain ⟨sl, hw, _⟩ := o
  exact Bz.len_any gw sl av v w5 (by omega) hw
end Go.Proofs.Ythpocbpleffdpaa

namespace Go.Proofs.Ythpocbpleffdpaa
open Go.RowKit
set_option linter.unusedVariables false
set_option linter.unusedSimpArgs false
set_option maxRecDepth 100000
set_option maxHeartbeats 4000000 in
theorem law7_long (w : World) (mz : Int) (ao : Option Addr) (cap n : Nat) (hl : 500 < n) (hn : n ≤ 4000000000000000000) :
    Calls Try.prog 7 #[.slice ao n cap, .int .i64 mz] w fun e w' => e = .returned (.bool true) ∧ Kp (fun _ => False) w w' := by
  have hd : decide ((500 : Int) < (n : Int)) = true := decide_eq_true (by omega)
  have hd2 : decide (500 < n) = true := decide_eq_true hl
  go_enter Try.func7, Try.ntmps7
  go_wp2_with (first | (go_at_call 14; refine (works_any _).mono ?_; rintro e w9 ⟨rfl, b9⟩))
  go_ret
  exact ⟨rfl, Kp.of_below b9⟩
set_option maxHeartbeats 4000000 in
theorem law7_low (w : World) (mz : Int) (hm : mz < 6) (ao : Option Addr) (cap n : Nat) (hl : n ≤ 500) :
    Calls Try.prog 7 #[.slice ao n cap, .int .i64 mz] w fun e w' => e = .returned (.bool true) ∧ Kp (fun _ => False) w w' := by
  have hd : decide ((500 : Int) < (n : Int)) = false := decide_eq_false (by omega)
  have hd2 : decide (500 < n) = false := decide_eq_false (by omega)
  have hd3 : decide (mz < 6) = true := decide_eq_true hm
  go_enter Try.func7, Try.ntmps7
  go_wp2_with (first | (go_at_call 14; refine (works_any _).mono ?_; rintro e w9 ⟨rfl, b9⟩))
  go_ret
  exact ⟨rfl, Kp.of_below b9⟩
set_option maxHeartbeats 4000000 in
theorem law7_high (w : World) (mz : Int) (hm : 15 < mz) (ao : Option Addr) (cap n : Nat) (hl : n ≤ 500) :
    Calls Try.prog 7 #[.slice ao n cap, .int .i64 mz] w fun e w' => e = .returned (.bool true) ∧ Kp (fun _ => False) w w' := by
  have hd : decide ((500 : Int) < (n : Int)) = false := decide_eq_false (by omega)
  have hd2 : decide (500 < n) = false := decide_eq_false (by omega)
  have hd3 : decide (mz < 6) = false := decide_eq_false (by omega)
  have hd4 : decide (15 < mz) = true := decide_eq_true hm
  go_enter Try.func7, Try.ntmps7
  go_wp2_with (first | (go_at_call 14; refine (works_any _).mono ?_; rintro e w9 ⟨rfl, b9⟩))
  go_ret
  exact ⟨rfl, Kp.of_below b9⟩
end Go.Proofs.Ythpocbpleffdpaa
