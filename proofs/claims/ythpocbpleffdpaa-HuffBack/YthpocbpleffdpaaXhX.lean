/- The lengths that the coins tell: all that is wanted of them. -/
import Derived.Test.YthpocbpleffdpaaMb
import Derived.Test.YthpocbpleffdpaaMe
import Derived.Test.YthpocbpleffdpaaXiX
namespace Go.Proofs.Ythpocbpleffdpaa.Pm
set_option linter.unusedVariables false
/-- Into a list that rises by cost, behind all that cost no more. -/
def insk {α : Type} (c : α → Nat) (y : α) : List α → List α
  | [] => [y]
  | a :: t => if c a ≤ c y then a :: insk c y t else y :: a :: t
theorem insk_perm {α : Type} (c : α → Nat) (y : α) : ∀ l, (insk c y l).Perm (y :: l)
  | [] => List.Perm.refl _
  | a :: t => by
    unfold insk
    split
    · exact ((insk_perm c y t).cons a).trans (List.Perm.swap y a t)
    · exact List.Perm.refl _
abbrev Srk {α : Type} (c : α → Nat) (l : List α) : Prop := l.Pairwise (fun a b => c a ≤ c b)
theorem insk_split {α : Type} (c : α → Nat) (y : α) : ∀ l, Srk c l → ∃ q, q ≤ l.length ∧ insk c y l = l.take q ++ y :: l.drop q ∧ (∀ x ∈ l.take q, c x ≤ c y) ∧ ∀ x ∈ l.drop q, c y < c x
  | [], _ => ⟨0, Nat.le_refl _, rfl, fun x hx => by simp at hx, fun x hx => by simp at hx⟩
  | a :: t, h => by
    have h1 := List.pairwise_cons.1 h
    unfold insk
    split
    · rename_i hay
      obtain ⟨q, g1, g2, g3, g4⟩ := insk_split c y t h1.2
      refine ⟨q + 1, by simpa using g1, by rw [g2]; rfl, fun x hx => ?_, fun x hx => g4 x (by simpa using hx)⟩
      rw [List.take_succ_cons] at hx
      rcases List.mem_cons.1 hx with rfl | hx
      · exact hay
      · exact g3 x hx
    · rename_i hay
      refine ⟨0, Nat.zero_le _, rfl, fun x hx => by simp at hx, fun x hx => ?_⟩
      simp only [List.drop_zero] at hx
      rcases List.mem_cons.1 hx with rfl | hx
      · omega
      · have := h1.1 x hx; omega
theorem insk_srk {α : Type} {c : α → Nat} {y : α} : ∀ {l : List α}, Srk c l → Srk c (insk c y l)
  | [], _ => List.pairwise_singleton _ _
  | a :: t, h => by
    unfold insk
    have h1 := List.pairwise_cons.1 h
    split
    · rename_i hax
      refine List.pairwise_cons.2 ⟨fun z hz => ?_, insk_srk h1.2⟩
      rcases List.mem_cons.1 ((insk_perm c y t).mem_iff.1 hz) with rfl | hz
      · exact hax
      · exact h1.1 z hz
    · rename_i hax
      refine List.pairwise_cons.2 ⟨fun z hz => ?_, h⟩
      rcases List.mem_cons.1 hz with rfl | hz
      · omega
      · have := h1.1 z hz; omega
def mgk {α : Type} (c : α → Nat) (xs ys : List α) : List α := ys.foldl (fun l y => insk c y l) xs
theorem mgk_perm {α : Type} (c : α → Nat) : ∀ (ys xs : List α), (mgk c xs ys).Perm (xs ++ ys)
  | [], xs => by simp [mgk]
  | y :: t, xs => by
    unfold mgk
    simp only [List.foldl_cons]
    refine (mgk_perm c t (insk c y xs)).trans ?_
    exact ((insk_perm c y xs).append_right t).trans List.perm_middle.symm
theorem mgk_srk {α : Type} {c : α → Nat} : ∀ {ys xs : List α}, Srk c xs → Srk c (mgk c xs ys)
  | [], _, h => h
  | y :: t, xs, h => mgk_srk (ys := t) (insk_srk h)
/-- A beginning of what was merged is a beginning of each. -/
def Pref {α : Type} (c : α → Nat) (l xs ys : List α) : Prop :=
  ∀ k, k ≤ l.length → ∃ e p, e + p = k ∧ e ≤ xs.length ∧ p ≤ ys.length ∧ (l.take k).Perm (xs.take e ++ ys.take p) ∧ (l.drop k).Perm (xs.drop e ++ ys.drop p) ∧ ∀ y ∈ ys.take p, ∀ x ∈ xs.drop e, c y < c x
theorem pref_nil {α : Type} (c : α → Nat) (xs : List α) : Pref c xs xs [] := fun k hk => ⟨k, 0, rfl, hk, Nat.le_refl _, by simp, by simp, fun y hy => by simp at hy⟩
theorem pref_snoc {α : Type} {c : α → Nat} {l xs ys : List α} (h : Pref c l xs ys) (hl : Srk c l) (y : α) (hy : ∀ z ∈ ys, c z ≤ c y) (hlp : l.Perm (xs ++ ys)) : Pref c (insk c y l) xs (ys ++ [y]) := by
  obtain ⟨q, q1, q2, q3, q4⟩ := insk_split c y l hl
  intro k hk
  have hkl : k ≤ l.length + 1 := by have := (insk_perm c y l).length_eq; simp at this; omega
  rw [q2]
  by_cases hkq : k ≤ q
  · obtain ⟨e, p, h1, h2, h3, h4, h5, h6⟩ := h k (by omega)
    have e1 : (l.take q ++ y :: l.drop q).take k = l.take k := by
      rw [List.take_append_of_le_length (by rw [List.length_take]; omega), List.take_take, Nat.min_eq_left hkq]
    have e2 : (l.take q ++ y :: l.drop q).drop k = (l.take q).drop k ++ y :: l.drop q := by
      rw [List.drop_append_of_le_length (by rw [List.length_take]; omega)]
    have e3 : l.drop k = (l.take q).drop k ++ l.drop q := by
      conv => lhs; rw [← List.take_append_drop q l]
      rw [List.drop_append_of_le_length (by rw [List.length_take]; omega)]
    refine ⟨e, p, h1, h2, by simp; omega, ?_, ?_, ?_⟩
    · rw [e1, List.take_append_of_le_length h3]; exact h4
    · rw [e2, List.drop_append_of_le_length h3]
      refine List.perm_middle.trans ?_
      rw [← e3]
      refine (h5.cons y).trans ?_
      rw [← List.append_assoc]
      exact List.perm_append_comm (l₁ := [y])
    · rw [List.take_append_of_le_length h3]; exact h6
  · obtain ⟨j, rfl⟩ : ∃ j, k = j + 1 := ⟨k - 1, by omega⟩
    obtain ⟨e, p, h1, h2, h3, h4, h5, h6⟩ := h j (by omega)
    have hqj : q ≤ j := by omega
    have e0 : (l.take q ++ y :: l.drop q).Perm (y :: l) := by
      refine List.perm_middle.trans ?_
      rw [List.take_append_drop]
    have e1 : (l.take q ++ y :: l.drop q).take (j + 1) = l.take q ++ y :: (l.drop q).take (j - q) := by
      rw [List.take_append, List.length_take, Nat.min_eq_left q1, List.take_of_length_le (by rw [List.length_take]; omega), show j + 1 - q = j - q + 1 by omega, List.take_succ_cons]
    have e2 : (l.take q ++ y :: l.drop q).drop (j + 1) = l.drop j := by
      rw [List.drop_append, List.length_take, Nat.min_eq_left q1, List.drop_of_length_le (by rw [List.length_take]; omega), show j + 1 - q = j - q + 1 by omega, List.drop_succ_cons, List.drop_drop, List.nil_append]
      congr 1
      omega
    have e3 : l.take q ++ (l.drop q).take (j - q) = l.take j := by
      rw [← List.take_add]
      congr 1
      omega
    have hgt : ∀ x ∈ l.drop j, c y < c x := fun x hx => by
      have : x ∈ l.drop q := by
        have e4 : l.drop j = (l.drop q).drop (j - q) := by rw [List.drop_drop]; congr 1; omega
        rw [e4] at hx
        exact List.mem_of_mem_drop hx
      exact q4 x this
    have hp : ys.drop p = [] := by
      rcases hd : ys.drop p with _ | ⟨z, r⟩
      · rfl
      · have hz : z ∈ ys.drop p := by rw [hd]; simp
        have h7 : z ∈ l.drop j := h5.mem_iff.2 (List.mem_append.2 (.inr hz))
        have h8 := hgt z h7
        have h9 := hy z (List.mem_of_mem_drop hz)
        omega
    have hpl : p = ys.length := by have := congrArg List.length hp; simp at this; omega
    subst hpl
    refine ⟨e, ys.length + 1, by omega, h2, by simp, ?_, ?_, ?_⟩
    · rw [e1, List.take_of_length_le (l := ys ++ [y]) (by simp)]
      refine List.perm_middle.trans ?_
      rw [e3]
      rw [List.take_of_length_le (l := ys) (Nat.le_refl _)] at h4
      refine (h4.cons y).trans ?_
      rw [← List.append_assoc]
      exact List.perm_append_comm (l₁ := [y])
    · rw [e2, List.drop_of_length_le (l := ys ++ [y]) (by simp)]
      rw [hp] at h5
      exact h5
    · intro z hz x hx
      have hx2 : c y < c x := hgt x (h5.mem_iff.2 (List.mem_append.2 (.inl hx)))
      rw [List.take_of_length_le (l := ys ++ [y]) (by simp)] at hz
      rcases List.mem_append.1 hz with hz | hz
      · have := hy z hz; omega
      · have : z = y := by simpa using hz
        subst this
        exact hx2
theorem pref_all {α : Type} {c : α → Nat} {xs : List α} (hx : Srk c xs) : ∀ (n : Nat) (ys : List α), ys.length = n → Srk c ys → Pref c (mgk c xs ys) xs ys
  | 0, ys, hn, _ => by
    have : ys = [] := List.length_eq_zero_iff.1 hn
    subst this
    exact pref_nil c xs
  | n + 1, ys, hn, hy => by
    have hne : ys ≠ [] := fun e => by rw [e] at hn; simp at hn
    have e : ys = ys.dropLast ++ [ys.getLast hne] := (List.dropLast_concat_getLast hne).symm
    have hy2 : Srk c (ys.dropLast ++ [ys.getLast hne]) := by rw [← e]; exact hy
    have h1 := List.pairwise_append.1 hy2
    have ih := pref_all hx n ys.dropLast (by rw [List.length_dropLast]; omega) h1.1
    have e2 : mgk c xs ys = insk c (ys.getLast hne) (mgk c xs ys.dropLast) := by
      conv => lhs; rw [e]
      unfold mgk
      rw [List.foldl_append]
      rfl
    rw [e2]
    conv => rhs; rw [e]
    exact pref_snoc ih (mgk_srk hx) _ (fun z hz => h1.2.2 z hz _ (by simp)) (mgk_perm c _ _)
/-- The rows, with what is a symbol's own coin. -/
def Ar (W : List Nat) : Nat → List (Nat × Bool)
  | 0 => W.map (fun x => (x, true))
  | t + 1 => mgk (·.1) (W.map (fun x => (x, true))) ((pr ((Ar W t).map (·.1))).map (fun x => (x, false)))
theorem insk_map (y : Nat) (b : Bool) : ∀ l : List (Nat × Bool), (insk (·.1) (y, b) l).map (·.1) = ins y (l.map (·.1))
  | [] => rfl
  | a :: t => by
    unfold insk ins
    simp only [List.map_cons]
    split
    · rw [List.map_cons, insk_map y b t]
    · rfl
theorem mgk_map (b : Bool) : ∀ (ys : List Nat) (l : List (Nat × Bool)), (mgk (·.1) l (ys.map (fun x => (x, b)))).map (·.1) = ys.foldl (fun l x => ins x l) (l.map (·.1))
  | [], l => rfl
  | y :: t, l => by
    simp only [mgk, List.map_cons, List.foldl_cons]
    have := mgk_map b t (insk (·.1) (y, b) l)
    unfold mgk at this
    rw [this, insk_map]
theorem tag_fst (W : List Nat) (b : Bool) : (W.map (fun x => (x, b))).map (·.1) = W := by rw [List.map_map]; simp [Function.comp_def]
theorem ar_row (W : List Nat) : ∀ t, (Ar W t).map (·.1) = row W t
  | 0 => tag_fst W true
  | t + 1 => by
    simp only [Ar, row]
    rw [mgk_map, ar_row W t, tag_fst]
theorem ar_len (W : List Nat) (t : Nat) : (Ar W t).length = (row W t).length := by rw [← ar_row, List.length_map]
theorem srk_tag {W : List Nat} (h : Srt W) (b : Bool) : Srk (·.1) (W.map (fun x => (x, b))) := List.pairwise_map.2 h
/-- How many of the first k are symbols' own. -/
def en (W : List Nat) (t k : Nat) : Nat := (((Ar W t).take k).filter (·.2)).length
theorem tag_cnt (b : Bool) (l : List Nat) : ((l.map (fun x => (x, b))).filter (·.2)).length = if b then l.length else 0 := by
  cases b with
  | true => rw [List.filter_eq_self.2 (fun x hx => by obtain ⟨y, _, rfl⟩ := List.mem_map.1 hx; rfl), List.length_map]; rfl
  | false => rw [List.filter_eq_nil_iff.2 (fun x hx => by obtain ⟨y, _, rfl⟩ := List.mem_map.1 hx; simp)]; rfl
/-- What the first k are. -/
theorem en_zero {W : List Nat} {k : Nat} (hk : k ≤ W.length) : en W 0 k = k := by
  unfold en Ar
  rw [← List.map_take, tag_cnt, List.length_take, Nat.min_eq_left hk]
  rfl
theorem en_succ {W : List Nat} (hW : Srt W) {t k : Nat} (hk : k ≤ (Ar W (t + 1)).length) : en W (t + 1) k ≤ W.length ∧ en W (t + 1) k ≤ k ∧ 2 * (k - en W (t + 1) k) ≤ (row W t).length ∧
    (∀ y ∈ (pr (row W t)).take (k - en W (t + 1) k), ∀ x ∈ W.drop (en W (t + 1) k), y < x) ∧ ((Ar W (t + 1)).take k).Perm ((W.take (en W (t + 1) k)).map (fun x => (x, true)) ++ ((pr (row W t)).take (k - en W (t + 1) k)).map (fun x => (x, false))) := by
  have hP := pref_all (srk_tag hW true) _ ((pr ((Ar W t).map (·.1))).map (fun x => (x, false))) rfl (by rw [ar_row]; exact srk_tag (pr_srt (row_srt hW t)) false)
  obtain ⟨e, p, h1, h2, h3, h4, h5, h6⟩ := hP k hk
  have he : en W (t + 1) k = e := by
    unfold en
    have := (h4.filter (·.2)).length_eq
    rw [show (Ar W (t + 1)) = mgk (·.1) (W.map (fun x => (x, true))) ((pr ((Ar W t).map (·.1))).map (fun x => (x, false))) from rfl, this, List.filter_append, List.length_append, ← List.map_take, ← List.map_take, tag_cnt, tag_cnt, List.length_take]
    rw [List.length_map] at h2
    simp
    omega
  rw [ar_row] at h3 h4 h6
  rw [List.length_map] at h2 h3
  rw [pr_len] at h3
  have hp : k - e = p := by omega
  rw [he, hp]
  refine ⟨h2, by omega, by omega, fun y hy x hx => ?_, ?_⟩
  · have := h6 (y, false) (by rw [← List.map_take]; exact List.mem_map.2 ⟨y, hy, rfl⟩) (x, true) (by rw [← List.map_drop]; exact List.mem_map.2 ⟨x, hx, rfl⟩)
    exact this
  · rw [List.map_take, List.map_take]
    show ((mgk (·.1) (W.map (fun x => (x, true))) ((pr ((Ar W t).map (·.1))).map (fun x => (x, false)))).take k).Perm _
    rw [ar_row]
    exact h4
end Go.Proofs.Ythpocbpleffdpaa.Pm

namespace Go.Proofs.Ythpocbpleffdpaa.Pm
set_option linter.unusedVariables false
theorem mem_pr : ∀ (l : List Nat) (p v : Nat), 2 * p ≤ l.length → (∀ x ∈ l, 0 < x) → v ∈ l.take (2 * p) → ∃ y ∈ (pr l).take p, v < y
  | l, 0, v, _, _, h => by simp at h
  | [], p + 1, v, h, _, _ => by simp at h
  | [a], p + 1, v, h, _, _ => by simp at h; omega
  | a :: b :: l, p + 1, v, hl, h0, h => by
    rw [show 2 * (p + 1) = 2 * p + 1 + 1 by omega, List.take_succ_cons, List.take_succ_cons] at h
    have ha := h0 a (by simp)
    have hb := h0 b (by simp)
    simp only [Pm.pr, List.take_succ_cons]
    rcases List.mem_cons.1 h with rfl | h
    · exact ⟨_, List.mem_cons_self .., by omega⟩
    · rcases List.mem_cons.1 h with rfl | h
      · exact ⟨_, List.mem_cons_self .., by omega⟩
      · obtain ⟨y, hy, hv⟩ := mem_pr l p v (by simp at hl; omega) (fun x hx => h0 x (by simp [hx])) h
        exact ⟨y, List.mem_cons_of_mem _ hy, hv⟩
theorem row_pos {W : List Nat} (h : ∀ x ∈ W, 0 < x) : ∀ t, ∀ x ∈ row W t, 0 < x
  | 0 => h
  | t + 1 => fun x hx => by
    rcases List.mem_append.1 ((row_perm W t).mem_iff.1 hx) with hx | hx
    · exact h x hx
    · have := pr_mem (m := 1) (fun y hy => row_pos h t y hy) x hx
      omega
theorem en_le {W : List Nat} (hW : Srt W) : ∀ {t k : Nat}, k ≤ (Ar W t).length → en W t k ≤ W.length ∧ en W t k ≤ k
  | 0, k, hk => by
    have : k ≤ W.length := by simpa [Ar] using hk
    rw [en_zero this]
    exact ⟨this, Nat.le_refl _⟩
  | t + 1, k, hk => ⟨(en_succ hW hk).1, (en_succ hW hk).2.1⟩
/-- Whose own coin is among the first ones of a row is known by its place. -/
theorem own_in {W : List Nat} (hW : Srt W) {t k e : Nat} (hk : k ≤ (Ar W t).length) (he : e < en W t k) (hel : e < W.length) : W[e] ∈ (row W t).take k := by
  match t, hk, he with
  | 0, hk, he =>
    have hk2 : k ≤ W.length := by simpa [Ar] using hk
    rw [en_zero hk2] at he
    exact List.mem_take_iff_getElem.2 ⟨e, by show _ < _; simp only [row]; omega, rfl⟩
  | t + 1, hk, he =>
    obtain ⟨h1, h2, h3, h4, h5⟩ := en_succ hW hk
    have h6 : (W[e], true) ∈ (Ar W (t + 1)).take k := by
      refine h5.mem_iff.2 (List.mem_append.2 (.inl (List.mem_map.2 ⟨W[e], ?_, rfl⟩)))
      exact List.mem_take_iff_getElem.2 ⟨e, by omega, rfl⟩
    rw [← ar_row, ← List.map_take]
    exact List.mem_map.2 ⟨_, h6, rfl⟩
theorem nested {W : List Nat} (hW : Srt W) (h0 : ∀ x ∈ W, 0 < x) {t k : Nat} (hk : k ≤ (Ar W (t + 1)).length) : en W t (2 * (k - en W (t + 1) k)) ≤ en W (t + 1) k := by
  obtain ⟨h1, h2, h3, h4, h5⟩ := en_succ hW hk
  have hl : 2 * (k - en W (t + 1) k) ≤ (Ar W t).length := by rw [ar_len]; exact h3
  by_cases hc : en W t (2 * (k - en W (t + 1) k)) ≤ en W (t + 1) k
  · exact hc
  · exfalso
    have hlt : en W (t + 1) k < en W t (2 * (k - en W (t + 1) k)) := by omega
    have hel : en W (t + 1) k < W.length := Nat.lt_of_lt_of_le hlt (en_le hW hl).1
    have hm := own_in hW hl hlt hel
    obtain ⟨y, hy, hv⟩ := mem_pr _ _ _ h3 (row_pos h0 t) hm
    have := h4 y hy W[en W (t + 1) k] (by
      rw [List.mem_drop_iff_getElem]
      exact ⟨0, by omega, by simp⟩)
    omega
/-- How often the r-th symbol is among the first k of a row. -/
def lev (W : List Nat) : Nat → Nat → Nat → Nat
  | 0, k, r => if r < k then 1 else 0
  | t + 1, k, r => (if r < en W (t + 1) k then 1 else 0) + lev W t (2 * (k - en W (t + 1) k)) r
theorem lev_succ (W : List Nat) (t k r : Nat) : lev W (t + 1) k r = (if r < en W (t + 1) k then 1 else 0) + lev W t (2 * (k - en W (t + 1) k)) r := rfl
theorem lev_le (W : List Nat) : ∀ t k r, lev W t k r ≤ t + 1
  | 0, k, r => by unfold lev; split <;> omega
  | t + 1, k, r => by
    have := lev_le W t (2 * (k - en W (t + 1) k)) r
    unfold lev
    split <;> omega
theorem lev_mono (W : List Nat) : ∀ t k r s, r ≤ s → lev W t k s ≤ lev W t k r
  | 0, k, r, s, h => by unfold lev; split <;> split <;> omega
  | t + 1, k, r, s, h => by
    have := lev_mono W t (2 * (k - en W (t + 1) k)) r s h
    unfold lev
    split <;> split <;> omega
theorem lev_zero {W : List Nat} (hW : Srt W) (h0 : ∀ x ∈ W, 0 < x) : ∀ t k r, k ≤ (Ar W t).length → en W t k ≤ r → lev W t k r = 0
  | 0, k, r, hk, hr => by
    rw [en_zero (by simpa [Ar] using hk)] at hr
    unfold lev
    rw [if_neg (by omega)]
  | t + 1, k, r, hk, hr => by
    have h3 := (en_succ hW hk).2.2.1
    have hn := nested hW h0 hk
    unfold lev
    rw [if_neg (by omega), lev_zero hW h0 t _ r (by rw [ar_len]; exact h3) (by omega)]
theorem sum_ite (n e c : Nat) (h : e ≤ n) : ((List.range n).map (fun r => if r < e then c else 0)).sum = e * c := by
  induction n generalizing e with
  | zero => simp at h; subst h; simp
  | succ n ih =>
    rw [List.range_succ, List.map_append, List.sum_append]
    by_cases he : e = n + 1
    · subst he
      have h1 := ih n (Nat.le_refl _)
      have h2 : (List.range n).map (fun r => if r < n + 1 then c else 0) = (List.range n).map (fun r => if r < n then c else 0) := List.map_congr_left (fun r hr => by
        have := List.mem_range.1 hr
        rw [if_pos (by omega), if_pos this])
      rw [h2, h1]
      simp [Nat.add_mul]
    · have h1 := ih e (by omega)
      rw [h1]
      simp
      omega
theorem sum_add (f g : Nat → Nat) : ∀ l : List Nat, (l.map (fun r => f r + g r)).sum = (l.map f).sum + (l.map g).sum
  | [] => rfl
  | a :: l => by
    have := sum_add f g l
    simp only [List.map_cons, List.sum_cons]
    omega
/-- What the first k coins are worth. -/
theorem lev_sum {W : List Nat} (hW : Srt W) (h0 : ∀ x ∈ W, 0 < x) : ∀ t k, k ≤ (Ar W t).length → ((List.range W.length).map (fun r => 2 ^ (t + 1) - 2 ^ (t + 1 - lev W t k r))).sum = k * 2 ^ t
  | 0, k, hk => by
    have hk2 : k ≤ W.length := by simpa [Ar] using hk
    have : (List.range W.length).map (fun r => 2 ^ (0 + 1) - 2 ^ (0 + 1 - lev W 0 k r)) = (List.range W.length).map (fun r => if r < k then 1 else 0) := List.map_congr_left (fun r _ => by
      unfold lev
      split <;> rfl)
    rw [this, sum_ite _ _ _ hk2]
  | t + 1, k, hk => by
    obtain ⟨h1, h2, h3, h4, h5⟩ := en_succ hW hk
    have ih := lev_sum hW h0 t (2 * (k - en W (t + 1) k)) (by rw [ar_len]; exact h3)
    have hn := nested hW h0 hk
    have e : (List.range W.length).map (fun r => 2 ^ (t + 1 + 1) - 2 ^ (t + 1 + 1 - lev W (t + 1) k r)) = (List.range W.length).map (fun r => (if r < en W (t + 1) k then 2 ^ (t + 1) else 0) + (2 ^ (t + 1) - 2 ^ (t + 1 - lev W t (2 * (k - en W (t + 1) k)) r))) := List.map_congr_left (fun r _ => by
      have hle := lev_le W t (2 * (k - en W (t + 1) k)) r
      have hp : 2 ^ (t + 1 - lev W t (2 * (k - en W (t + 1) k)) r) ≤ 2 ^ (t + 1) := Nat.pow_le_pow_right (by decide) (by omega)
      have hp2 : 2 ^ (t + 1 + 1) = 2 ^ (t + 1) + 2 ^ (t + 1) := by rw [Nat.pow_succ]; omega
      rw [lev_succ]
      split
      · rw [show t + 1 + 1 - (1 + lev W t (2 * (k - en W (t + 1) k)) r) = t + 1 - lev W t (2 * (k - en W (t + 1) k)) r by omega, hp2]
        generalize 2 ^ (t + 1 - lev W t (2 * (k - en W (t + 1) k)) r) = X at *
        generalize 2 ^ (t + 1) = P at *
        omega
      · rename_i hr
        rw [lev_zero hW h0 t _ r (by rw [ar_len]; exact h3) (by omega)]
        simp)
    rw [e, sum_add, ih, sum_ite _ _ _ h1, Nat.pow_succ]
    have : 2 * (k - en W (t + 1) k) * 2 ^ t = (k - en W (t + 1) k) * (2 ^ t * 2) := by
      rw [Nat.mul_comm 2 (k - en W (t + 1) k), Nat.mul_assoc, Nat.mul_comm 2 (2 ^ t)]
    rw [this, ← Nat.add_mul]
    congr 1
    omega
/-- The coins of the least cost make lengths that weigh as much as the whole. -/
theorem lev_kraft {W : List Nat} (hW : Srt W) (h0 : ∀ x ∈ W, 0 < x) (h2 : 2 ≤ W.length) {t : Nat} (hk : 2 * W.length - 2 ≤ (row W t).length) :
    ((List.range W.length).map (fun r => 2 ^ (t + 1 - lev W t (2 * W.length - 2) r))).sum = 2 ^ (t + 1) ∧ ∀ r, r < W.length → 1 ≤ lev W t (2 * W.length - 2) r := by
  have h1 := lev_sum hW h0 t (2 * W.length - 2) (by rw [ar_len]; exact hk)
  have hsum : ((List.range W.length).map (fun r => 2 ^ (t + 1) - 2 ^ (t + 1 - lev W t (2 * W.length - 2) r))).sum + ((List.range W.length).map (fun r => 2 ^ (t + 1 - lev W t (2 * W.length - 2) r))).sum = W.length * 2 ^ (t + 1) := by
    rw [← sum_add]
    have : (List.range W.length).map (fun r => 2 ^ (t + 1) - 2 ^ (t + 1 - lev W t (2 * W.length - 2) r) + 2 ^ (t + 1 - lev W t (2 * W.length - 2) r)) = (List.range W.length).map (fun r => if r < W.length then 2 ^ (t + 1) else 0) := List.map_congr_left (fun r hr => by
      have : 2 ^ (t + 1 - lev W t (2 * W.length - 2) r) ≤ 2 ^ (t + 1) := Nat.pow_le_pow_right (by decide) (by omega)
      rw [if_pos (List.mem_range.1 hr)]
      omega)
    rw [this, sum_ite _ _ _ (Nat.le_refl _)]
  have hv : (2 * W.length - 2) * 2 ^ t + 2 ^ (t + 1) = W.length * 2 ^ (t + 1) := by
    rw [Nat.pow_succ]
    generalize 2 ^ t = P
    obtain ⟨m, hm⟩ : ∃ m, W.length = m + 2 := ⟨W.length - 2, by omega⟩
    rw [hm, show 2 * (m + 2) - 2 = 2 * m + 2 by omega, Nat.add_mul, Nat.add_mul, Nat.mul_comm P 2, ← Nat.mul_assoc, Nat.mul_comm m 2]
    omega
  have hK : ((List.range W.length).map (fun r => 2 ^ (t + 1 - lev W t (2 * W.length - 2) r))).sum = 2 ^ (t + 1) := by omega
  refine ⟨hK, fun r hr => ?_⟩
  by_cases hz : lev W t (2 * W.length - 2) r = 0
  · exfalso
    obtain ⟨s, hs, hne⟩ : ∃ s, s < W.length ∧ s ≠ r := by
      by_cases h : r = 0
      · exact ⟨1, by omega, by omega⟩
      · exact ⟨0, by omega, fun e => h e.symm⟩
    have key : ∀ (f : Nat → Nat) (n a b : Nat), a < n → b < n → a ≠ b → f a + f b ≤ ((List.range n).map f).sum := by
      intro f n
      have one : ∀ n a, a < n → f a ≤ ((List.range n).map f).sum := by
        intro n
        induction n with
        | zero => intro a h; omega
        | succ n ih =>
          intro a h
          rw [List.range_succ, List.map_append, List.sum_append]
          by_cases e : a = n
          · subst e; simp
          · have := ih a (by omega); simp; omega
      induction n with
      | zero => intro a b h; omega
      | succ n ih =>
        intro a b ha hb hab
        rw [List.range_succ, List.map_append, List.sum_append]
        simp only [List.map_cons, List.map_nil, List.sum_cons, List.sum_nil]
        by_cases e : a = n
        · subst e
          have := one a b (by omega)
          omega
        · by_cases e2 : b = n
          · subst e2
            have := one b a (by omega)
            omega
          · have := ih a b (by omega) (by omega) hab
            omega
    have h3 := key (fun r => 2 ^ (t + 1 - lev W t (2 * W.length - 2) r)) W.length r s hr hs (fun e => hne e.symm)
    have h4 : 0 < 2 ^ (t + 1 - lev W t (2 * W.length - 2) s) := Nat.two_pow_pos _
    simp only [hz, Nat.sub_zero] at h3
    omega
  · omega
theorem sum_take (W : List Nat) : ∀ e, e ≤ W.length → ((List.range W.length).map (fun r => if r < e then W.getD r 0 else 0)).sum = ps W e := by
  intro e he
  have key : ∀ n, n ≤ W.length → ((List.range n).map (fun r => if r < e then W.getD r 0 else 0)).sum = ps W (min n e) := by
    intro n
    induction n with
    | zero => intro _; simp [ps]
    | succ n ih =>
      intro hn
      rw [List.range_succ, List.map_append, List.sum_append, ih (by omega)]
      simp only [List.map_cons, List.map_nil, List.sum_cons, List.sum_nil]
      split
      · rename_i h
        rw [Nat.min_eq_left (by omega), Nat.min_eq_left (by omega)]
        unfold ps
        rw [List.take_add_one, List.sum_append, List.getElem?_eq_getElem (by omega), List.getD_eq_getElem?_getD, List.getElem?_eq_getElem (by omega)]
        simp
      · rename_i h
        rw [Nat.min_eq_right (by omega), Nat.min_eq_right (by omega)]
        simp
  have := key W.length (Nat.le_refl _)
  rwa [Nat.min_eq_right he] at this
/-- What the symbols cost so is what the first k coins cost. -/
theorem lev_cost {W : List Nat} (hW : Srt W) : ∀ t k, k ≤ (Ar W t).length → ((List.range W.length).map (fun r => W.getD r 0 * lev W t k r)).sum = ps (row W t) k
  | 0, k, hk => by
    have hk2 : k ≤ W.length := by simpa [Ar] using hk
    rw [show row W 0 = W from rfl, ← sum_take W k hk2]
    congr 1
    refine List.map_congr_left (fun r _ => ?_)
    unfold lev
    split <;> simp
  | t + 1, k, hk => by
    obtain ⟨h1, h2, h3, h4, h5⟩ := en_succ hW hk
    have ih := lev_cost hW t (2 * (k - en W (t + 1) k)) (by rw [ar_len]; exact h3)
    have e : (List.range W.length).map (fun r => W.getD r 0 * lev W (t + 1) k r) = (List.range W.length).map (fun r => (if r < en W (t + 1) k then W.getD r 0 else 0) + W.getD r 0 * lev W t (2 * (k - en W (t + 1) k)) r) := List.map_congr_left (fun r _ => by
      rw [lev_succ, Nat.mul_add]
      split <;> simp)
    rw [e, sum_add, ih, sum_take W _ h1, ← ps_pr _ _ h3]
    have h6 := (h5.map (·.1)).sum_nat
    rw [List.map_append, tag_fst, tag_fst, List.sum_append, List.map_take, ar_row] at h6
    unfold ps
    omega
end Go.Proofs.Ythpocbpleffdpaa.Pm

namespace Go.Proofs.Ythpocbpleffdpaa.Pm
set_option linter.unusedVariables false
/-- The first n that come off, the least first. -/
def pks (F : List Nd) : Nat → List Nat → List Nat
  | 0, _ => []
  | n + 1, K => mn F K :: pks F n (K.erase (mn F K))
def co (F : List Nd) (k : Nat) : Nat := (F.getD k nd0).1
def sy (F : List Nd) (k : Nat) : Nat := (F.getD k nd0).2.1
def isk (F : List Nd) (K : List Nat) : List Nat := mgk (co F) [] K
theorem ky_co (F : List Nd) (k : Nat) : ky F k = co F k * 9223372036854775808 + k := rfl
theorem insk_ky {F : List Nd} {y : Nat} (hy : y < 9223372036854775808) : ∀ {l : List Nat}, l.Pairwise (fun a b => ky F a < ky F b) → (∀ a ∈ l, a < y) → (insk (co F) y l).Pairwise (fun a b => ky F a < ky F b)
  | [], _, _ => List.pairwise_singleton _ _
  | a :: t, h, hl => by
    have h1 := List.pairwise_cons.1 h
    have ha := hl a (by simp)
    unfold insk
    split
    · rename_i hc
      refine List.pairwise_cons.2 ⟨fun z hz => ?_, insk_ky hy h1.2 (fun x hx => hl x (by simp [hx]))⟩
      rcases List.mem_cons.1 ((insk_perm _ y t).mem_iff.1 hz) with rfl | hz
      · rw [ky_co, ky_co]; omega
      · exact h1.1 z hz
    · rename_i hc
      have hya : ky F y < ky F a := by rw [ky_co, ky_co]; omega
      refine List.pairwise_cons.2 ⟨fun z hz => ?_, h⟩
      rcases List.mem_cons.1 hz with rfl | hz
      · exact hya
      · exact Nat.lt_trans hya (h1.1 z hz)
theorem mgk_ky {F : List Nd} : ∀ {K xs : List Nat}, K.Pairwise (· < ·) → (∀ k ∈ K, k < 9223372036854775808) → xs.Pairwise (fun a b => ky F a < ky F b) → (∀ a ∈ xs, ∀ k ∈ K, a < k) → (mgk (co F) xs K).Pairwise (fun a b => ky F a < ky F b)
  | [], xs, _, _, h, _ => h
  | y :: K, xs, hK, hb, h, hx => by
    have h1 := List.pairwise_cons.1 hK
    have := insk_ky (F := F) (hb y (by simp)) h (fun a ha => hx a ha y (by simp))
    refine mgk_ky (K := K) (xs := insk (co F) y xs) h1.2 (fun k hk => hb k (by simp [hk])) this (fun a ha k hk => ?_)
    rcases List.mem_cons.1 ((insk_perm _ y xs).mem_iff.1 ha) with rfl | ha
    · exact h1.1 k hk
    · exact hx a ha k (by simp [hk])
theorem isk_perm (F : List Nd) (K : List Nat) : (isk F K).Perm K := mgk_perm (co F) K []
theorem isk_len (F : List Nd) (K : List Nat) : (isk F K).length = K.length := (isk_perm F K).length_eq
theorem uniq_ky {F : List Nd} : ∀ {l m : List Nat}, l.Pairwise (fun a b => ky F a < ky F b) → m.Pairwise (fun a b => ky F a < ky F b) → l.Perm m → l = m
  | [], m, _, _, h => (List.nil_perm.1 h).symm
  | a :: l, [], _, _, h => by have := h.length_eq; simp at this
  | a :: l, b :: m, h1, h2, h => by
    have a1 := List.pairwise_cons.1 h1
    have a2 := List.pairwise_cons.1 h2
    have e : a = b := by
      have h3 : a = b ∨ a ∈ m := by simpa using h.mem_iff.1 (show a ∈ a :: l by simp)
      have h4 : b = a ∨ b ∈ l := by simpa using h.mem_iff.2 (show b ∈ b :: m by simp)
      rcases h3 with e | e
      · exact e
      · rcases h4 with e' | e'
        · exact e'.symm
        · have := a1.1 b e'; have := a2.1 a e; omega
    subst e
    rw [uniq_ky a1.2 a2.2 h.cons_inv]
theorem pks_all {F : List Nd} : ∀ (n : Nat) (K : List Nat), K.length = n → K.Nodup → (∀ k ∈ K, k < 9223372036854775808) → (pks F n K).Perm K ∧ (pks F n K).Pairwise (fun a b => ky F a < ky F b)
  | 0, K, hn, _, _ => by
    have : K = [] := List.length_eq_zero_iff.1 hn
    subst this
    exact ⟨List.Perm.refl _, List.Pairwise.nil⟩
  | n + 1, K, hn, hd, hb => by
    obtain ⟨h1, h2⟩ := mn_mem F (K := K) (fun e => by rw [e] at hn; simp at hn)
    have hl := List.length_erase_of_mem h1
    obtain ⟨g1, g2⟩ := pks_all (F := F) n (K.erase (mn F K)) (by omega) (hd.erase _) (fun k hk => hb k (List.mem_of_mem_erase hk))
    refine ⟨(g1.cons _).trans (List.perm_cons_erase h1).symm, List.pairwise_cons.2 ⟨fun z hz => ?_, g2⟩⟩
    have hz2 := g1.mem_iff.1 hz
    have hz3 := (hd.mem_erase_iff).1 hz2
    have h3 := h2 z hz3.2
    rcases Nat.lt_or_ge (ky F (mn F K)) (ky F z) with h | h
    · exact h
    · exact absurd (ky_inj (hb _ hz3.2) (hb _ h1) (Nat.le_antisymm h h3)) hz3.1
theorem pks_isk {F : List Nd} {K : List Nat} (hK : K.Pairwise (· < ·)) (hb : ∀ k ∈ K, k < 9223372036854775808) : pks F K.length K = isk F K := by
  have hn : K.Nodup := hK.imp (fun h => Nat.ne_of_lt h)
  obtain ⟨h1, h2⟩ := pks_all (F := F) K.length K rfl hn hb
  exact uniq_ky h2 (mgk_ky hK hb List.Pairwise.nil (fun a ha => by simp at ha)) (h1.trans (isk_perm F K).symm)
theorem pks_take {F : List Nd} : ∀ (m n : Nat) (K : List Nat), m ≤ n → pks F m K = (pks F n K).take m
  | 0, n, K, _ => by simp [pks]
  | m + 1, 0, K, h => by omega
  | m + 1, n + 1, K, h => by simp only [pks, List.take_succ_cons]; rw [pks_take m n _ (by omega)]
theorem pks_mem {F : List Nd} : ∀ (n : Nat) (K : List Nat), n ≤ K.length → ∀ x ∈ pks F n K, x ∈ K
  | 0, K, _, x, hx => by simp [pks] at hx
  | n + 1, K, hn, x, hx => by
    have h1 := (mn_mem F (K := K) (fun e => by rw [e] at hn; simp at hn)).1
    have hl := List.length_erase_of_mem h1
    simp only [pks, List.mem_cons] at hx
    rcases hx with rfl | hx
    · exact h1
    · exact List.mem_of_mem_erase (pks_mem n _ (by omega) x hx)
theorem pks_len (F : List Nd) : ∀ (n : Nat) (K : List Nat), (pks F n K).length = n
  | 0, K => rfl
  | n + 1, K => by simp only [pks, List.length_cons]; rw [pks_len]
theorem get_app {F X : List Nd} {k : Nat} (h : k < F.length) : (F ++ X).getD k nd0 = F.getD k nd0 := by simp [List.getD, List.getElem?_append_left h]
theorem mn_app {F X : List Nd} : ∀ {K : List Nat}, (∀ k ∈ K, k < F.length) → mn (F ++ X) K = mn F K
  | [], _ => rfl
  | a :: K, h => by
    have key : ∀ (K : List Nat) (a : Nat), (∀ k ∈ a :: K, k < F.length) → K.foldl (fun x y => if ky (F ++ X) y < ky (F ++ X) x then y else x) a = K.foldl (fun x y => if ky F y < ky F x then y else x) a := by
      intro K
      induction K with
      | nil => intro a _; simp only [List.foldl_nil]
      | cons b K ih =>
        intro a h
        have ha := h a (by simp)
        have hb := h b (by simp)
        have e1 : ky (F ++ X) b = ky F b := by unfold ky; rw [get_app hb]
        have e2 : ky (F ++ X) a = ky F a := by unfold ky; rw [get_app ha]
        simp only [List.foldl_cons]
        rw [e1, e2]
        refine ih _ (fun k hk => ?_)
        rcases List.mem_cons.1 hk with rfl | hk
        · split <;> assumption
        · exact h k (by simp [hk])
    exact key K a h
theorem pks_app {F X : List Nd} : ∀ (n : Nat) {K : List Nat}, (∀ k ∈ K, k < F.length) → pks (F ++ X) n K = pks F n K
  | 0, K, _ => rfl
  | n + 1, K, h => by
    simp only [pks]
    rw [mn_app h, pks_app n (fun k hk => h k (List.mem_of_mem_erase hk))]
/-- What is put together, two by two. -/
def pnd (F : List Nd) : List Nat → List Nd
  | a :: b :: t => jnd F a b :: pnd F t
  | _ => []
theorem pnd_len (F : List Nd) : ∀ l, (pnd F l).length = l.length / 2
  | [] => by simp [pnd]
  | [a] => by simp [pnd]
  | a :: b :: t => by simp only [pnd, List.length_cons]; rw [pnd_len F t]; omega
theorem pnd_app {F X : List Nd} : ∀ {l : List Nat}, (∀ k ∈ l, k < F.length) → pnd (F ++ X) l = pnd F l
  | [], _ => rfl
  | [a], _ => by simp [pnd]
  | a :: b :: t, h => by
    simp only [pnd]
    rw [pnd_app (fun k hk => h k (by simp [hk]))]
    unfold jnd
    rw [get_app (h a (by simp)), get_app (h b (by simp))]
theorem pnd_get (F : List Nd) : ∀ (l : List Nat) (q : Nat), 2 * q + 1 < l.length → (pnd F l).getD q nd0 = jnd F (l.getD (2 * q) 0) (l.getD (2 * q + 1) 0)
  | [], q, h => by simp at h
  | [a], q, h => by simp at h
  | a :: b :: t, 0, h => rfl
  | a :: b :: t, q + 1, h => by
    have := pnd_get F t q (by simp at h; omega)
    rw [show 2 * (q + 1) = 2 * q + 2 by omega]
    simpa [pnd] using this
theorem prs_eq : ∀ (j : Nat) (F : List Nd) (K N : List Nat), 2 * j ≤ K.length → (∀ k ∈ K, k < F.length) → (prs j (F, K, N)).1 = F ++ pnd F (pks F (2 * j) K) ∧ (prs j (F, K, N)).2.2 = N ++ (List.range j).map (fun i => F.length + i)
  | 0, F, K, N, _, _ => by simp [prs, pks, pnd]
  | j + 1, F, K, N, hj, hK => by
    have h1 := (mn_mem F (K := K) (fun e => by rw [e] at hj; simp at hj)).1
    have l1 := List.length_erase_of_mem h1
    have h2 := (mn_mem F (K := K.erase (mn F K)) (fun e => by rw [e] at l1; simp at l1; omega)).1
    have l2 := List.length_erase_of_mem h2
    have ih := prs_eq j (F ++ [jnd F (mn F K) (mn F (K.erase (mn F K)))]) ((K.erase (mn F K)).erase (mn F (K.erase (mn F K)))) (N ++ [F.length]) (by omega) (fun k hk => by
      have := hK k (List.mem_of_mem_erase (List.mem_of_mem_erase hk))
      simp only [List.length_append, List.length_singleton]
      omega)
    have hK2 : ∀ k ∈ (K.erase (mn F K)).erase (mn F (K.erase (mn F K))), k < F.length := fun k hk => hK k (List.mem_of_mem_erase (List.mem_of_mem_erase hk))
    refine ⟨?_, ?_⟩
    · show (prs j (pr1 (F, K, N))).1 = _
      unfold pr1
      rw [ih.1, show 2 * (j + 1) = 2 * j + 1 + 1 by omega]
      simp only [pks, pnd]
      rw [pks_app _ hK2, pnd_app (fun k hk => hK2 k (pks_mem _ _ (by omega) k hk)), List.append_assoc]
      rfl
    · show (prs j (pr1 (F, K, N))).2.2 = _
      unfold pr1
      rw [ih.2, List.range_succ_eq_map, List.map_cons, List.map_map, List.append_assoc, List.length_append]
      congr 1
      rw [List.singleton_append]
      congr 1
      refine List.map_congr_left (fun i _ => ?_)
      simp
      omega
theorem lvd_app {F : List Nd} (h : Wf F) (X : List Nd) : ∀ n k d, k < F.length → lvd (F ++ X) n k d = lvd F n k d
  | 0, k, d, _ => rfl
  | n + 1, k, d, hk => by
    unfold lvd
    rw [get_app hk]
    cases e : (F.getD k nd0).2.2 with
    | none => rfl
    | some p =>
      obtain ⟨_, h3, h4⟩ := wf_kid h e
      simp only
      rw [lvd_app h X n p.1 (d + 1) (by omega), lvd_app h X n p.2 (d + 1) (by omega)]
/-- How often a symbol is in a tree. -/
def tl (F : List Nd) (k s : Nat) : Nat := ((lvs F k 0).filter (fun x => decide (x.1 = s))).length
theorem tl_app {F : List Nd} (h : Wf F) (X : List Nd) {k : Nat} (s : Nat) (hk : k < F.length) : tl (F ++ X) k s = tl F k s := by
  unfold tl lvs
  rw [lvd_app h X _ _ _ hk]
theorem tl_leaf {F : List Nd} {k : Nat} (s : Nat) (e : (F.getD k nd0).2.2 = none) : tl F k s = if sy F k = s then 1 else 0 := by
  unfold tl
  rw [lvs_leaf 0 e]
  unfold sy
  split
  · rename_i h; rw [List.filter_cons_of_pos (by simpa using h)]; rfl
  · rename_i h; rw [List.filter_cons_of_neg (by simpa using h)]; rfl
theorem tl_up (l : List (Nat × Nat)) (s : Nat) : ((l.map (fun x => (x.1, x.2 + 1))).filter (fun x => decide (x.1 = s))).length = (l.filter (fun x => decide (x.1 = s))).length := by
  rw [List.filter_map, List.length_map]
  rfl
theorem tl_node {F : List Nd} (h : Wf F) {k : Nat} {p : Nat × Nat} (s : Nat) (e : (F.getD k nd0).2.2 = some p) : tl F k s = tl F p.1 s + tl F p.2 s := by
  unfold tl
  rw [lvs_node h 0 e, lvs_up, lvs_up, List.filter_append, List.length_append, tl_up, tl_up]
end Go.Proofs.Ythpocbpleffdpaa.Pm

namespace Go.Proofs.Ythpocbpleffdpaa.Pm
set_option linter.unusedVariables false
theorem insk_mapf {α β : Type} {c : α → Nat} {c' : β → Nat} {f : α → β} (y : α) : ∀ l : List α, (∀ x ∈ y :: l, c' (f x) = c x) → (insk c y l).map f = insk c' (f y) (l.map f)
  | [], _ => rfl
  | a :: t, h => by
    have ha := h a (by simp)
    have hy := h y (by simp)
    unfold insk
    simp only [List.map_cons]
    rw [ha, hy]
    split
    · rw [List.map_cons, insk_mapf y t (fun x hx => h x (by
        rcases List.mem_cons.1 hx with rfl | hx
        · simp
        · simp [hx]))]
    · rfl
theorem mgk_mapf {α β : Type} {c : α → Nat} {c' : β → Nat} {f : α → β} : ∀ (ys xs : List α), (∀ x ∈ xs ++ ys, c' (f x) = c x) → (mgk c xs ys).map f = mgk c' (xs.map f) (ys.map f)
  | [], xs, _ => rfl
  | y :: t, xs, h => by
    have e := insk_mapf (c := c) (c' := c') (f := f) y xs (fun x hx => h x (by
      rcases List.mem_cons.1 hx with rfl | hx
      · simp
      · simp [hx]))
    have ih := mgk_mapf (c := c) (c' := c') (f := f) t (insk c y xs) (fun x hx => by
      rcases List.mem_append.1 hx with hx | hx
      · rcases List.mem_cons.1 ((insk_perm c y xs).mem_iff.1 hx) with rfl | hx
        · exact h x (by simp)
        · exact h x (by simp [hx])
      · exact h x (by simp [hx]))
    unfold mgk at ih ⊢
    simp only [List.foldl_cons, List.map_cons]
    rw [ih, e]
theorem mgk_app {α : Type} (c : α → Nat) (xs l m : List α) : mgk c xs (l ++ m) = mgk c (mgk c xs l) m := by
  unfold mgk
  rw [List.foldl_append]
/-- The symbols that come at all, the least first. -/
def ordS (zs : List Int) : List Nat := mgk (cnv zs) [] (pos zs)
theorem ordS_perm (zs : List Int) : (ordS zs).Perm (pos zs) := mgk_perm (cnv zs) (pos zs) []
theorem ordS_base (zs : List Int) : (ordS zs).map (cnv zs) = base zs := by
  refine srt_uniq ?_ (srt_srt _) (((ordS_perm zs).map _).trans (srt_perm _).symm)
  have : Srk (cnv zs) (ordS zs) := mgk_srk List.Pairwise.nil
  exact List.pairwise_map.2 this
theorem ordS_nodup (zs : List Int) : (ordS zs).Nodup := (ordS_perm zs).nodup_iff.2 (pos_nodup zs)
theorem ordS_len (zs : List Int) : (ordS zs).length = (pos zs).length := (ordS_perm zs).length_eq
def fk (F : List Nd) (k : Nat) : Nat × Bool := (co F k, (F.getD k nd0).2.2.isNone)
def tsum (F : List Nd) (l : List Nat) (s : Nat) : Nat := (l.map (fun x => tl F x s)).sum
structure Lv (zs : List Int) (t : Nat) (F : List Nd) (K : List Nat) : Prop where
  wf : Wf F
  asc : K.Pairwise (· < ·)
  kl : ∀ k ∈ K, k < F.length
  bd : F.length ≤ 640 * (t + 1)
  lf : ∀ k, k < F.length → (F.getD k nd0).2.2 = none → sy F k ∈ pos zs
  cs : (isk F K).map (fk F) = Ar (base zs) t
  ta : ∀ k, k ≤ K.length → ∀ j (hj : j < (ordS zs).length), tsum F ((isk F K).take k) (ordS zs)[j] = lev (base zs) t k j
theorem base_plen (zs : List Int) : (base zs).length = (pos zs).length := by unfold base; rw [(srt_perm _).length_eq, List.length_map]
theorem base_pos (zs : List Int) : ∀ x ∈ base zs, 0 < x := by
  intro x hx
  have := (srt_perm _).mem_iff.1 hx
  obtain ⟨s, hs, rfl⟩ := List.mem_map.1 this
  have := (pos_mem.1 hs).2
  unfold cnv
  omega
theorem row_two (b : List Nat) : ∀ t, (row b t).length ≤ 2 * b.length
  | 0 => by unfold row; omega
  | t + 1 => by rw [row_len]; have := row_two b t; omega
theorem Lv.len {zs : List Int} {t : Nat} {F : List Nd} {K : List Nat} (h : Lv zs t F K) : K.length = (row (base zs) t).length := by
  rw [← ar_len, ← h.cs, List.length_map, isk_len]
/-- Leaves that stand from a place on. -/
def lnum (zs : List Int) (o : Nat) : List Nat := (List.range (pos zs).length).map (fun i => o + i)
theorem lnum_mem {zs : List Int} {o k : Nat} (h : k ∈ lnum zs o) : o ≤ k ∧ k < o + (pos zs).length := by
  obtain ⟨i, hi, rfl⟩ := List.mem_map.1 h
  have := List.mem_range.1 hi
  omega
theorem lnum_get {zs : List Int} {F0 X : List Nd} {i : Nat} (hi : i < (pos zs).length) : (F0 ++ lv zs zs.length ++ X).getD (F0.length + i) nd0 = (cnv zs (pos zs)[i], (pos zs)[i], none) := by
  rw [get_app (by rw [List.length_append, lv_plen]; omega), List.getD_eq_getElem?_getD, List.getElem?_append_right (by omega), Nat.add_sub_cancel_left, ← List.getD_eq_getElem?_getD, lv_get hi]
theorem asc_add (o n : Nat) : ((List.range n).map (fun i => o + i)).Pairwise (· < ·) := by
  refine List.pairwise_map.2 ?_
  refine List.pairwise_lt_range.imp (fun h => by omega)
/-- The leaves of a row. -/
theorem leaf_row {zs : List Int} {F0 X F : List Nd} (hF : F = F0 ++ lv zs zs.length ++ X) : (isk F (lnum zs F0.length)).map (sy F) = ordS zs ∧ (isk F (lnum zs F0.length)).map (fk F) = (base zs).map (fun x => (x, true)) ∧ ∀ x ∈ lnum zs F0.length, (F.getD x nd0).2.2 = none := by
  have hat : ∀ x ∈ lnum zs F0.length, ∃ i, ∃ (hi : i < (pos zs).length), x = F0.length + i ∧ F.getD x nd0 = (cnv zs (pos zs)[i], (pos zs)[i], none) := by
    intro x hx
    obtain ⟨i, hi, rfl⟩ := List.mem_map.1 hx
    have hi2 := List.mem_range.1 hi
    exact ⟨i, hi2, rfl, by rw [hF]; exact lnum_get hi2⟩
  have hn : ∀ x ∈ lnum zs F0.length, (F.getD x nd0).2.2 = none := fun x hx => by
    obtain ⟨i, hi, _, e⟩ := hat x hx
    rw [e]
  have hc : ∀ x ∈ lnum zs F0.length, cnv zs (sy F x) = co F x := fun x hx => by
    obtain ⟨i, hi, _, e⟩ := hat x hx
    unfold sy co
    rw [e]
  have hs : (lnum zs F0.length).map (sy F) = pos zs := by
    unfold lnum
    rw [List.map_map]
    refine range_get _ _ (fun k hk => ?_)
    simp only [Function.comp]
    unfold sy
    rw [hF, lnum_get hk]
  have h1 : (isk F (lnum zs F0.length)).map (sy F) = ordS zs := by
    unfold isk ordS
    rw [mgk_mapf (c := co F) (c' := cnv zs) (f := sy F) (lnum zs F0.length) [] (by simpa using hc), hs]
    rfl
  refine ⟨h1, ?_, hn⟩
  rw [← ordS_base, ← h1, List.map_map, List.map_map]
  refine List.map_congr_left (fun x hx => ?_)
  have hx2 := (isk_perm _ _).mem_iff.1 hx
  simp only [Function.comp]
  unfold fk
  rw [hn x hx2, ← hc x hx2]
  rfl
theorem sum_zeros : ∀ l : List Nat, (l.map (fun _ => 0)).sum = 0
  | [] => rfl
  | a :: l => by rw [List.map_cons, List.sum_cons, sum_zeros l]
theorem one_in : ∀ (O : List Nat) (j e : Nat) (hn : O.Nodup) (hj : j < O.length), ((O.take e).map (fun x => if x = O[j] then 1 else 0)).sum = if j < e then 1 else 0
  | [], j, e, _, hj => by simp at hj
  | a :: O, j, 0, _, _ => by simp
  | a :: O, 0, e + 1, hn, _ => by
    have h1 := (List.nodup_cons.1 hn).1
    have : (O.take e).map (fun x => if x = (a :: O)[0] then 1 else 0) = (O.take e).map (fun _ => 0) := List.map_congr_left (fun x hx => by
      have : x ≠ a := fun e => h1 (e ▸ List.mem_of_mem_take hx)
      simp [this])
    rw [List.take_succ_cons, List.map_cons, List.sum_cons, this, sum_zeros]
    simp
  | a :: O, j + 1, e + 1, hn, hj => by
    have h1 := List.nodup_cons.1 hn
    have ih := one_in O j e h1.2 (by simpa using hj)
    have hne : a ≠ (a :: O)[j + 1] := fun e => h1.1 (by rw [List.getElem_cons_succ] at e; rw [e]; exact List.getElem_mem _)
    rw [List.take_succ_cons, List.map_cons, List.sum_cons, if_neg hne, List.getElem_cons_succ, ih, Nat.zero_add]
    split <;> split <;> omega
theorem leaf_sum {zs : List Int} {F0 X F : List Nd} (hF : F = F0 ++ lv zs zs.length ++ X) (e j : Nat) (hj : j < (ordS zs).length) : tsum F ((isk F (lnum zs F0.length)).take e) (ordS zs)[j] = if j < e then 1 else 0 := by
  obtain ⟨h1, h2, h3⟩ := leaf_row hF
  unfold tsum
  have : ∀ s, ((isk F (lnum zs F0.length)).take e).map (fun x => tl F x s) = ((ordS zs).take e).map (fun x => if x = s then 1 else 0) := by
    intro s
    conv => rhs; rw [← h1]
    rw [← List.map_take, List.map_map]
    refine List.map_congr_left (fun x hx => ?_)
    have hx2 := (isk_perm _ _).mem_iff.1 (List.mem_of_mem_take hx)
    simp only [Function.comp]
    exact tl_leaf _ (h3 x hx2)
  rw [this]
  exact one_in _ _ _ (ordS_nodup zs) hj
theorem lv_none_more {zs : List Int} {F : List Nd} (h : Wf F) : Wf (F ++ lv zs zs.length) := by
  intro k hk p e
  by_cases h1 : k < F.length
  · rw [get_app h1] at e
    exact h k h1 p e
  · rw [List.getD_eq_getElem?_getD, List.getElem?_append_right (by omega), ← List.getD_eq_getElem?_getD, lv_leaf] at e
    cases e
/-- The first row. -/
theorem lv_zero (zs : List Int) (hl : zs.length ≤ 320) : Lv zs 0 (lv zs zs.length) (List.range (pos zs).length) := by
  have hp := pos_le zs
  have e0 : List.range (pos zs).length = lnum zs ([] : List Nd).length := by
    unfold lnum
    simp
  have hF : lv zs zs.length = [] ++ lv zs zs.length ++ [] := by simp
  refine ⟨?_, List.pairwise_lt_range, fun k hk => by rw [lv_plen]; exact List.mem_range.1 hk, by rw [lv_plen]; omega, ?_, ?_, ?_⟩
  · intro k hk p e
    rw [lv_leaf] at e
    cases e
  · intro k hk _
    rw [lv_plen] at hk
    unfold sy
    rw [lv_get hk]
    exact List.getElem_mem _
  · rw [e0]
    exact (leaf_row hF).2.1
  · intro k hk j hj
    rw [e0, leaf_sum hF k j hj]
    rfl
end Go.Proofs.Ythpocbpleffdpaa.Pm

namespace Go.Proofs.Ythpocbpleffdpaa.Pm
set_option linter.unusedVariables false
theorem pr_at : ∀ (l : List Nat) (j : Nat), 2 * j + 1 < l.length → (pr l)[j]? = some (l.getD (2 * j) 0 + l.getD (2 * j + 1) 0)
  | [], j, h => by simp at h
  | [a], j, h => by simp at h
  | a :: b :: l, 0, h => by simp [Pm.pr]
  | a :: b :: l, j + 1, h => by
    have := pr_at l j (by simp at h; omega)
    rw [show 2 * (j + 1) = 2 * j + 2 by omega]
    simpa [Pm.pr] using this
theorem pr_ext (V : List Nat) (g : Nat → Nat) (h : ∀ q, q < V.length / 2 → g q = V.getD (2 * q) 0 + V.getD (2 * q + 1) 0) : (List.range (V.length / 2)).map g = pr V := by
  apply List.ext_getElem?
  intro i
  by_cases hi : i < V.length / 2
  · rw [List.getElem?_map, List.getElem?_eq_getElem (by simpa using hi), pr_at V i (by omega)]
    simp only [List.getElem_range, Option.map_some]
    rw [h i hi]
  · rw [List.getElem?_eq_none (by simpa using hi), List.getElem?_eq_none (by rw [pr_len]; omega)]
theorem getD_map {f : Nat → Nat} {l : List Nat} {i : Nat} (hi : i < l.length) : (l.map f).getD i 0 = f (l.getD i 0) := by
  rw [List.getD_eq_getElem?_getD, List.getD_eq_getElem?_getD, List.getElem?_map, List.getElem?_eq_getElem hi]
  rfl
theorem getD_mem {l : List Nat} {i : Nat} (hi : i < l.length) : l.getD i 0 ∈ l := by
  rw [List.getD_eq_getElem?_getD, List.getElem?_eq_getElem hi]
  exact List.getElem_mem _
theorem lv_step {zs : List Int} {t : Nat} {F : List Nd} {K : List Nat} (h : Lv zs t F K) (hl : zs.length ≤ 320) (ht : t ≤ 1000) :
    Lv zs (t + 1) (prs (K.length / 2) (F ++ lv zs zs.length, K, [])).1 (lnum zs F.length ++ (prs (K.length / 2) (F ++ lv zs zs.length, K, [])).2.2) := by
  have hp := pos_le zs
  have hKF : ∀ k ∈ K, k < (F ++ lv zs zs.length).length := fun k hk => by have := h.kl k hk; rw [List.length_append]; omega
  obtain ⟨e1, e2⟩ := prs_eq (K.length / 2) (F ++ lv zs zs.length) K [] (by omega) hKF
  rw [e1, e2, List.nil_append]
  clear e1 e2
  have hb63 : ∀ k ∈ K, k < 9223372036854775808 := fun k hk => by have := h.kl k hk; have := h.bd; omega
  have hsk : pks F K.length K = isk F K := pks_isk h.asc hb63
  have hP : pks (F ++ lv zs zs.length) (2 * (K.length / 2)) K = (isk F K).take (2 * (K.length / 2)) := by rw [pks_app _ h.kl, pks_take _ K.length K (by omega), hsk]
  rw [hP]
  have hskl : (isk F K).length = K.length := isk_len F K
  have hskm : ∀ x ∈ isk F K, x < F.length := fun x hx => h.kl x ((isk_perm F K).mem_iff.1 hx)
  generalize hS : isk F K = sk at *
  have hPm : ∀ x ∈ sk.take (2 * (K.length / 2)), x < F.length := fun x hx => hskm x (List.mem_of_mem_take hx)
  have hpn : pnd (F ++ lv zs zs.length) (sk.take (2 * (K.length / 2))) = pnd F (sk.take (2 * (K.length / 2))) := pnd_app hPm
  rw [hpn]
  have hlen1 : (F ++ lv zs zs.length).length = F.length + (pos zs).length := by rw [List.length_append, lv_plen]
  have hplen : (pnd F (sk.take (2 * (K.length / 2)))).length = K.length / 2 := by rw [pnd_len, List.length_take]; omega
  obtain ⟨F2, hF2⟩ : ∃ F2, F2 = F ++ lv zs zs.length ++ pnd F (sk.take (2 * (K.length / 2))) := ⟨_, rfl⟩
  rw [← hF2]
  have hlen2 : F2.length = F.length + (pos zs).length + K.length / 2 := by rw [hF2, List.length_append, hlen1, hplen]
  have hnode : ∀ q, q < K.length / 2 → F2.getD (F.length + (pos zs).length + q) nd0 = jnd F (sk.getD (2 * q) 0) (sk.getD (2 * q + 1) 0) := by
    intro q hq
    rw [hF2, List.getD_eq_getElem?_getD, List.getElem?_append_right (by rw [hlen1]; omega), hlen1, Nat.add_sub_cancel_left, ← List.getD_eq_getElem?_getD, pnd_get _ _ _ (by rw [List.length_take]; omega)]
    congr 1
    · rw [List.getD_eq_getElem?_getD, List.getD_eq_getElem?_getD, List.getElem?_take_of_lt (by omega)]
    · rw [List.getD_eq_getElem?_getD, List.getD_eq_getElem?_getD, List.getElem?_take_of_lt (by omega)]
  have hold : ∀ k, k < F.length → F2.getD k nd0 = F.getD k nd0 := fun k hk => by rw [hF2, List.append_assoc, get_app hk]
  have hlfk : ∀ k, F.length ≤ k → k < F.length + (pos zs).length → F2.getD k nd0 = (cnv zs ((pos zs).getD (k - F.length) 0), (pos zs).getD (k - F.length) 0, none) := by
    intro k h1 h2
    have := lnum_get (zs := zs) (F0 := F) (X := pnd F (sk.take (2 * (K.length / 2)))) (i := k - F.length) (by omega)
    rw [show F.length + (k - F.length) = k by omega] at this
    rw [hF2, this, List.getD_eq_getElem?_getD, List.getElem?_eq_getElem (by omega)]
    rfl
  have wf2 : Wf F2 := by
    intro k hk p e
    by_cases h1 : k < F.length
    · rw [hold k h1] at e
      exact h.wf k h1 p e
    · by_cases h2 : k < F.length + (pos zs).length
      · rw [hlfk k (by omega) h2] at e
        cases e
      · have hq : k - (F.length + (pos zs).length) < K.length / 2 := by omega
        have := hnode _ hq
        rw [show F.length + (pos zs).length + (k - (F.length + (pos zs).length)) = k by omega] at this
        rw [this] at e
        cases e
        have g1 := hskm _ (getD_mem (l := sk) (i := 2 * (k - (F.length + (pos zs).length))) (by omega))
        have g2 := hskm _ (getD_mem (l := sk) (i := 2 * (k - (F.length + (pos zs).length)) + 1) (by omega))
        exact ⟨by simp only; omega, by simp only; omega⟩
  have hNn : (List.range (K.length / 2)).map (fun i => (F ++ lv zs zs.length).length + i) = (List.range (K.length / 2)).map (fun i => F.length + (pos zs).length + i) := by rw [hlen1]
  rw [hNn]
  have hcoN : ((List.range (K.length / 2)).map (fun i => F.length + (pos zs).length + i)).map (co F2) = pr (sk.map (co F)) := by
    rw [List.map_map]
    have := pr_ext (sk.map (co F)) (fun q => co F2 (F.length + (pos zs).length + q)) (fun q hq => by
      rw [List.length_map, hskl] at hq
      rw [getD_map (by omega), getD_map (by omega)]
      unfold co
      rw [hnode q hq]
      rfl)
    rw [List.length_map, hskl] at this
    exact this
  have htlN : ∀ s, ((List.range (K.length / 2)).map (fun i => F.length + (pos zs).length + i)).map (fun x => tl F2 x s) = pr (sk.map (fun x => tl F x s)) := by
    intro s
    rw [List.map_map]
    have := pr_ext (sk.map (fun x => tl F x s)) (fun q => tl F2 (F.length + (pos zs).length + q) s) (fun q hq => by
      rw [List.length_map, hskl] at hq
      rw [getD_map (by omega), getD_map (by omega)]
      have g1 := hskm _ (getD_mem (l := sk) (i := 2 * q) (by omega))
      have g2 := hskm _ (getD_mem (l := sk) (i := 2 * q + 1) (by omega))
      rw [tl_node wf2 (p := (sk.getD (2 * q) 0, sk.getD (2 * q + 1) 0)) s (by rw [hnode q hq]; rfl)]
      simp only
      rw [hF2, List.append_assoc, tl_app h.wf _ _ g1, tl_app h.wf _ _ g2])
    rw [List.length_map, hskl] at this
    exact this
  have hcs0 : sk.map (co F) = row (base zs) t := by
    have := congrArg (List.map (·.1)) h.cs
    rw [List.map_map, ar_row, hS] at this
    exact this
  have hfkN : ((List.range (K.length / 2)).map (fun i => F.length + (pos zs).length + i)).map (fk F2) = (pr ((Ar (base zs) t).map (·.1))).map (fun x => (x, false)) := by
    have key : ∀ l : List Nat, (∀ x ∈ l, fk F2 x = (co F2 x, false)) → l.map (fk F2) = (l.map (co F2)).map (fun x => (x, false)) := by
      intro l h
      rw [List.map_map]
      exact List.map_congr_left h
    rw [ar_row, ← hcs0, ← hcoN]
    refine key _ (fun x hx => ?_)
    obtain ⟨q, hq, rfl⟩ := List.mem_map.1 hx
    unfold fk
    rw [hnode q (List.mem_range.1 hq)]
    rfl
  obtain ⟨hl1, hl2, hl3⟩ := leaf_row (F0 := F) hF2
  have hiskA : isk F2 (lnum zs F.length ++ (List.range (K.length / 2)).map (fun i => F.length + (pos zs).length + i)) = mgk (co F2) (isk F2 (lnum zs F.length)) ((List.range (K.length / 2)).map (fun i => F.length + (pos zs).length + i)) := mgk_app _ _ _ _
  have hcs : (isk F2 (lnum zs F.length ++ (List.range (K.length / 2)).map (fun i => F.length + (pos zs).length + i))).map (fk F2) = Ar (base zs) (t + 1) := by
    rw [hiskA, mgk_mapf (c := co F2) (c' := fun x : Nat × Bool => x.1) (f := fk F2) _ _ (fun x _ => rfl), hl2, hfkN]
    rfl
  have hLl : (isk F2 (lnum zs F.length)).length = (pos zs).length := by rw [isk_len]; unfold lnum; rw [List.length_map, List.length_range]
  refine ⟨wf2, ?_, ?_, ?_, ?_, hcs, ?_⟩
  · refine List.pairwise_append.2 ⟨asc_add _ _, asc_add _ _, fun a ha b hb => ?_⟩
    have := lnum_mem ha
    obtain ⟨i, _, rfl⟩ := List.mem_map.1 hb
    omega
  · intro k hk
    rcases List.mem_append.1 hk with hk | hk
    · have := lnum_mem hk; omega
    · obtain ⟨i, hi, rfl⟩ := List.mem_map.1 hk
      have := List.mem_range.1 hi
      omega
  · have h1 := h.bd
    have h2 := h.len
    have h3 := row_two (base zs) t
    rw [base_plen] at h3
    omega
  · intro k hk e
    by_cases h1 : k < F.length
    · unfold sy
      rw [hold k h1] at e ⊢
      exact h.lf k h1 e
    · by_cases h2 : k < F.length + (pos zs).length
      · unfold sy
        rw [hlfk k (by omega) h2]
        exact getD_mem (by omega)
      · have hq : k - (F.length + (pos zs).length) < K.length / 2 := by omega
        have := hnode _ hq
        rw [show F.length + (pos zs).length + (k - (F.length + (pos zs).length)) = k by omega] at this
        rw [this] at e
        cases e
  · intro k hk j hj
    have hPr := pref_all (c := co F2) (xs := isk F2 (lnum zs F.length)) (mgk_srk List.Pairwise.nil) _ ((List.range (K.length / 2)).map (fun i => F.length + (pos zs).length + i)) rfl (by
      have : Srt (((List.range (K.length / 2)).map (fun i => F.length + (pos zs).length + i)).map (co F2)) := by
        rw [hcoN, hcs0]
        exact pr_srt (row_srt (srt_srt _) t)
      exact List.pairwise_map.1 this)
    rw [← hiskA] at hPr
    obtain ⟨e, p, g1, g2, g3, g4, _, _⟩ := hPr k (by rw [isk_len]; exact hk)
    have hen : en (base zs) (t + 1) k = e := by
      unfold en
      rw [← hcs, ← List.map_take, ((g4.map (fk F2)).filter _).length_eq, List.map_append, List.filter_append, List.length_append, List.map_take, List.map_take, hl2, hfkN, ← List.map_take, ← List.map_take, tag_cnt, tag_cnt, List.length_take, base_plen]
      rw [hLl] at g2
      simp
      omega
    rw [lev_succ, hen, show k - e = p by omega]
    have g5 : tsum F2 ((isk F2 (lnum zs F.length ++ (List.range (K.length / 2)).map (fun i => F.length + (pos zs).length + i))).take k) (ordS zs)[j] = tsum F2 ((isk F2 (lnum zs F.length)).take e) (ordS zs)[j] + tsum F2 (((List.range (K.length / 2)).map (fun i => F.length + (pos zs).length + i)).take p) (ordS zs)[j] := by
      unfold tsum
      rw [(g4.map _).sum_nat, List.map_append, List.sum_append]
    have g6 : tsum F2 (((List.range (K.length / 2)).map (fun i => F.length + (pos zs).length + i)).take p) (ordS zs)[j] = tsum F (sk.take (2 * p)) (ordS zs)[j] := by
      unfold tsum
      rw [List.map_take, htlN]
      rw [List.length_map, List.length_range] at g3
      have := ps_pr (sk.map (fun x => tl F x (ordS zs)[j])) p (by rw [List.length_map, hskl]; omega)
      unfold ps at this
      rw [this, List.map_take]
    rw [g5, g6, leaf_sum hF2 e j hj]
    rw [List.length_map, List.length_range] at g3
    have g7 := h.ta (2 * p) (by omega) j hj
    rw [hS] at g7
    rw [g7]
end Go.Proofs.Ythpocbpleffdpaa.Pm

namespace Go.Proofs.Ythpocbpleffdpaa.Pm
set_option linter.unusedVariables false
def sp1 (zs : List Int) (S : List Nd × List Nat) : List Nd × List Nat :=
  ((prs (S.2.length / 2) (S.1 ++ lv zs zs.length, S.2, [])).1, lnum zs S.1.length ++ (prs (S.2.length / 2) (S.1 ++ lv zs zs.length, S.2, [])).2.2)
def spS (zs : List Int) : Nat → List Nd × List Nat
  | 0 => (lv zs zs.length, List.range (pos zs).length)
  | t + 1 => sp1 zs (spS zs t)
theorem spS_lv {zs : List Int} (hl : zs.length ≤ 320) : ∀ t, t ≤ 1000 → Lv zs t (spS zs t).1 (spS zs t).2
  | 0, _ => lv_zero zs hl
  | t + 1, h => lv_step (spS_lv hl t (by omega)) hl (by omega)
theorem lvs_pos {zs : List Int} {F : List Nd} (h : Wf F) (hf : ∀ k, k < F.length → (F.getD k nd0).2.2 = none → sy F k ∈ pos zs) : ∀ n k d, k < n → k < F.length → ∀ x ∈ lvs F k d, x.1 ∈ pos zs
  | 0, k, d, hk, _, _, _ => by omega
  | n + 1, k, d, hk, hkF, x, hx => by
    cases e : (F.getD k nd0).2.2 with
    | none =>
      rw [lvs_leaf d e] at hx
      have : x = ((F.getD k nd0).2.1, d) := by simpa using hx
      rw [this]
      exact hf k hkF e
    | some p =>
      obtain ⟨_, h3, h4⟩ := wf_kid h e
      rw [lvs_node h d e] at hx
      rcases List.mem_append.1 hx with hx | hx
      · exact lvs_pos h hf n p.1 (d + 1) (by omega) (by omega) x hx
      · exact lvs_pos h hf n p.2 (d + 1) (by omega) (by omega) x hx
theorem tl_not {zs : List Int} {F : List Nd} (h : Wf F) (hf : ∀ k, k < F.length → (F.getD k nd0).2.2 = none → sy F k ∈ pos zs) {k s : Nat} (hk : k < F.length) (hs : s ∉ pos zs) : tl F k s = 0 := by
  unfold tl
  rw [List.filter_eq_nil_iff.2]
  · rfl
  · intro x hx
    have := lvs_pos h hf (k + 1) k 0 (by omega) hk x hx
    simp only [decide_eq_true_eq]
    intro e
    exact hs (e ▸ this)
/-- What weighs as much as the whole at one depth does so at each. -/
theorem kraft_any (l : List Nat) (f : Nat → Nat) {L D : Nat} (hL : ∀ s ∈ l, f s ≤ L) (hD : ∀ s ∈ l, f s ≤ D) (h : (l.map (fun s => 2 ^ (L - f s))).sum = 2 ^ L) : (l.map (fun s => 2 ^ (D - f s))).sum = 2 ^ D := by
  have key : ∀ l : List Nat, (∀ s ∈ l, f s ≤ L) → (∀ s ∈ l, f s ≤ D) → (l.map (fun s => 2 ^ (D - f s))).sum * 2 ^ L = (l.map (fun s => 2 ^ (L - f s))).sum * 2 ^ D := by
    intro l
    induction l with
    | nil => intro _ _; simp
    | cons a l ih =>
      intro h1 h2
      have ih := ih (fun s hs => h1 s (by simp [hs])) (fun s hs => h2 s (by simp [hs]))
      have a1 := h1 a (by simp)
      have a2 := h2 a (by simp)
      have : 2 ^ (D - f a) * 2 ^ L = 2 ^ (L - f a) * 2 ^ D := by rw [← Nat.pow_add, ← Nat.pow_add]; congr 1; omega
      simp only [List.map_cons, List.sum_cons, Nat.add_mul]
      omega
  have h1 := key l hL hD
  rw [h, Nat.mul_comm] at h1
  exact Nat.eq_of_mul_eq_mul_left (Nat.two_pow_pos L) h1
theorem map_idx (l : List Nat) (g : Nat → Nat) : l.map g = (List.range l.length).map (fun j => g (l.getD j 0)) := by
  apply List.ext_getElem
  · simp
  · intro i h1 h2
    simp only [List.getElem_map, List.getElem_range]
    rw [List.getD_eq_getElem?_getD, List.getElem?_eq_getElem (by simpa using h1)]
    rfl
theorem spent_hz {zs Z : List Int} {L : Nat} (hl : zs.length ≤ 320) (h2 : 2 ≤ (pos zs).length) (hL1 : 1 ≤ L) (hL2 : L ≤ 1000) (hr : 2 * (pos zs).length - 2 ≤ (row (base zs) (L - 1)).length) (hZl : Z.length = zs.length)
    (hZ : ∀ i, i < zs.length → Z.getD i 0 = ((tsum (spS zs (L - 1)).1 (pks (spS zs (L - 1)).1 (2 * (pos zs).length - 2) (spS zs (L - 1)).2) i : Nat) : Int)) :
    Hz zs Z ∧ ltot zs Z = ps (row (base zs) (L - 1)) (2 * (pos zs).length - 2) ∧ (∀ s ∈ pos zs, (Z.getD s 0).toNat ≤ L) ∧ ∀ s ∈ pos zs, ∀ s' ∈ pos zs, cnv zs s' < cnv zs s → Z.getD s 0 ≤ Z.getD s' 0 := by
  have hv := spS_lv hl (L - 1) (by omega)
  obtain ⟨F, hF⟩ : ∃ F, F = (spS zs (L - 1)).1 := ⟨_, rfl⟩
  obtain ⟨K, hK⟩ : ∃ K, K = (spS zs (L - 1)).2 := ⟨_, rfl⟩
  rw [← hF, ← hK] at hv hZ
  have hlen := hv.len
  have hb63 : ∀ k ∈ K, k < 9223372036854775808 := fun k hk => by have := hv.kl k hk; have := hv.bd; omega
  have hpk : pks F (2 * (pos zs).length - 2) K = (isk F K).take (2 * (pos zs).length - 2) := by rw [pks_take _ K.length K (by omega), pks_isk hv.asc hb63]
  rw [hpk] at hZ
  have hbl := base_plen zs
  have hol := ordS_len zs
  have hZo : ∀ j (hj : j < (ordS zs).length), Z.getD (ordS zs)[j] 0 = ((lev (base zs) (L - 1) (2 * (base zs).length - 2) j : Nat) : Int) := by
    intro j hj
    have hm : (ordS zs)[j] ∈ pos zs := (ordS_perm zs).mem_iff.1 (List.getElem_mem _)
    rw [hZ _ (pos_mem.1 hm).1, hv.ta _ (by omega) j hj, hbl]
  have hsj : ∀ s ∈ pos zs, ∃ j, ∃ (hj : j < (ordS zs).length), (ordS zs)[j] = s := fun s hs => by
    obtain ⟨j, hj, e⟩ := List.mem_iff_getElem.1 ((ordS_perm zs).mem_iff.2 hs)
    exact ⟨j, hj, e⟩
  obtain ⟨k1, k2⟩ := lev_kraft (W := base zs) (srt_srt _) (base_pos zs) (by omega) (t := L - 1) (by rw [hbl]; exact hr)
  rw [show L - 1 + 1 = L by omega] at k1
  have hle : ∀ s ∈ pos zs, (Z.getD s 0).toNat ≤ L := fun s hs => by
    obtain ⟨j, hj, rfl⟩ := hsj s hs
    rw [hZo j hj, Int.toNat_natCast]
    have := lev_le (base zs) (L - 1) (2 * (base zs).length - 2) j
    omega
  have hgd : ∀ j, j < (ordS zs).length → ∃ hj : j < (ordS zs).length, (ordS zs).getD j 0 = (ordS zs)[j] := fun j hj => ⟨hj, by rw [List.getD_eq_getElem?_getD, List.getElem?_eq_getElem hj]; rfl⟩
  refine ⟨⟨hZl, ?_, ?_, ?_⟩, ?_, hle, ?_⟩
  · intro i hi
    by_cases hil : i < zs.length
    · rw [hZ i hil]
      have : tsum F ((isk F K).take (2 * (pos zs).length - 2)) i = 0 := by
        unfold tsum
        have e : ((isk F K).take (2 * (pos zs).length - 2)).map (fun x => tl F x i) = ((isk F K).take (2 * (pos zs).length - 2)).map (fun _ => 0) := List.map_congr_left (fun x hx => tl_not hv.wf hv.lf (hv.kl x ((isk_perm F K).mem_iff.1 (List.mem_of_mem_take hx))) hi)
        rw [e, sum_zeros]
      rw [this]
      rfl
    · rw [List.getD_eq_getElem?_getD, List.getElem?_eq_none (by omega)]
      rfl
  · intro s hs
    obtain ⟨j, hj, rfl⟩ := hsj s hs
    rw [hZo j hj]
    have := k2 j (by omega)
    omega
  · intro D hD
    refine kraft_any (pos zs) (fun s => (Z.getD s 0).toNat) hle hD ?_
    rw [← ((ordS_perm zs).map (fun s => 2 ^ (L - (Z.getD s 0).toNat))).sum_nat, map_idx, hol, ← hbl, ← k1]
    congr 1
    refine List.map_congr_left (fun j hj => ?_)
    have hj2 := List.mem_range.1 hj
    obtain ⟨hj3, e⟩ := hgd j (by omega)
    rw [e, hZo j hj3, Int.toNat_natCast]
  · unfold ltot
    rw [← ((ordS_perm zs).map (fun s => cnv zs s * (Z.getD s 0).toNat)).sum_nat, map_idx, hol, ← hbl, ← lev_cost (W := base zs) (srt_srt _) (L - 1) (2 * (base zs).length - 2) (by rw [ar_len, hbl]; exact hr)]
    congr 1
    refine List.map_congr_left (fun j hj => ?_)
    have hj2 := List.mem_range.1 hj
    obtain ⟨hj3, e⟩ := hgd j (by omega)
    rw [e, hZo j hj3, Int.toNat_natCast]
    congr 1
    rw [← ordS_base, List.getD_eq_getElem?_getD, List.getElem?_map, List.getElem?_eq_getElem hj3]
    rfl
  · intro s hs s' hs' hc
    obtain ⟨j, hj, rfl⟩ := hsj s hs
    obtain ⟨j', hj', rfl⟩ := hsj s' hs'
    rw [hZo j hj, hZo j' hj']
    have hjj : j' < j := by
      rcases Nat.lt_or_ge j' j with h | h
      · exact h
      · exfalso
        have hsb : Srt ((ordS zs).map (cnv zs)) := by rw [ordS_base]; exact srt_srt _
        have h5 : cnv zs (ordS zs)[j] ≤ cnv zs (ordS zs)[j'] := by
          rcases Nat.lt_or_ge j j' with h6 | h6
          · have := List.pairwise_iff_getElem.1 hsb j j' (by simpa using hj) (by simpa using hj') h6
            simpa using this
          · have : j = j' := by omega
            subst this
            exact Nat.le_refl _
        omega
    have := lev_mono (base zs) (L - 1) (2 * (base zs).length - 2) j' j (by omega)
    omega
end Go.Proofs.Ythpocbpleffdpaa.Pm
