/- Mathematics of coins: rows merged, which coins the first ones are, how often each symbol is among them, and that it is so from the widest coin on. It names no program. -/
import Derived.Test.YthpocbpleffdpaaMb
namespace Go.Proofs.Ythpocbpleffdpaa.Pm
set_option linter.unusedVariables false
/-- Into a list that rises by cost, behind all that cost no more. -/
def insk {α : Type} (c : α → Nat) (y : α) : List α → List α
  | [] => [y]
  | a :: t => if c a ≤ c y then a :: insk c y t else y :: a :: t
theorem insk_perm {α : Type} (c : α → Nat) (y : α) : ∀ l, (insk c y l).Perm (y :: l)
  | [] => List.Perm.refl _
  | a :: t => by
    unfold insk
    split
    · exact ((insk_perm c y t).cons a).trans (List.Perm.swap y a t)
    · exact List.Perm.refl _
abbrev Srk {α : Type} (c : α → Nat) (l : List α) : Prop := l.Pairwise (fun a b => c a ≤ c b)
theorem insk_split {α : Type} (c : α → Nat) (y : α) : ∀ l, Srk c l → ∃ q, q ≤ l.length ∧ insk c y l = l.take q ++ y :: l.drop q ∧ (∀ x ∈ l.take q, c x ≤ c y) ∧ ∀ x ∈ l.drop q, c y < c x
  | [], _ => ⟨0, Nat.le_refl _, rfl, fun x hx => by simp at hx, fun x hx => by simp at hx⟩
  | a :: t, h => by
    have h1 := List.pairwise_cons.1 h
    unfold insk
    split
    · rename_i hay
      obtain ⟨q, g1, g2, g3, g4⟩ := insk_split c y t h1.2
      refine ⟨q + 1, by simpa using g1, by rw [g2]; rfl, fun x hx => ?_, fun x hx => g4 x (by simpa using hx)⟩
      rw [List.take_succ_cons] at hx
      rcases List.mem_cons.1 hx with rfl | hx
      · exact hay
      · exact g3 x hx
    · rename_i hay
      refine ⟨0, Nat.zero_le _, rfl, fun x hx => by simp at hx, fun x hx => ?_⟩
      simp only [List.drop_zero] at hx
      rcases List.mem_cons.1 hx with rfl | hx
      · omega
      · have := h1.1 x hx; omega
theorem insk_srk {α : Type} {c : α → Nat} {y : α} : ∀ {l : List α}, Srk c l → Srk c (insk c y l)
  | [], _ => List.pairwise_singleton _ _
  | a :: t, h => by
    unfold insk
    have h1 := List.pairwise_cons.1 h
    split
    · rename_i hax
      refine List.pairwise_cons.2 ⟨fun z hz => ?_, insk_srk h1.2⟩
      rcases List.mem_cons.1 ((insk_perm c y t).mem_iff.1 hz) with rfl | hz
      · exact hax
      · exact h1.1 z hz
    · rename_i hax
      refine List.pairwise_cons.2 ⟨fun z hz => ?_, h⟩
      rcases List.mem_cons.1 hz with rfl | hz
      · omega
      · have := h1.1 z hz; omega
def mgk {α : Type} (c : α → Nat) (xs ys : List α) : List α := ys.foldl (fun l y => insk c y l) xs
theorem mgk_perm {α : Type} (c : α → Nat) : ∀ (ys xs : List α), (mgk c xs ys).Perm (xs ++ ys)
  | [], xs => by simp [mgk]
  | y :: t, xs => by
    unfold mgk
    simp only [List.foldl_cons]
    refine (mgk_perm c t (insk c y xs)).trans ?_
    exact ((insk_perm c y xs).append_right t).trans List.perm_middle.symm
theorem mgk_srk {α : Type} {c : α → Nat} : ∀ {ys xs : List α}, Srk c xs → Srk c (mgk c xs ys)
  | [], _, h => h
  | y :: t, xs, h => mgk_srk (ys := t) (insk_srk h)
/-- A beginning of what was merged is a beginning of each. -/
def Pref {α : Type} (c : α → Nat) (l xs ys : List α) : Prop :=
  ∀ k, k ≤ l.length → ∃ e p, e + p = k ∧ e ≤ xs.length ∧ p ≤ ys.length ∧ (l.take k).Perm (xs.take e ++ ys.take p) ∧ (l.drop k).Perm (xs.drop e ++ ys.drop p) ∧ ∀ y ∈ ys.take p, ∀ x ∈ xs.drop e, c y < c x
theorem pref_nil {α : Type} (c : α → Nat) (xs : List α) : Pref c xs xs [] := fun k hk => ⟨k, 0, rfl, hk, Nat.le_refl _, by simp, by simp, fun y hy => by simp at hy⟩
theorem pref_snoc {α : Type} {c : α → Nat} {l xs ys : List α} (h : Pref c l xs ys) (hl : Srk c l) (y : α) (hy : ∀ z ∈ ys, c z ≤ c y) (hlp : l.Perm (xs ++ ys)) : Pref c (insk c y l) xs (ys ++ [y]) := by
  obtain ⟨q, q1, q2, q3, q4⟩ := insk_split c y l hl
  intro k hk
  have hkl : k ≤ l.length + 1 := by have := (insk_perm c y l).length_eq; simp at this; omega
  rw [q2]
  by_cases hkq : k ≤ q
  · obtain ⟨e, p, h1, h2, h3, h4, h5, h6⟩ := h k (by omega)
    have e1 : (l.take q ++ y :: l.drop q).take k = l.take k := by
      rw [List.take_append_of_le_length (by rw [List.length_take]; omega), List.take_take, Nat.min_eq_left hkq]
    have e2 : (l.take q ++ y :: l.drop q).drop k = (l.take q).drop k ++ y :: l.drop q := by
      rw [List.drop_append_of_le_length (by rw [List.length_take]; omega)]
    have e3 : l.drop k = (l.take q).drop k ++ l.drop q := by
      conv => lhs; rw [← List.take_append_drop q l]
      rw [List.drop_append_of_le_length (by rw [List.length_take]; omega)]
    refine ⟨e, p, h1, h2, by simp; omega, ?_, ?_, ?_⟩
    · rw [e1, List.take_append_of_le_length h3]; exact h4
    · rw [e2, List.drop_append_of_le_length h3]
      refine List.perm_middle.trans ?_
      rw [← e3]
      refine (h5.cons y).trans ?_
      rw [← List.append_assoc]
      exact List.perm_append_comm (l₁ := [y])
    · rw [List.take_append_of_le_length h3]; exact h6
  · obtain ⟨j, rfl⟩ : ∃ j, k = j + 1 := ⟨k - 1, by omega⟩
    obtain ⟨e, p, h1, h2, h3, h4, h5, h6⟩ := h j (by omega)
    have hqj : q ≤ j := by omega
    have e0 : (l.take q ++ y :: l.drop q).Perm (y :: l) := by
      refine List.perm_middle.trans ?_
      rw [List.take_append_drop]
    have e1 : (l.take q ++ y :: l.drop q).take (j + 1) = l.take q ++ y :: (l.drop q).take (j - q) := by
      rw [List.take_append, List.length_take, Nat.min_eq_left q1, List.take_of_length_le (by rw [List.length_take]; omega), show j + 1 - q = j - q + 1 by omega, List.take_succ_cons]
    have e2 : (l.take q ++ y :: l.drop q).drop (j + 1) = l.drop j := by
      rw [List.drop_append, List.length_take, Nat.min_eq_left q1, List.drop_of_length_le (by rw [List.length_take]; omega), show j + 1 - q = j - q + 1 by omega, List.drop_succ_cons, List.drop_drop, List.nil_append]
      congr 1
      omega
    have e3 : l.take q ++ (l.drop q).take (j - q) = l.take j := by
      rw [← List.take_add]
      congr 1
      omega
    have hgt : ∀ x ∈ l.drop j, c y < c x := fun x hx => by
      have : x ∈ l.drop q := by
        have e4 : l.drop j = (l.drop q).drop (j - q) := by rw [List.drop_drop]; congr 1; omega
        rw [e4] at hx
        exact List.mem_of_mem_drop hx
      exact q4 x this
    have hp : ys.drop p = [] := by
      rcases hd : ys.drop p with _ | ⟨z, r⟩
      · rfl
      · have hz : z ∈ ys.drop p := by rw [hd]; simp
        have h7 : z ∈ l.drop j := h5.mem_iff.2 (List.mem_append.2 (.inr hz))
        have h8 := hgt z h7
        have h9 := hy z (List.mem_of_mem_drop hz)
        omega
    have hpl : p = ys.length := by have := congrArg List.length hp; simp at this; omega
    subst hpl
    refine ⟨e, ys.length + 1, by omega, h2, by simp, ?_, ?_, ?_⟩
    · rw [e1, List.take_of_length_le (l := ys ++ [y]) (by simp)]
      refine List.perm_middle.trans ?_
      rw [e3]
      rw [List.take_of_length_le (l := ys) (Nat.le_refl _)] at h4
      refine (h4.cons y).trans ?_
      rw [← List.append_assoc]
      exact List.perm_append_comm (l₁ := [y])
    · rw [e2, List.drop_of_length_le (l := ys ++ [y]) (by simp)]
      rw [hp] at h5
      exact h5
    · intro z hz x hx
      have hx2 : c y < c x := hgt x (h5.mem_iff.2 (List.mem_append.2 (.inl hx)))
      rw [List.take_of_length_le (l := ys ++ [y]) (by simp)] at hz
      rcases List.mem_append.1 hz with hz | hz
      · have := hy z hz; omega
      · have : z = y := by simpa using hz
        subst this
        exact hx2
theorem pref_all {α : Type} {c : α → Nat} {xs : List α} (hx : Srk c xs) : ∀ (n : Nat) (ys : List α), ys.length = n → Srk c ys → Pref c (mgk c xs ys) xs ys
  | 0, ys, hn, _ => by
    have : ys = [] := List.length_eq_zero_iff.1 hn
    subst this
    exact pref_nil c xs
  | n + 1, ys, hn, hy => by
    have hne : ys ≠ [] := fun e => by rw [e] at hn; simp at hn
    have e : ys = ys.dropLast ++ [ys.getLast hne] := (List.dropLast_concat_getLast hne).symm
    have hy2 : Srk c (ys.dropLast ++ [ys.getLast hne]) := by rw [← e]; exact hy
    have h1 := List.pairwise_append.1 hy2
    have ih := pref_all hx n ys.dropLast (by rw [List.length_dropLast]; omega) h1.1
    have e2 : mgk c xs ys = insk c (ys.getLast hne) (mgk c xs ys.dropLast) := by
      conv => lhs; rw [e]
      unfold mgk
      rw [List.foldl_append]
      rfl
    rw [e2]
    conv => rhs; rw [e]
    exact pref_snoc ih (mgk_srk hx) _ (fun z hz => h1.2.2 z hz _ (by simp)) (mgk_perm c _ _)
/-- The rows, with what is a symbol's own coin. -/
def Ar (W : List Nat) : Nat → List (Nat × Bool)
  | 0 => W.map (fun x => (x, true))
  | t + 1 => mgk (·.1) (W.map (fun x => (x, true))) ((pr ((Ar W t).map (·.1))).map (fun x => (x, false)))
theorem insk_map (y : Nat) (b : Bool) : ∀ l : List (Nat × Bool), (insk (·.1) (y, b) l).map (·.1) = ins y (l.map (·.1))
  | [] => rfl
  | a :: t => by
    unfold insk ins
    simp only [List.map_cons]
    split
    · rw [List.map_cons, insk_map y b t]
    · rfl
theorem mgk_map (b : Bool) : ∀ (ys : List Nat) (l : List (Nat × Bool)), (mgk (·.1) l (ys.map (fun x => (x, b)))).map (·.1) = ys.foldl (fun l x => ins x l) (l.map (·.1))
  | [], l => rfl
  | y :: t, l => by
    simp only [mgk, List.map_cons, List.foldl_cons]
    have := mgk_map b t (insk (·.1) (y, b) l)
    unfold mgk at this
    rw [this, insk_map]
theorem tag_fst (W : List Nat) (b : Bool) : (W.map (fun x => (x, b))).map (·.1) = W := by rw [List.map_map]; simp [Function.comp_def]
theorem ar_row (W : List Nat) : ∀ t, (Ar W t).map (·.1) = row W t
  | 0 => tag_fst W true
  | t + 1 => by
    simp only [Ar, row]
    rw [mgk_map, ar_row W t, tag_fst]
theorem ar_len (W : List Nat) (t : Nat) : (Ar W t).length = (row W t).length := by rw [← ar_row, List.length_map]
theorem srk_tag {W : List Nat} (h : Srt W) (b : Bool) : Srk (·.1) (W.map (fun x => (x, b))) := List.pairwise_map.2 h
/-- How many of the first k are symbols' own. -/
def en (W : List Nat) (t k : Nat) : Nat := (((Ar W t).take k).filter (·.2)).length
theorem tag_cnt (b : Bool) (l : List Nat) : ((l.map (fun x => (x, b))).filter (·.2)).length = if b then l.length else 0 := by
  cases b with
  | true => rw [List.filter_eq_self.2 (fun x hx => by obtain ⟨y, _, rfl⟩ := List.mem_map.1 hx; rfl), List.length_map]; rfl
  | false => rw [List.filter_eq_nil_iff.2 (fun x hx => by obtain ⟨y, _, rfl⟩ := List.mem_map.1 hx; simp)]; rfl
/-- What the first k are. -/
theorem en_zero {W : List Nat} {k : Nat} (hk : k ≤ W.length) : en W 0 k = k := by
  unfold en Ar
  rw [← List.map_take, tag_cnt, List.length_take, Nat.min_eq_left hk]
  rfl
theorem en_succ {W : List Nat} (hW : Srt W) {t k : Nat} (hk : k ≤ (Ar W (t + 1)).length) : en W (t + 1) k ≤ W.length ∧ en W (t + 1) k ≤ k ∧ 2 * (k - en W (t + 1) k) ≤ (row W t).length ∧
    (∀ y ∈ (pr (row W t)).take (k - en W (t + 1) k), ∀ x ∈ W.drop (en W (t + 1) k), y < x) ∧ ((Ar W (t + 1)).take k).Perm ((W.take (en W (t + 1) k)).map (fun x => (x, true)) ++ ((pr (row W t)).take (k - en W (t + 1) k)).map (fun x => (x, false))) := by
  have hP := pref_all (srk_tag hW true) _ ((pr ((Ar W t).map (·.1))).map (fun x => (x, false))) rfl (by rw [ar_row]; exact srk_tag (pr_srt (row_srt hW t)) false)
  obtain ⟨e, p, h1, h2, h3, h4, h5, h6⟩ := hP k hk
  have he : en W (t + 1) k = e := by
    unfold en
    have := (h4.filter (·.2)).length_eq
    rw [show (Ar W (t + 1)) = mgk (·.1) (W.map (fun x => (x, true))) ((pr ((Ar W t).map (·.1))).map (fun x => (x, false))) from rfl, this, List.filter_append, List.length_append, ← List.map_take, ← List.map_take, tag_cnt, tag_cnt, List.length_take]
    rw [List.length_map] at h2
    simp
    omega
  rw [ar_row] at h3 h4 h6
  rw [List.length_map] at h2 h3
  rw [pr_len] at h3
  have hp : k - e = p := by omega
  rw [he, hp]
  refine ⟨h2, by omega, by omega, fun y hy x hx => ?_, ?_⟩
  · have := h6 (y, false) (by rw [← List.map_take]; exact List.mem_map.2 ⟨y, hy, rfl⟩) (x, true) (by rw [← List.map_drop]; exact List.mem_map.2 ⟨x, hx, rfl⟩)
    exact this
  · rw [List.map_take, List.map_take]
    show ((mgk (·.1) (W.map (fun x => (x, true))) ((pr ((Ar W t).map (·.1))).map (fun x => (x, false)))).take k).Perm _
    rw [ar_row]
    exact h4
end Go.Proofs.Ythpocbpleffdpaa.Pm
