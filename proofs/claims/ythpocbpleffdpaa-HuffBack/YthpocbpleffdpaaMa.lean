/- Mathematics of coins: rows that rise, put together two by two, and what the first of them cost. It names no program. -/
import Derived.Test.YthpocbpleffdpaaHi
namespace Go.Proofs.Ythpocbpleffdpaa.Pm
set_option linter.unusedVariables false
/-- The first k, summed up. -/
def ps (l : List Nat) (k : Nat) : Nat := (l.take k).sum
/-- It rises. -/
abbrev Srt (l : List Nat) : Prop := l.Pairwise (· ≤ ·)
/-- A number into a list that rises. -/
def ins (x : Nat) : List Nat → List Nat
  | [] => [x]
  | a :: t => if a ≤ x then a :: ins x t else x :: a :: t
def srt : List Nat → List Nat
  | [] => []
  | a :: t => ins a (srt t)
/-- Two by two. -/
def pr : List Nat → List Nat
  | a :: b :: t => (a + b) :: pr t
  | _ => []
theorem ps_zero (l : List Nat) : ps l 0 = 0 := by simp [ps]
theorem ps_nil (k : Nat) : ps [] k = 0 := by simp [ps]
theorem ps_cons (a : Nat) (l : List Nat) (k : Nat) : ps (a :: l) (k + 1) = a + ps l k := by simp [ps]
theorem ps_all (l : List Nat) : ps l l.length = l.sum := by simp [ps]
theorem ps_le_sum (l : List Nat) (k : Nat) : ps l k ≤ l.sum := by
  unfold ps
  conv => rhs; rw [← List.take_append_drop k l]
  rw [List.sum_append]
  omega
theorem ins_perm (x : Nat) : ∀ l, (ins x l).Perm (x :: l)
  | [] => List.Perm.refl _
  | a :: t => by
    unfold ins
    split
    · exact ((ins_perm x t).cons a).trans (List.Perm.swap x a t)
    · exact List.Perm.refl _
theorem ins_srt {x : Nat} : ∀ {l : List Nat}, Srt l → Srt (ins x l)
  | [], _ => List.pairwise_singleton _ _
  | a :: t, h => by
    unfold ins
    have h1 := List.pairwise_cons.1 h
    split
    · rename_i hax
      refine List.pairwise_cons.2 ⟨fun y hy => ?_, ins_srt h1.2⟩
      rcases List.mem_cons.1 ((ins_perm x t).mem_iff.1 hy) with rfl | hy
      · exact hax
      · exact h1.1 y hy
    · rename_i hax
      refine List.pairwise_cons.2 ⟨fun y hy => ?_, h⟩
      rcases List.mem_cons.1 hy with rfl | hy
      · omega
      · have := h1.1 y hy; omega
theorem srt_perm : ∀ l, (srt l).Perm l
  | [] => List.Perm.refl _
  | a :: t => (ins_perm a (srt t)).trans ((srt_perm t).cons a)
theorem srt_srt : ∀ l, Srt (srt l)
  | [] => List.Pairwise.nil
  | a :: t => ins_srt (srt_srt t)
theorem srt_uniq : ∀ {l m : List Nat}, Srt l → Srt m → l.Perm m → l = m
  | [], m, _, _, h => (List.nil_perm.1 h).symm
  | a :: l, [], _, _, h => by have := h.length_eq; simp at this
  | a :: l, b :: m, h1, h2, h => by
    have a1 := List.pairwise_cons.1 h1
    have a2 := List.pairwise_cons.1 h2
    have e : a = b := by
      have h3 : a ∈ b :: m := h.mem_iff.1 (by simp)
      have h4 : b ∈ a :: l := h.mem_iff.2 (by simp)
      have h5 : a = b ∨ a ∈ m := by simpa using h3
      have h6 : b = a ∨ b ∈ l := by simpa using h4
      rcases h5 with e | e
      · exact e
      · rcases h6 with e' | e'
        · exact e'.symm
        · exact Nat.le_antisymm (a1.1 b e') (a2.1 a e)
    subst e
    rw [srt_uniq a1.2 a2.2 h.cons_inv]
/-- The least that some number of them may cost. -/
theorem minsum : ∀ {z s r : List Nat}, Srt z → (s ++ r).Perm z → ps z s.length ≤ s.sum
  | [], s, r, _, h => by
    have : s ++ r = [] := List.perm_nil.1 h
    simp at this
    rw [this.1]; simp [ps]
  | a :: t, s, r, hz, h => by
    have h1 := List.pairwise_cons.1 hz
    by_cases ha : a ∈ s
    · have p1 := List.perm_cons_erase ha
      have p2 : (s.erase a ++ r).Perm t := List.Perm.cons_inv (a := a) (((p1.append_right r).symm).trans h)
      have ih := minsum h1.2 p2
      have e1 : s.length = (s.erase a).length + 1 := by have := p1.length_eq; simpa using this
      have e2 : s.sum = a + (s.erase a).sum := by have := p1.sum_nat; simpa using this
      rw [e1, ps_cons, e2]
      omega
    · have hr : a ∈ r := by
        have : a ∈ s ++ r := h.mem_iff.2 (by simp)
        rcases List.mem_append.1 this with h | h
        · exact absurd h ha
        · exact h
      have p1 := List.perm_cons_erase hr
      have p2 : (s ++ r.erase a).Perm t := by
        refine List.Perm.cons_inv (a := a) (List.Perm.trans ?_ h)
        exact List.perm_middle.symm.trans (p1.symm.append_left s)
      have ih := minsum h1.2 p2
      refine Nat.le_trans ?_ ih
      have hl : s.length ≤ t.length := by have := p2.length_eq; rw [List.length_append] at this; omega
      cases hs : s.length with
      | zero => simp [ps]
      | succ n =>
        rw [ps_cons]
        have hn : n < t.length := by omega
        have : ps t (n + 1) = ps t n + t[n] := by
          unfold ps
          rw [List.take_add_one, List.sum_append, List.getElem?_eq_getElem hn]
          simp
        rw [this]
        have := h1.1 t[n] (List.getElem_mem _)
        omega
/-- Lists that make the same two ways are parted alike. -/
theorem refine4 : ∀ {u v x y : List Nat}, (u ++ v).Perm (x ++ y) → ∃ s1 s2 r1 r2 : List Nat, (s1 ++ s2).Perm u ∧ (r1 ++ r2).Perm v ∧ (s1 ++ r1).Perm x ∧ (s2 ++ r2).Perm y
  | [], v, x, y, h => ⟨[], [], x, y, List.Perm.refl _, h.symm, List.Perm.refl _, List.Perm.refl _⟩
  | a :: u, v, x, y, h => by
    have ha : a ∈ x ++ y := h.mem_iff.1 (by simp)
    by_cases hx : a ∈ x
    · have p1 := List.perm_cons_erase hx
      have p2 : (u ++ v).Perm (x.erase a ++ y) := List.Perm.cons_inv (a := a) (h.trans (p1.append_right y))
      obtain ⟨s1, s2, r1, r2, q1, q2, q3, q4⟩ := refine4 p2
      exact ⟨a :: s1, s2, r1, r2, q1.cons a, q2, (q3.cons a).trans p1.symm, q4⟩
    · have hy : a ∈ y := (List.mem_append.1 ha).resolve_left hx
      have p1 := List.perm_cons_erase hy
      have p2 : (u ++ v).Perm (x ++ y.erase a) := by
        refine List.Perm.cons_inv (a := a) (h.trans ?_)
        exact (p1.append_left x).trans List.perm_middle
      obtain ⟨s1, s2, r1, r2, q1, q2, q3, q4⟩ := refine4 p2
      exact ⟨s1, a :: s2, r1, r2, List.perm_middle.trans (q1.cons a), q2, q3, (q4.cons a).trans p1.symm⟩
/-- As many, and no dearer ones. -/
def Dom (r A : List Nat) : Prop := A.length ≤ r.length ∧ ∀ k, k ≤ A.length → ps r k ≤ ps A k
theorem Dom.refl (r : List Nat) : Dom r r := ⟨Nat.le_refl _, fun _ _ => Nat.le_refl _⟩
theorem Dom.sub {base S R : List Nat} (hb : Srt base) (h : (S ++ R).Perm base) : Dom base S := by
  have hl := h.length_eq
  rw [List.length_append] at hl
  refine ⟨by omega, fun k hk => ?_⟩
  have p : (S.take k ++ (S.drop k ++ R)).Perm base := by
    rw [← List.append_assoc, List.take_append_drop]
    exact h
  have := minsum hb p
  rw [List.length_take, Nat.min_eq_left hk] at this
  exact this
theorem pr_len : ∀ l, (pr l).length = l.length / 2
  | [] => by simp [Pm.pr]
  | [a] => by simp [Pm.pr]
  | a :: b :: t => by
    simp only [pr, List.length_cons]
    rw [pr_len t]
    omega
theorem ps_pr : ∀ (l : List Nat) (k : Nat), 2 * k ≤ l.length → ps (pr l) k = ps l (2 * k)
  | l, 0, _ => by simp [ps]
  | [], k + 1, h => by simp at h
  | [a], k + 1, h => by simp at h; omega
  | a :: b :: t, k + 1, h => by
    simp only [pr]
    rw [ps_cons, show 2 * (k + 1) = 2 * k + 1 + 1 by omega, ps_cons, ps_cons, ps_pr t k (by simp at h; omega)]
    omega
theorem Dom.pr {r A : List Nat} (h : Dom r A) : Dom (pr r) (pr A) := by
  have h1 := h.1
  refine ⟨by rw [pr_len, pr_len]; omega, fun k hk => ?_⟩
  rw [pr_len] at hk
  rw [ps_pr r k (by omega), ps_pr A k (by omega)]
  exact h.2 _ (by omega)
theorem pr_mem : ∀ {l : List Nat} {m : Nat}, (∀ x ∈ l, m ≤ x) → ∀ x ∈ pr l, m + m ≤ x
  | [], m, h, x, hx => by simp [Pm.pr] at hx
  | [a], m, h, x, hx => by simp [Pm.pr] at hx
  | a :: b :: t, m, h, x, hx => by
    simp only [Pm.pr, List.mem_cons] at hx
    rcases hx with rfl | hx
    · have := h a (by simp); have := h b (by simp); omega
    · exact pr_mem (fun y hy => h y (by simp [hy])) x hx
theorem pr_srt : ∀ {l : List Nat}, Srt l → Srt (pr l)
  | [], _ => List.Pairwise.nil
  | [a], _ => List.Pairwise.nil
  | a :: b :: t, h => by
    have h1 := List.pairwise_cons.1 h
    have h2 := List.pairwise_cons.1 h1.2
    refine List.pairwise_cons.2 ⟨fun x hx => ?_, pr_srt h2.2⟩
    have h3 := pr_mem h2.1 x hx
    have := h1.1 b (by simp)
    omega
/-- Put together, they still are no dearer. -/
theorem Dom.merge {z b p S Q y : List Nat} (hz : Srt z) (pz : z.Perm (b ++ p)) (hb : Dom b S) (hp : Dom p Q) (hS : Srt S) (hQ : Srt Q) (py : y.Perm (S ++ Q)) : Dom z y := by
  have l1 := pz.length_eq
  have l2 := py.length_eq
  rw [List.length_append] at l1 l2
  refine ⟨by have := hb.1; have := hp.1; omega, fun k hk => ?_⟩
  have e : (y.take k ++ y.drop k).Perm (S ++ Q) := by rw [List.take_append_drop]; exact py
  obtain ⟨s1, s2, r1, r2, q1, q2, q3, q4⟩ := refine4 e
  have m1 := minsum hS q3
  have m2 := minsum hQ q4
  have n1 := q1.length_eq
  have n2 : ps y k = s1.sum + s2.sum := by unfold ps; rw [← q1.sum_nat, List.sum_append]
  rw [List.length_append, List.length_take, Nat.min_eq_left hk] at n1
  have b1 : s1.length ≤ S.length := by have := q3.length_eq; rw [List.length_append] at this; omega
  have b2 : s2.length ≤ Q.length := by have := q4.length_eq; rw [List.length_append] at this; omega
  have d1 := hb.2 _ b1
  have d2 := hp.2 _ b2
  have p3 : ((b.take s1.length ++ p.take s2.length) ++ (b.drop s1.length ++ p.drop s2.length)).Perm z := by
    refine List.Perm.trans ?_ pz.symm
    have t1 := List.take_append_drop s1.length b
    have t2 := List.take_append_drop s2.length p
    conv => rhs; rw [← t1, ← t2]
    simp only [List.append_assoc]
    refine List.Perm.append_left _ ?_
    rw [← List.append_assoc, ← List.append_assoc]
    exact List.perm_append_comm.append_right _
  have m3 := minsum hz p3
  have hb1 := hb.1
  have hp1 := hp.1
  rw [List.length_append, List.length_take, List.length_take, Nat.min_eq_left (by omega), Nat.min_eq_left (by omega), List.sum_append, n1] at m3
  have e1 : (b.take s1.length).sum = ps b s1.length := rfl
  have e2 : (p.take s2.length).sum = ps p s2.length := rfl
  omega
/-- The coins' rows: the widest that are put together last. -/
def row (base : List Nat) : Nat → List Nat
  | 0 => base
  | m + 1 => (pr (row base m)).foldl (fun l x => ins x l) base
theorem foldl_ins_perm : ∀ (l base : List Nat), (l.foldl (fun l x => ins x l) base).Perm (base ++ l)
  | [], base => by simp
  | x :: t, base => by
    simp only [List.foldl_cons]
    refine (foldl_ins_perm t (ins x base)).trans ?_
    refine ((ins_perm x base).append_right t).trans ?_
    exact List.perm_middle.symm
theorem foldl_ins_srt : ∀ {l base : List Nat}, Srt base → Srt (l.foldl (fun l x => ins x l) base)
  | [], _, h => h
  | x :: t, base, h => foldl_ins_srt (l := t) (ins_srt h)
theorem row_srt {base : List Nat} (h : Srt base) : ∀ m, Srt (row base m)
  | 0 => h
  | m + 1 => foldl_ins_srt h
theorem row_perm (base : List Nat) (m : Nat) : (row base (m + 1)).Perm (base ++ pr (row base m)) := foldl_ins_perm _ _
theorem row_len (base : List Nat) (m : Nat) : (row base (m + 1)).length = base.length + (row base m).length / 2 := by
  rw [(row_perm base m).length_eq, List.length_append, pr_len]
theorem row_base (base : List Nat) : ∀ m, base.length ≤ (row base m).length
  | 0 => Nat.le_refl _
  | m + 1 => by rw [row_len]; omega
end Go.Proofs.Ythpocbpleffdpaa.Pm
