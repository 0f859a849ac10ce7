/- Mathematics of coins: no lengths cost less than the coins' way (opt), and Huffman's way costs no more than it (low). It names no program. -/
import Derived.Test.YthpocbpleffdpaaMa
namespace Go.Proofs.Ythpocbpleffdpaa.Pm
set_option linter.unusedVariables false
/-- What Huffman's way costs: the two least as one, n times. -/
def huf : Nat → List Nat → Nat
  | n + 1, a :: b :: t => a + b + huf n (ins (a + b) t)
  | _, _ => 0
theorem low_row {a b : Nat} {t : List Nat} (h : Srt (a :: b :: t)) : ∀ m, ∃ T, row (a :: b :: t) m = a :: b :: T ∧ Dom (row (ins (a + b) t) m) T := by
  have h1 := List.pairwise_cons.1 h
  have h2 := List.pairwise_cons.1 h1.2
  have hab := h1.1 b (by simp)
  have hb' : Srt (ins (a + b) t) := ins_srt h2.2
  intro m
  induction m with
  | zero =>
    refine ⟨t, rfl, Dom.sub (R := [a + b]) hb' ?_⟩
    exact (List.perm_append_comm (l₁ := t) (l₂ := [a + b])).trans (ins_perm (a + b) t).symm
  | succ m ih =>
    obtain ⟨T, hT, hD⟩ := ih
    have hs := row_srt h m
    rw [hT] at hs
    have g1 := List.pairwise_cons.1 hs
    have g2 := List.pairwise_cons.1 g1.2
    have pz : (srt (t ++ (a + b) :: pr T)).Perm (t ++ (a + b) :: pr T) := srt_perm _
    have hz : Srt (a :: b :: srt (t ++ (a + b) :: pr T)) := by
      have hb2 : ∀ x ∈ srt (t ++ (a + b) :: pr T), b ≤ x := by
        intro x hx
        have hx := pz.mem_iff.1 hx
        rcases List.mem_append.1 hx with hx | hx
        · exact h2.1 x hx
        · rcases List.mem_cons.1 hx with rfl | hx
          · omega
          · have := pr_mem g2.1 x hx; omega
      refine List.pairwise_cons.2 ⟨fun x hx => ?_, List.pairwise_cons.2 ⟨hb2, srt_srt _⟩⟩
      rcases List.mem_cons.1 hx with rfl | hx
      · exact hab
      · exact Nat.le_trans hab (hb2 x hx)
    refine ⟨srt (t ++ (a + b) :: pr T), ?_, ?_⟩
    · refine srt_uniq (row_srt h (m + 1)) hz ?_
      refine (row_perm _ m).trans ?_
      rw [hT]
      simp only [Pm.pr, List.cons_append]
      exact (pz.symm.cons b).cons a
    · refine Dom.merge (b := ins (a + b) t) (p := pr (row (ins (a + b) t) m)) (S := ins (a + b) t) (Q := pr T) (row_srt hb' (m + 1)) (row_perm _ m) (Dom.refl _) hD.pr hb' (pr_srt g2.2) ?_
      refine pz.trans (List.perm_middle.trans ?_)
      exact (ins_perm (a + b) t).symm.append_right (pr T)
/-- Huffman's way costs no more. -/
theorem low : ∀ (n : Nat) (base : List Nat) (m : Nat), Srt base → base.length = n + 1 → 2 * n ≤ (row base m).length → huf n base ≤ ps (row base m) (2 * n)
  | 0, base, m, _, _, _ => by simp [huf]
  | n + 1, [], m, _, hl, _ => by simp at hl
  | n + 1, [a], m, _, hl, _ => by simp at hl
  | n + 1, a :: b :: t, m, hs, hl, hr => by
    obtain ⟨T, hT, hD⟩ := low_row hs m
    have h1 := List.pairwise_cons.1 hs
    have h2 := List.pairwise_cons.1 h1.2
    rw [hT] at hr ⊢
    have hb' : Srt (ins (a + b) t) := ins_srt h2.2
    have hl' : (ins (a + b) t).length = n + 1 := by rw [(ins_perm _ _).length_eq]; simpa using hl
    have hTl : 2 * n ≤ T.length := by simp at hr; omega
    have ih := low n (ins (a + b) t) m hb' hl' (Nat.le_trans hTl hD.1)
    have hd := hD.2 _ hTl
    rw [show 2 * (n + 1) = 2 * n + 1 + 1 by omega, ps_cons, ps_cons]
    simp only [huf]
    omega
/-- Symbols with a length of d or more. -/
def Sd (its : List (Nat × Nat)) (d : Nat) : List Nat := srt ((its.filter (fun x => decide (d ≤ x.2))).map (·.1))
def At (its : List (Nat × Nat)) (L : Nat) : Nat → List Nat
  | 0 => []
  | t + 1 => srt (Sd its (L - t) ++ pr (At its L t))
def bas (its : List (Nat × Nat)) : List Nat := srt (its.map (·.1))
theorem sd_dom (its : List (Nat × Nat)) (d : Nat) : Dom (bas its) (Sd its d) := by
  refine Dom.sub (R := (its.filter (fun x => !decide (d ≤ x.2))).map (·.1)) (srt_srt _) ?_
  refine ((srt_perm _).append_right _).trans ?_
  rw [← List.map_append]
  refine List.Perm.trans ?_ (srt_perm _).symm
  exact (List.filter_append_perm _ _).map _
theorem at_dom (its : List (Nat × Nat)) (L : Nat) : ∀ t, Dom (row (bas its) t) (At its L (t + 1))
  | 0 => by
    have := sd_dom its (L - 0)
    have e : At its L (0 + 1) = Sd its (L - 0) := srt_uniq (srt_srt _) (srt_srt _) (by simpa [At, Pm.pr] using srt_perm (Sd its L))
    rw [e]
    exact this
  | t + 1 => Dom.merge (row_srt (srt_srt _) (t + 1)) (row_perm _ t) (sd_dom its (L - (t + 1))) (at_dom its L t).pr (srt_srt _) (pr_srt (srt_srt _)) (srt_perm _)
theorem pr_sum : ∀ l, (pr l).sum ≤ l.sum
  | [] => by simp [Pm.pr]
  | [a] => by simp [Pm.pr]
  | a :: b :: t => by simp only [Pm.pr, List.sum_cons]; have := pr_sum t; omega
theorem srt_sum (l : List Nat) : (srt l).sum = l.sum := (srt_perm l).sum_nat
theorem filt_sum (d : Nat) (f g : Nat × Nat → Nat) : ∀ its : List (Nat × Nat), (∀ x ∈ its, g x = f x + (if d ≤ x.2 then x.1 else 0)) → ((its.filter (fun x => decide (d ≤ x.2))).map (·.1)).sum + (its.map f).sum = (its.map g).sum
  | [], _ => by simp
  | x :: its, h => by
    have ih := filt_sum d f g its (fun y hy => h y (by simp [hy]))
    have hx := h x (by simp)
    by_cases hd : d ≤ x.2
    · rw [List.filter_cons_of_pos (by simpa using hd)]
      rw [if_pos hd] at hx
      simp only [List.map_cons, List.sum_cons]
      omega
    · rw [List.filter_cons_of_neg (by simpa using hd)]
      rw [if_neg hd] at hx
      simp only [List.map_cons, List.sum_cons]
      omega
theorem at_sum (its : List (Nat × Nat)) (L : Nat) (hL : ∀ x ∈ its, x.2 ≤ L) : ∀ t, t ≤ L → (At its L t).sum ≤ (its.map (fun x => x.1 * (x.2 - (L - t)))).sum
  | 0, _ => by simp [At]
  | t + 1, ht => by
    have ih := at_sum its L hL t (by omega)
    have e := filt_sum (L - t) (fun x => x.1 * (x.2 - (L - t))) (fun x => x.1 * (x.2 - (L - (t + 1)))) its (fun x hx => by
      have := hL x hx
      split
      · rename_i h
        rw [show x.2 - (L - (t + 1)) = x.2 - (L - t) + 1 by omega, Nat.mul_add, Nat.mul_one]
      · rename_i h
        rw [show x.2 - (L - (t + 1)) = x.2 - (L - t) by omega, Nat.add_zero])
    have hp := pr_sum (At its L t)
    simp only [At, srt_sum, List.sum_append, Sd]
    omega
theorem filt_len (d c : Nat) (f g : Nat × Nat → Nat) : ∀ its : List (Nat × Nat), (∀ x ∈ its, g x = f x + (if d ≤ x.2 then c else 0)) → (its.filter (fun x => decide (d ≤ x.2))).length * c + (its.map f).sum = (its.map g).sum
  | [], _ => by simp
  | x :: its, h => by
    have ih := filt_len d c f g its (fun y hy => h y (by simp [hy]))
    have hx := h x (by simp)
    by_cases hd : d ≤ x.2
    · rw [List.filter_cons_of_pos (by simpa using hd)]
      rw [if_pos hd] at hx
      simp only [List.map_cons, List.sum_cons, List.length_cons, Nat.add_mul, Nat.one_mul]
      omega
    · rw [List.filter_cons_of_neg (by simpa using hd)]
      rw [if_neg hd] at hx
      simp only [List.map_cons, List.sum_cons]
      omega
theorem pow_sub_lt {a b t : Nat} (h : a ≤ t) : 2 ^ (t + 1) - 2 ^ a = 2 ^ t - 2 ^ a + 2 ^ t := by
  have : 2 ^ a ≤ 2 ^ t := Nat.pow_le_pow_right (by decide) h
  rw [Nat.pow_succ]
  omega
theorem pow_sub_ge {a t : Nat} (h : t ≤ a) : 2 ^ t - 2 ^ a = 0 := by
  have : 2 ^ t ≤ 2 ^ a := Nat.pow_le_pow_right (by decide) h
  omega
theorem sum_zero : ∀ l : List (Nat × Nat), (l.map (fun _ => 0)).sum = 0
  | [] => rfl
  | a :: l => by simp [sum_zero l]
theorem at_len (its : List (Nat × Nat)) (L : Nat) (hL : ∀ x ∈ its, x.2 ≤ L) : ∀ t, t + 1 ≤ L → 2 * (its.map (fun x => 2 ^ (t + 1) - 2 ^ (L - x.2))).sum + 2 ≤ ((At its L (t + 1)).length + 1) * 2 ^ (t + 1)
  | t, ht => by
    have e := filt_len (L - t) (2 ^ t) (fun x => 2 ^ t - 2 ^ (L - x.2)) (fun x => 2 ^ (t + 1) - 2 ^ (L - x.2)) its (fun x hx => by
      have := hL x hx
      split
      · exact pow_sub_lt (b := 0) (by omega)
      · rename_i h
        rw [pow_sub_ge (show t + 1 ≤ L - x.2 by omega), pow_sub_ge (show t ≤ L - x.2 by omega)])
    have hl : (At its L (t + 1)).length = (its.filter (fun x => decide (L - t ≤ x.2))).length + (At its L t).length / 2 := by
      simp only [At, (srt_perm _).length_eq, List.length_append, Sd, List.length_map, pr_len]
    match t, e, hl, ht with
    | 0, e, hl, ht =>
      have h0 : (its.map (fun x => 2 ^ 0 - 2 ^ (L - x.2))).sum = 0 := by
        have : (its.map (fun x => 2 ^ 0 - 2 ^ (L - x.2))) = its.map (fun _ => 0) := List.map_congr_left (fun x hx => pow_sub_ge (by omega))
        rw [this]
        exact sum_zero its
      rw [h0] at e
      rw [hl, ← e]
      simp [At]
      omega
    | t + 1, e, hl, ht =>
      have ih := at_len its L hL t (by omega)
      rw [hl, ← e]
      have hp : 0 < 2 ^ (t + 1) := Nat.two_pow_pos _
      generalize (its.map (fun x => 2 ^ (t + 1) - 2 ^ (L - x.2))).sum = V at *
      generalize (its.filter (fun x => decide (L - (t + 1) ≤ x.2))).length = s at *
      generalize (At its L (t + 1)).length = a at *
      have e2 : 2 ^ (t + 1 + 1) = 2 * 2 ^ (t + 1) := by rw [Nat.pow_succ]; omega
      rw [e2]
      generalize 2 ^ (t + 1) = P at *
      have h3 : (a + 1) * P ≤ (2 * (a / 2) + 2) * P := Nat.mul_le_mul_right P (by omega)
      have h4 : (s + a / 2 + 1) * (2 * P) = 2 * (s * P) + (2 * (a / 2) + 2) * P := by
        rw [Nat.add_mul, Nat.add_mul, Nat.add_mul]
        have : a / 2 * (2 * P) = 2 * (a / 2) * P := by rw [← Nat.mul_assoc, Nat.mul_comm (a / 2) 2]
        have : s * (2 * P) = 2 * (s * P) := by rw [Nat.mul_left_comm]
        omega
      omega
theorem sum_split (L : Nat) : ∀ its : List (Nat × Nat), (∀ x ∈ its, x.2 ≤ L) → (its.map (fun x => 2 ^ L - 2 ^ (L - x.2))).sum + (its.map (fun x => 2 ^ (L - x.2))).sum = its.length * 2 ^ L
  | [], _ => by simp
  | x :: its, h => by
    have ih := sum_split L its (fun y hy => h y (by simp [hy]))
    have : 2 ^ (L - x.2) ≤ 2 ^ L := Nat.pow_le_pow_right (by decide) (by omega)
    simp only [List.map_cons, List.sum_cons, List.length_cons, Nat.add_mul, Nat.one_mul]
    omega
/-- No lengths of at most L bits, which weigh no more than the whole, cost less than the coins' way. -/
theorem opt (its : List (Nat × Nat)) (L : Nat) (hL1 : 1 ≤ L) (hL : ∀ x ∈ its, x.2 ≤ L) (hK : (its.map (fun x => 2 ^ (L - x.2))).sum ≤ 2 ^ L) :
    2 * its.length - 2 ≤ (row (bas its) (L - 1)).length ∧ ps (row (bas its) (L - 1)) (2 * its.length - 2) ≤ (its.map (fun x => x.1 * x.2)).sum := by
  obtain ⟨t, rfl⟩ : ∃ t, L = t + 1 := ⟨L - 1, by omega⟩
  have hd := at_dom its (t + 1) t
  have hs := at_sum its (t + 1) hL (t + 1) (Nat.le_refl _)
  have hl := at_len its (t + 1) hL t (Nat.le_refl _)
  have hv := sum_split (t + 1) its hL
  have ha : 2 * its.length - 2 ≤ (At its (t + 1) (t + 1)).length := by
    generalize (its.map (fun x => 2 ^ (t + 1) - 2 ^ (t + 1 - x.2))).sum = V at *
    generalize (its.map (fun x => 2 ^ (t + 1 - x.2))).sum = K at *
    generalize (At its (t + 1) (t + 1)).length = a at *
    have hp : 0 < 2 ^ (t + 1) := Nat.two_pow_pos _
    generalize 2 ^ (t + 1) = P at *
    have h1 : (2 * its.length) * P < (a + 3) * P := by
      rw [Nat.mul_assoc, ← hv]
      rw [Nat.add_mul] at hl ⊢
      omega
    have := Nat.lt_of_mul_lt_mul_right h1
    omega
  rw [Nat.add_sub_cancel]
  refine ⟨Nat.le_trans ha hd.1, Nat.le_trans (hd.2 _ ha) (Nat.le_trans (ps_le_sum _ _) ?_)⟩
  simpa using hs
end Go.Proofs.Ythpocbpleffdpaa.Pm
