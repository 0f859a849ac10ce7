import Derived.Laws.CopyOwn
/- Files as plain functions: pieces over bytes, sectors, where bytes are cut. -/
namespace Go.Proofs.YtnccklbnncaeoaaGreat

/-- How many of n bytes from a on lie in a's sector. -/
def cutl (a n : Nat) : Nat := min (512 - a % 512) n
def pcsF : Nat → Nat → Nat → List (Nat × Nat)
  | 0, _, _ => []
  | f + 1, a, n => if n = 0 then [] else (a, cutl a n) :: pcsF f (a + cutl a n) (n - cutl a n)
/-- The pieces of n bytes from a on: where, and how many. -/
def pcs (a n : Nat) : List (Nat × Nat) := pcsF n a n
theorem cutl_pos {a n : Nat} (h : 0 < n) : 1 ≤ cutl a n := by unfold cutl; omega
theorem cutl_le (a n : Nat) : cutl a n ≤ n := by unfold cutl; omega
theorem cutl_sec (a n : Nat) : a % 512 + cutl a n ≤ 512 := by unfold cutl; omega
theorem pcsF_fuel (f g a n : Nat) (hf : n ≤ f) (hg : n ≤ g) : pcsF f a n = pcsF g a n := by
  induction f generalizing g a n with
  | zero =>
    obtain rfl : n = 0 := by omega
    cases g <;> simp [pcsF]
  | succ f ih =>
    cases g with
    | zero => obtain rfl : n = 0 := by omega
              simp [pcsF]
    | succ g =>
      unfold pcsF
      by_cases h : n = 0
      · simp [h]
      · rw [if_neg h, if_neg h]
        have := cutl_pos (a := a) (n := n) (by omega)
        rw [ih g _ _ (by omega) (by omega)]
theorem pcs_zero (a : Nat) : pcs a 0 = [] := rfl
theorem pcs_step (a n : Nat) (h : 0 < n) : pcs a n = (a, cutl a n) :: pcs (a + cutl a n) (n - cutl a n) := by
  have hc := cutl_pos (a := a) h
  have hl := cutl_le a n
  unfold pcs
  cases n with
  | zero => omega
  | succ n =>
    rw [pcsF, if_neg (by omega)]
    rw [pcsF_fuel n (n + 1 - cutl a (n + 1)) _ _ (by omega) (by omega)]
theorem pcs_mem (n a : Nat) (x : Nat × Nat) (h : x ∈ pcs a n) : a ≤ x.1 ∧ x.1 + x.2 ≤ a + n ∧ 1 ≤ x.2 ∧ x.1 % 512 + x.2 ≤ 512 := by
  induction n using Nat.strongRecOn generalizing a with
  | _ n ih =>
    by_cases h0 : n = 0
    · subst h0; rw [pcs_zero] at h; cases h
    · have hc := cutl_pos (a := a) (n := n) (by omega)
      have hl := cutl_le a n
      have hs := cutl_sec a n
      rw [pcs_step a n (by omega)] at h
      rcases List.mem_cons.1 h with rfl | h
      · exact ⟨Nat.le_refl _, by simp; omega, hc, hs⟩
      · have := ih (n - cutl a n) (by omega) _ h
        exact ⟨by omega, by omega, this.2.2⟩
theorem pcs_len (n a : Nat) : (pcs a n).length ≤ n := by
  induction n using Nat.strongRecOn generalizing a with
  | _ n ih =>
    by_cases h0 : n = 0
    · subst h0; rw [pcs_zero]; simp
    · have hc := cutl_pos (a := a) (n := n) (by omega)
      have hl := cutl_le a n
      rw [pcs_step a n (by omega), List.length_cons]
      have := ih (n - cutl a n) (by omega) (a + cutl a n)
      omega
theorem pcs_cover (n a i : Nat) (h1 : a ≤ i) (h2 : i < a + n) : ∃ x ∈ pcs a n, x.1 ≤ i ∧ i < x.1 + x.2 := by
  induction n using Nat.strongRecOn generalizing a with
  | _ n ih =>
    have hc := cutl_pos (a := a) (n := n) (by omega)
    have hl := cutl_le a n
    rw [pcs_step a n (by omega)]
    by_cases h : i < a + cutl a n
    · exact ⟨_, List.mem_cons_self, h1, h⟩
    · obtain ⟨x, hx, h3⟩ := ih (n - cutl a n) (by omega) (a + cutl a n) (by omega) (by omega)
      exact ⟨x, List.mem_cons_of_mem _ hx, h3⟩

/-- A piece over bytes. -/
def ov (f : Nat → Int) (p : Nat × List Int) : Nat → Int := fun i => if p.1 ≤ i ∧ i < p.1 + p.2.length then p.2.getD (i - p.1) 0 else f i
def ovs (f : Nat → Int) (ps : List (Nat × List Int)) : Nat → Int := ps.foldl ov f
theorem ovs_nil (f : Nat → Int) : ovs f [] = f := rfl
theorem ovs_snoc (f : Nat → Int) (ps : List (Nat × List Int)) (p : Nat × List Int) : ovs f (ps ++ [p]) = ov (ovs f ps) p := by simp [ovs]
theorem ovs_append (f : Nat → Int) (ps qs : List (Nat × List Int)) : ovs f (ps ++ qs) = ovs (ovs f ps) qs := by simp [ovs]
/-- Sector k. -/
def sec (f : Nat → Int) (k : Nat) : List Int := (List.range 512).map fun i => f (512 * k + i)
theorem sec_len (f : Nat → Int) (k : Nat) : (sec f k).length = 512 := by simp [sec]
theorem sec_get (f : Nat → Int) (k i : Nat) (h : i < 512) : (sec f k).getD i 0 = f (512 * k + i) := by simp [sec, List.getD, h]
theorem sec_ext {f g : Nat → Int} {k : Nat} : sec f k = sec g k ↔ ∀ i, i < 512 → f (512 * k + i) = g (512 * k + i) := by
  constructor
  · intro h i hi
    rw [← sec_get f k i hi, ← sec_get g k i hi, h]
  · intro h
    apply List.ext_getElem (by simp [sec_len])
    intro i h1 h2
    have hi : i < 512 := by simpa [sec_len] using h1
    simp [sec, h i hi]
theorem sec_ov_other (f : Nat → Int) (p : Nat × List Int) (k : Nat) (hp : p.1 % 512 + p.2.length ≤ 512) (h : k ≠ p.1 / 512) : sec (ov f p) k = sec f k := by
  rw [sec_ext]
  intro i hi
  unfold ov
  rw [if_neg]
  omega
theorem ext_getD {xs ys : List Int} (hl : xs.length = ys.length) (h : ∀ i, i < xs.length → xs.getD i 0 = ys.getD i 0) : xs = ys := by
  apply List.ext_getElem hl
  intro i h1 h2
  have := h i h1
  simpa [List.getD, h1, h2] using this
theorem getD_splice (L cs : List Int) (o i : Nat) (h : o + cs.length ≤ L.length) : (splice L o cs).getD i 0 = if o ≤ i ∧ i < o + cs.length then cs.getD (i - o) 0 else L.getD i 0 := by
  unfold splice
  simp only [List.getD_eq_getElem?_getD]
  by_cases ha : i < o
  · rw [List.getElem?_append_left (by simp; omega), if_neg (by omega), List.getElem?_take_of_lt ha]
  · rw [List.getElem?_append_right (by simp; omega)]
    have e : i - (List.take o L).length = i - o := by simp; omega
    rw [e]
    by_cases hb : i < o + cs.length
    · rw [List.getElem?_append_left (by omega), if_pos (by omega)]
    · rw [List.getElem?_append_right (by omega), if_neg (by omega), List.getElem?_drop]
      rw [show o + cs.length + (i - o - cs.length) = i by omega]
theorem sec_ov_same (f : Nat → Int) (p : Nat × List Int) (hp : p.1 % 512 + p.2.length ≤ 512) : splice (sec f (p.1 / 512)) (p.1 % 512) p.2 = sec (ov f p) (p.1 / 512) := by
  have hl : (splice (sec f (p.1 / 512)) (p.1 % 512) p.2).length = 512 := by rw [length_splice _ _ _ (by rw [sec_len]; exact hp), sec_len]
  refine ext_getD (by rw [hl, sec_len]) fun i hi => ?_
  rw [hl] at hi
  rw [getD_splice _ _ _ _ (by rw [sec_len]; exact hp), sec_get _ _ _ hi, sec_get _ _ _ hi]
  unfold ov
  have e : 512 * (p.1 / 512) + i - p.1 = i - p.1 % 512 := by omega
  by_cases hc : p.1 % 512 ≤ i ∧ i < p.1 % 512 + p.2.length
  · rw [if_pos hc, if_pos (by omega), e]
  · rw [if_neg hc, if_neg (by omega)]
def zero (_ : Nat) : Int := 0
theorem sec_zero (k : Nat) : sec zero k = List.replicate 512 0 := by
  unfold sec zero
  rw [List.map_const']
  rw [List.length_range]
end Go.Proofs.YtnccklbnncaeoaaGreat
