/- Plain mathematics: tokens are expanded to the bytes; how many there are of bytes that are all the same. -/
import Derived.Test.YtofmoggejfopiaaXp
namespace Go.Proofs.Ytofmoggejfopiaa

theorem tks_get (b : Nat → Int) (N : Nat) (a : Bool) (K k : Nat) (hk : k < K) : (tks b N a K).getD k zt = tokAt b N a (ps b N a k) := by
  induction K with
  | zero => omega
  | succ K ih =>
    have hl := tks_len b N a K
    simp only [tks]
    by_cases h : k < K
    · rw [← ih h]
      simp [List.getD, List.getElem?_append_left (show k < (tks b N a K).length by omega)]
    · obtain rfl : k = K := by omega
      simp [List.getD, hl]
theorem take_bf (zs : List Int) (p : Nat) (hp : p < zs.length) : zs.take (p + 1) = zs.take p ++ [bf zs p] := by
  rw [List.take_succ_eq_append_getElem hp]
  unfold bf
  rw [getD_lt _ _ _ hp]
theorem rep_mt {zs : List Int} {p d n : Nat} (h : Mt (bf zs) p d n) (hd : 1 ≤ d) (hdp : d ≤ p) (hn : p + n ≤ zs.length) : rep (zs.take p) d n = zs.take (p + n) := by
  induction n with
  | zero => rfl
  | succ n ih =>
    have ih' := ih (h.mono (by omega)) (by omega)
    show rep (zs.take p) d n ++ [(rep (zs.take p) d n).getD ((rep (zs.take p) d n).length - d) 0] = _
    rw [ih', show p + (n + 1) = p + n + 1 by omega, take_bf zs (p + n) (by omega)]
    congr 2
    have hl : (zs.take (p + n)).length = p + n := by simp; omega
    rw [hl, ← h n (by omega)]
    unfold bf
    simp only [List.getD]
    rw [List.getElem?_take_of_lt (by omega)]
theorem tok_ok {zs : List Int} {a : Bool} {p : Nat} : okT (tokAt (bf zs) zs.length a p) = true := by
  have h := tk_cases (bf zs) zs.length a p
  unfold tokAt
  split
  · simp [okT]
  · rename_i h0
    rcases h with h | ⟨h, h1, h2, h3, h4, h5, _⟩
    · rw [h] at h0; simp at h0
    · rw [h]
      unfold mst at h2
      simp [okT]
      omega
theorem toks_ok (zs : List Int) (a : Bool) (K : Nat) : okK (tks (bf zs) zs.length a K) K := fun j hj => by rw [tks_get _ _ _ _ _ hj]; exact tok_ok
/-- The tokens' bytes are the bytes. -/
theorem toks_back (zs : List Int) (a : Bool) (K : Nat) (hK : Many (bf zs) zs.length a K) (most : Int) (hm : (zs.length : Int) ≤ most) (k : Nat) (hk : k ≤ K) : stp most (tks (bf zs) zs.length a K) k = .ok (zs.take (ps (bf zs) zs.length a k)) := by
  induction k with
  | zero => simp [stp, ps]
  | succ k ih =>
    have hp : ps (bf zs) zs.length a k < zs.length := by
      have h1 := ps_mono (bf zs) zs.length a (show k + 1 ≤ K by omega)
      have h2 := ps_lt (bf zs) zs.length a k
      unfold Many at hK
      omega
    unfold stp
    rw [ih (by omega), tks_get _ _ _ _ _ (show k < K by omega)]
    dsimp only
    have htk := tk_le (bf zs) zs.length a (ps (bf zs) zs.length a k)
    have hcs := tk_cases (bf zs) zs.length a (ps (bf zs) zs.length a k)
    have hpe : ps (bf zs) zs.length a (k + 1) = ps (bf zs) zs.length a k + max 1 (tk (bf zs) zs.length a (ps (bf zs) zs.length a k)).1 := rfl
    rw [hpe]
    generalize ps (bf zs) zs.length a k = p at *
    have hl : (zs.take p).length = p := by simp; omega
    rw [hl]
    have htk4 := htk.2.2.2 hp
    rcases hcs with h | ⟨h, h1, h2, h3, h4, h5, h6⟩
    · have ht : tokAt (bf zs) zs.length a p = (bf zs p, 0, 0) := by unfold tokAt; rw [h]; rfl
      rw [h] at htk4 ⊢
      rw [ht]
      dsimp only at htk4 ⊢
      rw [if_neg (by omega), if_neg (by omega)]
      unfold tell
      rw [if_pos rfl, show p + max 1 0 = p + 1 by omega, take_bf zs p hp]
    · have ht : tokAt (bf zs) zs.length a p = (0, ((lng (bf zs) zs.length p).1 : Int), ((lng (bf zs) zs.length p).2 : Int)) := by unfold tokAt; rw [h, if_neg (by omega)]
      rw [h] at htk4 ⊢
      rw [ht]
      generalize (lng (bf zs) zs.length p).1 = n at *
      generalize (lng (bf zs) zs.length p).2 = d at *
      dsimp only at htk4 ⊢
      rw [if_neg (by omega), if_neg (by omega)]
      unfold tell
      dsimp only
      rw [if_neg (by omega), Int.toNat_natCast, Int.toNat_natCast, rep_mt h6 h3 h4 (by unfold mst at h2; omega), show p + max 1 n = p + n by omega]
theorem toks_exp (zs : List Int) (a : Bool) (K : Nat) (hK : Many (bf zs) zs.length a K) (most : Int) (hm : (zs.length : Int) ≤ most) : xpR most (tks (bf zs) zs.length a K) = (zs, (K : Int), 0) := by
  unfold xpR
  rw [tks_len, toks_back zs a K hK most hm K (Nat.le_refl _)]
  unfold Many at hK
  rw [hK]
  simp
/-- One byte less than there are is too few. -/
theorem toks_less (zs : List Int) (a : Bool) (K : Nat) (hK : Many (bf zs) zs.length a K) (hN : 0 < zs.length) : ∃ n : Int, xpR ((zs.length : Int) - 1) (tks (bf zs) zs.length a K) = ([], n, 141) := by
  have key : ∀ k, k ≤ K → stp ((zs.length : Int) - 1) (tks (bf zs) zs.length a K) k = .ok (zs.take (ps (bf zs) zs.length a k)) ∧ ps (bf zs) zs.length a k < zs.length ∨ ∃ j, stp ((zs.length : Int) - 1) (tks (bf zs) zs.length a K) k = .error (j, 141) := by
    intro k hk
    induction k with
    | zero => exact .inl ⟨by simp [stp, ps], by simpa [ps] using hN⟩
    | succ k ih =>
      rcases ih (by omega) with ⟨h1, hp⟩ | ⟨j, hj⟩
      · by_cases hlast : ps (bf zs) zs.length a (k + 1) < zs.length
        · refine .inl ⟨?_, hlast⟩
          have hb := toks_back zs a K hK (zs.length : Int) (Int.le_refl _) (k + 1) hk
          have hb0 := toks_back zs a K hK (zs.length : Int) (Int.le_refl _) k (by omega)
          unfold stp at hb ⊢
          rw [hb0] at hb
          rw [h1]
          dsimp only at hb ⊢
          split at hb
          · cases hb
          · rename_i c1
            split at hb
            · cases hb
            · rename_i c2
              have hl : (zs.take (ps (bf zs) zs.length a k)).length = ps (bf zs) zs.length a k := by simp; omega
              have hs : ps (bf zs) zs.length a (k + 1) = ps (bf zs) zs.length a k + max 1 (tk (bf zs) zs.length a (ps (bf zs) zs.length a k)).1 := rfl
              have ht : max 1 ((tks (bf zs) zs.length a K).getD k zt).2.1 = ((max 1 (tk (bf zs) zs.length a (ps (bf zs) zs.length a k)).1 : Nat) : Int) := by
                rw [tks_get _ _ _ _ _ (show k < K by omega)]
                unfold tokAt
                split
                · rename_i h0; rw [h0]; simp only; omega
                · simp only; omega
              rw [if_neg c1, if_neg (by rw [ht, hl]; omega)]
              exact hb
        · refine .inr ⟨k, ?_⟩
          have hb := toks_back zs a K hK (zs.length : Int) (Int.le_refl _) (k + 1) hk
          have hb0 := toks_back zs a K hK (zs.length : Int) (Int.le_refl _) k (by omega)
          unfold stp at hb ⊢
          rw [hb0] at hb
          rw [h1]
          dsimp only at hb ⊢
          split at hb
          · cases hb
          · rename_i c1
            have hl : (zs.take (ps (bf zs) zs.length a k)).length = ps (bf zs) zs.length a k := by simp; omega
            have hs : ps (bf zs) zs.length a (k + 1) = ps (bf zs) zs.length a k + max 1 (tk (bf zs) zs.length a (ps (bf zs) zs.length a k)).1 := rfl
            have ht : max 1 ((tks (bf zs) zs.length a K).getD k zt).2.1 = ((max 1 (tk (bf zs) zs.length a (ps (bf zs) zs.length a k)).1 : Nat) : Int) := by
              rw [tks_get _ _ _ _ _ (show k < K by omega)]
              unfold tokAt
              split
              · rename_i h0; rw [h0]; simp only; omega
              · simp only; omega
            rw [if_neg c1, if_pos (by rw [ht, hl]; omega)]
      · exact .inr ⟨j, by unfold stp; rw [hj]⟩
  rcases key K (Nat.le_refl _) with ⟨_, h⟩ | ⟨j, h⟩
  · unfold Many at hK; omega
  · exact ⟨j, by unfold xpR; rw [tks_len, h]⟩

/-! Bytes that are all the same -/
theorem bf_zeros (n i : Nat) : bf (List.replicate n 0) i = 0 := by
  unfold bf
  by_cases h : i < n
  · simp [List.getD, h]
  · simp [List.getD, h]
theorem lng_zeros {N p : Nat} (hp : 1 ≤ p) (h3 : p + 3 ≤ N) : lng (bf (List.replicate N 0)) N p = (min 258 (N - p), 1) := by
  have h1 := lng_is (bf (List.replicate N 0)) N p
  have h2 : IsL (bf (List.replicate N 0)) (mst N p) p (min p 32768) 2 (mst N p) 1 := .inr ⟨by unfold mst; omega, Nat.le_refl _, Nat.le_refl _, by omega, fun j _ => by rw [bf_zeros, bf_zeros], fun e h1 h2 => by omega, fun e _ _ h => by omega⟩
  have := h1.uniq h2
  exact Prod.ext this.1 this.2
theorem tk_zeros {N p : Nat} (a : Bool) (hp : 1 ≤ p) (h3 : p + 3 ≤ N) : (tk (bf (List.replicate N 0)) N a p).1 = min 258 (N - p) := by
  unfold tk
  rw [lng_zeros hp h3, if_neg]
  rintro (h | ⟨_, h⟩)
  · simp at h; omega
  · by_cases h4 : p + 1 + 3 ≤ N
    · rw [lng_zeros (by omega) h4] at h; simp at h; omega
    · rw [lng_end _ _ _ (by omega)] at h; simp at h
theorem tk_zeros0 (N : Nat) (a : Bool) : (tk (bf (List.replicate N 0)) N a 0).1 = 0 := by
  unfold tk
  rcases lng_cases (bf (List.replicate N 0)) N 0 with h | h
  · rw [h]; simp
  · omega
theorem tk_zeros_end {N p : Nat} (a : Bool) (h : N ≤ p + 2) : (tk (bf (List.replicate N 0)) N a p).1 = 0 := by
  unfold tk
  rw [lng_end _ _ _ h]; simp
theorem ps_zeros {N : Nat} (a : Bool) (j : Nat) (hj : 1 + 258 * j ≤ N) : ps (bf (List.replicate N 0)) N a (j + 1) = 1 + 258 * j := by
  induction j with
  | zero =>
    show ps _ _ _ 0 + max 1 (tk _ _ _ (ps _ _ _ 0)).1 = _
    rw [show ps (bf (List.replicate N 0)) N a 0 = 0 from rfl, tk_zeros0]
    omega
  | succ j ih =>
    have h := ih (by omega)
    show ps _ _ _ (j + 1) + max 1 (tk _ _ _ (ps _ _ _ (j + 1))).1 = _
    rw [h, tk_zeros a (by omega) (by omega)]
    omega
/-- How few tokens there are. -/
theorem few_zeros (N : Nat) (a : Bool) (K : Nat) (hK : Many (bf (List.replicate N 0)) N a K) : K ≤ 3 + N / 258 := by
  by_cases hN : N = 0
  · subst hN
    have : Many (bf (List.replicate 0 0)) 0 a 0 := rfl
    have := hK.uniq this
    omega
  · have h1 := ps_zeros (N := N) a ((N - 1) / 258) (by omega)
    obtain ⟨q, hq⟩ : ∃ q, q = (N - 1) / 258 := ⟨_, rfl⟩
    rw [← hq] at h1
    have hq2 : N ≤ 258 * q + 258 := by omega
    have h2 : ps (bf (List.replicate N 0)) N a (q + 2) = ps (bf (List.replicate N 0)) N a (q + 1) + max 1 (tk (bf (List.replicate N 0)) N a (ps (bf (List.replicate N 0)) N a (q + 1))).1 := rfl
    have h3 : ps (bf (List.replicate N 0)) N a (q + 3) = ps (bf (List.replicate N 0)) N a (q + 2) + max 1 (tk (bf (List.replicate N 0)) N a (ps (bf (List.replicate N 0)) N a (q + 2))).1 := rfl
    have hge : N ≤ ps (bf (List.replicate N 0)) N a (q + 3) := by
      by_cases hr : 1 + 258 * q + 3 ≤ N
      · rw [h1, tk_zeros a (by omega) hr] at h2
        omega
      · rw [h1] at h2
        omega
    by_cases hk : K ≤ q + 3
    · omega
    · have h4 := ps_mono (bf (List.replicate N 0)) N a (show q + 3 + 1 ≤ K by omega)
      have h5 := ps_lt (bf (List.replicate N 0)) N a (q + 3)
      unfold Many at hK
      omega
theorem max_zeros (a : Bool) : Many (bf (List.replicate 1048576 0)) 1048576 a 4066 := by
  have h1 := ps_zeros (N := 1048576) a 4064 (by omega)
  unfold Many
  show ps _ _ _ 4065 + max 1 (tk _ _ _ (ps _ _ _ 4065)).1 = _
  rw [h1, tk_zeros a (by omega) (by omega)]
  omega
end Go.Proofs.Ytofmoggejfopiaa
