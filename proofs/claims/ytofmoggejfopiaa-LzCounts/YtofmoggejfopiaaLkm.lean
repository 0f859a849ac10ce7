/- The last place of three bytes, the links out of it; the map from three bytes to places, as a function. -/
import Derived.Test.YtofmoggejfopiaaEq
import Derived.Maps.Own
import Derived.Maps.Views
import Derived.WideKeyPair
import Derived.WideKeyArr
namespace Go.Proofs.Ytofmoggejfopiaa
open Go.RowKit Go.WideMaps

/-- Three bytes from a place on. -/
def T3 (b : Nat → Int) (q : Nat) : Int × Int × Int := (b q, b (q + 1), b (q + 2))
theorem tri_iff {b : Nat → Int} {q r : Nat} : Tri b q r ↔ T3 b q = T3 b r := by
  unfold Tri T3
  simp [Prod.ext_iff]
/-- The last place below k with these three bytes. -/
def lastp (b : Nat → Int) : Nat → Int × Int × Int → Option Nat
  | 0, _ => none
  | k + 1, t => if T3 b k = t then some k else lastp b k t
theorem lastp_some {b : Nat → Int} {k i : Nat} {t : Int × Int × Int} (h : lastp b k t = some i) : i < k ∧ T3 b i = t := by
  induction k with
  | zero => simp [lastp] at h
  | succ k ih =>
    unfold lastp at h
    split at h
    · rename_i he
      obtain rfl : k = i := by simpa using h
      exact ⟨by omega, he⟩
    · have := ih h
      exact ⟨by omega, this.2⟩
theorem lastp_ge {b : Nat → Int} {k j : Nat} {t : Int × Int × Int} (hj : j < k) (h : T3 b j = t) : ∃ i, lastp b k t = some i ∧ j ≤ i := by
  induction k with
  | zero => omega
  | succ k ih =>
    unfold lastp
    by_cases he : T3 b k = t
    · rw [if_pos he]; exact ⟨k, rfl, by omega⟩
    · rw [if_neg he]
      by_cases hk : j = k
      · subst hk; exact absurd h he
      · exact ih (by omega)
/-- The link of a place. -/
def lkf (b : Nat → Int) (q : Nat) : Nat := match lastp b q (T3 b q) with
  | some i => if q - i ≤ 32768 then q - i else 0
  | none => 0
theorem lkf_none {b : Nat → Int} {q : Nat} (h : lastp b q (T3 b q) = none) : lkf b q = 0 := by unfold lkf; rw [h]
theorem lkf_some {b : Nat → Int} {q i : Nat} (h : lastp b q (T3 b q) = some i) : lkf b q = if q - i ≤ 32768 then q - i else 0 := by unfold lkf; rw [h]
theorem lkf_le (b : Nat → Int) (q : Nat) : lkf b q ≤ 32768 := by
  cases h : lastp b q (T3 b q) with
  | none => rw [lkf_none h]; omega
  | some i => rw [lkf_some h]; split <;> omega
theorem lkf_linked (b : Nat → Int) (N : Nat) : Linked b N (lkf b) := by
  refine ⟨fun q _ h0 => ?_, fun q d _ h1 h2 h3 ht => ?_⟩
  · cases h : lastp b q (T3 b q) with
    | none => rw [lkf_none h] at h0; omega
    | some i =>
      have hs := lastp_some h
      rw [lkf_some h] at h0 ⊢
      split at h0
      · rename_i hle
        rw [if_pos hle]
        refine ⟨by omega, ?_⟩
        rw [show q - (q - i) = i by omega]
        exact tri_iff.2 hs.2
      · omega
  · obtain ⟨i, hi, hge⟩ := lastp_ge (b := b) (show q - d < q by omega) (tri_iff.1 ht)
    have hs := lastp_some hi
    rw [lkf_some hi, if_pos (by omega)]
    omega
/-- The links' list when k of M are told. -/
def lrow (b : Nat → Int) (M k : Nat) : List Int := (List.range M).map (fun q => if q < k then (lkf b q : Int) else 0)
theorem lrow_len (b : Nat → Int) (M k : Nat) : (lrow b M k).length = M := by simp [lrow]
theorem lrow_zero (b : Nat → Int) (M : Nat) : lrow b M 0 = List.replicate M 0 := by
  apply List.ext_getElem
  · simp [lrow]
  · intro i h1 h2; simp [lrow]
theorem lrow_set (b : Nat → Int) (M k : Nat) : (lrow b M k).set k (lkf b k : Int) = lrow b M (k + 1) := by
  apply List.ext_getElem
  · simp [lrow]
  · intro i h1 h2
    simp only [lrow, List.getElem_set, List.getElem_map, List.getElem_range]
    by_cases h : k = i
    · subst h; simp
    · rw [if_neg h]
      by_cases hi : i < k
      · rw [if_pos hi, if_pos (by omega)]
      · rw [if_neg hi, if_neg (by omega)]
theorem lrow_same (b : Nat → Int) (M k : Nat) (h0 : lkf b k = 0) : lrow b M k = lrow b M (k + 1) := by
  apply List.ext_getElem
  · simp [lrow]
  · intro i h1 h2
    simp only [lrow, List.getElem_map, List.getElem_range]
    by_cases hi : i < k
    · rw [if_pos hi, if_pos (by omega)]
    · rw [if_neg hi]
      by_cases h : i = k
      · subst h; rw [if_pos (by omega), h0]; rfl
      · rw [if_neg (by omega)]
theorem lrow_get (b : Nat → Int) (M q : Nat) (hq : q < M) : (lrow b M M).getD q 0 = (lkf b q : Int) := by
  rw [getD_lt _ _ _ (by rw [lrow_len]; exact hq)]
  simp [lrow, hq]

/-! Three bytes as a map's key -/
theorem Try.cells92 : Try.prog.cellsOf 92 = 3 := by kernel_rfl
theorem Try.arr92 : ArrKey Try.prog 92 5 3 := ⟨Try.underlying92, by kernel_rfl, by kernel_rfl, Try.cells92⟩
theorem Try.law92 : Maps.Keyed Try.prog 92 := Maps.Keyed.of_law Try.arr92.law
theorem Try.szs : ∃ m, Try.prog.types.size = m + 1 := ⟨112, by kernel_rfl⟩
theorem keyOf_three {P : Program} {k e : TypeId} {q : IntKind} (A : ArrKey P k e 3) (he : P.underlying e = some (.int q)) (hsz : ∃ m, P.types.size = m + 1) {a b c : Int} (wa : (Lit.int q a).wf = true) (wb : (Lit.int q b).wf = true) (wc : (Lit.int q c).wf = true) :
    keyOf P k (.agg #[.int q a, .int q b, .int q c]) = some (.string (keyBytes [.int q a, .int q b, .int q c])) := by
  have hkt := A.keyType hsz
  obtain ⟨m, hm⟩ := hsz
  unfold keyOf
  simp only [A.hu]
  rw [if_pos (by simp [hkt, Value.formed, A.hu, A.size]), hm]
  unfold Program.keyLits
  simp only [A.hu, Value.cells]
  rw [if_pos (by rw [A.size]; rfl), show List.range 3 = [0, 1, 2] from rfl, List.mapM_cons, List.mapM_cons, List.mapM_cons, List.mapM_nil]
  simp [A.one, Program.keyLits, he, wa, wb, wc]
def kv3 (t : Int × Int × Int) : Value := .agg #[.int .u8 t.1, .int .u8 t.2.1, .int .u8 t.2.2]
def kl3 (t : Int × Int × Int) : Lit := .string (keyBytes [.int .u8 t.1, .int .u8 t.2.1, .int .u8 t.2.2])
def B3 (t : Int × Int × Int) : Prop := (0 ≤ t.1 ∧ t.1 ≤ 255) ∧ (0 ≤ t.2.1 ∧ t.2.1 ≤ 255) ∧ (0 ≤ t.2.2 ∧ t.2.2 ≤ 255)
theorem wf_u8 {a : Int} (h : 0 ≤ a ∧ a ≤ 255) : (Lit.int .u8 a).wf = true := by
  simp [Lit.wf, IntKind.min, IntKind.max, IntKind.bits, IntKind.signed]; omega
theorem key3 {t : Int × Int × Int} (h : B3 t) : keyOf Try.prog 92 (kv3 t) = some (kl3 t) := keyOf_three Try.arr92 Try.underlying5 Try.szs (wf_u8 h.1) (wf_u8 h.2.1) (wf_u8 h.2.2)
theorem kl3_inj {t u : Int × Int × Int} (ht : B3 t) (hu : B3 u) (h : kl3 t = kl3 u) : t = u := by
  have h1 := key3 ht
  have h2 := key3 hu
  rw [h] at h1
  have := Try.law92.inj h1 h2
  obtain ⟨a, b, c⟩ := t
  obtain ⟨a', b', c'⟩ := u
  simp only [kv3] at this
  simpa using this
end Go.Proofs.Ytofmoggejfopiaa
