/- RegionsPlay: mathematics of the document's way to put, to take, to ask. -/
import Derived.Test.YtopnfjgkgoeleaaMv
namespace Go.Proofs.Ytopnfjgkgoeleaa
open Go.RowKit
set_option linter.unusedVariables false
set_option linter.unusedSimpArgs false
/-- Both of the document. -/
def bthb (a n b m : Int) : Bool := decide (a < b + m) && (decide (b < a + n) && (decide (0 < n) && decide (0 < m)))
theorem bth_apt {x y : Rn} (hx : Mayr x) (hy : Mayr y) : bthb x.a x.n y.a y.n = false ↔ Apt x y := by
  unfold Mayr at hx hy
  unfold bthb Apt Rn.e
  simp only [Bool.and_eq_false_iff, decide_eq_false_iff_not]
  omega
theorem srt_a {L : List Rn} (h : Srt L) {i j : Nat} (hij : i ≤ j) (hj : j < L.length) : (L.getD i zRn).a ≤ (L.getD j zRn).a := by
  by_cases e : i = j
  · rw [e]; omega
  · have h1 := h.lt (i := i) (j := j) (by omega) hj
    have h2 := h.may (i := i) (by omega)
    unfold Mayr at h2
    unfold Rn.e at h1
    omega
/-- What Put's loop holds. -/
structure AtI (L : List Rn) (x : Rn) (i at_ : Nat) : Prop where
  le : at_ ≤ i
  ap : ∀ j, j < i → Apt x (L.getD j zRn)
  lo : ∀ j, j < at_ → (L.getD j zRn).a < x.a
  hi : ∀ j, at_ ≤ j → j < i → x.a ≤ (L.getD j zRn).a
theorem AtI.zero (L : List Rn) (x : Rn) : AtI L x 0 0 := ⟨Nat.le_refl _, fun j h => by omega, fun j h => by omega, fun j _ h => by omega⟩
theorem AtI.less {L : List Rn} (h : Srt L) {x : Rn} {i a : Nat} (k : AtI L x i a) (hi : i < L.length) (hap : Apt x (L.getD i zRn)) (hl : (L.getD i zRn).a < x.a) : AtI L x (i + 1) (i + 1) := by
  refine ⟨Nat.le_refl _, fun j hj => ?_, fun j hj => ?_, fun j h1 h2 => by omega⟩
  · by_cases e : j = i
    · rw [e]; exact hap
    · exact k.ap j (by omega)
  · have := srt_a h (i := j) (j := i) (by omega) hi
    omega
theorem AtI.more {L : List Rn} {x : Rn} {i a : Nat} (k : AtI L x i a) (hap : Apt x (L.getD i zRn)) (hl : ¬ (L.getD i zRn).a < x.a) : AtI L x (i + 1) a := by
  refine ⟨by have := k.le; omega, fun j hj => ?_, k.lo, fun j h1 h2 => ?_⟩
  · by_cases e : j = i
    · rw [e]; exact hap
    · exact k.ap j (by omega)
  · by_cases e : j = i
    · rw [e]; omega
    · exact k.hi j h1 (by omega)
theorem AtI.bey {L : List Rn} (h : Srt L) {x : Rn} (hx : Mayr x) {a : Nat} (k : AtI L x L.length a) : Go.Proofs.Ytopnfjgkgoeleaa.bey L x.a = a := by
  refine bey_eq h ⟨k.le, fun j hj => ?_, fun j h1 h2 => ?_⟩
  · have h3 := k.lo j hj
    have h4 := k.ap j (by have := k.le; omega)
    have h5 := h.may (i := j) (by have := k.le; omega)
    unfold Mayr at hx h5
    unfold Apt Rn.e at *
    omega
  · have h3 := k.hi j h1 h2
    have h5 := h.may h2
    unfold Mayr at h5
    unfold Rn.e
    omega
theorem AtI.fits {L : List Rn} (h : Srt L) {x : Rn} (hx : Mayr x) {a : Nat} (k : AtI L x L.length a) (hl : L.length < 65536) : plE L x = 0 := (plE_apt h hx hl).2 (fun y hy => by
  obtain ⟨j, hj, rfl⟩ := List.getElem_of_mem hy
  rw [← gd hj]
  exact k.ap j hj)
theorem put_lies {L : List Rn} (h : Srt L) {x : Rn} (hx : Mayr x) {i : Nat} (hi : i < L.length) (hl : L.length < 65536) (hb : bthb x.a x.n (L.getD i zRn).a (L.getD i zRn).n = true) : plE L x = 220 := by
  rcases plE_cases L x with h1 | h1 | h1
  · unfold plE at h1
    rw [if_neg (by omega)] at h1
    split at h1 <;> omega
  · exact h1
  · have h2 := (plE_apt h hx hl).1 h1 _ (gd_mem hi)
    rw [(bth_apt hx (h.may hi)).2 h2] at hb
    cases hb
theorem ins_at {L : List Rn} (h : Srt L) {x : Rn} (hx : Mayr x) {a : Nat} (k : AtI L x L.length a) : ins L x = L.take a ++ x :: L.drop a := by
  unfold ins
  rw [k.bey h hx]
/-- The one that begins there. -/
theorem begins_at {L : List Rn} (h : Srt L) {p : Int} {i : Nat} (hi : i < L.length) (e : (L.getD i zRn).a = p) : bey L p = i ∧ bgn L p = true := by
  have hb : bey L p = i := bey_eq h ⟨by omega, fun j hj => by have := h.lt hj hi; omega, fun j h1 h2 => by
    have h3 := srt_a h h1 h2
    have h4 := h.may h2
    unfold Mayr at h4
    unfold Rn.e
    omega⟩
  refine ⟨hb, ?_⟩
  unfold bgn
  rw [hb, e]
  simp [hi]
theorem begins_no {L : List Rn} {p : Int} (hn : ∀ j, j < L.length → (L.getD j zRn).a ≠ p) : bgn L p = false := by
  unfold bgn
  by_cases hb : bey L p < L.length
  · have h1 : ((L.getD (bey L p) zRn).a == p) = false := by
      have := hn _ hb
      simpa using this
    rw [h1, Bool.and_false]
  · have h1 : decide (bey L p < L.length) = false := by simpa using hb
    rw [h1, Bool.false_and]
end Go.Proofs.Ytopnfjgkgoeleaa
