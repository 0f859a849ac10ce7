/- Plain mathematics of counts: bits of bytes (bt), the number that some of them say (nb), a bit put (pb, p1), a number put into some of them (sb). -/
import Derived.WalkKit
import Derived.Laws.BitsAllLaws
namespace Go.Proofs.YtjhgkcbpllgdiaaDoor
open Go.RowKit
/-- All are bytes. -/
def Byt (zs : List Int) : Prop := ∀ z ∈ zs, 0 ≤ z ∧ z ≤ 255
theorem getD_lt {α : Type} (l : List α) (i : Nat) (d : α) (h : i < l.length) : l.getD i d = l[i] := by simp [List.getD, h]
theorem getD_ge {α : Type} (l : List α) (i : Nat) (d : α) (h : l.length ≤ i) : l.getD i d = d := by simp [List.getD, List.getElem?_eq_none h]
theorem Byt.get {zs : List Int} (h : Byt zs) (i : Nat) : 0 ≤ zs.getD i 0 ∧ zs.getD i 0 ≤ 255 := by
  by_cases hi : i < zs.length
  · rw [getD_lt _ _ _ hi]; exact h _ (List.getElem_mem hi)
  · rw [getD_ge _ _ _ (by omega)]; omega
theorem Byt.set {zs : List Int} (h : Byt zs) (i : Nat) {v : Int} (hv : 0 ≤ v ∧ v ≤ 255) : Byt (zs.set i v) := by
  intro z hz
  rcases List.mem_or_eq_of_mem_set hz with hz | rfl
  · exact h z hz
  · exact hv
theorem Byt.rep (n : Nat) : Byt (List.replicate n 0) := by
  intro z hz
  rw [(List.mem_replicate.1 hz).2]; omega
theorem getD_set_same {zs : List Int} {i : Nat} (h : i < zs.length) (v : Int) : (zs.set i v).getD i 0 = v := by simp [List.getD, h]
theorem getD_set_ne {zs : List Int} {i j : Nat} (h : i ≠ j) (v : Int) : (zs.set i v).getD j 0 = zs.getD j 0 := by simp [List.getD, h]
/-- Bit k of bytes. -/
def bt (zs : List Int) (k : Nat) : Int := zs.getD (k / 8) 0 / 2 ^ (k % 8) % 2
theorem bt_b (zs : List Int) (k : Nat) : 0 ≤ bt zs k ∧ bt zs k ≤ 1 := by unfold bt; omega
/-- The number that n bits say, from bit k on. -/
def nb (zs : List Int) : Nat → Nat → Int
  | _, 0 => 0
  | k, n + 1 => bt zs k + 2 * nb zs (k + 1) n
theorem nb_b (zs : List Int) (k n : Nat) : 0 ≤ nb zs k n ∧ nb zs k n < 2 ^ n := by
  induction n generalizing k with
  | zero => simp [nb]
  | succ n ih =>
    have h := ih (k + 1)
    have hb := bt_b zs k
    simp only [nb, Int.pow_succ]
    omega
/-- A byte with bit m being b. -/
def pb (z : Int) (m : Nat) (b : Int) : Int := z - (z / 2 ^ m % 2) * 2 ^ m + b * 2 ^ m
theorem pb_all : ∀ (z : Fin 256) (m : Fin 8) (b : Fin 2), (0 ≤ pb z.val m.val b.val ∧ pb z.val m.val b.val ≤ 255) ∧ ∀ m' : Fin 8, pb z.val m.val b.val / 2 ^ m'.val % 2 = if m'.val = m.val then (b.val : Int) else (z.val : Int) / 2 ^ m'.val % 2 := by decide +kernel
theorem fin_of {z : Int} (h : 0 ≤ z ∧ z ≤ 255) : ∃ f : Fin 256, z = f.val := ⟨⟨z.toNat, by omega⟩, by simp; omega⟩
theorem fin2_of {b : Int} (h : 0 ≤ b ∧ b ≤ 1) : ∃ f : Fin 2, b = f.val := ⟨⟨b.toNat, by omega⟩, by simp; omega⟩
theorem pb_b {z b : Int} {m : Nat} (hz : 0 ≤ z ∧ z ≤ 255) (hm : m < 8) (hb : 0 ≤ b ∧ b ≤ 1) : 0 ≤ pb z m b ∧ pb z m b ≤ 255 := by
  obtain ⟨f, rfl⟩ := fin_of hz
  obtain ⟨g, rfl⟩ := fin2_of hb
  exact (pb_all f ⟨m, hm⟩ g).1
theorem pb_bit {z b : Int} {m m' : Nat} (hz : 0 ≤ z ∧ z ≤ 255) (hm : m < 8) (hm' : m' < 8) (hb : 0 ≤ b ∧ b ≤ 1) : pb z m b / 2 ^ m' % 2 = if m' = m then b else z / 2 ^ m' % 2 := by
  obtain ⟨f, rfl⟩ := fin_of hz
  obtain ⟨g, rfl⟩ := fin2_of hb
  exact (pb_all f ⟨m, hm⟩ g).2 ⟨m', hm'⟩
theorem ops_all : ∀ (z : Fin 256) (m : Fin 8), (((z.val &&& (255 - 2 ^ m.val) : Nat) : Int) = pb z.val m.val 0) ∧ (((pb z.val m.val 0).toNat ||| 2 ^ m.val : Nat) : Int) = pb z.val m.val 1 ∧ (((z.val ^^^ 2 ^ m.val : Nat) : Int) = pb z.val m.val (1 - (z.val : Int) / 2 ^ m.val % 2)) ∧ pb z.val m.val ((z.val : Int) / 2 ^ m.val % 2) = z.val := by decide +kernel
theorem two_pow_lt {m : Nat} (hm : m < 8) : (2 : Nat) ^ m < 256 := Nat.lt_of_lt_of_le (Nat.pow_lt_pow_right (by decide) hm) (by decide)
theorem and_not_pb {z : Int} {m : Nat} (hz : 0 ≤ z ∧ z ≤ 255) (hm : m < 8) : bits .andNot .u8 z (2 ^ m) = pb z m 0 := by
  obtain ⟨f, rfl⟩ := fin_of hz
  have h := u8_andNot_nat f.val (2 ^ m) f.isLt (two_pow_lt hm)
  rw [show (((2 ^ m : Nat) : Int)) = 2 ^ m from Int.natCast_pow 2 m] at h
  rw [h]
  exact (ops_all f ⟨m, hm⟩).1
theorem or_pb {z : Int} {m : Nat} (hz : 0 ≤ z ∧ z ≤ 255) (hm : m < 8) : bits .or .u8 (pb z m 0) (2 ^ m) = pb z m 1 := by
  have hb := pb_b hz hm (b := 0) (by omega)
  obtain ⟨f, rfl⟩ := fin_of hz
  have h := u8_or_nat (pb f.val m 0).toNat (2 ^ m) (by omega) (two_pow_lt hm)
  rw [show (((2 ^ m : Nat) : Int)) = 2 ^ m from Int.natCast_pow 2 m, Int.toNat_of_nonneg hb.1] at h
  rw [h]
  exact (ops_all f ⟨m, hm⟩).2.1
theorem xor_pb {z : Int} {m : Nat} (hz : 0 ≤ z ∧ z ≤ 255) (hm : m < 8) : bits .xor .u8 z (2 ^ m) = pb z m (1 - z / 2 ^ m % 2) := by
  obtain ⟨f, rfl⟩ := fin_of hz
  have h := u8_xor_nat f.val (2 ^ m) f.isLt (two_pow_lt hm)
  rw [show (((2 ^ m : Nat) : Int)) = 2 ^ m from Int.natCast_pow 2 m] at h
  rw [h]
  exact (ops_all f ⟨m, hm⟩).2.2.1
theorem pb_same {z : Int} {m : Nat} (hz : 0 ≤ z ∧ z ≤ 255) (hm : m < 8) : pb z m (z / 2 ^ m % 2) = z := by
  obtain ⟨f, rfl⟩ := fin_of hz
  exact (ops_all f ⟨m, hm⟩).2.2.2
/-- Bytes with bit k being b. -/
def p1 (zs : List Int) (k : Nat) (b : Int) : List Int := zs.set (k / 8) (pb (zs.getD (k / 8) 0) (k % 8) b)
theorem p1_len (zs : List Int) (k : Nat) (b : Int) : (p1 zs k b).length = zs.length := by simp [p1]
theorem p1_byt {zs : List Int} (h : Byt zs) (k : Nat) {b : Int} (hb : 0 ≤ b ∧ b ≤ 1) : Byt (p1 zs k b) := h.set _ (pb_b (h.get _) (by omega) hb)
theorem p1_bt {zs : List Int} (h : Byt zs) {k : Nat} (hk : k < 8 * zs.length) {b : Int} (hb : 0 ≤ b ∧ b ≤ 1) (j : Nat) : bt (p1 zs k b) j = if j = k then b else bt zs j := by
  unfold bt p1
  by_cases h8 : k / 8 = j / 8
  · rw [← h8, getD_set_same (by omega), pb_bit (h.get _) (by omega) (by omega) hb]
    by_cases hj : j = k
    · subst hj; simp
    · rw [if_neg (by omega), if_neg hj]
  · rw [getD_set_ne h8, if_neg (by omega)]
/-- Bytes with the n bits from bit k on saying x. -/
def sb : List Int → Nat → Nat → Int → List Int
  | zs, _, 0, _ => zs
  | zs, k, n + 1, x => sb (p1 zs k (x % 2)) (k + 1) n (x / 2)
theorem sb_len (zs : List Int) (k n : Nat) (x : Int) : (sb zs k n x).length = zs.length := by
  induction n generalizing zs k x with
  | zero => rfl
  | succ n ih => rw [sb, ih, p1_len]
theorem sb_byt {zs : List Int} (h : Byt zs) (k n : Nat) (x : Int) : Byt (sb zs k n x) := by
  induction n generalizing zs k x with
  | zero => exact h
  | succ n ih => exact ih (p1_byt h k (by omega)) _ _
theorem half_pow (x : Int) (n : Nat) : x / 2 / 2 ^ n = x / 2 ^ (n + 1) := by
  rw [Int.ediv_ediv_of_nonneg (by omega), Int.pow_succ, Int.mul_comm]
theorem sb_bt {zs : List Int} (h : Byt zs) {k n : Nat} (hk : k + n ≤ 8 * zs.length) (x : Int) (j : Nat) : bt (sb zs k n x) j = if k ≤ j ∧ j < k + n then x / 2 ^ (j - k) % 2 else bt zs j := by
  induction n generalizing zs k x with
  | zero => rw [if_neg (by omega)]; rfl
  | succ n ih =>
    rw [sb, ih (p1_byt h k (by omega)) (by rw [p1_len]; omega), p1_bt h (by omega) (by omega)]
    by_cases h1 : k + 1 ≤ j ∧ j < k + 1 + n
    · rw [if_pos h1, if_pos (by omega), half_pow, show j - (k + 1) + 1 = j - k by omega]
    · rw [if_neg h1]
      by_cases h2 : j = k
      · subst h2
        rw [if_pos rfl, if_pos (by omega)]
        simp
      · rw [if_neg h2, if_neg (by omega)]
theorem nb_ext {zs zs' : List Int} {k k' n : Nat} (h : ∀ j, j < n → bt zs (k + j) = bt zs' (k' + j)) : nb zs k n = nb zs' k' n := by
  induction n generalizing k k' with
  | zero => rfl
  | succ n ih =>
    have h0 := h 0 (by omega)
    simp only [Nat.add_zero] at h0
    simp only [nb, h0, ih (k := k + 1) (k' := k' + 1) (fun j hj => by have := h (j + 1) (by omega); rwa [show k + (j + 1) = k + 1 + j by omega, show k' + (j + 1) = k' + 1 + j by omega] at this)]
theorem nb_dig {zs : List Int} {k n : Nat} {x : Int} (h : ∀ j, j < n → bt zs (k + j) = x / 2 ^ j % 2) (h0 : 0 ≤ x) (hx : x < 2 ^ n) : nb zs k n = x := by
  induction n generalizing k x with
  | zero => simp at hx; simp [nb]; omega
  | succ n ih =>
    have e0 := h 0 (by omega)
    simp at e0
    rw [Int.pow_succ] at hx
    rw [nb, e0, ih (k := k + 1) (x := x / 2) (fun j hj => by have := h (j + 1) (by omega); rw [half_pow]; rwa [show k + (j + 1) = k + 1 + j by omega] at this) (by omega) (by omega)]
    omega
theorem nb_zero {zs : List Int} {k n : Nat} (h : ∀ j, j < n → bt zs (k + j) = 0) : nb zs k n = 0 :=
  nb_dig (x := 0) (fun j hj => by rw [h j hj]; simp) (by omega) (Int.pow_pos (by omega))
theorem nb_zero_iff {zs : List Int} {k n : Nat} : nb zs k n = 0 ↔ ∀ j, j < n → bt zs (k + j) = 0 := by
  refine ⟨fun h => ?_, nb_zero⟩
  induction n generalizing k with
  | zero => intro j hj; omega
  | succ n ih =>
    have hb := bt_b zs k
    have hn := nb_b zs (k + 1) n
    simp only [nb] at h
    have h2 := ih (k := k + 1) (by omega)
    intro j hj
    cases j with
    | zero => simp; omega
    | succ j => have := h2 j (by omega); rwa [show k + 1 + j = k + (j + 1) by omega] at this
theorem nb_sb {zs : List Int} (h : Byt zs) {k n : Nat} (hk : k + n ≤ 8 * zs.length) {x : Int} (h0 : 0 ≤ x) (hx : x < 2 ^ n) : nb (sb zs k n x) k n = x :=
  nb_dig (fun j hj => by rw [sb_bt h hk, if_pos (by omega), show k + j - k = j by omega]) h0 hx
theorem nb_sb_ne {zs : List Int} (h : Byt zs) {k n k' n' : Nat} (hk : k + n ≤ 8 * zs.length) (x : Int) (hd : k' + n' ≤ k ∨ k + n ≤ k') : nb (sb zs k n x) k' n' = nb zs k' n' :=
  nb_ext (fun j hj => by rw [sb_bt h hk, if_neg (by omega)])
theorem bt_rep (n k : Nat) : bt (List.replicate n 0) k = 0 := by
  unfold bt
  have : (List.replicate n (0 : Int)).getD (k / 8) 0 = 0 := by
    by_cases h : k / 8 < n
    · simp [List.getD, h]
    · simp [List.getD, h]
  rw [this]; simp
end Go.Proofs.YtjhgkcbpllgdiaaDoor
