/- Plain mathematics of bytes: the number that bytes say, the lowest first (val), a number's bytes (num), and what the calls of chapter 1 answer in these words. -/
import Derived.WalkKit
import Derived.Laws.CopyOwn
namespace Go.Proofs.Ytjjhkfhppoioiaa
open Go.RowKit

def val : List Int → Int
  | [] => 0
  | b :: r => b + 256 * val r
def num (x : Int) : Nat → List Int
  | 0 => []
  | n + 1 => (x % 256) :: num (x / 256) n

/-- All are bytes. -/
def Byt (zs : List Int) : Prop := ∀ z ∈ zs, 0 ≤ z ∧ z ≤ 255

theorem Byt.take {zs : List Int} (h : Byt zs) (n : Nat) : Byt (zs.take n) := fun z hz => h z (List.mem_of_mem_take hz)
theorem Byt.drop {zs : List Int} (h : Byt zs) (n : Nat) : Byt (zs.drop n) := fun z hz => h z (List.mem_of_mem_drop hz)
theorem Byt.append {a b : List Int} (ha : Byt a) (hb : Byt b) : Byt (a ++ b) := fun z hz => (List.mem_append.1 hz).elim (ha z) (hb z)
theorem getD_lt {α : Type} (l : List α) (i : Nat) (d : α) (h : i < l.length) : l.getD i d = l[i] := by simp [List.getD, h]
theorem getD_ge {α : Type} (l : List α) (i : Nat) (d : α) (h : l.length ≤ i) : l.getD i d = d := by simp [List.getD, List.getElem?_eq_none h]
theorem Byt.get {zs : List Int} (h : Byt zs) (i : Nat) : 0 ≤ zs.getD i 0 ∧ zs.getD i 0 ≤ 255 := by
  by_cases hi : i < zs.length
  · rw [getD_lt _ _ _ hi]; exact h _ (List.getElem_mem hi)
  · rw [getD_ge _ _ _ (by omega)]; omega
theorem num_length (x : Int) (n : Nat) : (num x n).length = n := by
  induction n generalizing x with
  | zero => rfl
  | succ n ih => simp [num, ih]
theorem num_byt (x : Int) (n : Nat) : Byt (num x n) := by
  induction n generalizing x with
  | zero => intro z hz; simp [num] at hz
  | succ n ih =>
    intro z hz
    simp only [num, List.mem_cons] at hz
    rcases hz with rfl | hz
    · omega
    · exact ih _ z hz
theorem val_bound (l : List Int) (h : Byt l) : 0 ≤ val l ∧ val l < 256 ^ l.length := by
  induction l with
  | nil => simp [val]
  | cons b r ih =>
    have hb := h b (by simp)
    have hr := ih (fun z hz => h z (by simp [hz]))
    simp only [val, List.length_cons, Int.pow_succ]
    omega
theorem val_num (x : Int) (n : Nat) : val (num x n) = x % 256 ^ n := by
  induction n generalizing x with
  | zero => simp [num, val]
  | succ n ih =>
    simp only [num, val, ih]
    have hp : (0 : Int) < 256 ^ n := Int.pow_pos (by omega)
    rw [Int.pow_succ, Int.mul_comm (256 ^ n) 256]
    have h1 : x / (256 * 256 ^ n) = x / 256 / 256 ^ n := (Int.ediv_ediv_of_nonneg (by omega)).symm
    rw [Int.emod_def x (256 * 256 ^ n), h1, Int.emod_def (x / 256), Int.emod_def x 256, Int.mul_assoc, Int.mul_sub]
    omega
theorem val_num_of_lt (x : Int) (n : Nat) (h0 : 0 ≤ x) (h : x < 256 ^ n) : val (num x n) = x := by
  rw [val_num]; exact Int.emod_eq_of_lt h0 h
theorem val_drop_step (B : List Int) (j : Nat) (hj : j < B.length) : val (B.drop j) = B.getD j 0 + 256 * val (B.drop (j + 1)) := by
  rw [List.drop_eq_getElem_cons hj, getD_lt _ _ _ hj, val]
theorem pow256_8 : (256 : Int) ^ 8 = 18446744073709551616 := by decide
theorem pow256_le {m n : Nat} (h : m ≤ n) : (256 : Int) ^ m ≤ 256 ^ n := by
  induction n with
  | zero => obtain rfl : m = 0 := by omega
            exact Int.le_refl _
  | succ n ih =>
    by_cases e : m = n + 1
    · subst e; exact Int.le_refl _
    · have := ih (by omega)
      have hp : (0 : Int) < 256 ^ n := Int.pow_pos (by omega)
      rw [Int.pow_succ]; omega
theorem num_take (x : Int) (n m : Nat) (h : m ≤ n) : (num x n).take m = num x m := by
  induction m generalizing x n with
  | zero => simp [num]
  | succ m ih =>
    cases n with
    | zero => omega
    | succ n => simp [num, ih (x / 256) n (by omega)]
theorem num_snoc (x : Int) (n : Nat) : num x (n + 1) = num x n ++ [x / 256 ^ n % 256] := by
  induction n generalizing x with
  | zero => simp [num]
  | succ n ih =>
    rw [num, ih (x / 256)]
    simp only [num, List.cons_append]
    congr 3
    rw [Int.pow_succ, Int.mul_comm, Int.ediv_ediv_of_nonneg (by omega)]

/-- The error of n bytes at a place within len bytes. -/
def inE (len : Nat) (at_ n : Int) : Int := if at_ < 0 ∨ (len : Int) - n < at_ then 4 else 0
def numE (len : Nat) (at_ n : Int) : Int := if n < 1 ∨ 8 < n then 2 else inE len at_ n
def txtE (len : Nat) (at_ most : Int) : Int := if most < 0 ∨ 1048576 < most then 2 else inE len at_ (4 + most)

theorem inE_ok {len : Nat} {at_ n : Int} (h : inE len at_ n = 0) : 0 ≤ at_ ∧ at_ + n ≤ len := by unfold inE at h; split at h <;> omega
theorem numE_ok {len : Nat} {at_ n : Int} (h : numE len at_ n = 0) : 1 ≤ n ∧ n ≤ 8 ∧ 0 ≤ at_ ∧ at_ + n ≤ len := by
  unfold numE at h; split at h
  · omega
  · have := inE_ok h; omega
theorem txtE_ok {len : Nat} {at_ m : Int} (h : txtE len at_ m = 0) : 0 ≤ m ∧ m ≤ 1048576 ∧ 0 ≤ at_ ∧ at_ + (4 + m) ≤ len := by
  unfold txtE at h; split at h
  · omega
  · have := inE_ok h; omega
theorem inE_mk {len : Nat} {at_ n : Int} (h0 : 0 ≤ at_) (h : at_ + n ≤ len) : inE len at_ n = 0 := by unfold inE; rw [if_neg (by omega)]
theorem numE_mk {len : Nat} {at_ n : Int} (h1 : 1 ≤ n) (h8 : n ≤ 8) (h0 : 0 ≤ at_) (h : at_ + n ≤ len) : numE len at_ n = 0 := by unfold numE; rw [if_neg (by omega), inE_mk h0 h]

/-- What Get tells. -/
def getV (zs : List Int) (at_ n : Int) : Int := if numE zs.length at_ n = 0 then val ((zs.drop at_.toNat).take n.toNat) else 0
/-- The error of Set. -/
def setE (len : Nat) (at_ n x : Int) : Int := if numE len at_ n = 0 then (if x < 256 ^ n.toNat then 0 else 3) else numE len at_ n
/-- What Set leaves. -/
def setR (zs : List Int) (at_ n x : Int) : List Int := if setE zs.length at_ n x = 0 then splice zs at_.toNat (num x n.toNat) else zs

theorem getV_bound (zs : List Int) (at_ n : Int) (h : Byt zs) : 0 ≤ getV zs at_ n ∧ getV zs at_ n < 18446744073709551616 := by
  unfold getV
  split
  · rename_i he
    have hk := numE_ok he
    have hb := val_bound _ ((h.drop at_.toNat).take n.toNat)
    have hl : ((zs.drop at_.toNat).take n.toNat).length ≤ 8 := by simp; omega
    have := pow256_le hl
    rw [pow256_8] at this
    omega
  · omega
theorem setR_length (zs : List Int) (at_ n x : Int) : (setR zs at_ n x).length = zs.length := by
  unfold setR; split
  · rename_i h
    have : numE zs.length at_ n = 0 := by unfold setE at h; split at h <;> simp_all
    have := numE_ok this
    exact length_splice _ _ _ (by rw [num_length]; omega)
  · rfl
theorem splice_byt {zs cs : List Int} {o : Nat} (h : Byt zs) (hc : Byt cs) : Byt (splice zs o cs) := (h.take o).append (hc.append (h.drop _))
theorem setR_byt (zs : List Int) (at_ n x : Int) (h : Byt zs) : Byt (setR zs at_ n x) := by
  unfold setR; split
  · exact splice_byt h (num_byt _ _)
  · exact h
theorem splice_read {α : Type} (zs cs : List α) (o : Nat) (h : o + cs.length ≤ zs.length) : ((splice zs o cs).drop o).take cs.length = cs := by
  unfold splice
  rw [List.drop_append_of_le_length (by simp; omega), List.drop_eq_nil_of_le (by simp; omega), List.nil_append, List.take_append_of_le_length (by omega), List.take_length]
/-- Get behind Set is the number. -/
theorem getV_setR (zs : List Int) (at_ n x : Int) (h0 : 0 ≤ x) (he : setE zs.length at_ n x = 0) : getV (setR zs at_ n x) at_ n = x := by
  have hn : numE zs.length at_ n = 0 := by unfold setE at he; split at he <;> simp_all
  have hk := numE_ok hn
  have hx : x < 256 ^ n.toNat := by
    unfold setE at he; rw [if_pos hn] at he
    split at he
    · assumption
    · omega
  unfold getV
  rw [setR_length, if_pos hn]
  unfold setR; rw [if_pos he]
  have := splice_read zs (num x n.toNat) at_.toNat (by rw [num_length]; omega)
  rw [num_length] at this
  rw [this]
  exact val_num_of_lt x _ h0 hx
theorem splice_map {α β : Type} (f : α → β) (zs cs : List α) (o : Nat) : (splice zs o cs).map f = splice (zs.map f) o (cs.map f) := by simp [splice, List.map_take, List.map_drop]

end Go.Proofs.Ytjjhkfhppoioiaa
