/- Contracts of the reference's Get and Set: the document's answers, in the words of chapter 1. -/
import Derived.Test.YtjjhkfhppoioiaaOwn
namespace Go.Proofs.Ytjjhkfhppoioiaa
open Go.RowKit

theorem inE_beq {len : Nat} {at_ n : Int} (h : inE len at_ n = 0) : (inE len at_ n == 0) = true := by simp [h]

theorem value_seg (g off cap : Nat) (zs : List Int) (a n : Nat) (w : World) (hb : Byt zs) (hn : n ≤ 8) (hf : a + n ≤ zs.length)
    (hc : ∀ i, i < zs.length → w.cell? ⟨g, off + i, none⟩ = some (.int .u8 (zs.getD i 0))) :
    Calls Try.prog 57 #[.slice (some ⟨g, off + a, none⟩) n cap] w fun e w' => e = .returned (.int .u64 (val ((zs.drop a).take n))) ∧ w = w' := by
  have hl : ((zs.drop a).take n).length = n := by simp; omega
  have h := value_any g (off + a) cap ((zs.drop a).take n) w ((hb.drop _).take _) (by omega) (by
    intro i hi
    rw [hl] at hi
    rw [Nat.add_assoc, hc (a + i) (by omega)]
    simp [List.getD, hi, List.getElem?_drop])
  rw [hl] at h
  exact h

/-- Number, its answer written out. -/
theorem number_own (x : Int) (n : Nat) (w : World) (hx0 : 0 ≤ x) (hx1 : x < 18446744073709551616) (h1 : 1 ≤ n) (hn : n ≤ 8) :
    Calls Try.prog 25 #[.int .u64 x, .int .i64 n] w fun e w' => ∃ g c, e = .returned (.slice (some ⟨g, 0, none⟩) n c) ∧ Src w' (some ⟨g, 0, none⟩) (num x n) ∧ Below w.heap.size w w' := by
  refine (number_ref x n w hx0 hx1 hn).mono ?_
  rintro e w' ⟨v, rfl, hown, hb⟩
  have hlen := num_length x n
  rcases hown.2 with ⟨rfl, h0⟩ | ⟨g, cap, cur, rfl, _⟩
  · omega
  · refine ⟨g, cap, rfl, Src.mk fun i hi => ?_, hb⟩
    have hc := World.ownsRow.cells hown (g := g) rfl i (.int .u8 ((num x n).getD i 0)) (by simp [List.getD, hi])
    rw [Nat.zero_add, ← add_z]
    exact hc

theorem value_num (g c : Nat) (x : Int) (n : Nat) (w : World) (hn : n ≤ 8) (hs : Src w (some ⟨g, 0, none⟩) (num x n)) :
    Calls Try.prog 57 #[.slice (some ⟨g, 0, none⟩) n c] w fun e w' => e = .returned (.int .u64 (val (num x n))) ∧ w = w' := by
  have h := value_any g 0 c (num x n) w (num_byt x n) (by rw [num_length]; exact hn) hs.at
  rw [num_length] at h
  exact h

end Go.Proofs.Ytjjhkfhppoioiaa
