/- tables: the law's sameSn; what append makes of a list. -/
import Derived.Test.YtjjhkfhppoioiaaTpS
import Derived.BigQuiet
namespace Go.Proofs.Ytjjhkfhppoioiaa
open Go.RowKit
set_option linter.unusedVariables false
set_option maxRecDepth 100000 in
set_option maxHeartbeats 4000000 in
theorem same_s (l : List Sn) (ao bo : Option Addr) (n cap dap : Nat) (w : World) (hn : n = l.length) (hc : n ≤ cap) (hd : n ≤ dap) (hn2 : n ≤ 100000) (hA : Srcs w ao l) (hB : Srcs w bo l) :
    Calls Try.prog 11 #[.slice ao n cap, .slice bo n dap] w fun e w' => e = .returned (.bool true) ∧ Below w.heap.size w w' := by
  have HN := hid hn
  have HA := hid hA
  have HB := hid hB
  clear hn hA hB
  go_enter Try.func11, Try.ntmps11
  go_wp2_with fail
  go_loopw [5] (fun i wr => ∃ k : Nat, k ≤ n ∧ i = .int .i64 (k : Int) ∧ Below w.heap.size w wr) (fun i _ => n - (intOf i).toNat)
  case atStart => exact ⟨0, Nat.zero_le _, rfl, Below.refl _ _⟩
  case round =>
    obtain ⟨k, hk, rfl, hb⟩ := hrel
    have HBL := hid hb
    clear hb
    by_cases hlt : k < n
    · obtain ⟨ga, oa, rfl, _, x0, x1, x2, x3⟩ := (HA.out.below HBL.out).at (i := k) (by have := HN.out; omega)
      obtain ⟨gb, ob, rfl, _, y0, y1, y2, y3⟩ := (HB.out.below HBL.out).at (i := k) (by have := HN.out; omega)
      generalize l.getD k zSn = e at *
      obtain ⟨nm, a, bb, c⟩ := e
      dsimp only at x0 x1 x2 x3 y0 y1 y2 y3
      go_wp2_with fail
      go_quiet (fail)
      go_wp2_with fail
      go_roundw
      case rel => exact ⟨k + 1, by omega, by go_num, HBL.out.trans ((drewN_kp (fun _ => False) wr _).below HBL.out.size (fun _ x => x.elim))⟩
      case measure => simp [intOf]; omega
    · go_wp2_with fail
      go_ret
      exact ⟨rfl, HBL.out⟩
theorem Srcs.news {w : World} {ao : Option Addr} {l : List Sn} (h : Srcs w ao l) : ∀ ad, ao = some ad → ∀ j u, (fls l)[j]? = some u → w.cell? (ad.add j) = some u := by
  rintro ad rfl j u hu
  have hj : j < (fls l).length := (List.getElem?_eq_some_iff.1 hu).1
  rw [fls_len] at hj
  obtain ⟨b, off, e, _, hc⟩ := h (by omega)
  cases e
  rw [add_o]
  exact hc j u hu
theorem Srcs.pre {w : World} {ao : Option Addr} {l m : List Sn} (h : Srcs w ao (l ++ m)) : Srcs w ao l := by
  intro hp
  obtain ⟨b, off, e, hb, hc⟩ := h (by simp; omega)
  refine ⟨b, off, e, hb, fun j u hu => hc j u ?_⟩
  rw [fls_append, List.getElem?_append_left (List.getElem?_eq_some_iff.1 hu).1]
  exact hu
def zzs : Sn := ⟨⟨#[122, 122]⟩, 0, 0, 0⟩
/-- What a list with one more behind it lies in. -/
theorem Owns.more {w : World} {base : Nat} {v : Value} {l : List Sn} (h : Owns w base v (l ++ [zzs])) : ∃ g cap, v = .slice (some ⟨g, 0, none⟩) (l.length + 1) cap ∧ l.length + 1 ≤ cap ∧ cap ≤ maxLen ∧ g < w.heap.size ∧ Srcs w (some ⟨g, 0, none⟩) l ∧ w.cell? ⟨g, l.length * 4, none⟩ = some (.string ⟨#[122, 122]⟩) := by
  obtain ⟨g, cap, e⟩ := own_slice5 h (by simp)
  obtain ⟨ao, cap', e2, h1, h2, h3, _⟩ := h.src
  rw [e2] at e
  simp only [List.length_append, List.length_singleton] at e e2 h2
  cases e
  obtain ⟨b, off, e3, hb, c0, _⟩ := h1.at (i := l.length) (by simp)
  cases e3
  refine ⟨_, _, e2, h2, h3, hb, h1.pre, ?_⟩
  rw [Nat.zero_add] at c0
  rw [c0]
  simp [List.getD, zzs]
theorem law_owns {w : World} {base n : Nat} {v : Value} {l : List Sn} (hn : n = l.length) (h : w.ownsRow base 25 4 v (0 + n + 1) (([] ++ fls l) ++ Sn.cl zzs)) : Owns w base v (l ++ [zzs]) := by
  have : fls (l ++ [zzs]) = ([] ++ fls l) ++ Sn.cl zzs := by simp [fls]
  show w.ownsRow base 25 4 v (l ++ [zzs]).length (fls (l ++ [zzs]))
  rw [this, List.length_append, List.length_singleton, ← hn]
  rw [Nat.zero_add] at h
  exact h
theorem law_bels {w w1 w2 : World} {v : Value} {n : Nat} {xs : List Value} {o : Obj} (b1 : Below w.heap.size w w1) (h : w1.ownsRow w.heap.size 25 4 v n xs) (k : Kp (fun i => v.ownBlock = some i) (w1.alloc o) w2) : Below w.heap.size w w2 :=
  (b1.alloc b1.size o).trans (k.below (by rw [World.size_alloc]; have := b1.size; omega) (fun i e => (h.lt i e).1))
end Go.Proofs.Ytjjhkfhppoioiaa
