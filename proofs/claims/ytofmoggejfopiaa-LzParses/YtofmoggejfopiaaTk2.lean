/- Two lists of tokens held against one another. -/
import Derived.Test.YtofmoggejfopiaaExW
namespace Go.Proofs.Ytofmoggejfopiaa
open Go.RowKit
set_option maxRecDepth 100000 in
set_option maxHeartbeats 2000000 in
theorem same_toks (ts : List Tok) (ao bo : Option Addr) (N capA capB : Nat) (w : World) (hNe : N = ts.length) (hN : N ≤ 1048576) (hA : TSrc w ao ts) (hB : TSrc w bo ts) :
    Calls Try.prog 16 #[.slice ao N capA, .slice bo N capB] w fun e w' => e = .returned (.bool true) ∧ Below w.heap.size w w' := by
  have HNE : Hid (N = ts.length) := hNe
  have HA : Hid (TSrc w ao ts) := hA
  have HB : Hid (TSrc w bo ts) := hB
  clear hNe hA hB
  go_enter Try.func16, Try.ntmps16
  go_wp2_with fail
  go_loopw [5] (fun u5 wr => ∃ k : Nat, k ≤ N ∧ u5 = .int .i64 (k : Int) ∧ Below w.heap.size w wr) (fun u5 _ => N - (intOf u5).toNat)
  case atStart => exact ⟨0, Nat.zero_le _, rfl, Below.refl _ _⟩
  case round =>
    obtain ⟨k, hk, rfl, hb⟩ := hrel
    have HBW : Hid (Below w.heap.size w wr) := hb
    clear hb
    by_cases hlt : k < N
    · obtain ⟨ga, oa, hao, hcs⟩ := (HA.out.below HBW.out) (by have := HNE.out; omega)
      obtain ⟨gb, ob, hbo, hds⟩ := (HB.out.below HBW.out) (by have := HNE.out; omega)
      subst hao hbo
      obtain ⟨x0, x1, x2⟩ := hcs k (by have := HNE.out; omega)
      obtain ⟨z0, z1, z2⟩ := hds k (by have := HNE.out; omega)
      obtain ⟨⟨y, l, d⟩, ht⟩ : ∃ t, t = ts.getD k zt := ⟨_, rfl⟩
      rw [← ht] at x0 x1 x2 z0 z1 z2
      dsimp only at x0 x1 x2 z0 z1 z2
      clear hcs hds ht
      go_wp2_with fail
      go_region_held3 (fun w' => w'.cell? ⟨ga, oa + k * 3, none⟩ = some (.int .u8 y) ∧ w'.cell? ⟨ga, oa + k * 3 + 1, none⟩ = some (.int .i64 l) ∧ w'.cell? ⟨ga, oa + k * 3 + 2, none⟩ = some (.int .i64 d) ∧ w'.cell? ⟨gb, ob + k * 3, none⟩ = some (.int .u8 y) ∧ w'.cell? ⟨gb, ob + k * 3 + 1, none⟩ = some (.int .i64 l) ∧ w'.cell? ⟨gb, ob + k * 3 + 2, none⟩ = some (.int .i64 d)) (first | (exact ⟨x0, x1, x2, z0, z1, z2⟩) | go_keep) (fail)
      have HB5 : Hid (Below w.heap.size w wr.drew) := HBW.out.drew
      clear x0 x1 x2 z0 z1 z2
      go_wp2
      exact ⟨⟨k + 1, hlt, by simp, HB5.out⟩, by simp [intOf]; omega⟩
    · obtain rfl : k = N := by omega
      go_wp2
      go_ret
      exact ⟨rfl, HBW.out⟩
end Go.Proofs.Ytofmoggejfopiaa
