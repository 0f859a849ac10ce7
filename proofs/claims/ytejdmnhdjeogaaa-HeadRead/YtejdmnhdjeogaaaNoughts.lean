/- Contract of wire.Noughts: whether the bytes of a part are noughts, or the error; nothing in memory turns. -/
import Derived.Test.YtejdmnhdjeogaaaSet
namespace Go.Proofs.Ytejdmnhdjeogaaa
open Go.RowKit

def nouE (len : Nat) (from_ until_ : Int) : Int := if from_ < 0 ∨ until_ < from_ ∨ (len : Int) < until_ then 4 else 0
def nouB (zs : List Int) : Bool := zs.all (fun z => z == 0)

set_option maxHeartbeats 400000 in
theorem noughts_err (ao : Option Addr) (len cap : Nat) (f u : Int) (w : World) (h : f < 0 ∨ u < f ∨ (len : Int) < u) :
    Calls Try.prog 41 #[.slice ao len cap, .int .i64 f, .int .i64 u] w fun e w' => e = .returned (.tuple #[.bool false, .int .i64 4]) ∧ w = w' := by
  by_cases h1 : f < 0
  · go_enter Try.func41, Try.ntmps41
    go_wp2
    go_ret2
    exact ⟨rfl, rfl⟩
  · by_cases h2 : u < f
    · go_enter Try.func41, Try.ntmps41
      go_wp2
      go_ret2
      exact ⟨rfl, rfl⟩
    · have h3 : (len : Int) < u := by omega
      clear h
      go_enter Try.func41, Try.ntmps41
      go_wp2
      go_ret2
      exact ⟨rfl, rfl⟩

theorem nouB_step (zs : List Int) (f k m : Nat) (h : f + k < zs.length) (hk : k < m) (hz : nouB ((zs.drop f).take k) = true) :
    ((zs.getD (f + k) 0 == 0) = true → nouB ((zs.drop f).take (k + 1)) = true) ∧ ((zs.getD (f + k) 0 == 0) = false → nouB ((zs.drop f).take m) = false) := by
  have hg : (zs.drop f)[k]? = some (zs.getD (f + k) 0) := by rw [List.getElem?_drop]; simp [List.getD, h]
  constructor
  · intro h0
    rw [List.take_add_one, hg]
    simp only [nouB, Option.toList_some, List.all_append, Bool.and_eq_true] at hz ⊢
    exact ⟨hz, by simpa using h0⟩
  · intro h0
    unfold nouB
    rw [List.all_eq_false]
    refine ⟨zs.getD (f + k) 0, ?_, by simpa using h0⟩
    have : ((zs.drop f).take m)[k]? = some (zs.getD (f + k) 0) := by rw [List.getElem?_take, if_pos hk, hg]
    exact List.mem_of_getElem? this

set_option maxHeartbeats 400000 in
theorem noughts_ok (g off cap : Nat) (zs : List Int) (f u : Nat) (w : World) (hl : zs.length ≤ 9223372036854775807)
    (hc : ∀ i, i < zs.length → w.cell? ⟨g, off + i, none⟩ = some (.int .u8 (zs.getD i 0))) (h1 : f ≤ u) (h2 : u ≤ zs.length) (h3 : zs.length ≤ cap) :
    Calls Try.prog 41 #[.slice (some ⟨g, off, none⟩) zs.length cap, .int .i64 f, .int .i64 u] w fun e w' =>
      e = .returned (.tuple #[.bool (nouB ((zs.drop f).take (u - f))), .int .i64 0]) ∧ w = w' := by
  by_cases he : f = u
  · subst he
    rw [Nat.sub_self, List.take_zero, show nouB [] = true from rfl]
    go_enter Try.func41, Try.ntmps41
    go_wp2
    all_goals
      refine wp_loop_rounds 1 ?_
      rw [rounds_succ]
      go_wp2
      go_ret2
      exact ⟨rfl, rfl⟩
  · have hlt : f < u := by omega
    have hcf : ¬ cap = f := by omega
    go_enter Try.func41, Try.ntmps41
    go_wp2
    go_loop [28] (fun i => ∃ k : Nat, k ≤ u - f ∧ i = .int .i64 k ∧ nouB ((zs.drop f).take k) = true) (fun i => (u - f) - (intOf i).toNat)
    case atStart => exact ⟨0, Nat.zero_le _, rfl, rfl⟩
    case round =>
      obtain ⟨k, hk, rfl, hz⟩ := hrel
      by_cases hku : k < u - f
      · have hcell := hc (f + k) (by omega)
        rw [← Nat.add_assoc] at hcell
        obtain ⟨s1, s2⟩ := nouB_step zs f k (u - f) (by omega) hku hz
        obtain ⟨z, hz0⟩ : ∃ z, z = zs.getD (f + k) 0 := ⟨_, rfl⟩
        rw [← hz0] at hcell s1 s2
        have HZ : Hid (nouB ((zs.drop f).take k) = true) := hz
        have S1 : Hid ((z == 0) = true → nouB ((zs.drop f).take (k + 1)) = true) := s1
        have S2 : Hid ((z == 0) = false → nouB ((zs.drop f).take (u - f)) = false) := s2
        clear hz s1 s2 hz0
        by_cases h0 : z = 0
        · subst h0
          go_wp2
          go_round
          case rel => exact ⟨k + 1, by omega, by go_num, S1.out rfl⟩
          case measure => simp [intOf]; omega
        · have hb : (z != 0) = true := by simpa using h0
          go_wp2
          go_ret2
          rw [S2.out (by simpa using h0)]
          exact ⟨rfl, rfl⟩
      · obtain rfl : k = u - f := by omega
        have HZ : Hid (nouB ((zs.drop f).take (u - f)) = true) := hz
        clear hz
        go_wp2
        go_ret2
        rw [HZ.out]
        exact ⟨rfl, rfl⟩

/-- Noughts, whatever the part. -/
theorem noughts_any (g off cap : Nat) (zs : List Int) (f u : Int) (w : World) (hl : zs.length ≤ 9223372036854775807)
    (hc : ∀ i, i < zs.length → w.cell? ⟨g, off + i, none⟩ = some (.int .u8 (zs.getD i 0))) (h3 : zs.length ≤ cap) :
    Calls Try.prog 41 #[.slice (some ⟨g, off, none⟩) zs.length cap, .int .i64 f, .int .i64 u] w fun e w' =>
      e = .returned (.tuple #[.bool (if nouE zs.length f u = 0 then nouB ((zs.drop f.toNat).take (u.toNat - f.toNat)) else false), .int .i64 (nouE zs.length f u)]) ∧ w = w' := by
  by_cases h : f < 0 ∨ u < f ∨ (zs.length : Int) < u
  · have e : nouE zs.length f u = 4 := by unfold nouE; rw [if_pos h]
    rw [e, if_neg (by omega)]
    exact noughts_err _ _ _ _ _ _ h
  · have e : nouE zs.length f u = 0 := by unfold nouE; rw [if_neg h]
    rw [e, if_pos rfl]
    obtain ⟨a, rfl⟩ := Int.eq_ofNat_of_zero_le (show 0 ≤ f by omega)
    obtain ⟨b, rfl⟩ := Int.eq_ofNat_of_zero_le (show 0 ≤ u by omega)
    rw [Int.toNat_natCast, Int.toNat_natCast]
    exact noughts_ok g off cap zs a b w hl hc (by omega) (by omega) h3
end Go.Proofs.Ytejdmnhdjeogaaa
