/- Names, and what speaks against them; a file is looked up; a step. -/
import Derived.Test.YtlnknkeagonmpaaGreatFr
import Derived.Lib.Strings
import Derived.Lib.Slices
import Derived.Lib.Walk
import Derived.Lib.Bytealg
namespace Go.Proofs.YtlnknkeagonmpaaGreat
open Go.RowKit

set_option maxRecDepth 100000 in
set_option maxHeartbeats 1000000 in
theorem sl_IndexByte (s : ByteArray) (c : Int) (w : World) : Calls Tryz.prog 86 #[.string s, .int .u8 c] w fun e w' => e = .returned (.int .i64 (Lib.indexByte s.data.toList c.toNat.toUInt8)) ∧ w' = w := by
  go_enter Tryz.func86, Tryz.ntmps86
  go_wp2
  rw [run_callFunc_extern Tryz.func94 (by kernel_rfl) (by kernel_rfl) (by kernel_rfl) (e := Extern.BytealgIndexByte.indexByte) (by kernel_rfl), Lib.run_indexByteString]
  simp only [Result.andThen]
  rw [Oper.upon_value]
  go_wp2
  go_ret
  exact ⟨rfl, rfl⟩
set_option maxRecDepth 100000 in
set_option maxHeartbeats 1000000 in
theorem s_IndexByte (s : ByteArray) (c : Int) (w : World) : Calls Tryz.prog 63 #[.string s, .int .u8 c] w fun e w' => e = .returned (.int .i64 (Lib.indexByte s.data.toList c.toNat.toUInt8)) ∧ w' = w := by
  go_enter Tryz.func63, Tryz.ntmps63
  go_wp2_with (go_at_call 86; refine (sl_IndexByte _ _ _).mono ?_; rintro e w' ⟨rfl, rfl⟩)
  go_ret
  exact ⟨rfl, rfl⟩
/-- Is it a name? -/
def nmd (s : ByteArray) : Bool := decide (1 ≤ s.size) && decide (s.size ≤ 64) && decide (Lib.indexByte s.data.toList 0 < 0)
theorem nmd_ne {s : ByteArray} (h : nmd s = true) : 1 ≤ s.size ∧ s.size ≤ 64 ∧ Lib.indexByte s.data.toList 0 < 0 := by
  simp only [nmd, Bool.and_eq_true, decide_eq_true_eq] at h
  exact ⟨h.1.1, h.1.2, h.2⟩
set_option maxRecDepth 100000 in
set_option maxHeartbeats 1000000 in
theorem allowed_live (s : ByteArray) (g m : Nat) (w : World) (hc : w.cell? ⟨g, 0, none⟩ = some (.map (some m))) (hs : s.size ≤ maxLen) : Calls Tryz.prog 33 #[.pointer (some ⟨g, 0, none⟩), .string s] w fun e w' => e = .returned (.int .i64 (if nmd s then 0 else 2)) ∧ w' = w := by
  unfold maxLen at hs
  by_cases h0 : s.size = 0
  · have hE : s.toList.isEmpty = true := by rw [ByteArray.toList_eq]; have : s.data = #[] := Array.eq_empty_of_size_eq_zero h0; rw [this]; rfl
    have hn : nmd s = false := by simp [nmd]; omega
    rw [hn]
    go_enter Tryz.func33, Tryz.ntmps33
    go_wp2_with (first | (go_at_call 57; refine (none_live g m _ hc).mono ?_; rintro e w' ⟨rfl, rfl⟩))
    go_ret
    exact ⟨rfl, rfl⟩
  · have hE : s.toList.isEmpty = false := by
      rw [ByteArray.toList_eq]
      cases hq : s.data.toList with
      | nil => exfalso; apply h0; have := congrArg List.length hq; simpa using this
      | cons _ _ => rfl
    have hsz : 1 ≤ s.size := by omega
    by_cases h1 : 64 < s.size
    · have h1' : decide ((64 : Int) < (s.size : Int)) = true := by simp; omega
      have hn : nmd s = false := by simp [nmd]; omega
      rw [hn]
      go_enter Tryz.func33, Tryz.ntmps33
      go_wp2_with (first | (go_at_call 57; refine (none_live g m _ hc).mono ?_; rintro e w' ⟨rfl, rfl⟩))
      go_ret
      exact ⟨rfl, rfl⟩
    · have h1' : decide ((64 : Int) < (s.size : Int)) = false := by simp; omega
      by_cases h2 : Lib.indexByte s.data.toList 0 < 0
      · have hn : nmd s = true := by simp [nmd]; omega
        rw [hn]
        have h2' : Lib.indexByte s.data.toList (0 : Int).toNat.toUInt8 < 0 := h2
        obtain ⟨x, hx⟩ : ∃ x, x = Lib.indexByte s.data.toList (0 : Int).toNat.toUInt8 := ⟨_, rfl⟩
        have HX : Hid (Lib.indexByte s.data.toList (0 : Int).toNat.toUInt8 = x) := hx.symm
        rw [← hx] at h2'
        have h2d : decide (0 ≤ x) = false := by simp; omega
        clear hx h2 hn
        go_enter Tryz.func33, Tryz.ntmps33
        go_wp2_with (first | (go_at_call 57; refine (none_live g m _ hc).mono ?_; rintro e w' ⟨rfl, rfl⟩) | (go_at_call 63; refine (s_IndexByte s 0 _).mono ?_; rintro e w' ⟨rfl, rfl⟩; rw [HX.out]))
        go_ret
        exact ⟨rfl, rfl⟩
      · have hn : nmd s = false := by simp [nmd]; omega
        rw [hn]
        have h2' : ¬ Lib.indexByte s.data.toList (0 : Int).toNat.toUInt8 < 0 := h2
        obtain ⟨x, hx⟩ : ∃ x, x = Lib.indexByte s.data.toList (0 : Int).toNat.toUInt8 := ⟨_, rfl⟩
        have HX : Hid (Lib.indexByte s.data.toList (0 : Int).toNat.toUInt8 = x) := hx.symm
        rw [← hx] at h2'
        have h2d : decide (0 ≤ x) = true := by simp; omega
        clear hx h2 hn
        go_enter Tryz.func33, Tryz.ntmps33
        go_wp2_with (first | (go_at_call 57; refine (none_live g m _ hc).mono ?_; rintro e w' ⟨rfl, rfl⟩) | (go_at_call 63; refine (s_IndexByte s 0 _).mono ?_; rintro e w' ⟨rfl, rfl⟩; rw [HX.out]))
        go_ret
        exact ⟨rfl, rfl⟩
set_option maxRecDepth 100000 in
set_option maxHeartbeats 1000000 in
theorem allowed_nos (s : ByteArray) (v : Value) (w : World) (h : Nos w v) : Calls Tryz.prog 33 #[v, .string s] w fun e w' => e = .returned (.int .i64 1) ∧ w' = w := by
  have H : Hid (Nos w v) := h
  clear h
  go_enter Tryz.func33, Tryz.ntmps33
  go_wp2_with (first | (go_at_call 57; refine (none_nos v _ H.out).mono ?_; rintro e w' ⟨rfl, rfl⟩))
  go_ret
  exact ⟨rfl, rfl⟩
end Go.Proofs.YtlnknkeagonmpaaGreat
