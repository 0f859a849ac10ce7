/- tables: names, places, numbers: the small functions of the program and of the document. -/
import Derived.Test.YtjjhkfhppoioiaaJoin
import Derived.Test.YtjjhkfhppoioiaaTn
import Derived.Test.YtjjhkfhppoioiaaRq
import Derived.Test.YtjjhkfhppoioiaaAp
import Derived.Test.YtjjhkfhppoioiaaLaws2
import Derived.Lib.Strings
import Derived.Lib.Slices
import Derived.Lib.Walk
import Derived.Lib.Bytealg
namespace Go.Proofs.Ytjjhkfhppoioiaa
open Go.RowKit
set_option linter.unusedVariables false

set_option maxRecDepth 100000 in
set_option maxHeartbeats 1000000 in
theorem sl_IndexByte (s : ByteArray) (c : Int) (w : World) : Calls Try.prog 71 #[.string s, .int .u8 c] w fun e w' => e = .returned (.int .i64 (Lib.indexByte s.data.toList c.toNat.toUInt8)) ∧ w' = w := by
  go_enter Try.func71, Try.ntmps71
  go_wp2
  rw [run_callFunc_extern Try.func73 (by kernel_rfl) (by kernel_rfl) (by kernel_rfl) (e := Extern.BytealgIndexByte.indexByte) (by kernel_rfl), Lib.run_indexByteString]
  simp only [Result.andThen]
  rw [Oper.upon_value]
  go_wp2
  go_ret
  exact ⟨rfl, rfl⟩
set_option maxRecDepth 100000 in
set_option maxHeartbeats 1000000 in
theorem s_IndexByte (s : ByteArray) (c : Int) (w : World) : Calls Try.prog 68 #[.string s, .int .u8 c] w fun e w' => e = .returned (.int .i64 (Lib.indexByte s.data.toList c.toNat.toUInt8)) ∧ w' = w := by
  go_enter Try.func68, Try.ntmps68
  go_wp2_with (go_at_call 71; refine (sl_IndexByte _ _ _).mono ?_; rintro e w' ⟨rfl, rfl⟩)
  go_ret
  exact ⟨rfl, rfl⟩
theorem index_ge (l : List UInt8) (c : UInt8) : -1 ≤ Lib.indexByte l c := by
  induction l with
  | nil => simp [Lib.indexByte]
  | cons b r ih => simp only [Lib.indexByte]; split <;> (try split) <;> omega
theorem index_neg (l : List UInt8) (c : UInt8) : Lib.indexByte l c < 0 ↔ ∀ b ∈ l, b ≠ c := by
  induction l with
  | nil => simp [Lib.indexByte]
  | cons b r ih =>
    have hg := index_ge r c
    simp only [Lib.indexByte, List.forall_mem_cons, ← ih]
    by_cases h : b = c
    · simp [h]
    · have : (b == c) = false := by simpa using h
      simp only [this, Bool.false_eq_true, if_false, ne_eq, h, not_false_eq_true, true_and]
      by_cases h2 : Lib.indexByte r c = -1
      · simp [h2]
      · have h3 : (Lib.indexByte r c == -1) = false := by simpa using h2
        simp only [h3, Bool.false_eq_true, if_false]
        omega
theorem byts_nz (s : ByteArray) : (∀ z ∈ byts s, z ≠ 0) ↔ Lib.indexByte s.data.toList (0 : Int).toNat.toUInt8 < 0 := by
  rw [index_neg]
  unfold byts
  constructor
  · intro h b hb e
    refine h (b.toNat : Int) (List.mem_map_of_mem hb) ?_
    rw [e]; rfl
  · intro h z hz
    obtain ⟨b, hb, rfl⟩ := List.mem_map.1 hz
    intro e
    refine h b hb ?_
    have : b.toNat = 0 := by omega
    exact UInt8.toNat_inj.1 (by simpa using this)
set_option maxHeartbeats 1000000 in
theorem named_any (s : ByteArray) (w : World) (hs : s.size ≤ 9223372036854775807) : Calls Try.prog 62 #[.string s] w fun e w' => Tells e (Nm s) ∧ w = w' := by
  have HB := hid (byts_nz s)
  by_cases h1 : 1 ≤ s.size
  · by_cases h2 : s.size ≤ 64
    · have IB : Hid (∀ w, Calls Try.prog 68 #[.string s, .int .u8 0] w fun e w' => e = .returned (.int .i64 (Lib.indexByte s.data.toList (0 : Int).toNat.toUInt8)) ∧ w' = w) := fun w => s_IndexByte s 0 w
      generalize Lib.indexByte s.data.toList (0 : Int).toNat.toUInt8 = x at HB IB
      by_cases hx : x < 0
      · go_enter Try.func62, Try.ntmps62
        go_wp2_with (go_at_call 68; refine (IB.out _).mono ?_; rintro e w' ⟨rfl, rfl⟩)
        go_ret
        refine ⟨Or.inl ⟨⟨h1, h2, HB.out.2 hx⟩, ?_⟩, rfl⟩
        first | rfl | simp [hx]
      · go_enter Try.func62, Try.ntmps62
        go_wp2_with (go_at_call 68; refine (IB.out _).mono ?_; rintro e w' ⟨rfl, rfl⟩)
        go_ret
        refine ⟨Or.inr ⟨fun h => by have := HB.out.1 h.2.2; omega, ?_⟩, rfl⟩
        first | rfl | (simp [hx]; try omega)
    · go_enter Try.func62, Try.ntmps62
      go_wp2
      go_ret
      exact ⟨Or.inr ⟨fun h => h2 h.2.1, rfl⟩, rfl⟩
  · go_enter Try.func62, Try.ntmps62
    go_wp2
    go_ret
    exact ⟨Or.inr ⟨fun h => h1 h.1, rfl⟩, rfl⟩
set_option maxHeartbeats 1000000 in
theorem clustered_yes (b : Int) (w : World) (h : Bt b) : Calls Try.prog 35 #[.int .i64 b] w fun e w' => e = .returned (.bool true) ∧ w = w' := by
  obtain ⟨h1, h2⟩ := h
  go_enter Try.func35, Try.ntmps35
  go_wp2
  go_ret
  exact ⟨rfl, rfl⟩
set_option maxHeartbeats 1000000 in
theorem clustered_no (b : Int) (w : World) (h : ¬ Bt b) : Calls Try.prog 35 #[.int .i64 b] w fun e w' => e = .returned (.bool false) ∧ w = w' := by
  by_cases h1 : 9 ≤ b
  · have h2 : ¬ b ≤ 16 := fun h2 => h ⟨h1, h2⟩
    go_enter Try.func35, Try.ntmps35
    go_wp2
    go_ret
    exact ⟨rfl, rfl⟩
  · go_enter Try.func35, Try.ntmps35
    go_wp2
    go_ret
    exact ⟨rfl, rfl⟩
set_option maxHeartbeats 2000000 in
theorem lies_any (x n most c : Int) (w : World) (hx : I6 x) (hc : 512 ≤ c ∧ c ≤ 65536) : Calls Try.prog 63 #[.int .i64 x, .int .i64 n, .int .i64 most, .int .i64 c] w fun e w' => Tells e (Lie c most x n) ∧ w = w' := by
  unfold I6 at hx
  by_cases c0 : n = 0
  · subst c0
    by_cases c1 : x = 0
    · subst c1
      go_enter Try.func63, Try.ntmps63
      go_wp2
      go_ret
      exact ⟨Or.inl ⟨Or.inl ⟨rfl, rfl⟩, rfl⟩, rfl⟩
    · go_enter Try.func63, Try.ntmps63
      go_wp2
      go_ret
      refine ⟨Or.inr ⟨fun h => ?_, ?_⟩, rfl⟩
      · rcases h with ⟨_, h⟩ | ⟨h, _⟩
        · exact c1 h
        · omega
      · first | rfl | simp [c1]
  · by_cases c1 : 0 < n
    · by_cases c2 : n ≤ most
      · by_cases c3 : 0 < x
        · by_cases c4 : x ≤ 268435456
          · have e1 : x.tmod c = x % c := Int.tmod_eq_emod_of_nonneg (by omega)
            have m0 := Int.emod_nonneg x (show c ≠ 0 by omega)
            have m1 := Int.emod_lt_of_pos x (show 0 < c by omega)
            have HP : Hid (x % c = 0 → Lie c most x n) := fun e => Or.inr ⟨c1, c2, c3, c4, e⟩
            have HN : Hid (x % c ≠ 0 → ¬ Lie c most x n) := fun e h => by
              rcases h with ⟨h, _⟩ | ⟨_, _, h⟩
              · omega
              · exact e h.2.2
            generalize hm : x % c = m at *
            by_cases hz : m = 0
            · subst hz
              go_enter Try.func63, Try.ntmps63
              go_wp2
              go_ret
              exact ⟨Or.inl ⟨HP.out (by trivial), rfl⟩, rfl⟩
            · go_enter Try.func63, Try.ntmps63
              go_wp2
              go_ret
              exact ⟨Or.inr ⟨HN.out hz, by simp [hz]⟩, rfl⟩
          · go_enter Try.func63, Try.ntmps63
            go_wp2
            go_ret
            exact ⟨Or.inr ⟨fun h => by (rcases h with ⟨h, _⟩ | ⟨_, _, h⟩; (· omega); have := h.2.1; omega), rfl⟩, rfl⟩
        · go_enter Try.func63, Try.ntmps63
          go_wp2
          go_ret
          exact ⟨Or.inr ⟨fun h => by (rcases h with ⟨h, _⟩ | ⟨_, _, h⟩; (· omega); have := h.1; omega), rfl⟩, rfl⟩
      · have c2' : decide (n ≤ most) = false := by simpa using c2
        go_enter Try.func63, Try.ntmps63
        go_wp2
        go_ret
        exact ⟨Or.inr ⟨fun h => by (rcases h with ⟨h, _⟩ | ⟨_, h, _⟩; (· omega); omega), rfl⟩, rfl⟩
    · go_enter Try.func63, Try.ntmps63
      go_wp2
      go_ret
      exact ⟨Or.inr ⟨fun h => by (rcases h with ⟨h, _⟩ | ⟨h, _⟩; (· omega); omega), rfl⟩, rfl⟩
end Go.Proofs.Ytjjhkfhppoioiaa
