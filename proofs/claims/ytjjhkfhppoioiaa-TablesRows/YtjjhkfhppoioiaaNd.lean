/- tables: the document's Named and Place, each way; a name's bytes. -/
import Derived.Test.YtjjhkfhppoioiaaNc
import Derived.Test.YtjjhkfhppoioiaaLaws3
namespace Go.Proofs.Ytjjhkfhppoioiaa
open Go.RowKit
set_option linter.unusedVariables false
theorem rnamed_yes {s : ByteArray} (h : Nm s) (hs : s.size ≤ 9223372036854775807) (w : World) : Calls Try.prog 48 #[.string s] w fun e w' => e = .returned (.bool true) ∧ w = w' := by
  refine (rnamed s w hs).mono ?_
  rintro e w' ⟨⟨_, rfl⟩ | ⟨q, _⟩, ew⟩
  · exact ⟨rfl, ew⟩
  · exact absurd h q
theorem rnamed_no {s : ByteArray} (h : ¬ Nm s) (hs : s.size ≤ 9223372036854775807) (w : World) : Calls Try.prog 48 #[.string s] w fun e w' => e = .returned (.bool false) ∧ w = w' := by
  refine (rnamed s w hs).mono ?_
  rintro e w' ⟨⟨q, _⟩ | ⟨_, rfl⟩, ew⟩
  · exact absurd q h
  · exact ⟨rfl, ew⟩
theorem rplace_yes {x b : Int} (p : Plc (clu b) x) (hx : I6 x) (hb : Bt b) (w : World) : Calls Try.prog 47 #[.int .i64 x, .int .i64 b] w fun e w' => e = .returned (.bool true) ∧ w = w' := by
  refine (rplace x b w hx hb).mono ?_
  rintro e w' ⟨⟨_, rfl⟩ | ⟨q, _⟩, ew⟩
  · exact ⟨rfl, ew⟩
  · exact absurd p q
theorem rplace_no {x b : Int} (p : ¬ Plc (clu b) x) (hx : I6 x) (hb : Bt b) (w : World) : Calls Try.prog 47 #[.int .i64 x, .int .i64 b] w fun e w' => e = .returned (.bool false) ∧ w = w' := by
  refine (rplace x b w hx hb).mono ?_
  rintro e w' ⟨⟨q, _⟩ | ⟨_, rfl⟩, ew⟩
  · exact absurd q p
  · exact ⟨rfl, ew⟩
set_option maxHeartbeats 1000000 in
theorem rnmb_ok (s : ByteArray) (w : World) (hs : s.size ≤ 64) : Calls Try.prog 24 #[.string s] w fun e w' => ∃ v, e = .returned v ∧ OwnI w' w.heap.size v (nmb s) ∧ Below w.heap.size w w' := by
  have hw : IntKind.u8.wrap (s.size : Int) = (s.size : Int) := by rw [IntKind.wrap_u8]; omega
  have hr : Hid (Rw 5 (w.alloc (.cells #[.int .u8 (s.size : Int)] 5)) w.heap.size ([(s.size : Int)] ++ [])) := by
    show Rw _ _ _ _
    rw [List.append_nil]
    exact Rw.new 5 w [(s.size : Int)]
  have hb : Hid (Below w.heap.size w (w.alloc (.cells #[.int .u8 (s.size : Int)] 5))) := (Below.refl _ _).alloc (Nat.le_refl _) _
  go_enter Try.func24, Try.ntmps24
  go_wp2_with (first | (at_builtin; refine wpList_append_str rfl (.tmp 6) (.tmp 7) rfl w.heap.size w.heap.size 1 [(s.size : Int)] [] s rfl rfl (Nat.le_refl _) hr.out rfl (by unfold maxLen; omega) (by simp; omega) (by simp) ?_; intro v1 w1 o1 b1))
  go_ret
  exact ⟨v1, rfl, o1, hb.out.trans b1⟩
end Go.Proofs.Ytjjhkfhppoioiaa
