/- The document's store: Named. -/
import Derived.Test.YtlnknkeagonmpaaGreatAl
namespace Go.Proofs.YtlnknkeagonmpaaGreat
open Go.RowKit

theorem idx_neg (l : List UInt8) : Lib.indexByte l 0 < 0 ↔ ∀ k, k < l.length → l.getD k 1 ≠ 0 := by
  induction l with
  | nil => simp [Lib.indexByte]
  | cons b l ih =>
    have hge := Lib.indexByte_ge l 0
    unfold Lib.indexByte
    by_cases hb : b = 0
    · subst hb
      simp
      exact ⟨0, by omega, by simp⟩
    · have hb2 : (b == 0) = false := by simpa using hb
      rw [hb2]
      simp only [Bool.false_eq_true, if_false]
      by_cases h1 : Lib.indexByte l 0 = -1
      · rw [h1]
        simp only [beq_self_eq_true, if_true]
        have h2 := ih.1 (by omega)
        refine ⟨fun _ k hk => ?_, fun _ => by omega⟩
        cases k with
        | zero => simpa using hb
        | succ k => simpa using h2 k (by simpa using hk)
      · have h3 : (Lib.indexByte l 0 == -1) = false := by simpa using h1
        rw [h3]
        simp only [Bool.false_eq_true, if_false]
        refine ⟨fun h => by omega, fun h => ?_⟩
        have := ih.2 (fun k hk => by have := h (k + 1) (by simpa using hk); simpa using this)
        omega
set_option maxRecDepth 100000 in
set_option maxHeartbeats 2000000 in
theorem named_any (s : ByteArray) (w : World) (hs : s.size ≤ maxLen) : Calls Tryz.prog 79 #[.string s] w fun e w' => e = .returned (.bool (nmd s)) ∧ w' = w := by
  unfold maxLen at hs
  by_cases h1 : s.size < 1
  · have hi : (s.size : Int) < 1 := by omega
    have hn : nmd s = false := by simp [nmd]; omega
    rw [hn]
    go_enter Tryz.func79, Tryz.ntmps79
    go_wp2
    go_ret
    exact ⟨rfl, rfl⟩
  · have hi : ¬ (s.size : Int) < 1 := by omega
    by_cases h2 : 64 < s.size
    · have hi2 : (64 : Int) < (s.size : Int) := by omega
      have hn : nmd s = false := by simp [nmd]; omega
      rw [hn]
      go_enter Tryz.func79, Tryz.ntmps79
      go_wp2
      go_ret
      exact ⟨rfl, rfl⟩
    · have hi2 : ¬ (64 : Int) < (s.size : Int) := by omega
      go_enter Tryz.func79, Tryz.ntmps79
      go_wp2_with fail
      go_loop [3] (fun iv => ∃ k : Nat, k ≤ s.size ∧ iv = .int .i64 k ∧ ∀ j, j < k → s.data.toList.getD j 1 ≠ 0) (fun iv => s.size - (intOf iv).toNat)
      case atStart => exact ⟨0, Nat.zero_le _, rfl, fun j hj => (by omega)⟩
      case round =>
        obtain ⟨k, hk, rfl, hj⟩ := hrel
        have HJ : Hid (∀ j, j < k → s.data.toList.getD j 1 ≠ 0) := hj
        clear hj
        by_cases hlt : k < s.size
        · have hli : (k : Int) < (s.size : Int) := by omega
          have hsz : s.data.toList.length = s.size := by simp
          have hgd : s.data.toList.getD k 1 = s[k] := by
            rw [List.getD_eq_getElem?_getD, List.getElem?_eq_getElem (by omega)]
            rfl
          have HGD : Hid (s.data.toList.getD k 1 = s[k]) := hgd
          have HSZ : Hid (s.data.toList.length = s.size) := hsz
          clear hgd hsz
          go_wp2_with fail
          · rename_i hz _
            have hz2 : s[k] = 0 := by
              have h3 : s[k].toNat = 0 := by simpa using hz
              exact UInt8.toNat_inj.1 (by simpa using h3)
            have HN : Hid (nmd s = false) := by
              show _ = _
              have h4 : ¬ Lib.indexByte s.data.toList 0 < 0 := fun h => (idx_neg _).1 h k (by have := HSZ.out; omega) (by rw [HGD.out]; exact hz2)
              simp [nmd, h4]
            go_ret
            exact ⟨ret_bool HN.out.symm, rfl⟩
          · rename_i hz
            refine ⟨⟨k + 1, hlt, rfl, fun j hj => ?_⟩, by simp only [intOf]; omega⟩
            by_cases e : j = k
            · subst e
              rw [HGD.out]
              intro h3
              rw [h3] at hz
              simp at hz
            · exact HJ.out j (by omega)
        · have hli : ¬ (k : Int) < (s.size : Int) := by omega
          have hsz : s.data.toList.length = s.size := by simp
          have HN : Hid (nmd s = true) := by
            show _ = _
            have h3 : Lib.indexByte s.data.toList 0 < 0 := (idx_neg _).2 (fun i hi => HJ.out i (by omega))
            simp [nmd, h3]
            omega
          go_wp2
          go_ret
          exact ⟨ret_bool HN.out.symm, rfl⟩
end Go.Proofs.YtlnknkeagonmpaaGreat
