/- counts: Add where there is a count. -/
import Derived.Test.YtjhgkcbpllgdiaaDoorCi
namespace Go.Proofs.YtjhgkcbpllgdiaaDoor
open Go.RowKit
set_option linter.unusedVariables false
theorem mst_64 {o : Nat} (ho : o < 7) : mst (2 ^ o) ≤ 18446744073709551615 := by
  have h1 := pow2_le (w64 ho)
  have e : (2 : Int) ^ 64 = 18446744073709551616 := by decide
  unfold mst
  rw [e] at h1
  omega
/-- The sum fits. -/
def Fts (V y M : Int) : Prop := (0 ≤ y ∧ y ≤ M - V) ∨ (y < 0 ∧ - y ≤ V)
set_option maxHeartbeats 1000000 in
theorem add_ok (g cap o i : Nat) (zs tl : List Int) (y : Int) (w : World) (hn : zs.length ≤ 1000000000000) (hz : Byt zs) (ho : o < 7) (hw : Wd w) (hi : i < 8 * zs.length / 2 ^ o) (hr : Rw .u8 5 w g (zs ++ tl)) (hy : -9223372036854775808 ≤ y ∧ y ≤ 9223372036854775807) (hf : Fts (nb zs (i * 2 ^ o) (2 ^ o)) y (mst (2 ^ o))) : Calls Tryd.prog 12 #[.slice (some ⟨g, 0, none⟩) zs.length cap, .int .i64 (o : Int), .int .i64 (i : Int), .int .i64 y] w fun e w' => e = .returned (.tuple #[.int .u64 (nb zs (i * 2 ^ o) (2 ^ o) + y), .int .i64 0]) ∧ Rw .u8 5 w' g (sb zs (i * 2 ^ o) (2 ^ o) (nb zs (i * 2 ^ o) (2 ^ o) + y) ++ tl) ∧ Kp (fun k => k = g) w w' := by
  have hV := nb_b zs (i * 2 ^ o) (2 ^ o)
  have hM := mst_64 ho
  have hVM : nb zs (i * 2 ^ o) (2 ^ o) ≤ mst (2 ^ o) := by unfold mst; omega
  have h0 : 0 ≤ nb zs (i * 2 ^ o) (2 ^ o) + y := by unfold Fts at hf; omega
  have h1 : nb zs (i * 2 ^ o) (2 ^ o) + y ≤ mst (2 ^ o) := by unfold Fts at hf; omega
  have LN := hid (opened_ok g 0 cap o i zs w hn hz ho hw hi (row_src hr))
  have PL := hid (fun rb ib w hrow hr hib => put_ok g cap o i rb ib zs tl (nb zs (i * 2 ^ o) (2 ^ o) + y) w hn hz ho hi h0 h1 hrow hr hib)
  have RO := hid hr
  have hV0 := hV.1
  clear hi hr hw hf hV
  generalize nb zs (i * 2 ^ o) (2 ^ o) = V at *
  generalize mst (2 ^ o) = M at *
  obtain ⟨B, hB⟩ : ∃ B, IntKind.u64.wrap y = B := ⟨_, rfl⟩
  obtain ⟨S, hS⟩ : ∃ S, V + y = S := ⟨_, rfl⟩
  rw [hS] at PL ⊢
  have hBS : IntKind.u64.wrap (V + B) = S := by rw [← hB, IntKind.wrap_u64, IntKind.wrap_u64]; omega
  generalize sb zs (i * 2 ^ o) (2 ^ o) S = R at *
  generalize 2 ^ o = W at *
  have hc : (S < V ∧ y < 0) ∨ (¬ S < V ∧ ¬ y < 0) := by omega
  clear hS h0 h1 hM hVM hV0 hy
  have hd : (decide (S < V) = true ∧ decide (y < 0) = true) ∨ (decide (S < V) = false ∧ decide (y < 0) = false) := by simpa using hc
  clear hc
  rcases hd with ⟨q1, q2⟩ | ⟨q1, q2⟩
  · go_enter Tryd.func12, Tryd.ntmps12
    go_wp2_with fail
    refine LN.out.mono ?_
    rintro e w1 ⟨rb, ib, rfl, hb, hc, k1⟩
    have K1 := hid k1
    have PP := hid (PL.out rb ib w1 (RO.out.kp k1 (fun x => x)) hb hc)
    clear k1 hb hc LN PL
    unfold putf
    go_wp2_with fail
    refine PP.out.mono ?_
    rintro e w2 ⟨rfl, r2, k2⟩
    have R2 := hid r2
    have K2 := hid (K1.out.mono (G := fun k => k = g) (fun _ _ x => x.elim) |>.trans k2 (fun _ _ x => x))
    clear k2 r2
    go_wp2_with fail
    go_ret2
    exact ⟨rfl, R2.out, K2.out⟩
  · go_enter Tryd.func12, Tryd.ntmps12
    go_wp2_with fail
    refine LN.out.mono ?_
    rintro e w1 ⟨rb, ib, rfl, hb, hc, k1⟩
    have K1 := hid k1
    have PP := hid (PL.out rb ib w1 (RO.out.kp k1 (fun x => x)) hb hc)
    clear k1 hb hc LN PL
    unfold putf
    go_wp2_with fail
    refine PP.out.mono ?_
    rintro e w2 ⟨rfl, r2, k2⟩
    have R2 := hid r2
    have K2 := hid (K1.out.mono (G := fun k => k = g) (fun _ _ x => x.elim) |>.trans k2 (fun _ _ x => x))
    clear k2 r2
    go_wp2_with fail
    go_ret2
    exact ⟨rfl, R2.out, K2.out⟩
set_option maxHeartbeats 1000000 in
theorem add_long (g cap o i : Nat) (zs tl : List Int) (y : Int) (w : World) (hn : zs.length ≤ 1000000000000) (hz : Byt zs) (ho : o < 7) (hw : Wd w) (hi : i < 8 * zs.length / 2 ^ o) (hr : Rw .u8 5 w g (zs ++ tl)) (hy : -9223372036854775808 ≤ y ∧ y ≤ 9223372036854775807) (hf : ¬ Fts (nb zs (i * 2 ^ o) (2 ^ o)) y (mst (2 ^ o))) : Calls Tryd.prog 12 #[.slice (some ⟨g, 0, none⟩) zs.length cap, .int .i64 (o : Int), .int .i64 (i : Int), .int .i64 y] w fun e w' => e = .returned (.tuple #[.int .u64 0, .int .i64 3]) ∧ Kp (fun _ => False) w w' := by
  have hV := nb_b zs (i * 2 ^ o) (2 ^ o)
  have hM := mst_64 ho
  have hVM : nb zs (i * 2 ^ o) (2 ^ o) ≤ mst (2 ^ o) := by unfold mst; omega
  have LN := hid (opened_ok g 0 cap o i zs w hn hz ho hw hi (row_src hr))
  have PL := hid (fun x hx rb ib w hr => put_long (.slice (some ⟨g, 0, none⟩) zs.length cap) o rb ib x w ho hr hx)
  have hV0 := hV.1
  clear hi hr hw hV
  unfold Fts at hf
  generalize nb zs (i * 2 ^ o) (2 ^ o) = V at *
  generalize mst (2 ^ o) = M at *
  obtain ⟨B, hB⟩ : ∃ B, IntKind.u64.wrap y = B := ⟨_, rfl⟩
  obtain ⟨S, hBS⟩ : ∃ S, IntKind.u64.wrap (V + B) = S := ⟨_, rfl⟩
  have hc : (S < V ∧ ¬ y < 0) ∨ (¬ S < V ∧ y < 0) ∨ (¬ S < V ∧ ¬ y < 0 ∧ M < S) := by
    rw [← hB, IntKind.wrap_u64, IntKind.wrap_u64] at hBS; omega
  generalize 2 ^ o = W at *
  clear hf hM hVM hV0 hy
  have hd : (decide (S < V) = true ∧ decide (y < 0) = false) ∨ (decide (S < V) = false ∧ decide (y < 0) = true) ∨ (decide (S < V) = false ∧ decide (y < 0) = false ∧ M < S) := by simpa using hc
  clear hc
  rcases hd with ⟨q1, q2⟩ | ⟨q1, q2⟩ | ⟨q1, q2, q3⟩
  · clear PL
    go_enter Tryd.func12, Tryd.ntmps12
    go_wp2_with fail
    refine LN.out.mono ?_
    rintro e w1 ⟨rb, ib, rfl, hb, hc, k1⟩
    have K1 := hid k1
    clear k1 hb hc LN
    unfold putf
    go_wp2_with fail
    go_ret2
    exact ⟨rfl, K1.out⟩
  · clear PL
    go_enter Tryd.func12, Tryd.ntmps12
    go_wp2_with fail
    refine LN.out.mono ?_
    rintro e w1 ⟨rb, ib, rfl, hb, hc, k1⟩
    have K1 := hid k1
    clear k1 hb hc LN
    unfold putf
    go_wp2_with fail
    go_ret2
    exact ⟨rfl, K1.out⟩
  · have PX := hid (PL.out S q3)
    clear PL
    go_enter Tryd.func12, Tryd.ntmps12
    go_wp2_with fail
    refine LN.out.mono ?_
    rintro e w1 ⟨rb, ib, rfl, hb, hc, k1⟩
    have K1 := hid k1
    have PP := hid (PX.out rb ib w1 hb)
    clear k1 hb hc LN PX
    unfold putf
    go_wp2_with fail
    refine PP.out.mono ?_
    rintro e w2 ⟨rfl, k2⟩
    have K2 := hid (K1.out.trans k2 (fun _ _ x => x))
    clear k2
    go_wp2_with fail
    go_ret2
    exact ⟨rfl, K2.out⟩
end Go.Proofs.YtjhgkcbpllgdiaaDoor
