/- counts: Free. -/
import Derived.Test.YtjhgkcbpllgdiaaDoorFa
import Derived.Test.YtjhgkcbpllgdiaaDoorCh
namespace Go.Proofs.YtjhgkcbpllgdiaaDoor
open Go.RowKit
set_option linter.unusedVariables false
/-- What Free answers. -/
def FrA (zs : List Int) (o F n X E : Int) : Prop :=
  ((¬ Ord o ∨ n < 1) ∧ X = 0 ∧ E = 2) ∨ (Ord o ∧ 1 ≤ n ∧ (F < 0 ∨ ((8 * zs.length / 2 ^ o.toNat : Nat) : Int) < F) ∧ X = 0 ∧ E = 4) ∨ (Ord o ∧ 1 ≤ n ∧ 0 ≤ F ∧ F ≤ ((8 * zs.length / 2 ^ o.toNat : Nat) : Int) ∧ FreeR zs (2 ^ o.toNat) F.toNat n.toNat (8 * zs.length / 2 ^ o.toNat) X E)
theorem FrA.one {zs : List Int} {o F n X E X' E' : Int} (h : FrA zs o F n X E) (h' : FrA zs o F n X' E') : X = X' ∧ E = E' := by
  rcases h with ⟨h1, rfl, rfl⟩ | ⟨h1, h2, h3, rfl, rfl⟩ | ⟨h1, h2, h3, h4, h5⟩
  · rcases h' with ⟨g1, rfl, rfl⟩ | ⟨g1, g2, g3, rfl, rfl⟩ | ⟨g1, g2, g3, g4, g5⟩
    · exact ⟨rfl, rfl⟩
    · exact absurd h1 (fun h => h.elim (fun x => x g1) (by omega))
    · exact absurd h1 (fun h => h.elim (fun x => x g1) (by omega))
  · rcases h' with ⟨g1, rfl, rfl⟩ | ⟨g1, g2, g3, rfl, rfl⟩ | ⟨g1, g2, g3, g4, g5⟩
    · exact absurd g1 (fun h => h.elim (fun x => x h1) (by omega))
    · exact ⟨rfl, rfl⟩
    · omega
  · rcases h' with ⟨g1, rfl, rfl⟩ | ⟨g1, g2, g3, rfl, rfl⟩ | ⟨g1, g2, g3, g4, g5⟩
    · exact absurd g1 (fun h => h.elim (fun x => x h1) (by omega))
    · omega
    · exact h5.one g5
set_option maxHeartbeats 1000000 in
theorem free_no (ao : Option Addr) (len cap : Nat) (o F n : Int) (w : World) (ho : ¬ Ord o) : Calls Tryd.prog 17 #[.slice ao len cap, .int .i64 o, .int .i64 F, .int .i64 n] w fun e w' => e = .returned (.tuple #[.int .i64 0, .int .i64 2]) ∧ Kp (fun _ => False) w w' := by
  have LN := hid (laid_no ao len cap o w ho)
  clear ho
  go_enter Tryd.func17, Tryd.ntmps17
  go_wp2_with fail
  refine LN.out.mono ?_
  rintro e w1 ⟨rfl, k1⟩
  have K1 := hid k1
  have B2 := hid (Rb.new w1 (.slice none 0 0) 0)
  have K2 : Hid (Kp (fun _ => False) w (w1.alloc (.cells (rc (.slice none 0 0) 0) 58))) := K1.out.alloc _
  clear k1
  go_wp2_with (refine wpList_store_rb rfl (.tmp 10) (.tmp 16) rfl w1.heap.size rfl (W' := 0) rfl B2.out ?_; intro w2 b2 k2; have K3 := hid (K2.out.trans k2 (fun i h1 h2 => by have := k2.size; have := K1.out.size; omega)); have B3 := hid b2; clear k2 b2)
  go_ret2
  exact ⟨rfl, K3.out⟩
set_option maxHeartbeats 1000000 in
theorem free_n (ao : Option Addr) (len cap o : Nat) (F n : Int) (w : World) (ho : o < 7) (hw : Wd w) (hn : n < 1) : Calls Tryd.prog 17 #[.slice ao len cap, .int .i64 (o : Int), .int .i64 F, .int .i64 n] w fun e w' => e = .returned (.tuple #[.int .i64 0, .int .i64 2]) ∧ Kp (fun _ => False) w w' := by
  have LN := hid (laid_ok ao len cap o w ho hw)
  clear hw
  generalize 2 ^ o = W at *
  go_enter Tryd.func17, Tryd.ntmps17
  go_wp2_with fail
  refine LN.out.mono ?_
  rintro e w1 ⟨rfl, k1⟩
  have K1 := hid k1
  have B2 := hid (Rb.new w1 (.slice none 0 0) 0)
  have K2 : Hid (Kp (fun _ => False) w (w1.alloc (.cells (rc (.slice none 0 0) 0) 58))) := K1.out.alloc _
  clear k1
  go_wp2_with (refine wpList_store_rb rfl (.tmp 10) (.tmp 16) rfl w1.heap.size rfl (W' := W) rfl B2.out ?_; intro w2 b2 k2; have K3 := hid (K2.out.trans k2 (fun i h1 h2 => by have := k2.size; have := K1.out.size; omega)); have B3 := hid b2; clear k2 b2)
  go_ret2
  exact ⟨rfl, K3.out⟩
set_option maxHeartbeats 1000000 in
theorem free_neg (ao : Option Addr) (len cap o : Nat) (F n : Int) (w : World) (ho : o < 7) (hw : Wd w) (hn : 1 ≤ n) (hF : F < 0) : Calls Tryd.prog 17 #[.slice ao len cap, .int .i64 (o : Int), .int .i64 F, .int .i64 n] w fun e w' => e = .returned (.tuple #[.int .i64 0, .int .i64 4]) ∧ Kp (fun _ => False) w w' := by
  have LN := hid (laid_ok ao len cap o w ho hw)
  clear hw
  generalize 2 ^ o = W at *
  go_enter Tryd.func17, Tryd.ntmps17
  go_wp2_with fail
  refine LN.out.mono ?_
  rintro e w1 ⟨rfl, k1⟩
  have K1 := hid k1
  have B2 := hid (Rb.new w1 (.slice none 0 0) 0)
  have K2 : Hid (Kp (fun _ => False) w (w1.alloc (.cells (rc (.slice none 0 0) 0) 58))) := K1.out.alloc _
  clear k1
  go_wp2_with (refine wpList_store_rb rfl (.tmp 10) (.tmp 16) rfl w1.heap.size rfl (W' := W) rfl B2.out ?_; intro w2 b2 k2; have K3 := hid (K2.out.trans k2 (fun i h1 h2 => by have := k2.size; have := K1.out.size; omega)); have B3 := hid b2; clear k2 b2)
  go_ret2
  exact ⟨rfl, K3.out⟩
set_option maxHeartbeats 1000000 in
theorem free_big (ao : Option Addr) (len cap o F : Nat) (n : Int) (w : World) (hl : len ≤ 1000000000000) (ho : o < 7) (hw : Wd w) (hn : 1 ≤ n) (hF : 8 * len / 2 ^ o < F) : Calls Tryd.prog 17 #[.slice ao len cap, .int .i64 (o : Int), .int .i64 (F : Int), .int .i64 n] w fun e w' => e = .returned (.tuple #[.int .i64 0, .int .i64 4]) ∧ Kp (fun _ => False) w w' := by
  have LN := hid (laid_ok ao len cap o w ho hw)
  have MN := hid (fun w => many_any ao len cap (2 ^ o) w hl (pow_pos7 o))
  clear hw
  generalize 2 ^ o = W at *
  generalize 8 * len / W = Q at *
  have h0 : ¬ (F : Int) < 0 := by omega
  have h1 : (Q : Int) < (F : Int) := by omega
  go_enter Tryd.func17, Tryd.ntmps17
  go_wp2_with fail
  refine LN.out.mono ?_
  rintro e w1 ⟨rfl, k1⟩
  have K1 := hid k1
  have B2 := hid (Rb.new w1 (.slice none 0 0) 0)
  have K2 : Hid (Kp (fun _ => False) w (w1.alloc (.cells (rc (.slice none 0 0) 0) 58))) := K1.out.alloc _
  clear k1
  go_wp2_with (first | (refine wpList_store_rb rfl (.tmp 10) (.tmp 16) rfl w1.heap.size rfl (W' := W) rfl B2.out ?_; intro w2 b2 k2; have K3 := hid (K2.out.trans k2 (fun i h1 h2 => by have := k2.size; have := K1.out.size; omega)); have B3 := hid b2; clear k2 b2) | (refine wpList_load_rb_g (by rfl) (.tmp 10) rfl w1.heap.size rfl B3.out ?_) | (go_at_call 23; refine (MN.out _).mono ?_; rintro e w4 ⟨rfl, k4⟩; have K4 := hid (K3.out.trans k4 (fun _ _ x => x)); clear k4))
  go_ret2
  exact ⟨rfl, K4.out⟩
set_option maxHeartbeats 1000000 in
theorem free_ok (ao : Option Addr) (cap o F : Nat) (n : Int) (zs : List Int) (w : World) (hl : zs.length ≤ 1000000000) (hz : Byt zs) (ho : o < 7) (hw : Wd w) (hn : 1 ≤ n) (hn2 : n ≤ 9223372036854775807) (hF : F ≤ 8 * zs.length / 2 ^ o) (hs : Src .u8 w ao zs) : Calls Tryd.prog 17 #[.slice ao zs.length cap, .int .i64 (o : Int), .int .i64 (F : Int), .int .i64 n] w fun e w' => FrP zs (2 ^ o) F n.toNat (8 * zs.length / 2 ^ o) w e w' := by
  have LN := hid (laid_ok ao zs.length cap o w ho hw)
  have MN := hid (fun w => many_any ao zs.length cap (2 ^ o) w (by omega) (pow_pos7 o))
  have FR := hid (fun (X : World) (kx : Kp (fun _ => False) w X) => free_any ao cap (2 ^ o) F n zs X hl hz (pow_pos7 o) (w64 ho) hF hn hn2 (hs.kp0 kx))
  clear hw hs
  generalize 2 ^ o = W at *
  generalize 8 * zs.length / W = Q at *
  have h0 : ¬ (F : Int) < 0 := by omega
  have h1 : ¬ (Q : Int) < (F : Int) := by omega
  go_enter Tryd.func17, Tryd.ntmps17
  go_wp2_with fail
  refine LN.out.mono ?_
  rintro e w1 ⟨rfl, k1⟩
  have K1 := hid k1
  have B2 := hid (Rb.new w1 (.slice none 0 0) 0)
  have K2 : Hid (Kp (fun _ => False) w (w1.alloc (.cells (rc (.slice none 0 0) 0) 58))) := K1.out.alloc _
  clear k1
  go_wp2_with (first | (refine wpList_store_rb rfl (.tmp 10) (.tmp 16) rfl w1.heap.size rfl (W' := W) rfl B2.out ?_; intro w2 b2 k2; have K3 := hid (K2.out.trans k2 (fun i h1 h2 => by have := k2.size; have := K1.out.size; omega)); have B3 := hid b2; clear k2 b2) | (refine wpList_load_rb_g (by rfl) (.tmp 10) rfl w1.heap.size rfl B3.out ?_) | (go_at_call 23; refine (MN.out _).mono ?_; rintro e w4 ⟨rfl, k4⟩; have K4 := hid (K3.out.trans k4 (fun _ _ x => x)); have B4 := hid (B3.out.kp k4 (fun x => x)); clear k4) | (refine wpList_load_rb rfl (.tmp 10) rfl w1.heap.size rfl B4.out ?_))
  refine (FR.out _ K4.out).mono ?_
  rintro e w5 ⟨X, E, rfl, fr, k5⟩
  have FF := hid fr
  have K5 := hid (K4.out.trans k5 (fun _ _ x => x))
  clear fr k5 FR
  go_wp2_with fail
  go_ret2
  exact ⟨X, E, rfl, FF.out, K5.out⟩
theorem free_all (ao : Option Addr) (cap : Nat) (o F n : Int) (zs : List Int) (w : World) (hl : zs.length ≤ 1000000000) (hz : Byt zs) (hw : Wd w) (hn2 : n ≤ 9223372036854775807) (hs : Src .u8 w ao zs) : Calls Tryd.prog 17 #[.slice ao zs.length cap, .int .i64 o, .int .i64 F, .int .i64 n] w fun e w' => ∃ X E, e = .returned (.tuple #[.int .i64 X, .int .i64 E]) ∧ FrA zs o F n X E ∧ Kp (fun _ => False) w w' := by
  by_cases ho : Ord o
  · obtain ⟨o, rfl⟩ : ∃ k : Nat, o = k := ⟨o.toNat, by unfold Ord at ho; omega⟩
    have ho7 : o < 7 := by unfold Ord at ho; omega
    by_cases hn : n < 1
    · refine (free_n ao zs.length cap o F n w ho7 hw hn).mono ?_
      rintro e w' ⟨rfl, k⟩
      exact ⟨_, _, rfl, .inl ⟨.inr hn, rfl, rfl⟩, k⟩
    · by_cases hF : F < 0
      · refine (free_neg ao zs.length cap o F n w ho7 hw (by omega) hF).mono ?_
        rintro e w' ⟨rfl, k⟩
        exact ⟨_, _, rfl, .inr (.inl ⟨ho, by omega, .inl hF, rfl, rfl⟩), k⟩
      · obtain ⟨F, rfl⟩ : ∃ k : Nat, F = k := ⟨F.toNat, by omega⟩
        by_cases hF2 : 8 * zs.length / 2 ^ o < F
        · refine (free_big ao zs.length cap o F n w (by omega) ho7 hw (by omega) hF2).mono ?_
          rintro e w' ⟨rfl, k⟩
          exact ⟨_, _, rfl, .inr (.inl ⟨ho, by omega, .inr (by rw [Int.toNat_natCast]; exact Int.ofNat_lt.2 hF2), rfl, rfl⟩), k⟩
        · refine (free_ok ao cap o F n zs w hl hz ho7 hw (by omega) hn2 (by omega) hs).mono ?_
          rintro e w' ⟨X, E, rfl, fr, k⟩
          exact ⟨_, _, rfl, .inr (.inr ⟨ho, by omega, by omega, by rw [Int.toNat_natCast]; exact Int.ofNat_le.2 (Nat.le_of_not_lt hF2), by simpa using fr⟩), k⟩
  · refine (free_no ao zs.length cap o F n w ho).mono ?_
    rintro e w' ⟨rfl, k⟩
    exact ⟨_, _, rfl, .inl ⟨.inl ho, rfl, rfl⟩, k⟩
end Go.Proofs.YtjhgkcbpllgdiaaDoor
