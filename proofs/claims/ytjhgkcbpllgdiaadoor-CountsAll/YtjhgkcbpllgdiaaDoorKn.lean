/- The chapter's rows: known. -/
import Derived.Test.YtjhgkcbpllgdiaaDoorFb
import Derived.Test.YtjhgkcbpllgdiaaDoorCj
namespace Go.Proofs.YtjhgkcbpllgdiaaDoor
open Go.RowKit
set_option linter.unusedVariables false
theorem info5k : (Tryd.prog.info? 5).map (fun i => (i.zero, i.size, i.bytes)) = some (some (.int .u8 0), 1, 1) := by kernel_rfl
theorem byt4 (a b c d : Int) (h : (0 ≤ a ∧ a ≤ 255) ∧ (0 ≤ b ∧ b ≤ 255) ∧ (0 ≤ c ∧ c ≤ 255) ∧ (0 ≤ d ∧ d ≤ 255)) : Byt [a, b, c, d] := by
  intro z hz
  simp at hz
  omega
/-- What lies in the four bytes, and what is kept. -/
structure KnI (w : World) (g : Nat) (zs : List Int) (X : World) : Prop where
  row : Rw .u8 5 X g (zs ++ [])
  kp : Kp (fun _ => False) w X
  wd : Wd X
theorem KnI.same {w : World} {g : Nat} {zs : List Int} {X Y : World} (h : KnI w g zs X) (k : Kp (fun _ => False) X Y) : KnI w g zs Y :=
  ⟨h.row.kp k (fun x => x), h.kp.trans k (fun _ _ x => x), h.wd.kp k (fun x => x)⟩
theorem KnI.turn {w : World} {g : Nat} {zs ys : List Int} {X Y : World} (h : KnI w g zs X) (hg : w.heap.size ≤ g) (h0 : 0 < w.heap.size) (r : Rw .u8 5 Y g (ys ++ [])) (k : Kp (fun i => i = g) X Y) : KnI w g ys Y :=
  ⟨r, h.kp.trans k (fun i h1 h2 => by omega), h.wd.kp k (fun e => by omega)⟩
theorem kn_set (w X : World) (g : Nat) (h : KnI w g [0, 0, 0, 0] X) (hg : w.heap.size ≤ g) (h0 : 0 < w.heap.size) : Calls Tryd.prog 10 #[.slice (some ⟨g, 0, none⟩) 4 4, .int .i64 1, .int .i64 5, .int .u64 2] X fun e Y => e = .returned (.int .i64 0) ∧ KnI w g [0, 8, 0, 0] Y := by
  have hc := set_ok g 4 1 5 [0, 0, 0, 0] [] 2 X (by decide) (byt4 _ _ _ _ (by omega)) (by decide) h.wd (by decide) h.row (by decide) (by decide)
  refine Calls.mono hc ?_
  rintro e Y ⟨rfl, r, k⟩
  rw [show sb [0, 0, 0, 0] (5 * 2 ^ 1) (2 ^ 1) 2 = [0, 8, 0, 0] by decide +kernel] at r
  exact ⟨rfl, h.turn hg h0 r k⟩
theorem kn_get (w X : World) (g : Nat) (h : KnI w g [0, 8, 0, 0] X) : Calls Tryd.prog 9 #[.slice (some ⟨g, 0, none⟩) 4 4, .int .i64 1, .int .i64 5] X fun e Y => e = .returned (.tuple #[.int .u64 2, .int .i64 0]) ∧ KnI w g [0, 8, 0, 0] Y := by
  have hc := get_ok g 0 4 1 5 [0, 8, 0, 0] X (by decide) (byt4 _ _ _ _ (by omega)) (by decide) h.wd (by decide) (row_src h.row)
  refine Calls.mono hc ?_
  rintro e Y ⟨rfl, k⟩
  rw [show nb [0, 8, 0, 0] (5 * 2 ^ 1) (2 ^ 1) = 2 by decide +kernel]
  exact ⟨rfl, h.same k⟩
theorem kn_add2 (w X : World) (g : Nat) (h : KnI w g [0, 8, 0, 0] X) : Calls Tryd.prog 12 #[.slice (some ⟨g, 0, none⟩) 4 4, .int .i64 1, .int .i64 5, .int .i64 2] X fun e Y => e = .returned (.tuple #[.int .u64 0, .int .i64 3]) ∧ KnI w g [0, 8, 0, 0] Y := by
  have e1 : nb [0, 8, 0, 0] (5 * 2 ^ 1) (2 ^ 1) = 2 := by decide +kernel
  have e2 : mst (2 ^ 1) = 3 := by decide +kernel
  have hc := add_long g 4 1 5 [0, 8, 0, 0] [] 2 X (by decide) (byt4 _ _ _ _ (by omega)) (by decide) h.wd (by decide) h.row (by decide) (by rw [e1, e2]; unfold Fts; omega)
  refine Calls.mono hc ?_
  rintro e Y ⟨rfl, k⟩
  exact ⟨rfl, h.same k⟩
theorem kn_add1 (w X : World) (g : Nat) (h : KnI w g [0, 8, 0, 0] X) (hg : w.heap.size ≤ g) (h0 : 0 < w.heap.size) : Calls Tryd.prog 12 #[.slice (some ⟨g, 0, none⟩) 4 4, .int .i64 1, .int .i64 5, .int .i64 1] X fun e Y => e = .returned (.tuple #[.int .u64 3, .int .i64 0]) ∧ KnI w g [0, 12, 0, 0] Y := by
  have e1 : nb [0, 8, 0, 0] (5 * 2 ^ 1) (2 ^ 1) = 2 := by decide +kernel
  have e2 : mst (2 ^ 1) = 3 := by decide +kernel
  have hc := add_ok g 4 1 5 [0, 8, 0, 0] [] 1 X (by decide) (byt4 _ _ _ _ (by omega)) (by decide) h.wd (by decide) h.row (by decide) (by rw [e1, e2]; unfold Fts; omega)
  rw [e1] at hc
  refine Calls.mono hc ?_
  rintro e Y ⟨rfl, r, k⟩
  rw [show sb [0, 8, 0, 0] (5 * 2 ^ 1) (2 ^ 1) (2 + 1) = [0, 12, 0, 0] by decide +kernel] at r
  exact ⟨rfl, h.turn hg h0 r k⟩
theorem fr_kn : FrA [0, 12, 0, 0] 1 5 2 6 0 := by
  refine .inr (.inr ⟨by unfold Ord; omega, by omega, by omega, by decide, .inl ⟨6, by decide, by decide, ?_, ?_, rfl, rfl⟩⟩)
  · intro t h1 h2
    have : t = 6 ∨ t = 7 := by
      have : (2 : Int).toNat = 2 := rfl
      omega
    rcases this with rfl | rfl <;> decide +kernel
  · intro b h1 h2 hr
    have hb : b = 5 := by
      have : (5 : Int).toNat = 5 := rfl
      omega
    subst hb
    exact absurd (hr 5 (Nat.le_refl _) (by decide)) (by decide +kernel)
theorem kn_free (w X : World) (g : Nat) (h : KnI w g [0, 12, 0, 0] X) : Calls Tryd.prog 17 #[.slice (some ⟨g, 0, none⟩) 4 4, .int .i64 1, .int .i64 5, .int .i64 2] X fun e Y => e = .returned (.tuple #[.int .i64 6, .int .i64 0]) ∧ KnI w g [0, 12, 0, 0] Y := by
  have hc := free_all (some ⟨g, 0, none⟩) 4 1 5 2 [0, 12, 0, 0] X (by decide) (byt4 _ _ _ _ (by omega)) h.wd (by decide) (row_src h.row)
  refine Calls.mono hc ?_
  rintro e Y ⟨A, E, rfl, fr, k⟩
  obtain ⟨rfl, rfl⟩ := fr.one fr_kn
  exact ⟨rfl, h.same k⟩
set_option maxHeartbeats 1000000 in
theorem known_any (w : World) (hw : Wd w) : Calls Tryd.prog 6 #[] w fun e w' => e = .returned (.bool true) ∧ Kp (fun _ => False) w w' := by
  have W0 := hid hw
  have h0 := hid hw.lt
  clear hw
  go_enter Tryd.func6, Tryd.ntmps6
  go_wp2_with (refine wpList_make_rw 22 5 1 Tryd.underlying22 info5k (by decide) rfl _ _ rfl 4 rfl rfl (by decide) ?_; intro w1 r1 b1)
  have k1 : Kp (fun _ => False) w w1 := Kp.of_below b1
  have I1 : Hid (KnI w w.heap.size [0, 0, 0, 0] w1) := ⟨r1, k1, W0.out.kp k1 (fun x => x)⟩
  clear k1 r1 b1
  obtain ⟨g, hg⟩ : ∃ g, g = w.heap.size := ⟨_, rfl⟩
  have HG : Hid (w.heap.size ≤ g) := by show _ ≤ _; omega
  rw [← hg] at I1 ⊢
  clear hg
  go_wp2_with fail
  refine (kn_set w _ g I1.out HG.out h0.out).mono ?_
  rintro e w2 ⟨rfl, i2⟩
  have I2 := hid i2
  clear i2
  go_wp2_with fail
  refine (kn_get w _ g I2.out).mono ?_
  rintro e w3 ⟨rfl, i3⟩
  have I3 := hid i3
  clear i3
  go_wp2_with fail
  refine (kn_add2 w _ g I3.out).mono ?_
  rintro e w4 ⟨rfl, i4⟩
  have I4 := hid i4
  clear i4
  go_wp2_with fail
  refine (kn_add1 w _ g I4.out HG.out h0.out).mono ?_
  rintro e w5 ⟨rfl, i5⟩
  have I5 := hid i5
  clear i5
  go_wp2_with fail
  refine (kn_free w _ g I5.out).mono ?_
  rintro e w6 ⟨rfl, i6⟩
  have I6 := hid i6
  have c1 : w6.cell? ⟨g, 1, none⟩ = some (.int .u8 12) := i6.row.cell 1 (by decide)
  clear i6
  go_wp2_with fail
  go_ret
  exact ⟨rfl, I6.out.kp⟩
end Go.Proofs.YtjhgkcbpllgdiaaDoor
