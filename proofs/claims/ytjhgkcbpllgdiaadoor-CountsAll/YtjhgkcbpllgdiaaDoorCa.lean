/- counts: many, most, bit, laid. -/
import Derived.Test.YtjhgkcbpllgdiaaDoorKb
import Derived.Test.YtjhgkcbpllgdiaaDoorCm
namespace Go.Proofs.YtjhgkcbpllgdiaaDoor
open Go.RowKit
set_option linter.unusedVariables false
theorem tdiv_nat (a b : Nat) : (a : Int).tdiv (b : Int) = ((a / b : Nat) : Int) := by
  rw [Int.tdiv_eq_ediv_of_nonneg (by omega)]; exact (Int.natCast_ediv a b).symm
theorem tmod_nat (a b : Nat) : (a : Int).tmod (b : Int) = ((a % b : Nat) : Int) := by
  rw [Int.tmod_eq_emod_of_nonneg (by omega)]; exact (Int.natCast_emod a b).symm
theorem wrap_nat (q : Nat) (h : q ≤ 9223372036854775807) : IntKind.i64.wrap (q : Int) = (q : Int) := by rw [IntKind.wrap_i64]; omega
set_option maxHeartbeats 1000000 in
theorem many_any (ao : Option Addr) (n cap W : Nat) (w : World) (hn : n ≤ 1000000000000) (hW : 0 < W) : Calls Tryd.prog 23 #[.agg (rc (.slice ao n cap) W)] w fun e w' => e = .returned (.int .i64 ((8 * n / W : Nat) : Int)) ∧ Kp (fun _ => False) w w' := by
  have hS := Rb.new w (.slice ao n cap) W
  have c0 := hS.c0
  have c1 := hS.c1
  have KP : Hid (Kp (fun _ => False) w (w.alloc (.cells (rc (.slice ao n cap) W) 58))) := (Kp.refl _ _).alloc _
  have h1 : (W : Int) ≠ 0 := by omega
  have h2 : ((n : Int) * 8).tdiv (W : Int) = ((8 * n / W : Nat) : Int) := by
    rw [show (n : Int) * 8 = ((8 * n : Nat) : Int) by omega, tdiv_nat]
  have hle : 8 * n / W ≤ 8 * n := Nat.div_le_self _ _
  have h3 := wrap_nat (8 * n / W) (by omega)
  clear hS
  unfold rc at *
  generalize 8 * n / W = q at *
  go_enter Tryd.func23, Tryd.ntmps23
  go_wp2_with fail
  go_ret
  exact ⟨rfl, KP.out⟩
/-- The orders. -/
def Ord (o : Int) : Prop := 0 ≤ o ∧ o ≤ 6
/-- The greatest value of a width. -/
def mst (W : Nat) : Int := 2 ^ W - 1
theorem most_all : ∀ o : Fin 7, (18446744073709551615 : Int) / 2 ^ (64 - 2 ^ o.val) = mst (2 ^ o.val) := by decide +kernel
set_option maxHeartbeats 1000000 in
theorem most_any (v : Value) (o : Nat) (w : World) (ho : o < 7) : Calls Tryd.prog 24 #[.agg (rc v (2 ^ o))] w fun e w' => e = .returned (.int .u64 (mst (2 ^ o))) ∧ Kp (fun _ => False) w w' := by
  have hS := Rb.new w v (2 ^ o)
  have c1 := hS.c1
  have KP : Hid (Kp (fun _ => False) w (w.alloc (.cells (rc v (2 ^ o)) 58))) := (Kp.refl _ _).alloc _
  have hW : 2 ^ o ≤ 64 := Nat.pow_le_pow_right (n := 2) (by decide) (show o ≤ 6 by omega)
  have h1 : ((64 : Int) - ((2 ^ o : Nat) : Int)).toNat = 64 - 2 ^ o := by omega
  have h2 : (18446744073709551615 : Int) / 2 ^ (64 - 2 ^ o) = mst (2 ^ o) := most_all ⟨o, ho⟩
  have h3 : (18446744073709551615 : Int) / 2 ^ ((64 : Int) - ((2 ^ o : Nat) : Int)).toNat = mst (2 ^ o) := by rw [h1]; exact h2
  clear hS
  unfold rc at *
  generalize 2 ^ o = W at *
  go_enter Tryd.func24, Tryd.ntmps24
  go_wp2_with fail
  go_ret
  exact ⟨by first | rfl | rw [h3] | rw [h2], KP.out⟩
set_option maxHeartbeats 1000000 in
theorem bit_any (g off cap W k : Nat) (zs : List Int) (w : World) (hn : zs.length ≤ 1000000000000) (hz : Byt zs) (hk : k < 8 * zs.length) (hs : Src .u8 w (some ⟨g, off, none⟩) zs) : Calls Tryd.prog 34 #[.agg (rc (.slice (some ⟨g, off, none⟩) zs.length cap) W), .int .i64 (k : Int)] w fun e w' => e = .returned (.int .u8 (bt zs k)) ∧ Kp (fun _ => False) w w' := by
  have hS := Rb.new w (.slice (some ⟨g, off, none⟩) zs.length cap) W
  have c0 := hS.c0
  have KP : Hid (Kp (fun _ => False) w (w.alloc (.cells (rc (.slice (some ⟨g, off, none⟩) zs.length cap) W) 58))) := (Kp.refl _ _).alloc _
  have cc := hid ((hs.kp0 KP.out).at (k / 8) (by omega))
  have h1 : (k : Int).tdiv 8 = ((k / 8 : Nat) : Int) := tdiv_nat k 8
  have h2 : (k : Int).tmod 8 = ((k % 8 : Nat) : Int) := tmod_nat k 8
  have h3 := wrap_nat (k / 8) (by omega)
  have h4 : k / 8 < zs.length := by omega
  have h5 : k % 8 < 8 := by omega
  have hb : Hid (bits .and .u8 (zs.getD (k / 8) 0 / 2 ^ (k % 8)) 1 = bt zs k) := by
    show _ = _
    have hg := hz.get (k / 8)
    have hd : 0 ≤ zs.getD (k / 8) 0 / 2 ^ (k % 8) := Int.ediv_nonneg hg.1 (Int.le_of_lt (Int.pow_pos (by omega)))
    have hd2 : zs.getD (k / 8) 0 / 2 ^ (k % 8) ≤ zs.getD (k / 8) 0 := Int.ediv_le_self _ hg.1
    rw [u8_and _ _ hd (by omega) (by omega) (by omega)]
    unfold bt
    have : (zs.getD (k / 8) 0 / 2 ^ (k % 8)).toNat &&& 1 = (zs.getD (k / 8) 0 / 2 ^ (k % 8)).toNat % 2 := Nat.and_one_is_mod _
    simp only [show (1 : Int).toNat = 1 from rfl, this]
    omega
  clear hS
  unfold rc at *
  generalize bt zs k = B at *
  generalize zs.getD (k / 8) 0 = Z at *
  generalize k / 8 = q at *
  generalize k % 8 = r at *
  have cc := cc.out
  go_enter Tryd.func34, Tryd.ntmps34
  go_wp2_with fail
  go_ret
  exact ⟨by have := hb.out; first | (rw [← this]; done) | (simp only [this]; done) | (rw [← this]; simp), KP.out⟩
/-- The variable widths. -/
def Wd (w : World) : Prop := ∀ i : Nat, i < 7 → w.cell? ⟨0, i, none⟩ = some (.int .i64 ((2 ^ i : Nat) : Int))
theorem Wd.kp {F : Nat → Prop} {w w' : World} (h : Wd w) (k : Kp F w w') (hf : ¬ F 0) : Wd w' := fun i hi => kp_cell k (h i hi) hf
theorem Wd.lt {w : World} (h : Wd w) : 0 < w.heap.size := block_lt_of_cell (h 0 (by decide))
end Go.Proofs.YtjhgkcbpllgdiaaDoor
