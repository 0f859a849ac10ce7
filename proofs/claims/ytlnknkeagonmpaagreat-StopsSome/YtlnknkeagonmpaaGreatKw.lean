/- known: a store with two pieces. -/
import Derived.Test.YtlnknkeagonmpaaGreatBt
import Derived.Test.YtlnknkeagonmpaaGreatAt
import Derived.Test.YtlnknkeagonmpaaGreatNu
import Derived.Test.YtlnknkeagonmpaaGreatLw
import Derived.Lib.SlBytesConst
namespace Go.Proofs.YtlnknkeagonmpaaGreat
open Go.RowKit

theorem wayf_at (P n i : Nat) (hi : i < P) : wayf (lst P (atf P n)) i = atf P n i := by
  unfold wayf
  rw [lst_get P _ i hi]
  unfold atf
  omega
theorem nbr_at (P n k : Nat) (hk : k ≤ P) (hn : n < 2 ^ P) : nbr (lst P (atf P n)) k = n / 2 ^ (P - k) := by
  induction k with
  | zero => rw [Nat.sub_zero, Nat.div_eq_of_lt hn]; rfl
  | succ k ih =>
    show 2 * nbr (lst P (atf P n)) k + (wayf (lst P (atf P n)) k).toNat = _
    rw [ih (by omega), wayf_at P n k (by omega)]
    unfold atf
    rw [Int.toNat_natCast, show P - k = (P - (k + 1)) + 1 by omega, Nat.pow_succ, ← Nat.div_div_eq_div_mul, show P - 1 - k = P - (k + 1) by omega]
    omega
/-- The number of a number's way is the number. -/
theorem nbr_back (P n : Nat) (hn : n < 2 ^ P) : nbr (lst P (atf P n)) P = n := by
  rw [nbr_at P n P (Nat.le_refl _) hn]
  simp
theorem BoX.pnd {B K : Nat} {w : World} {g fm g' : Nat} {m : List (ByteArray × Nat)} {D : Nat → Prop} {fv : Value} {steps : Nat} {fs : List Fe} {es : List (ByteArray × Value × Nat)} {c : Nat} {D' : Nat → Prop} {fv' : Value} {steps' : Nat} {gs : List (Rf × Value)} (h : Bo B K w g fm g' D fv steps fs es c D' fv' steps' gs m) : pnd fs = (m.map (·.2)).sum ∧ gs.length = m.length := by
  have h1 := perm_sum (List.Perm.map Prod.snd h.md)
  rw [List.map_map] at h1
  refine ⟨h1, ?_⟩
  rw [← h.l.len, ← List.Perm.length_eq h.md, List.length_map]
def kpu (n : Nat) : Pu := ⟨⟨#[97]⟩, 510, .slice (some ⟨n, 0, none⟩) 4 4, false⟩
theorem mpl_known (n : Nat) : mpl [kpu n] = [(⟨#[97]⟩, 2)] := by
  have h1 : nmd ⟨#[97]⟩ = true := by decide +kernel
  have h2 : (pcs 510 4).length = 2 := by decide +kernel
  simp [mpl, mst, kpu, mcr, h1, mhas, mwr, mup, pulen]
  exact h2
theorem known_both (w : World) : Calls Tryz.prog 7 #[.slice (some ⟨w.heap.size + 1, 0, none⟩) 1 1] ((w.alloc (.cells #[.int .u8 119, .int .u8 120, .int .u8 121, .int .u8 122] 5 (4, 5))).alloc (.cells #[.string ⟨#[97]⟩, .int .i64 510, .slice (some ⟨w.heap.size, 0, none⟩) 4 4, .bool false] 62)) fun e w' => ∃ g fm g' B, e = .returned (.tuple #[.pointer (some ⟨g, 0, none⟩), .pointer (some ⟨g', 0, none⟩)]) ∧ BoX B 180 w' g fm g' [(⟨#[97]⟩, 2)] ∧ Kp (fun _ => False) w w' := by
  have hz : (w.alloc (.cells #[.int .u8 119, .int .u8 120, .int .u8 121, .int .u8 122] 5 (4, 5))).heap.size = w.heap.size + 1 := by simp
  have hb : (w.alloc (.cells #[.int .u8 119, .int .u8 120, .int .u8 121, .int .u8 122] 5 (4, 5))).heap[w.heap.size]? = some (.cells #[.int .u8 119, .int .u8 120, .int .u8 121, .int .u8 122] 5 (4, 5)) := heap_alloc_new w _
  have k0 : Kp (fun _ => False) w (w.alloc (.cells #[.int .u8 119, .int .u8 120, .int .u8 121, .int .u8 122] 5 (4, 5))) := (Kp.refl _ _).alloc _
  generalize w.alloc (.cells #[.int .u8 119, .int .u8 120, .int .u8 121, .int .u8 122] 5 (4, 5)) = w1 at hz hb k0 ⊢
  have st := St.new 62 w1 #[.string ⟨#[97]⟩, .int .i64 510, .slice (some ⟨w.heap.size, 0, none⟩) 4 4, .bool false]
  have k1 : Kp (fun _ => False) w1 (w1.alloc (.cells #[.string ⟨#[97]⟩, .int .i64 510, .slice (some ⟨w.heap.size, 0, none⟩) 4 4, .bool false] 62)) := (Kp.refl _ _).alloc _
  have hz2 : (w1.alloc (.cells #[.string ⟨#[97]⟩, .int .i64 510, .slice (some ⟨w.heap.size, 0, none⟩) 4 4, .bool false] 62)).heap.size = w1.heap.size + 1 := by simp
  generalize w1.alloc (.cells #[.string ⟨#[97]⟩, .int .i64 510, .slice (some ⟨w.heap.size, 0, none⟩) 4 4, .bool false] 62) = w2 at st k1 hz2 ⊢
  rw [hz] at st
  have hS : PuS w2 (some ⟨w.heap.size + 1, 0, none⟩) [kpu w.heap.size] := by
    intro _
    refine ⟨_, _, rfl, by omega, fun i hi j hj => ?_⟩
    obtain rfl : i = 0 := by simpa using hi
    rw [show 0 + 0 * 4 + j = j by omega, st.cell j]
    match j, hj with
    | 0, _ => rfl
    | 1, _ => rfl
    | 2, _ => rfl
    | 3, _ => rfl
  have hW : ∀ t ∈ [kpu w.heap.size], Pwf w2.heap.size w2 t := by
    intro t ht
    obtain rfl : t = kpu w.heap.size := by simpa using ht
    refine ⟨⟨_, _, [119, 120, 121, 122], rfl, Nat.le_refl _, fun _ => ⟨_, _, rfl, fun i hi => ?_⟩, by decide, fun b off e _ => ?_⟩, (show (1 : Nat) ≤ maxLen by decide), (show (-9223372036854775808 : Int) ≤ 510 by decide), (show (510 : Int) ≤ 9223372036854775807 by decide)⟩
    · refine kp_cell k1 ?_ (fun h => h)
      rw [cell_of_row w1 w.heap.size (0 + i) _ 5 _ hb]
      match i, hi with
      | 0, _ => rfl
      | 1, _ => rfl
      | 2, _ => rfl
      | 3, _ => rfl
    · cases e; omega
  refine (both_any [kpu w.heap.size] _ 1 w2 hS hW ⟨(show (1 : Nat) ≤ 60 by decide), fun t ht => ?_⟩).mono ?_
  · obtain rfl : t = kpu w.heap.size := by simpa using ht
    exact ⟨(show (510 : Int) ≤ 20000 by decide), (show (4 : Nat) ≤ 40000 by decide)⟩
  · rintro e w' ⟨g, fm, g', he, hb, k⟩
    rw [mpl_known] at hb
    exact ⟨g, fm, g', _, he, hb, (k0.trans k1 (fun _ _ h => h)).trans k (fun _ _ h => h)⟩
set_option maxRecDepth 100000 in
set_option maxHeartbeats 4000000 in
theorem known_any (w : World) : Calls Tryz.prog 6 #[] w fun e w' => e = .returned (.bool true) ∧ Kp (fun _ => False) w w' := by
  have hcv := Go.Lib.run_convert_bytes_const w 39 5 #[.int .u8 119, .int .u8 120, .int .u8 121, .int .u8 122] 4 4 Tryz.underlying39 Tryz.underlying5
  go_enter Tryz.func6, Tryz.ntmps6
  go_wp2_with fail
  refine (known_both w).mono ?_
  rintro _ w1 ⟨g, fm, g', B, rfl, hbx, k1⟩
  obtain ⟨D, fv, steps, fs, es, c, D', fv', steps', gs, hb⟩ := hbx
  obtain ⟨hpn, hgl⟩ := BoX.pnd hb
  have hpn2 : pnd fs = 2 := hpn
  have hgl2 : gs.length = 1 := hgl
  have HS := hid hb.s
  have HR := hid hb.r
  have HP := hid hpn2
  have HG := hid hgl2
  have K1 := hid k1
  clear hb hpn hgl hpn2 hgl2 k1 hcv
  go_wp2_with fail
  refine (count_any D w1 g fm fv steps fs [] es c HS.out (by rw [HP.out]; decide)).mono ?_
  rintro _ w2 ⟨rfl, k2⟩
  rw [HP.out]
  have HS2 := hid (HS.out.kp k2 (fun _ _ h => h) (fun _ _ h => h))
  have HR2 := hid (HR.out.kp k2 (fun h => h) (fun _ _ h => h) (fun _ _ h => h))
  have K2 := hid (K1.out.trans k2 (fun _ _ h => h))
  clear HS HR K1 k2
  go_wp2_with fail
  refine (at_any D w2 g fm fv steps fs [] es c HS2.out (by rw [HP.out]; decide) 3 (by rw [HP.out]; decide)).mono ?_
  rintro _ w3 ⟨G, rfl, hG, hrw, k3⟩
  rw [HP.out] at hrw
  rw [HP.out]
  have hl2 : lst 2 (atf 2 3) = [1, 1] := by decide +kernel
  rw [hl2] at hrw
  have HRW := hid hrw
  have HS3 := hid (HS2.out.kp k3 (fun _ _ h => h) (fun _ _ h => h))
  have HR3 := hid (HR2.out.kp k3 (fun h => h) (fun _ _ h => h) (fun _ _ h => h))
  have K3 := hid (K2.out.trans k3 (fun _ _ h => h))
  clear HS2 HR2 K2 k3 hrw hl2 hG
  go_wp2_with fail
  have s4 := St.new 3 w3 #[.int .i64 7]
  have k4 : Kp (fun _ => False) w3 (w3.alloc (.cells #[.int .i64 7] 3)) := (Kp.refl _ _).alloc _
  generalize w3.alloc (.cells #[.int .i64 7] 3) = w4 at s4 k4 ⊢
  have hnb : nbr [7] 2 = 2 := by decide +kernel
  refine (number_any D w4 g fm fv steps fs [] es c (HS3.out.kp k4 (fun _ _ h => h) (fun _ _ h => h)) (by rw [HP.out]; decide) (some ⟨w3.heap.size, 0, none⟩) [7] 1 1 rfl (by decide) (by decide) (fun _ => ⟨_, _, rfl, fun i hi => ?_⟩)).mono ?_
  · obtain rfl : i = 0 := by simpa using hi
    exact s4.cell 0
  rintro _ w5 ⟨rfl, k5⟩
  rw [HP.out, hnb]
  have k35 : Kp (fun _ => False) w3 w5 := k4.trans k5 (fun _ _ h => h)
  have HR5 := hid (HR3.out.kp k35 (fun h => h) (fun _ _ h => h) (fun _ _ h => h))
  have K5 := hid (K3.out.trans k35 (fun _ _ h => h))
  have hrw3 : Rw .i64 3 w3 G [1, 1] := HRW.out
  have HRW5 := hid (hrw3.kp k35 (fun h => h))
  clear HS3 HR3 K3 k4 s4 k5 k35 hnb HRW hrw3
  obtain ⟨fa, fc, hfv⟩ := ownsRow_shape HR5.out.row
  have c0 : w5.cell? ⟨g', 0, none⟩ = some (.slice fa gs.length fc) := by rw [← hfv]; exact HR5.out.st.cell 0
  rw [HG.out] at c0
  go_wp2_with fail
  have s6 := Rw.new .i64 3 w5 [1, 1]
  have k6 : Kp (fun _ => False) w5 (w5.alloc (.cells #[.int .i64 1, .int .i64 1] 3)) := (Kp.refl _ _).alloc _
  have s7 : Rw .i64 3 (w5.alloc (.cells #[.int .i64 1, .int .i64 1] 3)) w5.heap.size [1, 1] := s6
  have r7 : Rw .i64 3 (w5.alloc (.cells #[.int .i64 1, .int .i64 1] 3)) G [1, 1] := Rw.kp HRW5.out k6 (fun h => h)
  have c1 := kp_cell k6 c0 (fun h => h)
  clear s6 c0
  generalize w5.alloc (.cells #[.int .i64 1, .int .i64 1] 3) = w6 at s7 k6 r7 c1 ⊢
  refine (lsame_any (some ⟨G, 0, none⟩) (some ⟨w5.heap.size, 0, none⟩) 2 2 2 2 [1, 1] [1, 1] w6 r7.src s7.src rfl rfl (by decide)).mono ?_
  rintro _ w7 ⟨rfl, k7⟩
  have c2 := kp_cell k7 c1 (fun h => h)
  have K7 := hid ((K5.out.trans k6 (fun _ _ h => h)).trans k7 (fun _ _ h => h))
  rw [show (decide (([1, 1] : List Int) = [1, 1])) = true from rfl]
  clear c1 r7 s7 k6 k7 K5
  go_wp2_with fail
  go_ret
  exact ⟨rfl, K7.out⟩
end Go.Proofs.YtlnknkeagonmpaaGreat
