/- The document's Some and Cost, the program's Cost, the law's fits and tree. -/
import Derived.Test.YthpocbpleffdpaaMe
import Derived.Test.YthpocbpleffdpaaLent
import Derived.Test.YthpocbpleffdpaaXiX
import Derived.Test.YthpocbpleffdpaaDr
namespace Go.Proofs.Ythpocbpleffdpaa
open Go.RowKit
set_option linter.unusedVariables false
set_option linter.unusedSimpArgs false
set_option maxRecDepth 100000
/-- Counts. -/
abbrev Ct (zs : List Int) : Prop := ∀ z ∈ zs, 0 ≤ z ∧ z < 4294967296
theorem Ct.at {zs : List Int} (h : Ct zs) (i : Nat) : 0 ≤ zs.getD i 0 ∧ zs.getD i 0 < 4294967296 := by
  by_cases hi : i < zs.length
  · exact h _ (by rw [List.getD_eq_getElem?_getD, List.getElem?_eq_getElem hi]; exact List.getElem_mem _)
  · rw [List.getD_eq_getElem?_getD, List.getElem?_eq_none (by omega)]; simp
theorem Wi.at {m : Int} {zs : List Int} (h : Wi m zs) (hm : 0 ≤ m) (i : Nat) : 0 ≤ zs.getD i 0 ∧ zs.getD i 0 ≤ m := by
  by_cases hi : i < zs.length
  · exact h _ (by rw [List.getD_eq_getElem?_getD, List.getElem?_eq_getElem hi]; exact List.getElem_mem _)
  · rw [List.getD_eq_getElem?_getD, List.getElem?_eq_none (by omega)]; simpa using hm
set_option maxHeartbeats 4000000 in
theorem some_any (w : World) (ao : Option Addr) (cap : Nat) (zs : List Int) (hl : zs.length ≤ 1000000000000) (hz : Ct zs) (hs : Src .u32 w ao zs) :
    Calls Try.prog 19 #[.slice ao zs.length cap] w fun e w' => e = .returned (.int .i64 ((Pm.pos zs).length : Nat)) ∧ w = w' := by
  have HS := hid hs
  have HZ := hid hz
  rw [← Pm.lv_plen]
  clear hs hz
  go_enter Try.func19, Try.ntmps19
  go_wp2_with fail
  go_loopw [3, 4] (fun sv iv wr => ∃ i m : Nat, i ≤ zs.length ∧ iv = .int .i64 i ∧ sv = .int .i64 m ∧ m ≤ i ∧ w = wr ∧ Hid (m = (lv zs i).length)) (fun _ i _ => zs.length - (intOf i).toNat)
  case atStart => exact ⟨0, 0, Nat.zero_le _, rfl, rfl, Nat.le_refl _, rfl, rfl⟩
  case round =>
    obtain ⟨i, m, hi, rfl, rfl, hmi, rfl, HM⟩ := hrel
    by_cases hil : i < zs.length
    · obtain ⟨b, off, rfl, hc⟩ := HS.out (by omega)
      have c := hc i hil
      have hzi := HZ.out.at i
      obtain ⟨y, hy⟩ : ∃ y : Nat, zs.getD i 0 = (y : Int) := ⟨(zs.getD i 0).toNat, by omega⟩
      rw [hy] at c hzi
      have HY := hid hy
      clear hy hc
      by_cases hp : 0 < y
      · have H1 : Hid (m + 1 = (lv zs (i + 1)).length) := by
          show m + 1 = _
          rw [lv_yes (by rw [HY.out]; omega), List.length_append, ← HM.out]
          rfl
        clear HM
        go_wp2_with fail
        go_roundw
        case rel => exact ⟨i + 1, m + 1, by omega, by go_num, by go_num, by omega, (by first | rfl | trivial), H1.out⟩
        case measure => simp [intOf]; omega
      · have H1 : Hid (m = (lv zs (i + 1)).length) := by
          show m = _
          rw [lv_no (by rw [HY.out]; omega)]
          exact HM.out
        clear HM
        go_wp2_with fail
        go_roundw
        case rel => exact ⟨i + 1, m, by omega, by go_num, rfl, by omega, (by first | rfl | trivial), H1.out⟩
        case measure => simp [intOf]; omega
    · obtain rfl : i = zs.length := by omega
      go_wp2_with fail
      go_ret
      exact ⟨by rw [← HM.out]; rfl, rfl⟩
/-- What lengths cost for counts. -/
def ctot (ls zs : List Int) : Nat → Nat
  | 0 => 0
  | j + 1 => ctot ls zs j + (ls.getD j 0).toNat * (zs.getD j 0).toNat
theorem ctot_le {ls zs : List Int} (hw : Wi 320 ls) (hz : Ct zs) : ∀ j, ctot ls zs j ≤ 1374389534720 * j
  | 0 => Nat.le_refl _
  | j + 1 => by
    have h1 := hw.at (by decide) j
    have h2 := hz.at j
    have h3 : (ls.getD j 0).toNat * (zs.getD j 0).toNat ≤ 320 * 4294967296 := Nat.mul_le_mul (by omega) (by omega)
    have := ctot_le hw hz j
    simp only [ctot]
    omega
theorem sum_filter (p : Nat → Bool) (f : Nat → Nat) (hf : ∀ i, p i = false → f i = 0) : ∀ l : List Nat, ((l.filter p).map f).sum = (l.map f).sum
  | [] => rfl
  | a :: l => by
    have ih := sum_filter p f hf l
    by_cases h : p a = true
    · rw [List.filter_cons_of_pos h, List.map_cons, List.map_cons, List.sum_cons, List.sum_cons, ih]
    · rw [List.filter_cons_of_neg h, List.map_cons, List.sum_cons, ih, hf a (by simpa using h), Nat.zero_add]
theorem ctot_range (ls zs : List Int) : ∀ n, ctot ls zs n = ((List.range n).map (fun i => (ls.getD i 0).toNat * (zs.getD i 0).toNat)).sum
  | 0 => rfl
  | n + 1 => by rw [ctot, ctot_range ls zs n, List.range_succ, List.map_append, List.sum_append]; simp
/-- The mathematics' word for it. -/
theorem ctot_ltot (ls zs : List Int) : ctot ls zs zs.length = Pm.ltot zs ls := by
  rw [ctot_range]
  unfold Pm.ltot Pm.pos
  rw [sum_filter _ (fun s => Pm.cnv zs s * (ls.getD s 0).toNat) (fun i hi => by
    have : ¬ 0 < zs.getD i 0 := by simpa using hi
    unfold Pm.cnv
    rw [show (zs.getD i 0).toNat = 0 by omega, Nat.zero_mul])]
  congr 1
  refine List.map_congr_left (fun i _ => ?_)
  unfold Pm.cnv
  rw [Nat.mul_comm]
set_option maxHeartbeats 4000000 in
theorem rcost_any (w : World) (ao bo : Option Addr) (cap bcap n : Nat) (ls zs : List Int) (hn : n ≤ 320) (h1 : ls.length = n) (h2 : zs.length = n) (hw : Wi 320 ls) (hz : Ct zs) (hs : Src .i64 w ao ls) (hb : Src .u32 w bo zs) :
    Calls Try.prog 21 #[.slice ao n cap, .slice bo n bcap] w fun e w' => e = .returned (.int .u64 (ctot ls zs n : Nat)) ∧ Kp (fun _ => False) w w' := by
  have HS := hid hs
  have HB := hid hb
  have HW := hid hw
  have HZ := hid hz
  have H1 := hid h1
  have H2 := hid h2
  clear hs hb hw hz h1 h2
  go_enter Try.func21, Try.ntmps21
  go_wp2_with fail
  go_loopw [5, 6] (fun sv iv wr => ∃ i m : Nat, i ≤ n ∧ iv = .int .i64 i ∧ sv = .int .u64 m ∧ m ≤ 1374389534720 * i ∧ Hid (Kp (fun _ => False) w wr) ∧ Hid (m = ctot ls zs i)) (fun _ i _ => n - (intOf i).toNat)
  case atStart => exact ⟨0, 0, Nat.zero_le _, rfl, rfl, Nat.le_refl _, Kp.refl _ _, rfl⟩
  case round =>
    obtain ⟨i, m, hi, rfl, rfl, hmi, HK, HM⟩ := hrel
    by_cases hil : i < n
    · obtain ⟨b, off, rfl, hc⟩ := HS.out (by have := H1.out; omega)
      obtain ⟨b2, off2, rfl, hc2⟩ := HB.out (by have := H2.out; omega)
      have c1 := kp_cellh HK.out (hc i (by have := H1.out; omega)) (fun h => h)
      have c2 := kp_cellh HK.out (hc2 i (by have := H2.out; omega)) (fun h => h)
      have hx := HW.out.at (by decide) i
      have hy := HZ.out.at i
      obtain ⟨x, hxe⟩ : ∃ x : Nat, ls.getD i 0 = (x : Int) := ⟨(ls.getD i 0).toNat, by omega⟩
      obtain ⟨y, hye⟩ : ∃ y : Nat, zs.getD i 0 = (y : Int) := ⟨(zs.getD i 0).toNat, by omega⟩
      rw [hxe] at c1 hx
      rw [hye] at c2 hy
      have HM2 : Hid (m + x * y = ctot ls zs (i + 1)) := by
        show _ = _
        rw [ctot, ← HM.out, hxe, hye]
        rfl
      have hxy : x * y ≤ 1374389534720 := Nat.le_trans (Nat.mul_le_mul (show x ≤ 320 by omega) (show y ≤ 4294967296 by omega)) (by decide)
      obtain ⟨q, hq⟩ : ∃ q, q = x * y := ⟨_, rfl⟩
      rw [← hq] at HM2 hxy
      have hq2 : (x : Int) * (y : Int) = (q : Int) := by rw [hq]; push_cast; rfl
      clear hq hxe hye hc hc2
      go_wp2_with fail
      go_quiet (fail)
      go_wp2_with fail
      go_roundw
      case rel => exact ⟨i + 1, m + q, by omega, by go_num, by go_num, by omega, HK.out.trans (drewN_kp _ _ _) (fun _ _ h => h), HM2.out⟩
      case measure => simp [intOf]; omega
    · obtain rfl : i = n := by omega
      go_wp2_with fail
      go_ret
      exact ⟨by rw [← HM.out]; rfl, HK.out⟩
set_option maxHeartbeats 4000000 in
theorem hcost_ok (w : World) (ao bo : Option Addr) (cap bcap n : Nat) (ls zs : List Int) (hn : n ≤ 320) (h1 : ls.length = n) (h2 : zs.length = n) (hw : Wi 320 ls) (hz : Ct zs) (hs : Src .i64 w ao ls) (hb : Src .u32 w bo zs) :
    Calls Try.prog 25 #[.slice ao n cap, .slice bo n bcap] w fun e w' => e = .returned (.tuple #[.int .u64 (ctot ls zs n : Nat), .int .i64 0]) ∧ Kp (fun _ => False) w w' := by
  have HWI : Hid (Calls Try.prog 51 #[.slice ao n cap, .int .i64 320] w fun e w' => e = .returned (.bool true) ∧ w = w') := by
    have := within_any ao cap ls 320 w (by omega) hs
    rw [h1, decide_eq_true hw] at this
    exact this
  have HS := hid hs
  have HB := hid hb
  have HW := hid hw
  have HZ := hid hz
  have H1 := hid h1
  have H2 := hid h2
  clear hs hb hw hz h1 h2
  go_enter Try.func25, Try.ntmps25
  go_wp2_with (first | (go_at_call 51; refine HWI.out.mono ?_; rintro e w1 ⟨rfl, rfl⟩))
  go_loopw [6, 24] (fun sv iv wr => ∃ i m : Nat, i ≤ n ∧ iv = .int .i64 i ∧ sv = .int .u64 m ∧ m ≤ 1374389534720 * i ∧ Hid (Kp (fun _ => False) w wr) ∧ Hid (m = ctot ls zs i)) (fun _ i _ => n - (intOf i).toNat)
  case atStart => exact ⟨0, 0, Nat.zero_le _, rfl, rfl, Nat.le_refl _, Kp.refl _ _, rfl⟩
  case round =>
    obtain ⟨i, m, hi, rfl, rfl, hmi, HK, HM⟩ := hrel
    by_cases hil : i < n
    · obtain ⟨b, off, rfl, hc⟩ := HS.out (by have := H1.out; omega)
      obtain ⟨b2, off2, rfl, hc2⟩ := HB.out (by have := H2.out; omega)
      have c1 := kp_cellh HK.out (hc i (by have := H1.out; omega)) (fun h => h)
      have c2 := kp_cellh HK.out (hc2 i (by have := H2.out; omega)) (fun h => h)
      have hx := HW.out.at (by decide) i
      have hy := HZ.out.at i
      obtain ⟨x, hxe⟩ : ∃ x : Nat, ls.getD i 0 = (x : Int) := ⟨(ls.getD i 0).toNat, by omega⟩
      obtain ⟨y, hye⟩ : ∃ y : Nat, zs.getD i 0 = (y : Int) := ⟨(zs.getD i 0).toNat, by omega⟩
      rw [hxe] at c1 hx
      rw [hye] at c2 hy
      have HM2 : Hid (m + x * y = ctot ls zs (i + 1)) := by
        show _ = _
        rw [ctot, ← HM.out, hxe, hye]
        rfl
      have hxy : x * y ≤ 1374389534720 := Nat.le_trans (Nat.mul_le_mul (show x ≤ 320 by omega) (show y ≤ 4294967296 by omega)) (by decide)
      obtain ⟨q, hq⟩ : ∃ q, q = x * y := ⟨_, rfl⟩
      rw [← hq] at HM2 hxy
      have hq2 : (y : Int) * (x : Int) = (q : Int) := by rw [hq]; push_cast; rw [Int.mul_comm]
      clear hq hxe hye hc hc2
      go_wp2_with fail
      go_roundw
      case rel => exact ⟨i + 1, m + q, by omega, by go_num, by go_num, by omega, HK.out, HM2.out⟩
      case measure => simp [intOf]; omega
    · obtain rfl : i = n := by omega
      go_wp2_with fail
      go_ret2
      exact ⟨by rw [← HM.out]; rfl, HK.out⟩
theorem hcost_bad (w : World) (ao bo : Option Addr) (cap bcap n : Nat) (ls zs : List Int) (hl : ls.length ≤ 4000000000000000000) (hn : n ≤ 320) (h2 : zs.length = n) (hs : Src .i64 w ao ls) (hbad : ls.length ≠ n ∨ ¬ Wi 320 ls) :
    Calls Try.prog 25 #[.slice ao ls.length cap, .slice bo n bcap] w fun e w' => e = .returned (.tuple #[.int .u64 0, .int .i64 2]) ∧ w = w' := by
  have HWI : Hid (Calls Try.prog 51 #[.slice ao ls.length cap, .int .i64 320] w fun e w' => e = .returned (.bool (decide (Wi 320 ls))) ∧ w = w') := within_any ao cap ls 320 w hl hs
  clear hs
  generalize ls.length = m at *
  by_cases hmn : m = n
  · subst hmn
    have hx : decide (Wi 320 ls) = false := decide_eq_false (hbad.resolve_left (fun h => h rfl))
    rw [hx] at HWI
    clear hbad hx
    go_enter Try.func25, Try.ntmps25
    go_wp2_with (first | (go_at_call 51; refine HWI.out.mono ?_; rintro e w1 ⟨rfl, rfl⟩))
    go_ret2
    exact ⟨rfl, rfl⟩
  · have h0 : (m : Int) ≠ (n : Int) := by omega
    have h3 : ((m : Int) != (n : Int)) = true := by simpa using h0
    have h4 : ((m : Int) == (n : Int)) = false := by simpa using h0
    clear hbad
    go_enter Try.func25, Try.ntmps25
    go_wp2_with fail
    go_ret2
    exact ⟨rfl, rfl⟩
end Go.Proofs.Ythpocbpleffdpaa
