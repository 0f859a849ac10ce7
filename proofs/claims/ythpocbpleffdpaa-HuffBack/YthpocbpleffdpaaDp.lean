/- huff.Put. -/
import Derived.Test.YthpocbpleffdpaaDt
import Derived.Test.YthpocbpleffdpaaBzWorks
import Derived.Deep.RegionHeld3
namespace Go.Proofs.Ythpocbpleffdpaa
open Go.RowKit
set_option linter.unusedVariables false
set_option linter.unusedSimpArgs false
/-- Has a symbol a code? -/
def hasb (zs : List Int) (s : Int) : Bool := decide (0 ≤ s) && (decide (s < (zs.length : Int)) && decide (0 < zs.getD s.toNat 0))
/-- The length of the code of symbol j of a row, its code. -/
def sln (zs ss : List Int) (j : Nat) : Nat := (zs.getD (ss.getD j 0).toNat 0).toNat
def scd (zs ss : List Int) (j : Nat) : Nat := ((codes zs).getD (ss.getD j 0).toNat 0).toNat
def lgn (zs ss : List Int) : Nat → Nat
  | 0 => 0
  | j + 1 => lgn zs ss j + sln zs ss j
def pvn (zs ss : List Int) : Nat → Nat
  | 0 => 0
  | j + 1 => pvn zs ss j + Bz.turn (scd zs ss j) (sln zs ss j) * 2 ^ lgn zs ss j
theorem pvn_lt (zs ss : List Int) : ∀ j, pvn zs ss j < 2 ^ lgn zs ss j
  | 0 => by simp [pvn, lgn]
  | j + 1 => by
    have h1 := pvn_lt zs ss j
    have h2 := Bz.turn_lt (scd zs ss j) (sln zs ss j)
    simp only [pvn, lgn]
    rw [Nat.pow_add]
    have h3 := Nat.mul_le_mul_right (2 ^ lgn zs ss j) (show Bz.turn (scd zs ss j) (sln zs ss j) + 1 ≤ 2 ^ sln zs ss j by omega)
    rw [Nat.add_mul, Nat.one_mul, Nat.mul_comm (2 ^ sln zs ss j)] at h3
    omega
set_option maxRecDepth 100000 in
set_option maxHeartbeats 4000000 in
theorem has_any (w : World) (g : Nat) (la ca sa : Option Addr) (lc cc sc : Nat) (zs S : List Int) (s : Int) (h : Cd w g la ca sa lc cc sc zs S) :
    Calls Try.prog 59 #[.pointer (some ⟨g, 0, none⟩), .int .i64 s] w fun e w' => e = .returned (.bool (hasb zs s)) ∧ w = w' := by
  have z0 := h.cell.1
  have HS := hid h.sl
  have hl := h.hl
  obtain ⟨n, hn⟩ : ∃ n, n = zs.length := ⟨_, rfl⟩
  have HHB : Hid (hasb zs s = (decide (0 ≤ s) && (decide (s < (n : Int)) && decide (0 < zs.getD s.toNat 0)))) := by rw [Hid, hn]; rfl
  rw [← hn] at z0 hl
  have HN := hid hn
  clear h hn
  by_cases h0 : 0 ≤ s
  · obtain ⟨k, rfl⟩ := Int.eq_ofNat_of_zero_le h0
    by_cases h1 : k < n
    · obtain ⟨gb, off, rfl, hc⟩ := HS.out (by have := HN.out; omega)
      have yk := hc k (by have := HN.out; omega)
      have hk1 : (k : Int) < (n : Int) := by omega
      rw [Int.toNat_natCast] at HHB
      have HR : Hid (hasb zs (k : Int) = decide (0 < zs.getD k 0)) := by rw [Hid, HHB.out]; simp [h0, h1]
      clear hc HHB HS
      generalize zs.getD k 0 = z at *
      go_enter Try.func59, Try.ntmps59
      go_wp2_with fail
      all_goals
        go_wp2_with fail
        go_ret
        exact ⟨by rw [HR.out]; first | rfl | simp_all, rfl⟩
    · have hk1 : ¬ (k : Int) < (n : Int) := by omega
      have HR : Hid (hasb zs (k : Int) = false) := by rw [Hid, HHB.out]; simp [h1]
      clear HHB HS
      go_enter Try.func59, Try.ntmps59
      go_wp2_with fail
      go_ret
      exact ⟨by rw [HR.out]; rfl, rfl⟩
  · have h1 : decide (0 ≤ s) = false := by simpa using h0
    have HR : Hid (hasb zs s = false) := by rw [Hid, HHB.out, h1]; rfl
    clear HHB HS
    go_enter Try.func59, Try.ntmps59
    go_wp2_with fail
    go_ret
    exact ⟨by rw [HR.out]; rfl, rfl⟩
theorem has_sym {zs : List Int} {s : Int} (h : hasb zs s = true) : ∃ k n : Nat, s = (k : Int) ∧ k < zs.length ∧ zs.getD k 0 = (n : Int) ∧ 1 ≤ n := by
  unfold hasb at h
  simp only [Bool.and_eq_true, decide_eq_true_eq] at h
  obtain ⟨k, rfl⟩ := Int.eq_ofNat_of_zero_le h.1
  rw [Int.toNat_natCast] at h
  obtain ⟨n, hn⟩ := Int.eq_ofNat_of_zero_le (show 0 ≤ zs.getD k 0 by omega)
  exact ⟨k, n, rfl, by omega, hn, by omega⟩
theorem code_fit {zs : List Int} (hw : Wi 15 zs) (hg : wgt zs ≤ 32768) {k n : Nat} (hn : 1 ≤ n) (e : zs.getD k 0 = (n : Int)) : n ≤ 15 ∧ fc zs n + cnt zs n k < 2 ^ n := by
  have hk := lt_len hn e
  have hz : zs.getD k 0 ≤ 15 := (hw (zs.getD k 0) (by rw [List.getD_eq_getElem?_getD, List.getElem?_eq_getElem hk]; exact List.getElem_mem _)).2
  have h15 : n ≤ 15 := by omega
  have h1 := cd_lt hn e
  have h2 := fn_wgt hw h15
  have h3 : fn zs n * 2 ^ (15 - n) ≤ 2 ^ n * 2 ^ (15 - n) := by
    rw [← Nat.pow_add, show n + (15 - n) = 15 by omega]
    omega
  have h4 := Nat.le_of_mul_le_mul_right h3 (Nat.two_pow_pos (15 - n))
  exact ⟨h15, by omega⟩
theorem sln_is {zs ss : List Int} {j k n : Nat} (h1 : ss.getD j 0 = (k : Int)) (h2 : zs.getD k 0 = (n : Int)) : sln zs ss j = n := by unfold sln; rw [h1, Int.toNat_natCast, h2, Int.toNat_natCast]
theorem scd_is {zs ss : List Int} (hw : Wi 15 zs) {j k n : Nat} (hn : 1 ≤ n) (h1 : ss.getD j 0 = (k : Int)) (h2 : zs.getD k 0 = (n : Int)) : scd zs ss j = fc zs n + cnt zs n k := by unfold scd; rw [h1, Int.toNat_natCast, codes_get hw hn h2, Int.toNat_natCast]
theorem lgn_le {zs ss : List Int} (hw : Wi 15 zs) : ∀ j, lgn zs ss j ≤ 15 * j
  | 0 => by simp [lgn]
  | j + 1 => by
    have ih := lgn_le (ss := ss) hw j
    have : sln zs ss j ≤ 15 := by
      unfold sln
      by_cases h : (ss.getD j 0).toNat < zs.length
      · have := (hw (zs.getD (ss.getD j 0).toNat 0) (by rw [List.getD_eq_getElem?_getD, List.getElem?_eq_getElem h]; exact List.getElem_mem _)).2
        omega
      · rw [List.getD_eq_getElem?_getD, List.getElem?_eq_none (by omega)]
        simp
    simp only [lgn]
    omega
theorem all_has {zs ss : List Int} (h : ∀ j, j < ss.length → hasb zs (ss.getD j 0) = true) : ∀ s ∈ ss, hasb zs s = true := fun s hs => by
  obtain ⟨j, hj, e⟩ := List.mem_iff_getElem.1 hs
  have := h j hj
  rw [List.getD_eq_getElem?_getD, List.getElem?_eq_getElem hj, Option.getD_some, e] at this
  exact this
theorem some_has {zs ss : List Int} {j : Nat} (hj : j < ss.length) (h : hasb zs (ss.getD j 0) = false) : ∃ s ∈ ss, hasb zs s = false := ⟨_, by rw [List.getD_eq_getElem?_getD, List.getElem?_eq_getElem hj]; exact List.getElem_mem _, h⟩
set_option maxRecDepth 100000 in
set_option maxHeartbeats 8000000 in
theorem put_any (w0 w : World) (g gw N v : Nat) (la ca sa so : Option Addr) (lc cc sc oc : Nat) (zs S ss : List Int) (hc : Cd w0 g la ca sa lc cc sc zs S) (hwg : wgt zs ≤ 32768) (hss : Src .i64 w0 so ss) (hsl : ss.length ≤ 600) (hW : Bz.WrO w0 w gw N v) (hN : N ≤ 1000) :
    Calls Try.prog 33 #[.pointer (some ⟨g, 0, none⟩), .pointer (some ⟨gw, 0, none⟩), .slice so ss.length oc] w fun e w' =>
      ((∃ s ∈ ss, hasb zs s = false) ∧ e = .returned (.tuple #[.int .i64 0, .int .i64 2]) ∧ w = w') ∨
      ((∀ s ∈ ss, hasb zs s = true) ∧ e = .returned (.tuple #[.int .i64 (lgn zs ss ss.length : Int), .int .i64 0]) ∧ Bz.WrO w0 w' gw (N + lgn zs ss ss.length) (v + pvn zs ss ss.length * 2 ^ N)) := by
  have HC := hid hc
  have HW0 : Hid (∀ U, Kp (fun _ => False) w0 U → Cd U g la ca sa lc cc sc zs S) := fun U k => hc.ok k
  have HSS := hid hss
  have k0 : Kp (fun _ => False) w0 w := by obtain ⟨_, _, k, _⟩ := hW; exact kpB k
  have HWR := hid hW
  have HK0 := hid k0
  have HWI := hid hc.hw
  have hl := hc.hl
  have HWG := hid hwg
  have HHA := hid (fun s => has_any w g la ca sa lc cc sc zs S s (hc.ok k0))
  have HSW := hid (hss.kp k0 (fun _ _ _ h => h))
  have z0 := (hc.ok k0).cell.1
  have HLG : Hid (∀ j, lgn zs ss j ≤ 15 * j) := lgn_le hc.hw
  have HSL := hid hc.sl
  obtain ⟨n, hn⟩ : ∃ n, n = ss.length := ⟨_, rfl⟩
  rw [← hn] at hsl ⊢
  have HN2 := hid hn
  clear hc hss k0 hW hwg hn
  go_enter Try.func33, Try.ntmps33
  go_wp2_with fail
  go_loopw [8, 22] (fun lv i wr => ∃ (j : Nat), i = .int .i64 (j : Int) ∧ lv = .int .i64 (lgn zs ss j : Int) ∧ j ≤ n ∧ wr = w ∧ Hid (∀ j', j' < j → hasb zs (ss.getD j' 0) = true)) (fun _ i _ => n - (intOf i).toNat)
  case atStart => exact ⟨0, rfl, rfl, Nat.zero_le _, rfl, fun j' h => by omega⟩
  case round =>
    obtain ⟨j, rfl, rfl, hj, rfl, HJ⟩ := hrel
    by_cases hlt : j < n
    · have hj1 : (j : Int) < (n : Int) := by omega
      have hj0 : (0 : Int) ≤ (j : Int) := by omega
      obtain ⟨gs, os, rfl, hcs⟩ := HSW.out (by have := HN2.out; omega)
      have yj := hcs j (by have := HN2.out; omega)
      have HH := hid (HHA.out (ss.getD j 0))
      clear hcs
      by_cases hh : hasb zs (ss.getD j 0) = true
      · obtain ⟨k, m, e1, hk, e2, hm⟩ := has_sym hh
        have hs := sln_is e1 e2
        have HLG2 : Hid (lgn zs ss (j + 1) = lgn zs ss j + m) := by rw [Hid, ← hs]; rfl
        have hcf := (code_fit HWI.out HWG.out hm e2).1
        obtain ⟨gl, ol, rfl, hcl⟩ := HSL.out (by omega)
        have yl := kp_cellh HK0.out (hcl k hk) (fun h => h)
        rw [e2] at yl
        rw [e1] at yj HH
        have HJ2 : Hid (∀ j', j' < j + 1 → hasb zs (ss.getD j' 0) = true) := fun j' h => by
          by_cases e : j' = j
          · subst e; exact hh
          · exact HJ.out j' (by omega)
        rw [e1] at hh
        rw [hh] at HH
        have hlg := HLG.out j
        have hk1 : (k : Int) < (zs.length : Int) := by omega
        have hk0 : (0 : Int) ≤ (k : Int) := by omega
        have hwl : IntKind.i64.wrap ((lgn zs ss j : Int) + (m : Int)) = (lgn zs ss j : Int) + (m : Int) := by rw [IntKind.wrap_i64]; omega
        clear hcl hs hh e1 e2 HJ
        generalize lgn zs ss j = lj at *
        go_wp2_with fail
        refine HH.out.mono ?_
        rintro e w1 ⟨rfl, rfl⟩
        clear HH
        go_wp2_with fail
        go_roundw
        case rel => exact ⟨j + 1, by go_num, by rw [HLG2.out]; go_num, hlt, (by first | rfl | trivial), HJ2⟩
        case measure => simp [intOf]; omega
      · have hf : hasb zs (ss.getD j 0) = false := by simpa using hh
        have HE := hid (some_has (zs := zs) (by have := HN2.out; omega) hf)
        rw [hf] at HH
        clear hh hf HJ
        generalize ss.getD j 0 = sj at *
        go_wp2_with fail
        refine HH.out.mono ?_
        rintro e w1 ⟨rfl, rfl⟩
        clear HH
        go_wp2_with fail
        go_ret2
        exact .inl ⟨HE.out, rfl, rfl⟩
    · obtain rfl : j = n := by omega
      have hj1 : ¬ (j : Int) < (j : Int) := by omega
      have HAL : Hid (∀ j', j' < j → hasb zs (ss.getD j' 0) = true) := HJ
      clear HJ hlt HHA HSW z0
      go_wp2_with fail
      obtain ⟨V, hV⟩ : ∃ V, V = wr := ⟨_, rfl⟩
      subst hV
      go_loopw [13, 42] (fun er i wr => ∃ (k : Nat), i = .int .i64 (k : Int) ∧ k ≤ j ∧ Hid (Bz.WrO w0 wr gw (N + lgn zs ss k) (v + pvn zs ss k * 2 ^ N))) (fun _ i _ => j - (intOf i).toNat)
      case atStart => exact ⟨0, rfl, Nat.zero_le _, by simpa [lgn, pvn] using HWR⟩
      case round =>
        obtain ⟨k, rfl, hk, HWK⟩ := hrel
        have HKK : Hid (Kp (fun _ => False) w0 wr) := by obtain ⟨_, _, k, _⟩ := HWK.out; exact kpB k
        by_cases hlt : k < j
        · have hj1 : (k : Int) < (j : Int) := by omega
          have hj0 : (0 : Int) ≤ (k : Int) := by omega
          have HCr := hid (HW0.out wr HKK.out)
          obtain ⟨q, m, e1, hq, e2, hm⟩ := has_sym (HAL.out k hlt)
          obtain ⟨h15, hfit⟩ := code_fit HWI.out HWG.out hm e2
          have es := sln_is e1 e2
          have ec := scd_is HWI.out hm e1 e2
          have HLG2 : Hid (lgn zs ss (k + 1) = lgn zs ss k + m) := by rw [Hid, ← es]; rfl
          have HPV2 : Hid (pvn zs ss (k + 1) = pvn zs ss k + Bz.turn (fc zs m + cnt zs m q) m * 2 ^ lgn zs ss k) := by rw [Hid, ← ec, ← es]; rfl
          have HCO := hid (Bz.codeO w0 wr gw (fc zs m + cnt zs m q) m (N + lgn zs ss k) (v + pvn zs ss k * 2 ^ N) (by have := HLG.out k; omega) (by omega) hfit HWK.out)
          obtain ⟨gs, os, rfl, hcs⟩ := (HSS.out.kp HKK.out (fun _ _ _ h => h)) (by have := HN2.out; omega)
          have yj := hcs k (by have := HN2.out; omega)
          obtain ⟨gl, ol, rfl, hcl⟩ := HCr.out.sl (by omega)
          have yl := hcl q hq
          obtain ⟨gc, oc2, rfl, hcc⟩ := HCr.out.sq (by rw [codes_len]; omega)
          have yc := hcc q (by rw [codes_len]; omega)
          rw [codes_get HWI.out hm e2] at yc
          rw [e1] at yj
          rw [e2] at yl
          have z0 := HCr.out.cell.1
          have z1 := HCr.out.cell.2.1
          have hq1 : (q : Int) < (zs.length : Int) := by omega
          have hq0 : (0 : Int) ≤ (q : Int) := by omega
          have HNX : Hid (∀ U, Bz.WrO w0 U gw (N + lgn zs ss k + m) (v + pvn zs ss k * 2 ^ N + Bz.turn (fc zs m + cnt zs m q) m * 2 ^ (N + lgn zs ss k)) → Bz.WrO w0 U gw (N + lgn zs ss (k + 1)) (v + pvn zs ss (k + 1) * 2 ^ N)) := fun U h => by
            rw [HLG2.out, HPV2.out, Nat.add_mul, Nat.mul_assoc, ← Nat.pow_add, Nat.add_comm (lgn zs ss k) N, ← Nat.add_assoc, ← Nat.add_assoc]
            exact h
          have HPR : Hid (∀ U, Kp (fun _ => False) w0 U → U.cell? ⟨g, 0, none⟩ = some (.slice (some ⟨gl, ol, none⟩) zs.length lc) ∧ U.cell? ⟨g, 1, none⟩ = some (.slice (some ⟨gc, oc2, none⟩) zs.length cc) ∧ U.cell? ⟨gc, oc2 + q, none⟩ = some (.int .u64 ((fc zs m + cnt zs m q : Nat) : Int)) ∧ U.cell? ⟨gl, ol + q, none⟩ = some (.int .i64 (m : Int))) := fun U k => by
            have h9 := HW0.out U k
            refine ⟨h9.cell.1, h9.cell.2.1, ?_, ?_⟩
            · obtain ⟨b1, o1, e, hh⟩ := h9.sq (by rw [codes_len]; omega)
              cases e
              have := hh q (by rw [codes_len]; omega)
              rw [codes_get HWI.out hm e2] at this
              exact this
            · obtain ⟨b1, o1, e, hh⟩ := h9.sl (by omega)
              cases e
              have := hh q hq
              rw [e2] at this
              exact this
          have cc0 := HPR.out wr HKK.out
          have KD : Hid (Kp (fun _ => False) w0 wr.drew) := HKK.out.drew
          have cd0 := HPR.out wr.drew KD.out
          have HCOd := hid (Bz.codeO w0 wr.drew gw (fc zs m + cnt zs m q) m (N + lgn zs ss k) (v + pvn zs ss k * 2 ^ N) (by have := HLG.out k; omega) (by omega) hfit (HWK.out.ok (Bz.Kp.refl _ _).drew))
          clear hcs hcl hcc e1 e2 es ec HCO HLG2 HPV2 HWK hfit
          generalize fc zs m + cnt zs m q = cv at *
          go_wp2_with fail
          go_region_held3 (fun U : World => U.cell? ⟨g, 0, none⟩ = some (.slice (some ⟨gl, ol, none⟩) zs.length lc) ∧ U.cell? ⟨g, 1, none⟩ = some (.slice (some ⟨gc, oc2, none⟩) zs.length cc) ∧ U.cell? ⟨gc, oc2 + q, none⟩ = some (.int .u64 (cv : Int)) ∧ U.cell? ⟨gl, ol + q, none⟩ = some (.int .i64 (m : Int))) (first | exact cc0 | exact cd0 | exact cc1) (first | (go_at_call 60; refine HCOd.out.mono ?_; rintro e w3 ⟨rfl, h3⟩; have H3 := hid (HNX.out w3 h3); have cc1 := HPR.out w3 (by obtain ⟨_, _, k, _⟩ := h3; exact kpB k); clear h3 HCOd))
          go_wp2_with fail
          go_roundw
          case rel => exact ⟨k + 1, by go_num, hlt, H3⟩
          case measure => simp [intOf]; omega
        · obtain rfl : k = j := by omega
          have hj1 : ¬ (k : Int) < (k : Int) := by omega
          go_wp2_with fail
          go_ret2
          exact .inr ⟨all_has (fun j' h => HAL.out j' (by have := HN2.out; omega)), rfl, HWK.out⟩
end Go.Proofs.Ythpocbpleffdpaa
