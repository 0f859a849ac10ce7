/- The document's Take. -/
import Derived.Test.YthpocbpleffdpaaDf
namespace Go.Proofs.Ythpocbpleffdpaa
open Go.RowKit
set_option linter.unusedVariables false
set_option linter.unusedSimpArgs false
theorem codes_get {zs : List Int} (hw : Wi 15 zs) {j n : Nat} (hn : 1 ≤ n) (e : zs.getD j 0 = (n : Int)) : (codes zs).getD j 0 = ((fc zs n + cnt zs n j : Nat) : Int) := by
  have hj := lt_len hn e
  have hz : zs.getD j 0 ≤ 15 := (hw (zs.getD j 0) (by rw [List.getD_eq_getElem?_getD, List.getElem?_eq_getElem hj]; exact List.getElem_mem _)).2
  unfold codes pc
  rw [List.getD_eq_getElem?_getD, List.getElem?_map, List.getElem?_range hj]
  simp only [Option.map_some, Option.getD_some]
  rw [if_pos ⟨by omega, .inl (by omega)⟩, cd_is e]
theorem codes_len (zs : List Int) : (codes zs).length = zs.length := pc_length _ _ _
theorem codes_bd {zs : List Int} (hl : zs.length ≤ 320) (j : Nat) : 0 ≤ (codes zs).getD j 0 ∧ (codes zs).getD j 0 ≤ 100000000 := by
  unfold codes pc
  rw [List.getD_eq_getElem?_getD, List.getElem?_map]
  by_cases hj : j < zs.length
  · rw [List.getElem?_range hj]
    simp only [Option.map_some, Option.getD_some]
    split
    · rename_i h
      obtain ⟨n, hn⟩ := Int.eq_ofNat_of_zero_le (show 0 ≤ zs.getD j 0 by omega)
      rw [cd_is hn]
      have h1 := fc_small zs n (by omega) hl
      have h2 := cnt_le zs n j
      omega
    · omega
  · rw [List.getElem?_eq_none (by simpa using hj)]
    simp
theorem kp_cellh {F : Nat → Prop} {w w' : World} {g i : Nat} {v : Value} (k : Kp F w w') (h : w.cell? ⟨g, i, none⟩ = some v) (hf : ¬ F g) : w'.cell? ⟨g, i, none⟩ = some v := by
  have hb := block_lt_of_cell h
  unfold World.cell? at *
  rw [k.block g hb hf]
  exact h
set_option maxRecDepth 100000 in
set_option maxHeartbeats 8000000 in
theorem rtk_any (w : World) (ao bo : Option Addr) (cap bc there : Nat) (zs B : List Int) (b : Nat → Nat) (hs : Src .i64 w ao zs) (hB : Src .u8 w bo B) (hbl : B.length = there) (ht : there ≤ 15) (hb : ∀ k, k < there → B.getD k 0 = (b k : Int)) (hb1 : ∀ k, b k ≤ 1) (hw : Wi 15 zs) (hl : zs.length ≤ 320) :
    Calls Try.prog 66 #[.slice ao zs.length cap, .slice bo there bc] w fun e w' => ∃ s n er : Int, e = .returned (.tuple #[.int .i64 s, .int .i64 n, .int .i64 er]) ∧ Dec zs b there s n er ∧ Below w.heap.size w w' := by
  have HRC := hid (rcodes_any ao cap zs w hl hs)
  have HS := hid hs
  have HSB := hid hB
  have HB := hid hb
  have HB1 := hid hb1
  have HW := hid hw
  have HBL := hid hbl
  obtain ⟨ln, hln⟩ : ∃ ln, ln = zs.length := ⟨_, rfl⟩
  rw [← hln] at HRC hl ⊢
  have HLN := hid hln
  clear hs hB hb hb1 hw hbl hln
  go_enter Try.func66, Try.ntmps66
  go_wp2_with fail
  refine HRC.out.mono ?_
  rintro e w1 ⟨rfl, r1, b1⟩
  have S1 := hid (HS.out.below b1)
  have SB1 := hid (HSB.out.below b1)
  have C1 := hid r1
  have B1 := hid b1
  obtain ⟨G, hG⟩ : ∃ G, G = w.heap.size := ⟨_, rfl⟩
  rw [← hG] at C1 ⊢
  have HGG := hid hG
  clear HRC HS HSB r1 b1 hG
  go_wp2_with fail
  go_loopw [8, 9] (fun x n wr => ∃ (k : Nat), n = .int .i64 ((k : Int) + 1) ∧ x = .int .u64 (xv b k : Int) ∧ k ≤ there ∧ wr = w1 ∧ Hid (Nm zs b k)) (fun _ n _ => 17 - (intOf n).toNat)
  case atStart => exact ⟨0, rfl, rfl, Nat.zero_le _, rfl, Nm.zero zs b⟩
  case round =>
    obtain ⟨k, rfl, rfl, hk, rfl, HN⟩ := hrel
    have hx := xv_lt b HB1.out k
    have hX15 : xv b k < 32769 := by have h2 : 2 ^ k ≤ 2 ^ 15 := Nat.pow_le_pow_right (by omega) (by omega); omega
    clear hx
    by_cases hlt : k < there
    · have hc1 : (k : Int) + 1 ≤ (there : Int) := by omega
      have hc2 : (k : Int) + 1 ≤ 15 := by omega
      have hw1 : IntKind.i64.wrap ((k : Int) + 1 - 1) = (k : Int) := by rw [IntKind.wrap_i64]; omega
      have hk0 : (0 : Int) ≤ (k : Int) := by omega
      have hk1 : (k : Int) < (there : Int) := by omega
      obtain ⟨gb, off, rfl, hcb⟩ := SB1.out (by have := HBL.out; omega)
      have yb := hcb k (by have := HBL.out; omega)
      rw [HB.out k hlt] at yb
      have hbk := HB1.out k
      have HXE : Hid (xv b (k + 1) = 2 * xv b k + b k) := rfl
      have hmx : IntKind.u64.wrap (2 * (xv b k : Int)) = 2 * (xv b k : Int) := by rw [IntKind.wrap_u64]; omega
      have hax : IntKind.u64.wrap (2 * (xv b k : Int) + (b k : Int)) = (xv b (k + 1) : Int) := by rw [IntKind.wrap_u64, HXE.out]; omega
      have hX1b : xv b (k + 1) < 65540 := by rw [HXE.out]; omega
      obtain ⟨X1, hX1⟩ : ∃ X1, X1 = xv b (k + 1) := ⟨_, rfl⟩
      rw [← hX1] at hax hX1b
      have HX1 := hid hX1
      clear hX1 hcb
      generalize xv b k = X at *
      generalize b k = bk at *
      have hwb : IntKind.u64.wrap (bk : Int) = (bk : Int) := by rw [IntKind.wrap_u64]; omega
      go_wp2_with fail
      obtain ⟨V, hV⟩ : ∃ V, V = wr := ⟨_, rfl⟩
      subst hV
      go_loopw [10] (fun i wz => ∃ (j : Nat), i = .int .i64 (j : Int) ∧ j ≤ ln ∧ wz = V ∧ Hid (∀ j', j' < j → zs.getD j' 0 = ((k + 1 : Nat) : Int) → fc zs (k + 1) + cnt zs (k + 1) j' ≠ xv b (k + 1))) (fun i _ => ln - (intOf i).toNat)
      case atStart => exact ⟨0, rfl, Nat.zero_le _, rfl, fun j' h => by omega⟩
      case round =>
        obtain ⟨j, rfl, hj, hwz, HJ⟩ := hrel
        subst hwz
        by_cases hjl : j < ln
        · have hj0 : (0 : Int) ≤ (j : Int) := by omega
          have hj1 : (j : Int) < (ln : Int) := by omega
          obtain ⟨ga, oa, rfl, hca⟩ := S1.out (by have := HLN.out; omega)
          have ya := hca j (by have := HLN.out; omega)
          have yc : wr.cell? ⟨G, j, none⟩ = some (.int .u64 ((codes zs).getD j 0)) := C1.out.cell j (by rw [codes_len]; have := HLN.out; omega)
          have HCG : Hid (zs.getD j 0 = ((k + 1 : Nat) : Int) → (codes zs).getD j 0 = ((fc zs (k + 1) + cnt zs (k + 1) j : Nat) : Int)) := fun e => codes_get HW.out (by omega) e
          have HCB := hid (codes_bd (zs := zs) (by have := HLN.out; omega) j)
          clear hca
          generalize hzj : zs.getD j 0 = z at *
          have HZJ := hid hzj
          clear hzj
          by_cases hz : z = ((k + 1 : Nat) : Int)
          · have hzb : (z == (k : Int) + 1) = true := by simp; omega
            have hcg := HCG.out hz
            have HZ := hid hz
            clear hz
            by_cases hm : fc zs (k + 1) + cnt zs (k + 1) j = xv b (k + 1)
            · have HD : Hid (Dec zs b there (j : Int) ((k : Int) + 1) 0) := .inl ⟨j, k, rfl, by push_cast; rfl, rfl, by omega, by rw [HZJ.out]; exact HZ.out, hm, HN.out⟩
              have hcm : ((codes zs).getD j 0 == (X1 : Int)) = true := by rw [hcg, hm, HX1.out]; simp
              clear hcg hm HCG
              generalize (codes zs).getD j 0 = cv at *
              go_wp2_with fail
              go_ret3
              exact ⟨_, _, _, rfl, HD.out, B1.out⟩
            · have hcm : ((codes zs).getD j 0 == (X1 : Int)) = false := by rw [hcg, HX1.out]; simp; omega
              have HJ2 : Hid (∀ j', j' < j + 1 → zs.getD j' 0 = ((k + 1 : Nat) : Int) → fc zs (k + 1) + cnt zs (k + 1) j' ≠ xv b (k + 1)) := fun j' h1 h2 => by
                by_cases e : j' = j
                · subst e; exact hm
                · exact HJ.out j' (by omega) h2
              clear hcg hm HCG HJ
              generalize (codes zs).getD j 0 = cv at *
              go_wp2_with fail
              go_roundw
              case rel => exact ⟨j + 1, by go_num, hjl, (by first | rfl | trivial), HJ2⟩
              case measure => simp [intOf]; omega
          · have hzb : (z == (k : Int) + 1) = false := by simp; omega
            have HJ2 : Hid (∀ j', j' < j + 1 → zs.getD j' 0 = ((k + 1 : Nat) : Int) → fc zs (k + 1) + cnt zs (k + 1) j' ≠ xv b (k + 1)) := fun j' h1 h2 => by
              by_cases e : j' = j
              · subst e; rw [HZJ.out] at h2; exact absurd h2 hz
              · exact HJ.out j' (by omega) h2
            clear HCG HJ hz
            go_wp2_with fail
            go_roundw
            case rel => exact ⟨j + 1, by go_num, hjl, (by first | rfl | trivial), HJ2⟩
            case measure => simp [intOf]; omega
        · obtain rfl : j = ln := by omega
          have hjj : ¬ (j : Int) < (j : Int) := by omega
          have HN2 : Hid (Nm zs b (k + 1)) := HN.out.none (fun j' h1 h2 => HJ.out j' (by have := HLN.out; omega) h2)
          clear HJ hjl
          go_wp2_with fail
          go_roundw
          case rel => exact ⟨k + 1, by go_num, by rw [HX1.out], by omega, (by first | rfl | trivial), HN2⟩
          case measure => simp [intOf]; omega
    · obtain rfl : k = there := by omega
      have hc1 : ¬ (k : Int) + 1 ≤ (k : Int) := by omega
      clear hlt
      obtain ⟨X, hX⟩ : ∃ X, X = xv b k := ⟨_, rfl⟩
      rw [← hX] at hX15 ⊢
      have HX := hid hX
      clear hX
      go_wp2_with fail
      obtain ⟨V, hV⟩ : ∃ V, V = wr := ⟨_, rfl⟩
      subst hV
      go_loopw [11] (fun i wz => ∃ (j : Nat), i = .int .i64 (j : Int) ∧ j ≤ ln ∧ Hid (Kp (fun _ => False) V wz) ∧ Hid (∀ j' n : Nat, j' < j → zs.getD j' 0 = (n : Int) → k < n → (fc zs n + cnt zs n j') / 2 ^ (n - k) ≠ xv b k)) (fun i _ => ln - (intOf i).toNat)
      case atStart => exact ⟨0, rfl, Nat.zero_le _, Kp.refl _ _, fun j' n h => by omega⟩
      case round =>
        obtain ⟨j, rfl, hj, HBW, HJ⟩ := hrel
        by_cases hjl : j < ln
        · have hj0 : (0 : Int) ≤ (j : Int) := by omega
          have hj1 : (j : Int) < (ln : Int) := by omega
          have S2 := hid (S1.out.kp HBW.out (fun _ _ _ h => h))
          have C2 : wr.cell? ⟨G, j, none⟩ = some (.int .u64 ((codes zs).getD j 0)) := kp_cellh HBW.out (C1.out.cell j (by rw [codes_len]; have := HLN.out; omega)) (fun h => h)
          obtain ⟨ga, oa, rfl, hca⟩ := S2.out (by have := HLN.out; omega)
          have ya := hca j (by have := HLN.out; omega)
          have HCG : Hid (∀ n : Nat, 1 ≤ n → zs.getD j 0 = (n : Int) → (codes zs).getD j 0 = ((fc zs n + cnt zs n j : Nat) : Int)) := fun n h e => codes_get HW.out h e
          have HCB := codes_bd (zs := zs) (by have := HLN.out; omega) j
          have HZ15 : zs.getD j 0 ≤ 15 := (HW.out (zs.getD j 0) (by rw [List.getD_eq_getElem?_getD, List.getElem?_eq_getElem (show j < zs.length by have := HLN.out; omega)]; exact List.getElem_mem _)).2
          clear hca
          generalize hzj : zs.getD j 0 = z at *
          have HZJ := hid hzj
          clear hzj
          by_cases hz : (k : Int) < z
          · obtain ⟨n, hn⟩ := Int.eq_ofNat_of_zero_le (show 0 ≤ z by omega)
            subst hn
            have hcg := HCG.out n (by omega) rfl
            obtain ⟨m, hm⟩ : ∃ m, m = n - k := ⟨_, rfl⟩
            have hwm : IntKind.i64.wrap ((n : Int) - (k : Int)) = (m : Int) := by rw [IntKind.wrap_i64]; omega
            have hwm0 : (n : Int) - (k : Int) = (m : Int) := by omega
            have hm0 : (0 : Int) ≤ (m : Int) := by omega
            have hdc : decide ((k : Int) < (n : Int)) = true := by simpa using hz
            rw [hcg] at C2
            obtain ⟨cv, hcv⟩ : ∃ cv, cv = fc zs n + cnt zs n j := ⟨_, rfl⟩
            rw [← hcv] at C2 hcg
            have hdv : (cv : Int) / 2 ^ m = ((cv / 2 ^ m : Nat) : Int) := by rw [Int.natCast_ediv]; push_cast; rfl
            have HCV := hid hcv
            have HMM := hid hm
            clear hcv hm hcg HCG HCB
            by_cases hq : cv / 2 ^ m = X
            · have HD : Hid (Dec zs b k 0 0 120) := .inr (.inr ⟨rfl, rfl, rfl, HN.out, ref_bits HW.out HZJ.out (by omega) (by omega) (by rw [← HX.out, ← HMM.out, ← HCV.out]; exact hq)⟩)
              have hqb : (((cv / 2 ^ m : Nat) : Int) == (X : Int)) = true := by simp; exact_mod_cast hq
              generalize hQ : cv / 2 ^ m = Qv at *
              clear hq hQ
              go_wp2_with fail
              go_quiet (fail)
              go_wp2_with fail
              go_ret3
              exact ⟨_, _, _, rfl, HD.out, B1.out.trans (HBW.out.trans (drewN_kp _ _ _) (fun _ _ h => h) |>.below B1.out.size (fun _ h => h.elim))⟩
            · have hqb : (((cv / 2 ^ m : Nat) : Int) == (X : Int)) = false := by simp; omega
              have HJ2 : Hid (∀ j' n : Nat, j' < j + 1 → zs.getD j' 0 = (n : Int) → k < n → (fc zs n + cnt zs n j') / 2 ^ (n - k) ≠ xv b k) := fun j' n' h1 h2 h3 => by
                by_cases e : j' = j
                · subst e
                  rw [HZJ.out] at h2
                  obtain rfl : n = n' := by omega
                  rw [← HX.out, ← HMM.out, ← HCV.out]
                  exact hq
                · exact HJ.out j' n' (by omega) h2 h3
              generalize hQ : cv / 2 ^ m = Qv at *
              clear hq hQ HJ
              go_wp2_with fail
              go_quiet (fail)
              go_wp2_with fail
              go_roundw
              case rel => exact ⟨j + 1, by go_num, hjl, HBW.out.trans (drewN_kp _ _ _) (fun _ _ h => h), HJ2⟩
              case measure => simp [intOf]; omega
          · have hdc : decide ((k : Int) < z) = false := by simpa using hz
            have HJ2 : Hid (∀ j' n : Nat, j' < j + 1 → zs.getD j' 0 = (n : Int) → k < n → (fc zs n + cnt zs n j') / 2 ^ (n - k) ≠ xv b k) := fun j' n' h1 h2 h3 => by
              by_cases e : j' = j
              · subst e
                rw [HZJ.out] at h2
                omega
              · exact HJ.out j' n' (by omega) h2 h3
            clear HCG HJ
            go_wp2_with fail
            go_quiet (fail)
            go_wp2_with fail
            go_roundw
            case rel => exact ⟨j + 1, by go_num, hjl, HBW.out.trans (drewN_kp _ _ _) (fun _ _ h => h), HJ2⟩
            case measure => simp [intOf]; omega
        · obtain rfl : j = ln := by omega
          have hjj : ¬ (j : Int) < (j : Int) := by omega
          have HD : Hid (Dec zs b k 0 0 131) := .inr (.inl ⟨rfl, rfl, rfl, k, Nat.le_refl _, HN.out, ref_code HW.out ht HN.out (fun j' n h1 h2 h3 => HJ.out j' n (by have := HLN.out; omega) h2 h3)⟩)
          clear HJ hjl
          go_wp2_with fail
          go_ret3
          exact ⟨_, _, _, rfl, HD.out, B1.out.trans (HBW.out.below B1.out.size (fun _ h => h.elim))⟩
end Go.Proofs.Ythpocbpleffdpaa
