/- huff.find: a code found by its bits. -/
import Derived.Test.YthpocbpleffdpaaDk
import Derived.Test.YthpocbpleffdpaaHi
import Derived.Test.YthpocbpleffdpaaRp
import Derived.Lib.QuoteBits
import Derived.OwnWalk
namespace Go.Proofs.Ythpocbpleffdpaa
open Go.RowKit
set_option linter.unusedVariables false
set_option linter.unusedSimpArgs false
/-- The cells of a code. -/
def cdc (la ca sa : Option Addr) (lc cc sc : Nat) (zs S : List Int) : Array Value := #[.slice la zs.length lc, .slice ca zs.length cc, .int .i64 (wgt zs : Int)] ++ ((cl (cds zs zs.length)).map (Value.int .i64)).toArray ++ #[.slice sa S.length sc]
/-- A code in memory. -/
structure Cd (w : World) (g : Nat) (la ca sa : Option Addr) (lc cc sc : Nat) (zs S : List Int) : Prop where
  st : w.heap[g]? = some (.cells (cdc la ca sa lc cc sc zs S) 89 (0, 0))
  sl : Src .i64 w la zs
  sq : Src .u64 w ca (codes zs)
  ss : Src .i64 w sa S
  hw : Wi 15 zs
  hl : zs.length ≤ 320
  by_ : Byc zs S
  h1 : zs.length ≤ lc
  h2 : zs.length ≤ cc
  h3 : S.length ≤ sc
theorem cdc_many (la ca sa : Option Addr) (lc cc sc : Nat) (zs S : List Int) (m : Nat) (h : m ≤ 15) : (cdc la ca sa lc cc sc zs S)[3 + m]? = some (.int .i64 ((if m = 0 then 0 else cnt zs m zs.length : Nat) : Int)) := by
  unfold cdc
  have hl : (cl (cds zs zs.length)).length = 16 := cl_length _
  rw [Array.getElem?_append_left (by simp [hl]; omega), Array.getElem?_append_right (by simp)]
  have h3 : 3 + m - (#[Value.slice la zs.length lc, Value.slice ca zs.length cc, Value.int .i64 (wgt zs : Int)] : Array Value).size = m := by simp
  rw [h3]
  simp only [List.getElem?_toArray, List.getElem?_map]
  have h4 := cl_cds zs m h
  rw [List.getD_eq_getElem?_getD] at h4
  rw [List.getElem?_eq_getElem (by omega)] at h4 ⊢
  simp only [Option.getD_some, Option.map_some] at h4 ⊢
  rw [h4]
theorem cdc_last (la ca sa : Option Addr) (lc cc sc : Nat) (zs S : List Int) : (cdc la ca sa lc cc sc zs S)[19]? = some (.slice sa S.length sc) := by
  unfold cdc
  have hl : (cl (cds zs zs.length)).length = 16 := cl_length _
  rw [Array.getElem?_append_right (by simp [hl])]
  simp [hl]
theorem Cd.cell {w : World} {g : Nat} {la ca sa : Option Addr} {lc cc sc : Nat} {zs S : List Int} (h : Cd w g la ca sa lc cc sc zs S) : w.cell? ⟨g, 0, none⟩ = some (.slice la zs.length lc) ∧ w.cell? ⟨g, 1, none⟩ = some (.slice ca zs.length cc) ∧ w.cell? ⟨g, 2, none⟩ = some (.int .i64 (wgt zs : Int)) ∧ w.cell? ⟨g, 19, none⟩ = some (.slice sa S.length sc) ∧ ∀ m, m ≤ 15 → w.cell? ⟨g, 3 + m, none⟩ = some (.int .i64 ((if m = 0 then 0 else cnt zs m zs.length : Nat) : Int)) := by
  refine ⟨?_, ?_, ?_, ?_, fun m hm => ?_⟩
  · rw [cell_of_row w g 0 _ 89 _ h.st]; simp [cdc]
  · rw [cell_of_row w g 1 _ 89 _ h.st]; simp [cdc]
  · rw [cell_of_row w g 2 _ 89 _ h.st]; simp [cdc]
  · rw [cell_of_row w g 19 _ 89 _ h.st]; exact cdc_last _ _ _ _ _ _ _ _
  · rw [cell_of_row w g (3 + m) _ 89 _ h.st]; exact cdc_many _ _ _ _ _ _ _ _ m hm
theorem Cd.kp {F : Nat → Prop} {w w' : World} {g : Nat} {la ca sa : Option Addr} {lc cc sc : Nat} {zs S : List Int} (h : Cd w g la ca sa lc cc sc zs S) (k : Kp F w w') (hg : ¬ F g) (hf : ∀ b off, (la = some ⟨b, off, none⟩ ∨ ca = some ⟨b, off, none⟩ ∨ sa = some ⟨b, off, none⟩) → ¬ F b) : Cd w' g la ca sa lc cc sc zs S := by
  have hgl := (Array.getElem?_eq_some_iff.1 h.st).1
  exact ⟨(k.block g hgl hg).trans h.st, h.sl.kp k (fun b off e => hf b off (.inl e)), h.sq.kp k (fun b off e => hf b off (.inr (.inl e))), h.ss.kp k (fun b off e => hf b off (.inr (.inr e))), h.hw, h.hl, h.by_, h.h1, h.h2, h.h3⟩
theorem ac_le (zs : List Int) : ∀ n, ac zs n ≤ n * zs.length
  | 0 => by simp [ac]
  | n + 1 => by
    have := ac_le zs n
    have := cnt_le zs (n + 1) zs.length
    simp only [ac]
    rw [Nat.add_mul]
    omega
theorem drewN_kp (F : Nat → Prop) (w : World) (n : Nat) : Kp F w (w.drewN n) := by
  induction n generalizing w with
  | zero => exact Kp.refl _ _
  | succ n ih => exact (ih w).drew
theorem or_bit_i (x c : Nat) (h : x < 1099511627776) (hc : c ≤ 1) : bits .or .i64 ((x : Int) * 2) (c : Int) = ((2 * x + c : Nat) : Int) := by
  rw [show (x : Int) * 2 = ((2 * x : Nat) : Int) by omega]
  show IntKind.i64.wrap ((BitVec.ofInt 64 ((2 * x : Nat) : Int) ||| BitVec.ofInt 64 (c : Int)).toNat : Int) = _
  rw [BitVec.toNat_or, ofInt_u64 (2 * x) (by omega), ofInt_u64 c (by omega), show 2 * x = 2 ^ 1 * x by omega, ← Nat.two_pow_add_eq_or_of_lt (by omega)]
  exact Go.Lib.wrap_i64_small _ (by omega)
theorem and_bit_u (row k : Nat) (h : row < 18446744073709551616) : bits .and .u64 ((row : Int) / 2 ^ k) 1 = ((row / 2 ^ k % 2 : Nat) : Int) := by
  have e : (row : Int) / 2 ^ k = ((row / 2 ^ k : Nat) : Int) := by rw [Int.natCast_ediv]; push_cast; rfl
  have h2 : row / 2 ^ k < 18446744073709551616 := Nat.lt_of_le_of_lt (Nat.div_le_self _ _) h
  rw [e, show (1 : Int) = ((1 : Nat) : Int) from rfl, u64_and_nat _ _ h2 (by omega), Nat.and_one_is_mod]
theorem fn_le (zs : List Int) (hl : zs.length ≤ 320) (n : Nat) (h : n ≤ 15) : fn zs n ≤ 100000000 := by
  have h1 := fc_small zs n (by omega) hl
  have h2 := cnt_le zs n zs.length
  unfold fn
  split <;> omega
set_option maxRecDepth 100000 in
set_option maxHeartbeats 4000000 in
theorem find_any (w : World) (g : Nat) (la ca sa : Option Addr) (lc cc sc : Nat) (zs S : List Int) (row there : Nat) (h : Cd w g la ca sa lc cc sc zs S) (hr : row < 18446744073709551616) (ht : there ≤ 15) :
    Calls Try.prog 69 #[.pointer (some ⟨g, 0, none⟩), .int .u64 (row : Int), .int .i64 (there : Int)] w fun e w' => ∃ s n er : Int, e = .returned (.tuple #[.int .i64 s, .int .i64 n, .int .i64 er]) ∧ Dec zs (fun k => row / 2 ^ k % 2) there s n er ∧ Kp (fun _ => False) w w' := by
  have HC := hid h
  have hl := h.hl
  have HW := hid h.hw
  obtain ⟨b, hb⟩ : ∃ b : Nat → Nat, b = fun k => row / 2 ^ k % 2 := ⟨_, rfl⟩
  rw [← hb]
  have HB := hid hb
  have HB1 : Hid (∀ k, b k ≤ 1) := fun k => by rw [hb]; dsimp only; omega
  clear hb h
  go_enter Try.func69, Try.ntmps69
  go_wp2_with fail
  go_loopw [7, 9, 10, 11] (fun n code first ahead wr => ∃ (k : Nat), n = .int .i64 (k : Int) ∧ code = .int .i64 (xv b k : Int) ∧ first = .int .i64 (fn zs k : Int) ∧ ahead = .int .i64 (ac zs k : Int) ∧ k ≤ there ∧ Hid (Nm zs b k) ∧ Hid (Kp (fun _ => False) w wr)) (fun n _ _ _ _ => 16 - (intOf n).toNat)
  case atStart => exact ⟨0, rfl, rfl, rfl, rfl, Nat.zero_le _, Nm.zero zs b, Kp.refl _ _⟩
  case round =>
    obtain ⟨k, rfl, rfl, rfl, rfl, hk, HN, HK⟩ := hrel
    have hx := xv_lt b HB1.out k
    have HCr := hid (HC.out.kp HK.out (fun h => h) (fun _ _ _ h => h))
    have z2 := HCr.out.cell.2.2.1
    obtain ⟨q, hq⟩ : ∃ q, q = 15 - k := ⟨_, rfl⟩
    have hw1 : IntKind.i64.wrap (15 - (k : Int)) = (q : Int) := by rw [IntKind.wrap_i64]; omega
    have hw0 : 15 - (k : Int) = (q : Int) := by omega
    have hxq : xv b k * 2 ^ q < 32768 := by
      have h1 := Nat.mul_lt_mul_of_pos_right hx (Nat.two_pow_pos q)
      rw [← Nat.pow_add, show k + q = 15 by omega] at h1
      exact h1
    obtain ⟨P, hP⟩ : ∃ P, P = xv b k * 2 ^ q := ⟨_, rfl⟩
    have hP2 : (xv b k : Int) * 2 ^ q = (P : Int) := by rw [hP]; push_cast; rfl
    rw [← hP] at hxq
    have hw2 : IntKind.i64.wrap (P : Int) = (P : Int) := by rw [IntKind.wrap_i64]; omega
    have hq0 : (0 : Int) ≤ (q : Int) := by omega
    have HP := hid hP
    have HQ := hid hq
    have HX := hid hx
    clear hP hq hx
    go_wp2_with fail
    go_quiet (fail)
    have HKn : Hid (Kp (fun _ => False) w (wr.drewN nq)) := HK.out.trans (drewN_kp _ _ _) (fun _ _ h => h)
    generalize wr.drewN nq = wd at *
    clear HCr z2
    by_cases hge : wgt zs ≤ P
    · have d1 : decide (wgt zs ≤ P) = true := by simpa using hge
      have HG : Hid (wgt zs ≤ xv b k * 2 ^ (15 - k)) := by rw [Hid, ← HQ.out, ← HP.out]; exact hge
      go_wp2_with fail
      go_ret3
      exact ⟨0, 0, 131, rfl, .inr (.inl ⟨rfl, rfl, rfl, k, hk, HN.out, HG.out⟩), HKn.out⟩
    · have d1 : decide (wgt zs ≤ P) = false := by simpa using hge
      have HG : Hid (xv b k * 2 ^ (15 - k) < wgt zs) := by rw [Hid, ← HQ.out, ← HP.out]; omega
      by_cases hkt : k = there
      · subst hkt
        go_wp2_with fail
        go_ret3
        exact ⟨0, 0, 120, rfl, .inr (.inr ⟨rfl, rfl, rfl, HN.out, HG.out⟩), HKn.out⟩
      · have hk2 : ((k : Int) == (there : Int)) = false := by simp; omega
        have hks : k + 1 ≤ there := by omega
        have HCd := hid (HC.out.kp HKn.out (fun h => h) (fun _ _ _ h => h))
        have z3 : wd.cell? ⟨g, 3 + (k + 1), none⟩ = some (.int .i64 (cnt zs (k + 1) zs.length : Int)) := by
          have := HCd.out.cell.2.2.2.2 (k + 1) (by omega)
          rw [if_neg (by omega)] at this
          exact this
        have z19 := HCd.out.cell.2.2.2.1
        have hX15 : xv b k < 32768 := Nat.lt_of_lt_of_le HX.out (Nat.le_trans (Nat.pow_le_pow_right (by omega) (show k ≤ 15 by omega)) (by decide))
        have hF := fn_le zs hl k (by omega)
        have hC := cnt_le zs (k + 1) zs.length
        have hA := ac_le zs k
        have hA2 : k * zs.length ≤ 15 * 320 := Nat.mul_le_mul (by omega) hl
        have hand : bits .and .u64 ((row : Int) / 2 ^ k) 1 = (b k : Int) := by rw [and_bit_u row k hr, HB.out]
        have hor : bits .or .i64 ((xv b k : Int) * 2) (b k : Int) = (xv b (k + 1) : Int) := or_bit_i _ _ (by omega) (HB1.out k)
        have hb1 := HB1.out k
        have hX1 : xv b (k + 1) = 2 * xv b k + b k := rfl
        have HFN : Hid (fn zs (k + 1) = 2 * fn zs k + cnt zs (k + 1) zs.length) := fn_succ zs k
        have HFC : Hid (fc zs (k + 1) = 2 * fn zs k) := fc_succ zs k
        have HAC : Hid (ac zs (k + 1) = ac zs k + cnt zs (k + 1) zs.length) := rfl
        have HST : Hid (fn zs (k + 1) ≤ xv b (k + 1) → Nm zs b (k + 1)) := fun h => HN.out.step h
        have HLO : Hid (fc zs (k + 1) ≤ xv b (k + 1)) := HN.out.fc
        have hw3 : IntKind.i64.wrap ((xv b k : Int) * 2) = (xv b k : Int) * 2 := by rw [IntKind.wrap_i64]; omega
        have hw4 : IntKind.i64.wrap ((fn zs k : Int) * 2) = (fn zs k : Int) * 2 := by rw [IntKind.wrap_i64]; omega
        have hw5 : IntKind.i64.wrap ((b k : Int)) = (b k : Int) := by rw [IntKind.wrap_i64]; omega
        have hlow : 2 * fn zs k ≤ xv b (k + 1) := by have := HLO.out; rw [HFC.out] at this; exact this
        clear HP HQ hq0 hP2 hw0 hw1 hw2 hxq
        have hi0 : (0 : Int) ≤ (k : Int) + 1 := by omega
        have hi1 : (k : Int) + 1 < 16 := by omega
        by_cases hlt : xv b (k + 1) < 2 * fn zs k + cnt zs (k + 1) zs.length
        · obtain ⟨j, hj, e1, e2⟩ := code_sym (n := k + 1) (by omega) HLO.out (by rw [HFN.out]; exact hlt)
          have h9 := HCd.out.by_.at_ j (k + 1) (by omega) (by omega) e1
          have h8 := ac_lt (zs := zs) (k := j) (n := k + 1) (by omega) (by omega) e1
          rw [show k + 1 - 1 = k by omega] at h9 h8
          have hpos : ac zs k + cnt zs (k + 1) j = ac zs k + xv b (k + 1) - 2 * fn zs k := by have := HFC.out; omega
          have h7 : ac zs k + cnt zs (k + 1) j = ac zs k + xv b (k + 1) - fn zs k * 2 := by omega
          rw [h7] at h9 h8
          have hSl : ac zs k + xv b (k + 1) - fn zs k * 2 < S.length := by rw [HCd.out.by_.len]; exact h8
          obtain ⟨sb, so, rfl, hsc⟩ := HCd.out.ss (by omega)
          have zs2 := hsc _ hSl
          rw [h9] at zs2
          have HD : Hid (Dec zs b there (j : Int) ((k : Int) + 1) 0) := .inl ⟨j, k, rfl, by push_cast; rfl, rfl, hks, e1, e2, HN.out⟩
          have hdl : (xv b (k + 1) : Int) - (fn zs k : Int) * 2 < (cnt zs (k + 1) zs.length : Int) := by omega
          have hS3 := HCd.out.h3
          have hS4 : S.length ≤ 4800 := by rw [HCd.out.by_.len]; have := ac_le zs 15; omega
          clear e1 e2 h9 h8 hpos hsc HFN HFC HAC HST HLO h7 hX1
          generalize xv b (k + 1) = X1 at *
          generalize fn zs k = F at *
          generalize ac zs k = A at *
          generalize cnt zs (k + 1) zs.length = Cn at *
          generalize b k = bk at *
          generalize xv b k = X at *
          have hw6 : IntKind.i64.wrap ((X1 : Int) - (F : Int) * 2) = (X1 : Int) - (F : Int) * 2 := by rw [IntKind.wrap_i64]; omega
          have hw7 : IntKind.i64.wrap ((A : Int) + (X1 : Int)) = (A : Int) + (X1 : Int) := by rw [IntKind.wrap_i64]; omega
          have hw8 : IntKind.i64.wrap ((A : Int) + (X1 : Int) - (F : Int) * 2) = (A : Int) + (X1 : Int) - (F : Int) * 2 := by rw [IntKind.wrap_i64]; omega
          have hp0 : (0 : Int) ≤ (A : Int) + (X1 : Int) - (F : Int) * 2 := by omega
          have hp1 : (A : Int) + (X1 : Int) - (F : Int) * 2 < (S.length : Int) := by omega
          go_wp2_with fail
          go_ret3
          exact ⟨_, _, _, rfl, HD.out, HKn.out⟩
        · have HN2 := hid (HST.out (by rw [HFN.out]; omega))
          have hdl : ¬ (xv b (k + 1) : Int) - (fn zs k : Int) * 2 < (cnt zs (k + 1) zs.length : Int) := by omega
          have hX1b : xv b (k + 1) < 32769 := by have := xv_lt b HB1.out (k + 1); have h2 : 2 ^ (k + 1) ≤ 2 ^ 15 := Nat.pow_le_pow_right (by omega) (by omega); omega
          clear HST HLO hX1 HFC z19
          obtain ⟨X1, hX1e⟩ : ∃ X1, X1 = xv b (k + 1) := ⟨_, rfl⟩
          rw [← hX1e] at hdl hor hX1b hlow hlt
          have HXE := hid hX1e
          clear hX1e
          generalize hF2 : fn zs k = F at *
          generalize hA2' : ac zs k = A at *
          generalize hCn : cnt zs (k + 1) zs.length = Cn at *
          generalize b k = bk at *
          generalize xv b k = X at *
          clear hF2 hA2' hCn
          have hw6 : IntKind.i64.wrap ((X1 : Int) - (F : Int) * 2) = (X1 : Int) - (F : Int) * 2 := by rw [IntKind.wrap_i64]; omega
          have hw7 : IntKind.i64.wrap ((F : Int) * 2 + (Cn : Int)) = (F : Int) * 2 + (Cn : Int) := by rw [IntKind.wrap_i64]; omega
          have hw8 : IntKind.i64.wrap ((A : Int) + (Cn : Int)) = (A : Int) + (Cn : Int) := by rw [IntKind.wrap_i64]; omega
          go_wp2_with fail
          go_roundw
          case rel => exact ⟨k + 1, by go_num, by rw [← HXE.out], by rw [HFN.out]; go_num, by rw [HAC.out]; go_num, hks, HN2, HKn⟩
          case measure => simp [intOf]; omega
end Go.Proofs.Ythpocbpleffdpaa
