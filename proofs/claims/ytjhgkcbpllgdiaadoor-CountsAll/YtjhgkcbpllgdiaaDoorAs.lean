/- CountsAll: what Widen tells. -/
import Derived.Test.YtjhgkcbpllgdiaaDoorAt
import Derived.Test.YtjhgkcbpllgdiaaDoorWc
namespace Go.Proofs.YtjhgkcbpllgdiaaDoor
open Go.RowKit Go.Shelf
attribute [local go_sem] Oper.semAt_some
set_option linter.unusedVariables false
def eW (T2 T4 T5 T7 : Nat) (vall : Value) (t : Int) (aw : Option Addr) (n cw : Nat) (E : Int) (f : Nat → Value) : Array Value := #[f 0, f 1, .pointer (some ⟨T2, 0, none⟩), f 3, .pointer (some ⟨T4, 0, none⟩), .pointer (some ⟨T5, 0, none⟩), .int .i64 t, .pointer (some ⟨T7, 0, none⟩), f 8, vall, .slice aw n cw, .int .i64 E, f 12, f 13, f 14, f 15, f 16, f 17, f 18, f 19, f 20, f 21, f 22, f 23, f 24, f 25, f 26, f 27, f 28, f 29, f 30, f 31, f 32, f 33, f 34, f 35, f 36, f 37, f 38, f 39, f 40, f 41, f 42, f 43, f 44, f 45, f 46, f 47, f 48, f 49, f 50, f 51, f 52, f 53, f 54, f 55, f 56, f 57, f 58, f 59, f 60, f 61, f 62, f 63, f 64, f 65, f 66, f 67, f 68, f 69, f 70, f 71, f 72, f 73, f 74, f 75, f 76, f 77, f 78, f 79, f 80, f 81, f 82, f 83, f 84, f 85, f 86, f 87, f 88, f 89, f 90, f 91, f 92, f 93, f 94, f 95, f 96, f 97, f 98, f 99, f 100, f 101, f 102, f 103, f 104, f 105, f 106, f 107, f 108, f 109, f 110, f 111, f 112, f 113, f 114, f 115, f 116, f 117, f 118, f 119, f 120, f 121, f 122, f 123, f 124, f 125, f 126, f 127, f 128, f 129, f 130, f 131, f 132, f 133, f 134, f 135, f 136, f 137, f 138, f 139, f 140, f 141, f 142, f 143, f 144, f 145, f 146, f 147, f 148, f 149, f 150, f 151, f 152, f 153, f 154, f 155, f 156, f 157, f 158, f 159, f 160, f 161, f 162, f 163, f 164, f 165, f 166, f 167, f 168, f 169, f 170, f 171, f 172, f 173, f 174, f 175, f 176, f 177, f 178, f 179, f 180, f 181, f 182, f 183, f 184, f 185, f 186, f 187, f 188, f 189, f 190, f 191, f 192, f 193, f 194, f 195, f 196, f 197, f 198, f 199, f 200, f 201, f 202, f 203, f 204, f 205, f 206, f 207, f 208, f 209, f 210]
set_option maxRecDepth 100000 in
set_option maxHeartbeats 8000000 in
theorem chk_no (w X : World) (T2 T4 T5 T7 : Nat) (vall : Value) (ao : Option Addr) (cap : Nat) (zs : List Int) (o lv t : Int) (f : Nat → Value)
    (hb : Bs w X T2 T4 T5 T7 ao cap zs o lv) (hno : ¬ Ord o ∨ ¬ Ord t) :
    cW.wpIn Fence.wide 20 Tryd.prog (postN (fun a' Z => (∃ f', a' = { tmps := eF T2 T4 T5 T7 vall f', defers := [] }) ∧ Kp (fun _ => False) X Z))
      { tmps := eW T2 T4 T5 T7 vall t none 0 0 2 f, defers := [] } X := by
  have c5 : X.cell? ⟨T5, 0, none⟩ = some (.int .i64 o) := hb.s5.cell 0
  clear hb
  unfold cW eW
  generalize hQ : postN _ = QQ
  gi_wp2_with fail
  by_cases ho : Ord o
  · have ht : ¬ Ord t := hno.elim (fun h => absurd ho h) id
    obtain ⟨k, rfl⟩ : ∃ k : Nat, o = k := ⟨o.toNat, by unfold Ord at ho; omega⟩
    have h7 : k < 7 := by unfold Ord at ho; omega
    refine ⟨trivial, (callsIn_wide.2 (rwidth_ok k X h7)).mono ?_⟩
    rintro r wx ⟨rfl, rfl⟩
    have hp := pow_pos7 k
    generalize 2 ^ k = W at *
    have hW0 : ((W : Int) == 0) = false := beq_eq_false_iff_ne.2 (by omega)
    have hW1 : (W == 0) = false := beq_eq_false_iff_ne.2 (by omega)
    gi_wp2_with fail
    refine ⟨trivial, (callsIn_wide.2 (rwidth_no t X ht)).mono ?_⟩
    rintro r wx ⟨rfl, rfl⟩
    gi_wp2_with fail
    subst hQ
    exact ⟨act_of (by kernel_rfl) rfl, Kp.refl _ _⟩
  · refine ⟨trivial, (callsIn_wide.2 (rwidth_no o X ho)).mono ?_⟩
    rintro r wx ⟨rfl, rfl⟩
    gi_wp2_with fail
    refine ⟨trivial, ?_⟩
    gi_wp2_with fail
    subst hQ
    exact ⟨act_of (by kernel_rfl) rfl, Kp.refl _ _⟩
set_option maxRecDepth 100000 in
set_option maxHeartbeats 8000000 in
theorem chk_ok (w X : World) (T2 T4 T5 T7 : Nat) (vall : Value) (ao : Option Addr) (cap : Nat) (zs : List Int) (lv : Int) (k j : Nat) (aw : Option Addr) (cw : Nat) (R : List Int) (E : Int) (f : Nat → Value)
    (hl : zs.length ≤ 600) (hz : Byt zs) (h7 : k < 7) (j7 : j < 7) (hb : Bs w X T2 T4 T5 T7 ao cap zs (k : Int) lv) (hr : WidR zs (2 ^ k) (2 ^ j) (8 * zs.length / 2 ^ k) R E) (hs : Src .u8 X aw R) :
    cW.wpIn Fence.wide 20 Tryd.prog (postN (fun a' Z => (∃ f', a' = { tmps := eF T2 T4 T5 T7 vall f', defers := [] }) ∧ Kp (fun _ => False) X Z))
      { tmps := eW T2 T4 T5 T7 vall (j : Int) aw R.length cw E f, defers := [] } X := by
  have c5 : X.cell? ⟨T5, 0, none⟩ = some (.int .i64 (k : Int)) := hb.s5.cell 0
  have c2 : X.cell? ⟨T2, 0, none⟩ = some (.slice ao zs.length cap) := hb.s2.cell 0
  have RW := hid (fun X => rwidth_ok k X h7)
  have RJ := hid (fun X => rwidth_ok j X j7)
  have WD := hid (rwiden_ok ao cap k j zs X (by omega) hz h7 j7 hb.src)
  have BS := hid hb
  have HZ := hid hz
  have HR := hid hr
  have SW := hid hs
  have hp := pow_pos7 k
  have hpj := pow_pos7 j
  have hM8 : 8 * zs.length / 2 ^ k ≤ 4800 := Nat.le_trans (Nat.div_le_self _ _) (by omega)
  have HRL : Hid (R.length ≤ 1000000000) := (by
    show _ ≤ _
    rcases hr with ⟨_, rfl, _⟩ | ⟨_, rfl, _⟩
    · rw [wl_len]
      have := Nat.mul_le_mul hM8 (w64 j7)
      unfold rm; omega
    · simp)
  have HRB : Hid (Byt R) := (by
    rcases hr with ⟨_, rfl, _⟩ | ⟨_, rfl, _⟩
    · exact wl_byt _ _ _ _ _
    · intro z hz; simp at hz)
  have RM := hid (fun X => rmany_ok ao zs.length cap k X (by omega) h7)
  have W2 := hid (fun (Y : World) (h : Wd Y) (hs : Src .u8 Y aw R) => widen_in aw cw j k R Y HRL.out HRB.out j7 h7 h hs)
  have AT := hid (fun (i : Nat) (hi : i < 8 * zs.length / 2 ^ k) (Z : World) (h : Src .u8 Z ao zs) => rat_ct ao cap k i zs Z hl hz h7 hi h)
  have GE := hid (fun (ab : Option Addr) (cb i : Nat) (B : List Int) (Z : World) (hB : B.length ≤ 1000000000000) (hz : Byt B) (hw : Wd Z) (hi : i < 8 * B.length / 2 ^ k) (hs : Src .u8 Z ab B) => (by
    have hft := fits_of (pow_pos7 k) hi
    obtain ⟨g, off, rfl, _⟩ := hs (by omega)
    exact get_ok g off cb k i B Z hB hz h7 hw hi hs : Calls Tryd.prog 9 #[.slice ab B.length cb, .int .i64 (k : Int), .int .i64 (i : Int)] Z fun e w' => e = .returned (.tuple #[.int .u64 (ct B (2 ^ k) i), .int .i64 0]) ∧ Kp (fun _ => False) Z w'))
  have BK := hid (fun (B : List Int) (E2 : Int) (h0 : E = 0) (hb : WidR R (2 ^ j) (2 ^ k) (8 * R.length / 2 ^ j) B E2) => wid_back hpj (by subst h0; exact hr) hb)
  have WL := hid (fun (B : List Int) (E2 : Int) (hb : WidR R (2 ^ j) (2 ^ k) (8 * R.length / 2 ^ j) B E2) => (by
    rcases hb with ⟨_, rfl, _⟩ | ⟨_, rfl, _⟩
    · refine ⟨?_, wl_byt _ _ _ _ _⟩
      rw [wl_len]
      have h1 : 8 * R.length / 2 ^ j ≤ 8000000000 := Nat.le_trans (Nat.div_le_self _ _) (by have := HRL.out; omega)
      have := Nat.mul_le_mul h1 (w64 h7)
      unfold rm; omega
    · exact ⟨by simp, fun z hz => by simp at hz⟩ : B.length ≤ 1000000000000 ∧ Byt B))
  have MD := hid (fun (i n : Nat) (h : i * 2 ^ k + 2 ^ k ≤ 8 * n) => (by
    rw [Nat.lt_iff_add_one_le, Nat.le_div_iff_mul_le hp, Nat.add_mul, Nat.one_mul]; exact h : i < 8 * n / 2 ^ k))
  clear hz hb hr hs
  generalize 8 * zs.length / 2 ^ k = M at *
  generalize 2 ^ k = W at *
  generalize 2 ^ j = V at *
  have hW0 : ((W : Int) == 0) = false := beq_eq_false_iff_ne.2 (by omega)
  have hW1 : (W == 0) = false := beq_eq_false_iff_ne.2 (by omega)
  have hV0 : ((V : Int) == 0) = false := beq_eq_false_iff_ne.2 (by omega)
  have hV1 : (V == 0) = false := beq_eq_false_iff_ne.2 (by omega)
  unfold cW eW
  generalize hQ : postN _ = QQ
  gi_wp2_with fail
  refine ⟨trivial, (callsIn_wide.2 (RW.out X)).mono ?_⟩
  rintro r wx ⟨rfl, rfl⟩
  gi_wp2_with fail
  refine ⟨trivial, (callsIn_wide.2 (RJ.out X)).mono ?_⟩
  rintro r wx ⟨rfl, rfl⟩
  gi_wp2_with fail
  refine ⟨trivial, (callsIn_wide.2 WD.out).mono ?_⟩
  rintro r X2 ⟨v, R2, E2, rfl, hr2, ov, k2⟩
  obtain ⟨rfl, rfl⟩ := HR.out.one hr2
  obtain ⟨ae, ce, rfl, hse, _⟩ := own_slice ov
  have SX := hid (SW.out.kp0 k2)
  have cv1 := cv (c := cw) rfl SX.out
  have cv2 := cv (c := ce) rfl hse
  have B2 := hid (BS.out.same k2)
  have K2 := hid k2
  have d5 : X2.cell? ⟨T5, 0, none⟩ = some (.int .i64 (k : Int)) := B2.out.s5.cell 0
  have d2 : X2.cell? ⟨T2, 0, none⟩ = some (.slice ao zs.length cap) := B2.out.s2.cell 0
  clear hr2 ov hse k2 c5 c2 WD
  by_cases hE : E = 0
  · have b0 : (E == 0) = true := by simp [hE]
    have HE := hid hE
    clear hE
    gi_wp2_with fail
    refine ⟨trivial, (callsIn_wide.2 (W2.out X2 B2.out.wd SX.out)).mono ?_⟩
    rintro r X3 ⟨ab, cb, B, E3, rfl, hr3, hs3, _, _, k3⟩
    obtain ⟨rfl, hbk⟩ := BK.out B E3 HE.out hr3
    have hwl := WL.out B 0 hr3
    have B3 := hid (B2.out.same k3)
    have K3 := hid (K2.out.trans k3 (fun _ _ x => x))
    have S3 := hid hs3
    have HBK := hid hbk
    have HWL := hid hwl
    have e5 : X3.cell? ⟨T5, 0, none⟩ = some (.int .i64 (k : Int)) := B3.out.s5.cell 0
    have e2 : X3.cell? ⟨T2, 0, none⟩ = some (.slice ao zs.length cap) := B3.out.s2.cell 0
    clear hr3 hs3 k3 hbk hwl cv1 cv2 d5 d2
    gi_wp2_with fail
    refine ⟨trivial, (callsIn_wide.2 (RM.out X3)).mono ?_⟩
    rintro r wx ⟨rfl, rfl⟩
    gi_wp2_with fail
    clear e5 e2
    gi_loopw [18] (fun u18 wr => ∃ i : Nat, i ≤ M ∧ u18 = .int .i64 (i : Int) ∧ Kp (fun _ => False) X3 wr) (fun u18 _ => M - (intOf u18).toNat)
    case atStart => exact ⟨0, by omega, by go_num, Kp.refl _ _⟩
    case round =>
      obtain ⟨i, hi, rfl, kr⟩ := hrel
      have KR := hid kr
      have B4 := hid (B3.out.same kr)
      have S4 := hid (S3.out.kp0 kr)
      have g5 : wr.cell? ⟨T5, 0, none⟩ = some (.int .i64 (k : Int)) := B4.out.s5.cell 0
      have g2 : wr.cell? ⟨T2, 0, none⟩ = some (.slice ao zs.length cap) := B4.out.s2.cell 0
      clear kr
      by_cases hiM : i < M
      · have dd : (i : Int) < (M : Int) := by omega
        have hv := HBK.out i hiM
        have GX := hid (GE.out ab cb i B wr HWL.out.1 HWL.out.2 B4.out.wd (MD.out i _ hv.1) S4.out)
        rw [hv.2] at GX
        have AX := hid (fun (Z : World) (h : Src .u8 Z ao zs) => AT.out i hiM Z h)
        clear hv
        gi_wp2_with fail
        refine ⟨trivial, (callsIn_wide.2 GX.out).mono ?_⟩
        rintro r X5 ⟨rfl, k5⟩
        have B5 := hid (B4.out.same k5)
        have K5 := hid (KR.out.trans k5 (fun _ _ x => x))
        have m5 : X5.cell? ⟨T5, 0, none⟩ = some (.int .i64 (k : Int)) := B5.out.s5.cell 0
        have m2 : X5.cell? ⟨T2, 0, none⟩ = some (.slice ao zs.length cap) := B5.out.s2.cell 0
        clear k5 g5 g2
        gi_wp2_with fail
        refine ⟨trivial, (callsIn_wide.2 (AX.out X5 B5.out.src)).mono ?_⟩
        rintro r wx ⟨rfl, rfl⟩
        gi_wp2_with fail
        go_roundw
        case rel => exact ⟨i + 1, by omega, by go_num, K5.out⟩
        case measure => simp [intOf]; omega
      · obtain rfl : i = M := by omega
        have dd : ¬ (i : Int) < (i : Int) := by omega
        gi_wp2_with fail
        subst hQ
        exact ⟨act_of (by kernel_rfl) rfl, K3.out.trans KR.out (fun _ _ x => x)⟩
  · have b0 : (E == 0) = false := beq_eq_false_iff_ne.2 hE
    clear hE
    gi_wp2_with fail
    subst hQ
    exact ⟨act_of (by kernel_rfl) rfl, K2.out⟩
end Go.Proofs.YtjhgkcbpllgdiaaDoor
