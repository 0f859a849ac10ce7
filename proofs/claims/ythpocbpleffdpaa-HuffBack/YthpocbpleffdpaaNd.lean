/- The document's Least: the coins' way. -/
import Derived.Test.YthpocbpleffdpaaNc
namespace Go.Proofs.Ythpocbpleffdpaa
open Go.RowKit
set_option linter.unusedVariables false
set_option linter.unusedSimpArgs false
set_option maxRecDepth 100000
/-- The counts of the first j symbols, rising. -/
def bp (zs : List Int) : Nat → List Nat
  | 0 => []
  | j + 1 => if 0 < zs.getD j 0 then Pm.ins (Pm.cnv zs j) (bp zs j) else bp zs j
theorem bp_srt (zs : List Int) : ∀ j, Pm.Srt (bp zs j)
  | 0 => List.Pairwise.nil
  | j + 1 => by 
    simp only [bp]
    split
    · exact Pm.ins_srt (bp_srt zs j)
    · exact bp_srt zs j
theorem bp_perm (zs : List Int) : ∀ j, (bp zs j).Perm (((List.range j).filter (fun i => decide (0 < zs.getD i 0))).map (Pm.cnv zs))
  | 0 => List.Perm.refl _
  | j + 1 => by
    rw [List.range_succ, List.filter_append, List.map_append]
    simp only [bp]
    split
    · rename_i h
      rw [List.filter_cons_of_pos (by simpa using h)]
      refine (Pm.ins_perm _ _).trans (((bp_perm zs j).cons _).trans ?_)
      exact List.perm_append_comm (l₁ := [Pm.cnv zs j])
    · rename_i h
      rw [List.filter_cons_of_neg (by simpa using h)]
      simpa using bp_perm zs j
theorem bp_len (zs : List Int) : ∀ j, (bp zs j).length ≤ j
  | 0 => Nat.le_refl _
  | j + 1 => by
    have := bp_len zs j
    simp only [bp]
    split
    · rw [(Pm.ins_perm _ _).length_eq, List.length_cons]; omega
    · omega
theorem bp_base (zs : List Int) : bp zs zs.length = Pm.base zs := Pm.srt_uniq (bp_srt _ _) (Pm.srt_srt _) ((bp_perm zs zs.length).trans (Pm.srt_perm _).symm)
theorem base_len (zs : List Int) : (Pm.base zs).length = (Pm.pos zs).length := by unfold Pm.base; rw [(Pm.srt_perm _).length_eq, List.length_map]
theorem base_sum {zs : List Int} (hz : Ct zs) : (Pm.base zs).sum ≤ 4294967296 * zs.length := by
  unfold Pm.base
  rw [(Pm.srt_perm _).sum_nat]
  have h2 := Pm.pos_le zs
  have : ∀ l : List Nat, (l.map (Pm.cnv zs)).sum ≤ 4294967296 * l.length := by
    intro l
    induction l with
    | nil => simp
    | cons a l ih =>
      have := hz.at a
      have : Pm.cnv zs a ≤ 4294967296 := by unfold Pm.cnv; omega
      simp only [List.map_cons, List.sum_cons, List.length_cons]
      omega
  have := this (Pm.pos zs)
  omega
theorem row_sum (b : List Nat) : ∀ m, (Pm.row b m).sum ≤ (m + 1) * b.sum
  | 0 => by simp [Pm.row]
  | m + 1 => by
    rw [(Pm.row_perm b m).sum_nat, List.sum_append]
    have h1 := Pm.pr_sum (Pm.row b m)
    have h2 := row_sum b m
    rw [Nat.add_mul (m + 1) 1]
    omega
theorem sum_two : ∀ (l : List Nat) (j : Nat), l.getD j 0 + l.getD (j + 1) 0 ≤ l.sum
  | [], j => by simp
  | a :: l, 0 => by
    cases l with
    | nil => simp
    | cons b l => simp only [List.getD_cons_zero, List.getD_cons_succ, List.sum_cons]; omega
  | a :: l, j + 1 => by
    have := sum_two l j
    simp only [List.getD_cons_succ, List.sum_cons]
    omega
theorem pr_get : ∀ (l : List Nat) (j : Nat), 2 * j + 1 < l.length → (Pm.pr l)[j]? = some (l.getD (2 * j) 0 + l.getD (2 * j + 1) 0)
  | [], j, h => by simp at h
  | [a], j, h => by simp at h
  | a :: b :: l, 0, h => by simp [Pm.pr]
  | a :: b :: l, j + 1, h => by
    have := pr_get l j (by simp at h; omega)
    rw [show 2 * (j + 1) = 2 * j + 2 by omega]
    simpa [Pm.pr] using this
/-- The next row, as far as it is made. -/
def nx (b r : List Nat) (j : Nat) : List Nat := ((Pm.pr r).take j).foldl (fun l x => Pm.ins x l) b
theorem nx_step (b r : List Nat) (j : Nat) (h : 2 * j + 1 < r.length) : nx b r (j + 1) = Pm.ins (r.getD (2 * j) 0 + r.getD (2 * j + 1) 0) (nx b r j) := by
  unfold nx
  rw [List.take_add_one, pr_get r j h, List.foldl_append]
  rfl
theorem nx_all (b : List Nat) (t j : Nat) (h : (Pm.row b t).length ≤ 2 * j + 1) : nx b (Pm.row b t) j = Pm.row b (t + 1) := by
  unfold nx
  rw [List.take_of_length_le (by rw [Pm.pr_len]; omega)]
  rfl
theorem nx_srt {b : List Nat} (hb : Pm.Srt b) (r : List Nat) (j : Nat) : Pm.Srt (nx b r j) := Pm.foldl_ins_srt hb
theorem nx_len (b r : List Nat) (j : Nat) : (nx b r j).length ≤ b.length + r.length := by
  unfold nx
  rw [(Pm.foldl_ins_perm _ _).length_eq, List.length_append, List.length_take, Pm.pr_len]
  omega
theorem row_le (b : List Nat) : ∀ t, (Pm.row b t).length ≤ 2 * b.length
  | 0 => by unfold Pm.row; omega
  | t + 1 => by rw [Pm.row_len]; have := row_le b t; omega
theorem ps_succ (l : List Nat) (k : Nat) (h : k < l.length) : Pm.ps l (k + 1) = Pm.ps l k + l.getD k 0 := by
  unfold Pm.ps
  rw [List.take_add_one, List.sum_append, List.getElem?_eq_getElem h, List.getD_eq_getElem?_getD, List.getElem?_eq_getElem h]
  simp
theorem Rd35.cell {w : World} {ao : Option Addr} {c : Nat} {L : List Nat} (h : Rd35 w ao c L) {i : Nat} (hi : i < L.length) : ∃ b off, ao = some ⟨b, off, none⟩ ∧ ∀ U, Kp (fun _ => False) w U → ∀ j, j < L.length → U.cell? ⟨b, off + j, none⟩ = some (.int .u64 ((L.getD j 0 : Nat) : Int)) := by
  rcases h with ⟨_, rfl, _⟩ | ⟨b, off, rfl, hs, _⟩
  · simp at hi
  · refine ⟨b, off, rfl, fun U k j hj => ?_⟩
    have := (hs.kp k (fun _ _ _ x => x)).at j (by rw [iL_len]; exact hj)
    rw [iL_get] at this
    exact this
set_option maxHeartbeats 16000000 in
theorem least_many (w : World) (ao : Option Addr) (cap most : Nat) (zs : List Int) (hl : zs.length ≤ 320) (hz : Ct zs) (hs : Src .u32 w ao zs) (hm1 : 1 ≤ most) (hm : most ≤ 320) (h2 : 2 ≤ (Pm.pos zs).length) (hr : 2 * (Pm.pos zs).length - 2 ≤ (Pm.row (Pm.base zs) (most - 1)).length) :
    Calls Try.prog 22 #[.int .i64 (most : Int), .slice ao zs.length cap] w fun e w' => e = .returned (.int .u64 (Pm.ps (Pm.row (Pm.base zs) (most - 1)) (2 * (Pm.pos zs).length - 2) : Nat)) ∧ Kp (fun _ => False) w w' := by
  have hmix : Try.prog.follows .mixedOrders = true := by kernel_rfl
  have HS := hid hs
  have HZ := hid hz
  have HR := hid hr
  have HBS := hid (base_sum hz)
  have HPL : Hid ((Pm.pos zs).length ≤ 320) := Nat.le_trans (Pm.pos_le zs) hl
  have HBL := hid (base_len zs)
  clear hs hz hr
  obtain ⟨n, hn⟩ : ∃ n, n = zs.length := ⟨_, rfl⟩
  have HN := hid hn
  rw [← hn] at hl HBS ⊢
  obtain ⟨p, hp⟩ : ∃ p, p = (Pm.pos zs).length := ⟨_, rfl⟩
  rw [← hp] at HPL HBL HR h2 ⊢
  have HBP : Hid (bp zs n = Pm.base zs) := by rw [Hid, hn]; exact bp_base zs
  clear hn hp
  go_enter Try.func22, Try.ntmps22
  go_wp2_with fail
  go_loopw [5, 6] (fun bv iv wr => ∃ (i : Nat) (a : Option Addr) (c : Nat), i ≤ n ∧ iv = .int .i64 (i : Int) ∧ bv = .slice a (bp zs i).length c ∧ Hid (Rd35 wr a c (bp zs i)) ∧ Hid (Kp (fun _ => False) w wr)) (fun _ i _ => n - (intOf i).toNat)
  case atStart => exact ⟨0, none, 0, Nat.zero_le _, rfl, rfl, .inl ⟨rfl, rfl, rfl⟩, Kp.refl _ _⟩
  case round =>
    obtain ⟨i, a, c, hi, rfl, rfl, HRD, HK⟩ := hrel
    by_cases hil : i < n
    · obtain ⟨b, off, rfl, hc⟩ := HS.out (by have := HN.out; omega)
      have c1 := kp_cellh HK.out (hc i (by have := HN.out; omega)) (fun h => h)
      have hy := HZ.out.at i
      obtain ⟨y, hye⟩ : ∃ y : Nat, zs.getD i 0 = (y : Int) := ⟨(zs.getD i 0).toNat, by omega⟩
      rw [hye] at c1 hy
      have HWI := hid (with_any wr a c (bp zs i) y (by have := bp_len zs i; omega) (bp_srt zs i) HRD.out)
      by_cases h0 : 0 < y
      · have HB1 : Hid (bp zs (i + 1) = Pm.ins y (bp zs i)) := by
          rw [Hid, bp, if_pos (by rw [hye]; omega)]
          unfold Pm.cnv
          rw [hye, Int.toNat_natCast]
        clear hc hye
        generalize (bp zs i).length = m at *
        go_wp2_with fail
        refine HWI.out.mono ?_
        rintro e w4 ⟨a4, c4, rfl, r4, k4⟩
        rw [← HB1.out] at r4 ⊢
        have R4 := hid r4
        have K4 := hid (HK.out.trans k4 (fun _ _ h => h))
        clear r4 k4
        go_wp2_with fail
        go_roundw
        case rel => exact ⟨i + 1, a4, c4, by omega, by go_num, rfl, R4.out, K4.out⟩
        case measure => simp [intOf]; omega
      · have HB1 : Hid (bp zs (i + 1) = bp zs i) := by rw [Hid, bp, if_neg (by rw [hye]; omega)]
        clear hc hye
        generalize hmm : (bp zs i).length = m
        have HMM := hid hmm
        clear hmm
        go_wp2_with fail
        go_roundw
        case rel => exact ⟨i + 1, a, c, by omega, by go_num, (by rw [HB1.out, HMM.out]), (by rw [HB1.out]; exact HRD.out), HK.out⟩
        case measure => simp [intOf]; omega
    · obtain rfl : i = n := by omega
      rw [HBP.out] at HRD
      have HBL2 := HBL.out
      rw [← HBP.out] at HBL2
      rw [HBL2]
      clear HBL2 HBP
      have hd1 : decide ((p : Int) < 2) = false := by simp; omega
      have hd2 : ¬ (p : Int) < 2 := by omega
      have hd3 : decide (p < 2) = false := by simp; omega
      have hd4 : ¬ p < 2 := by omega
      have R0 : Hid (Rd35 wr a c (Pm.row (Pm.base zs) 0)) := HRD.out
      have HRB := HRD
      have HBLr : Hid ((Pm.row (Pm.base zs) 0).length = p) := HBL.out
      have HSB : Hid (Pm.Srt (Pm.base zs)) := Pm.srt_srt _
      clear HRD
      obtain ⟨B, hB⟩ : ∃ B, B = Pm.base zs := ⟨_, rfl⟩
      rw [← hB] at HBS HR HBL HRB R0 HBLr HSB
      have HBB := hid hB
      clear hB
      obtain ⟨wo, hwo⟩ : ∃ wo, wo = wr := ⟨_, rfl⟩
      subst hwo
      go_wp2_with fail
      go_loopw [7, 8, 9, 10] (fun rv mv nv iv wy => ∃ (t T m : Nat) (a7 : Option Addr) (c7 : Nat), Hid (T = t + 1) ∧ T ≤ most ∧ mv = .int .i64 (T : Int) ∧ rv = .slice a7 m c7 ∧ Hid (m = (Pm.row B t).length) ∧ Hid (Rd35 wy a7 c7 (Pm.row B t)) ∧ Hid (Kp (fun _ => False) wo wy)) (fun _ mv _ _ _ => most - (intOf mv).toNat)
      case atStart => exact ⟨0, 1, p, a, c, rfl, by omega, rfl, rfl, HBLr.out.symm, R0.out, Kp.refl _ _⟩
      case round =>
        obtain ⟨t, T, m, a7, c7, HT, ht, rfl, rfl, HM, HR7, HK7⟩ := hrel
        by_cases htm : T < most
        · obtain ⟨r, hr⟩ : ∃ r, r = Pm.row B t := ⟨_, rfl⟩
          have hml : m ≤ 640 := by have h1 := HM.out; have h2 := row_le B t; have h3 := HBL.out; have h4 := HPL.out; omega
          have HSUM : Hid (r.sum ≤ 442000000000000) := by
            have h1 := row_sum B t
            have h2 := HBS.out
            have h3 : (t + 1) * B.sum ≤ 320 * (4294967296 * 320) := Nat.mul_le_mul (by have := HT.out; omega) (by omega)
            rw [Hid, hr]
            omega
          rw [← hr] at HM HR7
          have HRR := hid hr
          clear hr
          obtain ⟨wy, hwy⟩ : ∃ wy, wy = wr := ⟨_, rfl⟩
          subst hwy
          have HB9 : Hid (Rd35 wy a c (nx B r 0)) := HRB.out.kp HK7.out
          have HLB : Hid (p = (nx B r 0).length) := HBL.out.symm
          go_wp2_with fail
          have HTM := hid htm
          clear htm
          go_loopw [9, 10] (fun nv iv wx => ∃ (j u q : Nat) (a9 : Option Addr) (c9 : Nat), Hid (u = 2 * j) ∧ u ≤ m + 1 ∧ iv = .int .i64 (u : Int) ∧ nv = .slice a9 q c9 ∧ Hid (q = (nx B r j).length) ∧ Hid (Rd35 wx a9 c9 (nx B r j)) ∧ Hid (Kp (fun _ => False) wy wx)) (fun _ iv _ => m + 2 - (intOf iv).toNat)
          case atStart => exact ⟨0, 0, p, a, c, rfl, by omega, rfl, rfl, HLB.out, HB9.out, Kp.refl _ _⟩
          case round =>
            obtain ⟨j, u, q, a9, c9, HU, hj, rfl, rfl, HQ, HR9, HK9⟩ := hrel
            by_cases hjm : u + 1 < m
            · obtain ⟨wx, hwx⟩ : ∃ wx, wx = wr := ⟨_, rfl⟩
              subst hwx
              obtain ⟨b7, o7, e7, hc7⟩ := (HR7.out.kp HK9.out).cell (i := u) (by have := HM.out; omega)
              obtain ⟨x, hx⟩ : ∃ x, x = r.getD u 0 := ⟨_, rfl⟩
              obtain ⟨y, hy⟩ : ∃ y, y = r.getD (u + 1) 0 := ⟨_, rfl⟩
              have HR0 : Hid (∀ U, Kp (fun _ => False) wx U → U.cell? ⟨b7, o7 + u, none⟩ = some (.int .u64 (x : Int))) := fun U k => by rw [hx]; exact hc7 U k u (by have := HM.out; omega)
              have HR1 : Hid (∀ U, Kp (fun _ => False) wx U → U.cell? ⟨b7, o7 + (u + 1), none⟩ = some (.int .u64 (y : Int))) := fun U k => by rw [hy]; exact hc7 U k (u + 1) (by have := HM.out; omega)
              have hxy : x + y ≤ 442000000000000 := by rw [hx, hy]; exact Nat.le_trans (sum_two r u) HSUM.out
              have HNX : Hid (nx B r (j + 1) = Pm.ins (x + y) (nx B r j)) := by rw [Hid, hx, hy, HU.out]; exact nx_step B r j (by have := HM.out; have := HU.out; omega)
              have HWI : Hid (∀ U, Kp (fun _ => False) wx U → Calls Try.prog 53 #[.slice a9 q c9, .int .u64 ((x + y : Nat) : Int)] U fun e w' => ∃ a' c', e = .returned (.slice a' (nx B r (j + 1)).length c') ∧ Rd35 w' a' c' (nx B r (j + 1)) ∧ Kp (fun _ => False) wx w') := fun U k => by
                have := with_any U a9 c9 (nx B r j) (x + y) (by have h1 := nx_len B r j; have h2 := HBL.out; have h3 := HPL.out; have h4 := HM.out; omega) (nx_srt HSB.out r j) (HR9.out.kp k)
                rw [← HQ.out] at this
                refine this.mono ?_
                rintro e w' ⟨a', c', h1, h2, h3⟩
                rw [← HNX.out] at h1 h2
                exact ⟨a', c', h1, h2, k.trans h3 (fun _ _ h => h)⟩
              subst e7
              clear hx hy hc7
              have hjm2 : (u : Int) + 1 < (m : Int) := by omega
              have hjm3 : u < m := by omega
              obtain ⟨u1, hu1⟩ : ∃ u1, u1 = u + 1 := ⟨_, rfl⟩
              obtain ⟨z, hz⟩ : ∃ z, z = x + y := ⟨_, rfl⟩
              have hjm4 : u1 < m := by omega
              have hwr : IntKind.i64.wrap ((u : Int) + 1) = (u1 : Int) := by rw [IntKind.wrap_i64]; omega
              have hwz : IntKind.u64.wrap ((x : Int) + (y : Int)) = (z : Int) := by rw [IntKind.wrap_u64]; omega
              rw [← hu1] at HR1
              rw [← hz] at HWI
              clear hu1 hz
              go_wp2_with fail
              refine wp_region_held_drew (S := fun U => Kp (fun _ => False) wx U) (by kernel_rfl) (drewN_kp _ _ 1) (fun h0 => ?_)
              refine wpAnyH_take (i := 0) (oi := { dst := some 54, op := Go.Op.move (Go.Operand.tmp 9), type := 27, pos := "ref.go:131", after := #[], guard := none }) (v := ?vx0) rfl (by kernel_rfl) (by kernel_rfl) (by kernel_rfl) (fun _ _ _ h => h) (Or.inl ⟨by rfl, ?hyx0⟩) (drewN_kp _ _ 1) ?restx0
              case hyx0 => (intro w hSw; (try dsimp only at hSw); go_simp; try with_reducible rfl)
              try simp only [Act.put, List.setIfInBounds_toArray, List.set_cons_zero, List.set_cons_succ]
              refine wpAnyH_take (i := 1) (oi := { dst := some 55, op := Go.Op.move (Go.Operand.tmp 7), type := 27, pos := "ref.go:131", after := #[], guard := none }) (v := ?vx1) rfl (by kernel_rfl) (by kernel_rfl) (by kernel_rfl) (fun _ _ _ h => h) (Or.inl ⟨by rfl, ?hyx1⟩) (drewN_kp _ _ 1) ?restx1
              case hyx1 => (intro w hSw; (try dsimp only at hSw); go_simp; try with_reducible rfl)
              try simp only [Act.put, List.setIfInBounds_toArray, List.set_cons_zero, List.set_cons_succ]
              refine wpAnyH_take (i := 2) (oi := { dst := some 56, op := Go.Op.move (Go.Operand.tmp 10), type := 3, pos := "ref.go:131", after := #[], guard := none }) (v := ?vx2) rfl (by kernel_rfl) (by kernel_rfl) (by kernel_rfl) (fun _ _ _ h => h) (Or.inl ⟨by rfl, ?hyx2⟩) (drewN_kp _ _ 1) ?restx2
              case hyx2 => (intro w hSw; (try dsimp only at hSw); go_simp; try with_reducible rfl)
              try simp only [Act.put, List.setIfInBounds_toArray, List.set_cons_zero, List.set_cons_succ]
              refine wpAnyH_take (i := 3) (oi := { dst := some 57, op := Go.Op.indexAddr 27 (Go.Operand.tmp 55) (Go.Operand.tmp 56), type := 0, pos := "ref.go:131", after := #[{ on := 1, ground := Go.Ground.data }, { on := 2, ground := Go.Ground.data }], guard := none }) (v := ?vx3) rfl (by kernel_rfl) (by kernel_rfl) (by kernel_rfl) (fun _ _ _ h => h) (Or.inl ⟨by rfl, ?hyx3⟩) (drewN_kp _ _ 1) ?restx3
              case hyx3 => (intro w hSw; (try dsimp only at hSw); go_simp; try with_reducible rfl)
              try simp only [Act.put, List.setIfInBounds_toArray, List.set_cons_zero, List.set_cons_succ]
              refine wpAnyH_take (i := 4) (oi := { dst := some 58, op := Go.Op.load 35 (Go.Operand.tmp 57), type := 35, pos := "ref.go:131", after := #[{ on := 3, ground := Go.Ground.data }], guard := none }) (v := ?vx4) rfl (by kernel_rfl) (by kernel_rfl) (by kernel_rfl) (fun _ _ _ h => h) (Or.inl ⟨by rfl, ?hyx4⟩) (drewN_kp _ _ 1) ?restx4
              case hyx4 => (intro w hSw; have hr0 := HR0.out w hSw; (try dsimp only at hSw); go_simp; try with_reducible rfl)
              try simp only [Act.put, List.setIfInBounds_toArray, List.set_cons_zero, List.set_cons_succ]
              refine wpAnyH_take (i := 5) (oi := { dst := some 59, op := Go.Op.move (Go.Operand.tmp 7), type := 27, pos := "ref.go:131", after := #[], guard := none }) (v := ?vx5) rfl (by kernel_rfl) (by kernel_rfl) (by kernel_rfl) (fun _ _ _ h => h) (Or.inl ⟨by rfl, ?hyx5⟩) (drewN_kp _ _ 1) ?restx5
              case hyx5 => (intro w hSw; (try dsimp only at hSw); go_simp; try with_reducible rfl)
              try simp only [Act.put, List.setIfInBounds_toArray, List.set_cons_zero, List.set_cons_succ]
              refine wpAnyH_take (i := 6) (oi := { dst := some 60, op := Go.Op.move (Go.Operand.tmp 10), type := 3, pos := "ref.go:131", after := #[], guard := none }) (v := ?vx6) rfl (by kernel_rfl) (by kernel_rfl) (by kernel_rfl) (fun _ _ _ h => h) (Or.inl ⟨by rfl, ?hyx6⟩) (drewN_kp _ _ 1) ?restx6
              case hyx6 => (intro w hSw; (try dsimp only at hSw); go_simp; try with_reducible rfl)
              try simp only [Act.put, List.setIfInBounds_toArray, List.set_cons_zero, List.set_cons_succ]
              refine wpAnyH_take (i := 7) (oi := { dst := some 61, op := Go.Op.binOp Go.BinOp.add 3 (Go.Operand.tmp 60) (Go.Operand.const (Go.Value.int Go.IntKind.i64 1)) 3, type := 3, pos := "ref.go:131", after := #[{ on := 6, ground := Go.Ground.data }], guard := none }) (v := ?vx7) rfl (by kernel_rfl) (by kernel_rfl) (by kernel_rfl) (fun _ _ _ h => h) (Or.inl ⟨by rfl, ?hyx7⟩) (drewN_kp _ _ 1) ?restx7
              case hyx7 => (intro w hSw; (try dsimp only at hSw); go_simp; try with_reducible rfl)
              try simp only [Act.put, List.setIfInBounds_toArray, List.set_cons_zero, List.set_cons_succ]
              refine wpAnyH_take (i := 8) (oi := { dst := some 62, op := Go.Op.indexAddr 27 (Go.Operand.tmp 59) (Go.Operand.tmp 61), type := 0, pos := "ref.go:131", after := #[{ on := 5, ground := Go.Ground.data }, { on := 7, ground := Go.Ground.data }], guard := none }) (v := ?vx8) rfl (by kernel_rfl) (by kernel_rfl) (by kernel_rfl) (fun _ _ _ h => h) (Or.inl ⟨by rfl, ?hyx8⟩) (drewN_kp _ _ 1) ?restx8
              case hyx8 => (intro w hSw; (try dsimp only at hSw); go_simp; try with_reducible rfl)
              try simp only [Act.put, List.setIfInBounds_toArray, List.set_cons_zero, List.set_cons_succ]
              refine wpAnyH_take (i := 9) (oi := { dst := some 63, op := Go.Op.load 35 (Go.Operand.tmp 62), type := 35, pos := "ref.go:131", after := #[{ on := 8, ground := Go.Ground.data }], guard := none }) (v := ?vx9) rfl (by kernel_rfl) (by kernel_rfl) (by kernel_rfl) (fun _ _ _ h => h) (Or.inl ⟨by rfl, ?hyx9⟩) (drewN_kp _ _ 1) ?restx9
              case hyx9 => (intro w hSw; have hr0 := HR1.out w hSw; (try dsimp only at hSw); go_simp; try with_reducible rfl)
              try simp only [Act.put, List.setIfInBounds_toArray, List.set_cons_zero, List.set_cons_succ]
              refine wpAnyH_take (i := 10) (oi := { dst := some 64, op := Go.Op.binOp Go.BinOp.add 35 (Go.Operand.tmp 58) (Go.Operand.tmp 63) 35, type := 35, pos := "ref.go:131", after := #[{ on := 4, ground := Go.Ground.data }, { on := 9, ground := Go.Ground.data }], guard := none }) (v := ?vx10) rfl (by kernel_rfl) (by kernel_rfl) (by kernel_rfl) (fun _ _ _ h => h) (Or.inl ⟨by rfl, ?hyx10⟩) (drewN_kp _ _ 1) ?restx10
              case hyx10 => (intro w hSw; (try dsimp only at hSw); go_simp; try with_reducible rfl)
              try simp only [Act.put, List.setIfInBounds_toArray, List.set_cons_zero, List.set_cons_succ]
              refine wpAnyH_ready (rs := [11]) (by kernel_rfl) (by simp) ?_
              refine AllReadyH.cons (o := { dst := some 65, op := Go.Op.call { callee := Go.Callee.value (Go.Operand.func 53), args := #[Go.Operand.tmp 54, Go.Operand.tmp 64], argTypes := #[27, 35] }, type := 27, pos := "ref.go:131", after := #[{ on := 0, ground := Go.Ground.data }, { on := 10, ground := Go.Ground.data }], guard := none }) rfl (fun K hK => ?_) AllReadyH.nil
              go_simp
              refine (HWI.out wx.drew (drewN_kp _ _ 1)).mono ?_
              rintro e w4 ⟨a4, c4, rfl, r4, k4⟩
              have R4 := hid r4
              have K4 := hid k4
              clear r4 k4
              go_wp2_with fail
              refine hK.out _ _ K4.out (fun h0 => ?_)
              clear hK K
              try simp only [Act.put, List.setIfInBounds_toArray, List.set_cons_zero, List.set_cons_succ]
              refine wpAnyH_take (i := 12) (oi := { dst := some 9, op := Go.Op.assign (Go.Operand.tmp 65), type := 27, pos := "ref.go:131", after := #[{ on := 11, ground := Go.Ground.data }, { on := 11, ground := Go.Ground.chain }, { on := 0, ground := Go.Ground.phase }, { on := 1, ground := Go.Ground.phase }, { on := 2, ground := Go.Ground.phase }, { on := 3, ground := Go.Ground.phase }, { on := 4, ground := Go.Ground.phase }, { on := 5, ground := Go.Ground.phase }, { on := 6, ground := Go.Ground.phase }, { on := 7, ground := Go.Ground.phase }, { on := 8, ground := Go.Ground.phase }, { on := 9, ground := Go.Ground.phase }, { on := 10, ground := Go.Ground.phase }, { on := 11, ground := Go.Ground.phase }], guard := none }) (v := ?vx12) rfl (by kernel_rfl) (by kernel_rfl) (by kernel_rfl) (fun _ _ _ h => h) (Or.inl ⟨by rfl, ?hyx12⟩) K4.out ?restx12
              case hyx12 => (intro w hSw; (try dsimp only at hSw); go_simp; try with_reducible rfl)
              try simp only [Act.put, List.setIfInBounds_toArray, List.set_cons_zero, List.set_cons_succ]
              refine wpAnyH_done (by kernel_rfl) ?_ _
              clear hwr hwz hjm4
              go_wp2_with fail
              go_roundw
              case rel => exact ⟨j + 1, u + 2, _, a4, c4, by have := HU.out; show _ = _; omega, by omega, by go_num, rfl, rfl, R4.out, HK9.out.trans K4.out (fun _ _ h => h)⟩
              case measure => simp [intOf]; omega
            · have HNA : Hid (nx B r j = Pm.row B (t + 1)) := by
                have h1 := HRR.out
                have h2 := HM.out
                rw [Hid, h1]
                exact nx_all B t j (by rw [← h1]; have := HU.out; omega)
              rw [HNA.out] at HQ HR9
              clear HNA
              go_wp2_with fail
              go_roundw
              case rel => exact ⟨t + 1, T + 1, q, a9, c9, by have := HT.out; show _ = _; omega, by have := HTM.out; omega, by go_num, rfl, HQ.out, HR9.out, HK7.out.trans HK9.out (fun _ _ h => h)⟩
              case measure => have := HTM.out; simp [intOf]; omega
        · obtain rfl : most = T := by omega
          have HMT : Hid (most - 1 = t) := by have := HT.out; show _ = _; omega
          rw [HMT.out] at HR
          have HSUM : Hid ((Pm.row B t).sum ≤ 442000000000000) := by
            have h1 := row_sum B t
            have h2 := HBS.out
            have h3 : (t + 1) * B.sum ≤ 320 * (4294967296 * 320) := Nat.mul_le_mul (by have := HT.out; omega) (by omega)
            rw [Hid]
            omega
          obtain ⟨K, hK⟩ : ∃ K, K = 2 * p - 2 := ⟨_, rfl⟩
          rw [← hK] at HR
          have HKK := hid hK
          have hK1 : (2 : Int) * (p : Int) - 2 = (K : Int) := by omega
          have hK0 : K ≤ 640 := by have := HPL.out; omega
          have hp320 : p ≤ 320 := HPL.out
          clear hK HT
          obtain ⟨wy, hwy⟩ : ∃ wy, wy = wr := ⟨_, rfl⟩
          subst hwy
          obtain ⟨r, hr⟩ : ∃ r, r = Pm.row B t := ⟨_, rfl⟩
          rw [← hr] at HM HR7 HSUM HR
          have HRR := hid hr
          clear hr
          go_wp2_with fail
          go_loopw [11, 12] (fun sv iv wx => ∃ i s : Nat, i ≤ K ∧ s ≤ 442000000000000 ∧ iv = .int .i64 (i : Int) ∧ sv = .int .u64 (s : Int) ∧ wy = wx ∧ Hid (s = Pm.ps r i)) (fun _ iv _ => K - (intOf iv).toNat)
          case atStart => exact ⟨0, 0, Nat.zero_le _, Nat.zero_le _, rfl, rfl, rfl, (Pm.ps_zero r).symm⟩
          case round =>
            obtain ⟨i2, s, hi2, hs2, rfl, rfl, rfl, HPS⟩ := hrel
            by_cases hik : i2 < K
            · have him : i2 < m := by have h1 := HM.out; have h2 := HR.out; omega
              obtain ⟨b7, o7, e7, hc7⟩ := HR7.out.cell (i := i2) (by have := HM.out; omega)
              have c7' := hc7 _ (Kp.refl _ _) i2 (by have := HM.out; omega)
              have HP2 : Hid (Pm.ps r (i2 + 1) = Pm.ps r i2 + r.getD i2 0) := ps_succ r i2 (by have := HM.out; omega)
              have hle : Pm.ps r (i2 + 1) ≤ 442000000000000 := Nat.le_trans (Pm.ps_le_sum _ _) HSUM.out
              generalize r.getD i2 0 = x at *
              have HP3 : Hid (s + x = Pm.ps r (i2 + 1)) := by rw [Hid, HP2.out, HPS.out]
              have hle2 : s + x ≤ 442000000000000 := by have := HP3.out; omega
              subst e7
              clear hc7 hle
              go_wp2_with fail
              go_roundw
              case rel => exact ⟨i2 + 1, s + x, by omega, hle2, by go_num, by go_num, by first | rfl | trivial, HP3.out⟩
              case measure => simp [intOf]; omega
            · obtain rfl : i2 = K := by omega
              go_wp2_with fail
              go_ret
              refine ⟨?_, HK.out.trans HK7.out (fun _ _ h => h)⟩
              have e1 := HPS.out
              rw [HRR.out, HBB.out, ← HMT.out, HKK.out] at e1
              rw [← e1]
              rfl
set_option maxHeartbeats 16000000 in
theorem least_few (w : World) (ao : Option Addr) (cap most : Nat) (zs : List Int) (hl : zs.length ≤ 320) (hz : Ct zs) (hs : Src .u32 w ao zs) (h2 : (Pm.pos zs).length < 2) :
    Calls Try.prog 22 #[.int .i64 (most : Int), .slice ao zs.length cap] w fun e w' => e = .returned (.int .u64 ((Pm.base zs).getD 0 0 : Nat)) ∧ Kp (fun _ => False) w w' := by
  have hmix : Try.prog.follows .mixedOrders = true := by kernel_rfl
  have HS := hid hs
  have HZ := hid hz
  have HBS := hid (base_sum hz)
  have HPL : Hid ((Pm.pos zs).length ≤ 320) := Nat.le_trans (Pm.pos_le zs) hl
  have HBL := hid (base_len zs)
  clear hs hz
  obtain ⟨n, hn⟩ : ∃ n, n = zs.length := ⟨_, rfl⟩
  have HN := hid hn
  rw [← hn] at hl HBS ⊢
  obtain ⟨p, hp⟩ : ∃ p, p = (Pm.pos zs).length := ⟨_, rfl⟩
  rw [← hp] at HPL HBL h2
  have HBP : Hid (bp zs n = Pm.base zs) := by rw [Hid, hn]; exact bp_base zs
  clear hn hp
  go_enter Try.func22, Try.ntmps22
  go_wp2_with fail
  go_loopw [5, 6] (fun bv iv wr => ∃ (i : Nat) (a : Option Addr) (c : Nat), i ≤ n ∧ iv = .int .i64 (i : Int) ∧ bv = .slice a (bp zs i).length c ∧ Hid (Rd35 wr a c (bp zs i)) ∧ Hid (Kp (fun _ => False) w wr)) (fun _ i _ => n - (intOf i).toNat)
  case atStart => exact ⟨0, none, 0, Nat.zero_le _, rfl, rfl, .inl ⟨rfl, rfl, rfl⟩, Kp.refl _ _⟩
  case round =>
    obtain ⟨i, a, c, hi, rfl, rfl, HRD, HK⟩ := hrel
    by_cases hil : i < n
    · obtain ⟨b, off, rfl, hc⟩ := HS.out (by have := HN.out; omega)
      have c1 := kp_cellh HK.out (hc i (by have := HN.out; omega)) (fun h => h)
      have hy := HZ.out.at i
      obtain ⟨y, hye⟩ : ∃ y : Nat, zs.getD i 0 = (y : Int) := ⟨(zs.getD i 0).toNat, by omega⟩
      rw [hye] at c1 hy
      have HWI := hid (with_any wr a c (bp zs i) y (by have := bp_len zs i; omega) (bp_srt zs i) HRD.out)
      by_cases h0 : 0 < y
      · have HB1 : Hid (bp zs (i + 1) = Pm.ins y (bp zs i)) := by
          rw [Hid, bp, if_pos (by rw [hye]; omega)]
          unfold Pm.cnv
          rw [hye, Int.toNat_natCast]
        clear hc hye
        generalize (bp zs i).length = m at *
        go_wp2_with fail
        refine HWI.out.mono ?_
        rintro e w4 ⟨a4, c4, rfl, r4, k4⟩
        rw [← HB1.out] at r4 ⊢
        have R4 := hid r4
        have K4 := hid (HK.out.trans k4 (fun _ _ h => h))
        clear r4 k4
        go_wp2_with fail
        go_roundw
        case rel => exact ⟨i + 1, a4, c4, by omega, by go_num, rfl, R4.out, K4.out⟩
        case measure => simp [intOf]; omega
      · have HB1 : Hid (bp zs (i + 1) = bp zs i) := by rw [Hid, bp, if_neg (by rw [hye]; omega)]
        clear hc hye
        generalize hmm : (bp zs i).length = m
        have HMM := hid hmm
        clear hmm
        go_wp2_with fail
        go_roundw
        case rel => exact ⟨i + 1, a, c, by omega, by go_num, (by rw [HB1.out, HMM.out]), (by rw [HB1.out]; exact HRD.out), HK.out⟩
        case measure => simp [intOf]; omega
    · obtain rfl : i = n := by omega
      rw [HBP.out] at HRD
      have HBL2 := HBL.out
      rw [← HBP.out] at HBL2
      rw [HBL2]
      clear HBL2
      rcases (show p = 0 ∨ p = 1 by omega) with rfl | rfl
      · have e : Pm.base zs = [] := List.length_eq_zero_iff.1 HBL.out
        go_wp2_with fail
        go_ret
        exact ⟨by rw [e]; rfl, HK.out⟩
      · obtain ⟨b7, o7, e7, hc7⟩ := HRD.out.cell (i := 0) (by have := HBL.out; omega)
        have c7' := hc7 _ (Kp.refl _ _) 0 (by have := HBL.out; omega)
        have HX : Hid ((Pm.base zs).getD 0 0 = (Pm.base zs).getD 0 0) := rfl
        generalize hx : (Pm.base zs).getD 0 0 = x at c7'
        have HXX := hid hx
        subst e7
        clear hc7 hx
        simp only [Nat.add_zero] at c7'
        go_wp2_with fail
        go_ret
        refine ⟨?_, HK.out⟩
        have e := HXX.out
        rw [List.getD_eq_getElem?_getD] at e
        rw [e]
        rfl
end Go.Proofs.Ythpocbpleffdpaa
