/- LzParses: which tokens bytes have. -/
import Derived.Test.YtofmoggejfopiaaGos
import Derived.Test.YtofmoggejfopiaaRps
import Derived.Test.YtofmoggejfopiaaTk2
namespace Go.Proofs.Ytofmoggejfopiaa
open Go.RowKit
/-- The longest match at any place. -/
def LT (zs : List Int) (p : Int) : Nat × Nat := if 0 ≤ p ∧ p < zs.length then lng (bf zs) zs.length p.toNat else (0, 0)
theorem longest_all (zs : List Int) (ao : Option Addr) (N cap : Nat) (p : Int) (w : World) (hNe : N = zs.length) (hB : Byt zs) (hN : N ≤ 1048576) (hc : N ≤ cap) (hc2 : cap ≤ maxLen) (hS : Src .u8 w ao zs) (t1 t2 : Nat) (ht : LT zs p = (t1, t2)) (ok : Bool) (hok : decide (0 < t1) = ok) :
    Calls Try.prog 10 #[.slice ao N cap, .int .i64 p] w fun e w' => e = .returned (.tuple #[.agg #[.int .u8 0, .int .i64 (t1 : Int), .int .i64 (t2 : Int)], .bool ok]) ∧ Below w.heap.size w w' := by
  subst hNe hok
  unfold LT at ht
  by_cases h : 0 ≤ p ∧ p < zs.length
  · rw [if_pos h] at ht
    obtain ⟨q, rfl⟩ := Int.eq_ofNat_of_zero_le h.1
    have := longest_ok zs ao cap q w hB hN hc hc2 hS (by omega)
    simp only [Int.toNat_natCast] at ht
    rw [ht] at this
    exact this
  · rw [if_neg h] at ht
    cases ht
    exact longest_none ao zs.length cap p w hN (by omega)
theorem rlongest_all (zs : List Int) (ao : Option Addr) (N cap : Nat) (p : Int) (w : World) (hNe : N = zs.length) (hN : N ≤ 1048576) (hS : Src .u8 w ao zs) (t1 t2 : Nat) (ht : LT zs p = (t1, t2)) (ok : Bool) (hok : decide (0 < t1) = ok) :
    Calls Try.prog 11 #[.slice ao N cap, .int .i64 p] w fun e w' => e = .returned (.tuple #[.agg #[.int .u8 0, .int .i64 (t1 : Int), .int .i64 (t2 : Int)], .bool ok]) ∧ Below w.heap.size w w' := by
  subst hNe hok
  unfold LT at ht
  by_cases h : 0 ≤ p ∧ p < zs.length
  · rw [if_pos h] at ht
    obtain ⟨q, rfl⟩ := Int.eq_ofNat_of_zero_le h.1
    have := rlongest_ok zs ao zs.length cap q w rfl hN hS (by omega)
    simp only [Int.toNat_natCast] at ht
    rw [ht] at this
    exact this
  · rw [if_neg h] at ht
    cases ht
    exact rlongest_none ao zs.length cap p w (by omega)
/-- A list of tokens that was made anew. -/
def NewT (w w' : World) (ao : Option Addr) (ts : List Tok) : Prop := TSrc w' ao ts ∧ ∀ b off, ao = some ⟨b, off, none⟩ → w.heap.size ≤ b
theorem parse_r (zs : List Int) (N : Nat) (hNe : N = zs.length) (ao : Option Addr) (cap : Nat) (a : Bool) (w : World) (hB : Byt zs) (hN : N ≤ 1048576) (hc : N ≤ cap) (hc2 : cap ≤ maxLen) (hS : Src .u8 w ao zs) (K : Nat) (hK : Many (bf zs) zs.length a K) :
    Calls Try.prog 12 #[.slice ao N cap, .bool a] w fun e w' => ∃ aoT capT, e = .returned (.tuple #[.slice aoT K capT, .int .i64 0]) ∧ NewT w w' aoT (tks (bf zs) zs.length a K) ∧ Below w.heap.size w w' := by
  subst hNe
  refine (parse_any zs ao cap a w hB hN hc hc2 hS).mono ?_
  rintro e w' ⟨v, K', rfl, hK', hrow, b1⟩
  obtain rfl := hK'.uniq hK
  obtain ⟨aoT, capT, rfl, _, _, h3, h4⟩ := tsrc_of_owns hrow (tks_len _ _ _ _)
  exact ⟨aoT, capT, rfl, ⟨h3, fun b off e => (h4 b off e).2.1⟩, b1⟩
theorem rparse_r (zs : List Int) (ao : Option Addr) (N cap : Nat) (a : Bool) (w : World) (hNe : N = zs.length) (hN : N ≤ 3000) (hS : Src .u8 w ao zs) (K : Nat) (hK : Many (bf zs) zs.length a K) :
    Calls Try.prog 15 #[.slice ao N cap, .bool a] w fun e w' => ∃ aoT capT, e = .returned (.slice aoT K capT) ∧ NewT w w' aoT (tks (bf zs) zs.length a K) ∧ Below w.heap.size w w' := by
  refine (rparse_any zs ao N cap a w hNe hN hS).mono ?_
  rintro e w' ⟨v, K', rfl, hK', hrow, b1⟩
  obtain rfl := hK'.uniq hK
  obtain ⟨aoT, capT, rfl, _, _, h3, h4⟩ := tsrc_of_owns hrow (tks_len _ _ _ _)
  exact ⟨aoT, capT, rfl, ⟨h3, fun b off e => (h4 b off e).2.1⟩, b1⟩
theorem src_front {w : World} {g : Nat} {zs r : List Int} (h : Rw .u8 5 w g (zs ++ r)) : Src .u8 w (some ⟨g, 0, none⟩) zs := Src.mk fun i hi => by
  rw [h.cells i (by simp; omega)]
  simp [List.getD, List.getElem?_append_left hi]
/-- The bytes, one more and what lies behind. -/
def MR (w : World) (g capM : Nat) (zs : List Int) : Prop := ∃ tl, Rw .u8 5 w g (zs ++ ([165] ++ tl)) ∧ (zs ++ ([165] ++ tl)).length = capM
theorem MR.below {w w' : World} {g capM : Nat} {zs : List Int} (h : MR w g capM zs) (hb : Below w.heap.size w w') : MR w' g capM zs := by
  obtain ⟨tl, h1, h2⟩ := h
  exact ⟨tl, h1.below hb h1.lt, h2⟩
theorem MR.src {w : World} {g capM : Nat} {zs : List Int} (h : MR w g capM zs) : Src .u8 w (some ⟨g, 0, none⟩) zs := by
  obtain ⟨tl, h1, _⟩ := h
  exact src_front h1
theorem MR.end {w : World} {g capM : Nat} {zs : List Int} (h : MR w g capM zs) : w.cell? ⟨g, zs.length, none⟩ = some (.int .u8 165) := by
  obtain ⟨tl, h1, _⟩ := h
  rw [h1.cell zs.length (by simp)]
  simp [List.getD]
theorem bytes_appended {w w2 : World} {N : Nat} {v : Value} {zs : List Int} (hN : N = zs.length) (h : OwnI .u8 5 w2 w.heap.size v (([] ++ zs) ++ [165])) :
    ∃ g capM, v = .slice (some ⟨g, 0, none⟩) (N + 1) capM ∧ N + 1 ≤ capM ∧ capM ≤ maxLen ∧ w.heap.size ≤ g ∧ Hid (MR w2 g capM zs) := by
  rcases h with ⟨_, h⟩ | ⟨g, cap, tl, rfl, hb, hr, h3, h4⟩
  · simp at h
  · refine ⟨g, cap, ?_, ?_, h4, hb, ⟨tl, ?_, ?_⟩⟩
    · rw [hN]; simp
    · rw [← h3, hN]; simp
    · simpa using hr
    · rw [← h3]; simp
set_option maxRecDepth 100000 in
set_option maxHeartbeats 8000000 in
theorem parses_walk (zs : List Int) (ao : Option Addr) (N cap : Nat) (p leave : Int) (w : World) (hNe : N = zs.length) (hN : N ≤ 3000) (hB : Byt zs) (hnone : ao = none → N = 0 ∧ cap = 0) (hS : Src .u8 w ao zs) :
    Calls Try.prog 3 #[.slice ao N cap, .int .i64 p, .int .i64 leave] w fun e w' => e = .returned (.bool true) ∧ Below w.heap.size w w' := by
  have HNE : Hid (N = zs.length) := hNe
  have HS : Hid (Src .u8 w ao zs) := hS
  have HB : Hid (Byt zs) := hB
  have hgt : ¬ (3000 : Int) < (N : Int) := by omega
  have HNO : Hid (ao = none → N = 0 ∧ cap = 0) := hnone
  have HB0 : Hid (Below w.heap.size w (w.alloc (.cells #[] 5))) := (Below.refl _ _).alloc (Nat.le_refl _) _
  have HO : Hid (OwnI .u8 5 (w.alloc (.cells #[] 5)) w.heap.size (.slice (some ⟨w.heap.size, 0, none⟩) 0 0) []) := .inr ⟨w.heap.size, 0, [], rfl, Nat.le_refl _, St.new 5 w #[], rfl, by unfold maxLen; omega⟩
  obtain ⟨⟨t1, t2⟩, ht⟩ : ∃ t, LT zs p = t := ⟨_, rfl⟩
  have HT : Hid (LT zs p = (t1, t2)) := ht
  obtain ⟨ok, hok⟩ : ∃ b, decide (0 < t1) = b := ⟨_, rfl⟩
  have HOK : Hid (decide (0 < t1) = ok) := hok
  obtain ⟨K, _, hK⟩ := many_ex (bf zs) zs.length false
  have HK : Hid (Many (bf zs) zs.length false K) := hK
  obtain ⟨L, _, hL⟩ := many_ex (bf zs) zs.length true
  have HL : Hid (Many (bf zs) zs.length true L) := hL
  have hK2 : K ≤ N := by have := ps_ge (bf zs) zs.length false K; unfold Many at hK; omega
  have hL2 : L ≤ N := by have := ps_ge (bf zs) zs.length true L; unfold Many at hL; omega
  clear hNe hS hB hnone ht hok hK hL
  go_enter Try.func3, Try.ntmps3
  go_wp2_with (first | (at_builtin; refine wpList_append_i (κ := .u8) 22 5 1 Try.underlying22 Try.info5 (by decide) rfl (.tmp 24) (.tmp 25) rfl w.heap.size (.slice (some ⟨w.heap.size, 0, none⟩) 0 0) [] rfl HO.out ao N cap zs rfl HNE.out.symm (fun e => (HNO.out e).2) (HS.out.below HB0.out) (by have := HNE.out; simp; omega) (by simp) ?_; intro v1 w1 o1 g1 n1 b1; have O1 : Hid (OwnI .u8 5 w1 w.heap.size v1 ([] ++ zs)) := o1; have B1 : Hid (Below w.heap.size w w1) := HB0.out.trans b1; clear o1 g1 n1 b1) | (at_builtin; refine wpList_append_i (κ := .u8) 22 5 1 Try.underlying22 Try.info5 (by decide) rfl (.tmp 26) (.tmp 27) rfl w.heap.size v1 ([] ++ zs) rfl (O1.out.below ((Below.refl _ _).alloc (Nat.le_refl _) _)) (some ⟨w1.heap.size, 0, none⟩) 1 1 [165] rfl rfl (fun e => by cases e) (one_src w1 165) (by have := HNE.out; simp; omega) (by have := B1.out.size; simp; omega) ?_; intro v2 w2 o2 g2 n2 b2; obtain ⟨g, capM, rfl, hcm, hcm2, hgw, O2⟩ := bytes_appended HNE.out o2; have B2 : Hid (Below w.heap.size w w2) := (B1.out.alloc B1.out.size _).trans b2; have hcm3 : N ≤ capM := (by omega); have HGW : Hid (w.heap.size ≤ g) := hgw; clear o2 g2 n2 b2 hgw))
  refine (longest_all zs (some ⟨g, 0, none⟩) N capM p w2 HNE.out HB.out (by omega) hcm3 hcm2 O2.out.src t1 t2 HT.out ok HOK.out).mono ?_
  rintro e w3 ⟨rfl, b3⟩
  have B3' : Below w.heap.size w w3 := B2.out.trans (b3.mono B2.out.size)
  have B3 : Hid (Below w.heap.size w (w3.alloc (.cells #[.int .u8 0, .int .i64 (t1 : Int), .int .i64 (t2 : Int)] 25))) := B3'.alloc B3'.size _
  have M3 : Hid (MR (w3.alloc (.cells #[.int .u8 0, .int .i64 (t1 : Int), .int .i64 (t2 : Int)] 25)) g capM zs) := (O2.out.below b3).below ((Below.refl _ _).alloc (Nat.le_refl _) _)
  have T3 : Hid (St 25 (w3.alloc (.cells #[.int .u8 0, .int .i64 (t1 : Int), .int .i64 (t2 : Int)] 25)) w3.heap.size #[.int .u8 0, .int .i64 (t1 : Int), .int .i64 (t2 : Int)]) := St.new 25 w3 _
  clear b3 B3' O1 B1 O2 B2 HO HB0
  go_wp2_with fail
  generalize w3.alloc (.cells #[.int .u8 0, .int .i64 (t1 : Int), .int .i64 (t2 : Int)] 25) = W3 at B3 M3 T3 ⊢
  generalize w3.heap.size = gt at T3 ⊢
  refine (rlongest_all zs ao N cap p W3 HNE.out (by omega) (HS.out.below B3.out) t1 t2 HT.out ok HOK.out).mono ?_
  rintro e w4 ⟨rfl, b4⟩
  have B4' : Below w.heap.size w w4 := B3.out.trans (b4.mono B3.out.size)
  have ba : Below w4.heap.size w4 (w4.alloc (.cells #[.int .u8 0, .int .i64 (t1 : Int), .int .i64 (t2 : Int)] 25)) := (Below.refl _ _).alloc (Nat.le_refl _) _
  have B4 : Hid (Below w.heap.size w (w4.alloc (.cells #[.int .u8 0, .int .i64 (t1 : Int), .int .i64 (t2 : Int)] 25))) := B4'.alloc B4'.size _
  have M4 : Hid (MR (w4.alloc (.cells #[.int .u8 0, .int .i64 (t1 : Int), .int .i64 (t2 : Int)] 25)) g capM zs) := (M3.out.below b4).below ba
  have T4 : Hid (St 25 (w4.alloc (.cells #[.int .u8 0, .int .i64 (t1 : Int), .int .i64 (t2 : Int)] 25)) gt #[.int .u8 0, .int .i64 (t1 : Int), .int .i64 (t2 : Int)]) := (T3.out.below b4 T3.out.lt).below ba (T3.out.below b4 T3.out.lt).lt
  have U4 : Hid (St 25 (w4.alloc (.cells #[.int .u8 0, .int .i64 (t1 : Int), .int .i64 (t2 : Int)] 25)) w4.heap.size #[.int .u8 0, .int .i64 (t1 : Int), .int .i64 (t2 : Int)]) := St.new 25 w4 _
  clear b4 B4' ba B3 M3 T3
  go_wp2_with fail
  generalize w4.alloc (.cells #[.int .u8 0, .int .i64 (t1 : Int), .int .i64 (t2 : Int)] 25) = W4 at B4 M4 T4 U4 ⊢
  generalize w4.heap.size = gu at U4 ⊢
  have hg4 : Hid (g < W4.heap.size) := by obtain ⟨_, h, _⟩ := M4.out; exact h.lt
  refine (parse_r zs N HNE.out (some ⟨g, 0, none⟩) capM false W4 HB.out (by omega) hcm3 hcm2 M4.out.src K HK.out).mono ?_
  rintro e w5 ⟨lx, cx, rfl, n5, b5⟩
  have B5 : Hid (Below w.heap.size w w5) := B4.out.trans (b5.mono B4.out.size)
  have M5 : Hid (MR w5 g capM zs) := M4.out.below b5
  have T5 : Hid (St 25 w5 gt #[.int .u8 0, .int .i64 (t1 : Int), .int .i64 (t2 : Int)]) := T4.out.below b5 T4.out.lt
  have U5 : Hid (St 25 w5 gu #[.int .u8 0, .int .i64 (t1 : Int), .int .i64 (t2 : Int)]) := U4.out.below b5 U4.out.lt
  have X5 : Hid (TSrc w5 lx (tks (bf zs) zs.length false K)) := n5.1
  have XN : Hid (∀ b off, lx = some ⟨b, off, none⟩ → ¬ b = g) := fun b off e h => by have := n5.2 b off e; have := hg4.out; omega
  have hg5 : Hid (g < w5.heap.size) := Nat.lt_of_lt_of_le hg4.out b5.size
  clear b5 n5 hg4 B4 M4 T4 U4
  go_wp2_with fail
  refine (parse_r zs N HNE.out (some ⟨g, 0, none⟩) capM true w5 HB.out (by omega) hcm3 hcm2 M5.out.src L HL.out).mono ?_
  rintro e w6 ⟨ly, cy, rfl, n6, b6⟩
  have B6 : Hid (Below w.heap.size w w6) := B5.out.trans (b6.mono B5.out.size)
  have M6 : Hid (MR w6 g capM zs) := M5.out.below b6
  have T6 : Hid (St 25 w6 gt #[.int .u8 0, .int .i64 (t1 : Int), .int .i64 (t2 : Int)]) := T5.out.below b6 T5.out.lt
  have U6 : Hid (St 25 w6 gu #[.int .u8 0, .int .i64 (t1 : Int), .int .i64 (t2 : Int)]) := U5.out.below b6 U5.out.lt
  have X6 : Hid (TSrc w6 lx (tks (bf zs) zs.length false K)) := X5.out.below b6
  have Y6 : Hid (TSrc w6 ly (tks (bf zs) zs.length true L)) := n6.1
  have YN : Hid (∀ b off, ly = some ⟨b, off, none⟩ → ¬ b = g) := fun b off e h => by have := n6.2 b off e; have := hg5.out; omega
  have hg6 : Hid (g < w6.heap.size) := Nat.lt_of_lt_of_le hg5.out b6.size
  clear b6 n6 hg5 B5 M5 T5 U5 X5
  go_wp2_with fail
  refine (tokens_call zs (some ⟨g, 0, none⟩) N capM w6 HNE.out (by omega) HB.out M6.out.src (fun e => by cases e)).mono ?_
  rintro e w7 ⟨Bp, Ba, aoI, capI, bo, bl, bc, rfl, its, hcI, hcI2, hOz, b7⟩
  have B7 : Hid (Below w.heap.size w w7) := B6.out.trans (b7.mono B6.out.size)
  have M7 : Hid (MR w7 g capM zs) := M6.out.below b7
  have T7 := T6.out.below b7 T6.out.lt
  have U7 := U6.out.below b7 U6.out.lt
  have X7 : Hid (TSrc w7 lx (tks (bf zs) zs.length false K)) := X6.out.below b7
  have Y7 : Hid (TSrc w7 ly (tks (bf zs) zs.length true L)) := Y6.out.below b7
  have I7 : Hid (Its zs w7 Bp Ba aoI capI bo bl bc false) := its
  have IN : Hid (∀ i, Oz zs Bp Ba aoI bo i → ¬ i = g) := fun i hi h => by have := hOz i hi; have := hg6.out; omega
  have HCI : Hid (zs.length ≤ capI ∧ capI ≤ maxLen) := ⟨hcI, hcI2⟩
  have y0 : w7.cell? ⟨gt, 0, none⟩ = some (.int .u8 0) := T7.cell 0
  have y1 : w7.cell? ⟨gt, 1, none⟩ = some (.int .i64 (t1 : Int)) := T7.cell 1
  have y2 : w7.cell? ⟨gt, 2, none⟩ = some (.int .i64 (t2 : Int)) := T7.cell 2
  have z0 : w7.cell? ⟨gu, 0, none⟩ = some (.int .u8 0) := U7.cell 0
  have z1 : w7.cell? ⟨gu, 1, none⟩ = some (.int .i64 (t1 : Int)) := U7.cell 1
  have z2 : w7.cell? ⟨gu, 2, none⟩ = some (.int .i64 (t2 : Int)) := U7.cell 2
  have hcv1 := cv (c := capM) HNE.out.symm M7.out.src
  have hcv2 := cv (c := cap) HNE.out.symm (HS.out.below B7.out)
  have hend : w7.cell? ⟨g, N, none⟩ = some (.int .u8 165) := by rw [HNE.out]; exact M7.out.end
  have e1 : IntKind.i64.wrap ((N : Int) + 1) = ((N + 1 : Nat) : Int) := by rw [IntKind.wrap_i64]; omega
  clear its hcI hcI2 hOz b7 T7 U7 B6 M6 T6 U6 X6 Y6 hg6
  go_wp2_with (first | (go_at_call 14; refine (num_any _ _).mono ?_; rintro e w' ⟨rfl, h⟩; replace h := h.symm; subst h))
  clear y0 y1 y2 z0 z1 z2 hcv1 hcv2 hend e1
  go_loopw [18] (fun u18 wr => ∃ k : Nat, k ≤ N ∧ u18 = .int .i64 (k : Int) ∧ Kp (fun i => i = g) w7 wr ∧ ∃ xs, Rw .u8 5 wr g xs ∧ xs.length = capM) (fun u18 _ => N - (intOf u18).toNat)
  case atStart =>
    obtain ⟨tl, h1, h2⟩ := M7.out
    exact ⟨0, Nat.zero_le _, rfl, Kp.refl _ _, _, h1, h2⟩
  case round =>
    obtain ⟨k, hk, rfl, hkp, xs, hrw, hxl⟩ := hrel
    have HKP : Hid (Kp (fun i => i = g) w7 wr) := hkp
    have HRW : Hid (Rw .u8 5 wr g xs) := hrw
    have HXL : Hid (xs.length = capM) := hxl
    by_cases hlt : k < N
    · obtain ⟨x, hx⟩ : ∃ x, x = xs.getD k 0 := ⟨_, rfl⟩
      have c0 : wr.cell? ⟨g, k, none⟩ = some (.int .u8 x) := by rw [hx]; exact hrw.cell k (by omega)
      have f0 := hrw.frozen k
      clear hkp hrw hxl hx
      go_wp2
      exact ⟨⟨k + 1, hlt, by simp, HKP.out.trans (kp_setCell wr g k _ (fun i => i = g) rfl) (fun _ _ e => e), _, HRW.out.set k _, by rw [List.length_set]; exact HXL.out⟩, by simp [intOf]; omega⟩
    · obtain rfl : k = N := by omega
      have B8 : Hid (Below w.heap.size w wr) := B7.out.trans (hkp.below B7.out.size (fun i e => by rw [e]; exact HGW.out))
      have X8 : Hid (TSrc wr lx (tks (bf zs) zs.length false K)) := X7.out.kp hkp XN.out
      have Y8 : Hid (TSrc wr ly (tks (bf zs) zs.length true L)) := Y7.out.kp hkp YN.out
      have I8 : Hid (Its zs wr Bp Ba aoI capI bo bl bc false) := I7.out.kp hkp IN.out
      clear hkp hrw hxl HKP HRW HXL M7 B7 X7 Y7 I7 hlt
      go_wp2_with fail
      refine (rparse_r zs ao k cap false wr HNE.out hN (HS.out.below B8.out) K HK.out).mono ?_
      rintro e w9 ⟨lp, cp, rfl, n9, b9⟩
      have B9 : Hid (Below w.heap.size w w9) := B8.out.trans (b9.mono B8.out.size)
      have X9 : Hid (TSrc w9 lx (tks (bf zs) zs.length false K)) := X8.out.below b9
      have Y9 : Hid (TSrc w9 ly (tks (bf zs) zs.length true L)) := Y8.out.below b9
      have I9 : Hid (Its zs w9 Bp Ba aoI capI bo bl bc false) := I8.out.below b9
      have P9 : Hid (TSrc w9 lp (tks (bf zs) zs.length false K)) := n9.1
      clear b9 n9 B8 X8 Y8 I8
      go_wp2_with fail
      refine (same_toks (tks (bf zs) zs.length false K) lx lp K cx cp w9 (tks_len _ _ _ _).symm (by omega) X9.out P9.out).mono ?_
      rintro e w10 ⟨rfl, b10⟩
      have B10 : Hid (Below w.heap.size w w10) := B9.out.trans (b10.mono B9.out.size)
      have Y10 : Hid (TSrc w10 ly (tks (bf zs) zs.length true L)) := Y9.out.below b10
      have I10 : Hid (Its zs w10 Bp Ba aoI capI bo bl bc false) := I9.out.below b10
      have P10 : Hid (TSrc w10 lp (tks (bf zs) zs.length false K)) := P9.out.below b10
      clear b10 B9 X9 Y9 I9 P9
      go_wp2_with fail
      refine (rparse_r zs ao k cap true w10 HNE.out hN (HS.out.below B10.out) L HL.out).mono ?_
      rintro e w11 ⟨lq, cq, rfl, n11, b11⟩
      have B11 : Hid (Below w.heap.size w w11) := B10.out.trans (b11.mono B10.out.size)
      have Y11 : Hid (TSrc w11 ly (tks (bf zs) zs.length true L)) := Y10.out.below b11
      have I11 : Hid (Its zs w11 Bp Ba aoI capI bo bl bc false) := I10.out.below b11
      have P11 : Hid (TSrc w11 lp (tks (bf zs) zs.length false K)) := P10.out.below b11
      have Q11 : Hid (TSrc w11 lq (tks (bf zs) zs.length true L)) := n11.1
      clear b11 n11 B10 Y10 I10 P10
      go_wp2_with fail
      refine (same_toks (tks (bf zs) zs.length true L) ly lq L cy cq w11 (tks_len _ _ _ _).symm (by omega) Y11.out Q11.out).mono ?_
      rintro e w12 ⟨rfl, b12⟩
      have B12 : Hid (Below w.heap.size w w12) := B11.out.trans (b12.mono B11.out.size)
      have I12 : Hid (Its zs w12 Bp Ba aoI capI bo bl bc false) := I11.out.below b12
      have P12 : Hid (TSrc w12 lp (tks (bf zs) zs.length false K)) := P11.out.below b12
      clear b12 B11 Y11 I11 P11 Q11
      go_wp2_with fail
      refine (goes_any zs HB.out (by have := HNE.out; omega) Bp Ba aoI capI HCI.out.1 HCI.out.2 bo bl bc lp K cp leave w12 I12.out HK.out P12.out).mono ?_
      rintro e w13 ⟨rfl, b13⟩
      have B13 : Hid (Below w.heap.size w w13) := B12.out.trans (b13.mono B12.out.size)
      have I13 : Hid (Its zs w13 Bp Ba aoI capI bo bl bc false) := I12.out.below b13
      have P13 : Hid (TSrc w13 lp (tks (bf zs) zs.length false K)) := P12.out.below b13
      clear b13 B12 I12 P12
      go_wp2_with fail
      refine (goes_any zs HB.out (by have := HNE.out; omega) Bp Ba aoI capI HCI.out.1 HCI.out.2 bo bl bc lp K cp 0 w13 I13.out HK.out P13.out).mono ?_
      rintro e w14 ⟨rfl, b14⟩
      have B14 : Hid (Below w.heap.size w w14) := B13.out.trans (b14.mono B13.out.size)
      clear b14 B13 I13 P13
      go_wp2_with (first | (go_at_call 9; refine (works_any _).mono ?_; rintro e w15 ⟨rfl, b15⟩))
      go_ret
      exact ⟨rfl, B14.out.trans (b15.mono B14.out.size)⟩
set_option maxRecDepth 100000 in
set_option maxHeartbeats 1000000 in
theorem parses_long (ao : Option Addr) (N cap : Nat) (p leave : Int) (w : World) (hN : 3000 < N) (hN2 : N ≤ maxLen) :
    Calls Try.prog 3 #[.slice ao N cap, .int .i64 p, .int .i64 leave] w fun e w' => e = .returned (.bool true) ∧ Below w.heap.size w w' := by
  have hgt : (3000 : Int) < (N : Int) := by omega
  have HN2 : Hid (N ≤ maxLen) := hN2
  clear hN2
  go_enter Try.func3, Try.ntmps3
  go_wp2_with (first | (go_at_call 9; refine (works_any _).mono ?_; rintro e w9 ⟨rfl, b9⟩))
  go_ret
  exact ⟨rfl, b9⟩
end Go.Proofs.Ytofmoggejfopiaa
