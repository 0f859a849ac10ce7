/- regions: free, First. -/
import Derived.Test.YtopnfjgkgoeleaaAs
namespace Go.Proofs.Ytopnfjgkgoeleaa
open Go.RowKit
set_option linter.unusedVariables false
set_option linter.unusedSimpArgs false
theorem mul_bd {p s : Int} (hp : 0 ≤ p ∧ p ≤ 72057594037927936) (hs : 1 ≤ s ∧ s ≤ 9223372036854775807) : 0 ≤ mul p s ∧ mul p s ≤ 9223372036854775807 := by
  have ⟨h1, h2, h3⟩ := mul_ge hs.1 hp.1
  refine ⟨by omega, ?_⟩
  by_cases h : s ≤ 72057594037927936
  · omega
  · have : mul p s ≤ s := mul_least hs.1 hp.1 (by omega) (Int.emod_self)
    omega
set_option maxRecDepth 100000 in
set_option maxHeartbeats 4000000 in
theorem free_any (L : List Rn) (ao : Option Addr) (n c : Nat) (p k s : Int) (w : World) (hn : n = L.length) (hc : n ≤ c) (hc63 : c ≤ 9223372036854775807) (hno : ao = none → c = 0) (hn2 : n ≤ 65536) (hS : Srcr w ao L) (hL : Srt L) (hp : 0 ≤ p ∧ p ≤ 72057594037927936) (hk : 1 ≤ k ∧ k ≤ 9223372036854775807) (hs : 1 ≤ s ∧ s ≤ 9223372036854775807) :
    Calls Try.prog 51 #[.slice ao n c, .int .i64 p, .int .i64 k, .int .i64 s] w fun e w' => e = .returned (.int .i64 (fre L p k s)) ∧ Below w.heap.size w w' := by
  have HN := hid hn
  have HS := hid hS
  have HL := hid hL
  clear hn hS hL
  have HM : Hid (∀ W, Calls Try.prog 63 #[.int .i64 p, .int .i64 s] W fun x w' => x = .returned (.int .i64 (mul p s)) ∧ W = w') := fun W => multiple_any p s W hp hs
  have hM := mul_bd hp hs
  have HBY : Hid (∀ W, Below w.heap.size w W → Calls Try.prog 59 #[.slice ao n c, .int .i64 (mul p s)] W fun e w' => e = .returned (.int .i64 ((bey L (mul p s) : Nat) : Int)) ∧ Below W.heap.size W w') := fun W hW => beyond_any L ao n c _ W HN.out hc (by omega) (HS.out.below hW) HL.out
  have HE : Hid (fre L p k s = fr k s (mul p s) (L.drop (bey L (mul p s)))) := rfl
  generalize mul p s = M at *
  obtain ⟨b, hb⟩ : ∃ b, b = bey L M := ⟨_, rfl⟩
  rw [← hb] at HBY HE
  have hbn : b ≤ n := by rw [hb]; have := bey_le L M; have := HN.out; omega
  clear hb
  by_cases hbl : b < n
  · obtain ⟨gb, off, rfl, hgb, _⟩ := HS.out.at (i := 0) (by have := HN.out; omega)
    have hcb : ¬ (c = b) := by omega
    go_enter Try.func51, Try.ntmps51
    go_wp2_with (first | (go_at_call 63; refine (HM.out _).mono ?_; rintro e w0 ⟨rfl, rfl⟩) | (go_at_call 59; refine (HBY.out _ (Below.refl _ _)).mono ?_; rintro e w1 ⟨rfl, b1⟩; have B1 := hid b1; clear b1))
    go_loopw [9, 21] (fun a i wr => ∃ (j : Nat) (q : Int), b + j ≤ n ∧ i = .int .i64 (j : Int) ∧ a = .int .i64 q ∧ (0 ≤ q ∧ q ≤ 9223372036854775807) ∧ Hid (fre L p k s = fr k s q (L.drop (b + j))) ∧ Hid (Below w.heap.size w wr)) (fun _ i _ => n - (intOf i).toNat)
    case atStart => exact ⟨0, M, by omega, rfl, rfl, hM, HE, B1⟩
    case round =>
      clear HE HBY HM B1
      obtain ⟨j, q, hj, rfl, rfl, hq, HE, HB⟩ := hrel
      by_cases hjn : j < n - b
      · obtain ⟨g2, o2, e2, _, x0, x1, x2⟩ := (HS.out.below HB.out).at (i := b + j) (by have := HN.out; omega)
        cases e2
        have HMY := HL.out.may (i := b + j) (by have := HN.out; omega)
        have hbl2 : b + j < L.length := by have := HN.out; omega
        obtain ⟨x, hx⟩ : ∃ x, x = L.getD (b + j) zRn := ⟨_, rfl⟩
        have HE2 : Hid (fre L p k s = if k ≤ x.a - q then q else fr k s (mul x.e s) (L.drop (b + (j + 1)))) := by
          show _ = _
          rw [HE.out, List.drop_eq_getElem_cons hbl2, ← gd hbl2, ← hx]
          rfl
        rw [← hx] at x0 x1 x2 HMY
        have HX := hid hx
        have HEN : Hid (∀ W, Calls Try.prog 42 #[.agg x.cs] W fun e w' => e = .returned (.int .i64 x.e) ∧ Below W.heap.size W w') := fun W => end_any x W HMY
        clear hx
        unfold Mayr at HMY
        obtain ⟨hm1, hm2, hm3, hm4, hm5⟩ := HMY
        have hee : 0 ≤ x.e ∧ x.e ≤ 72057594037927936 := by unfold Rn.e; omega
        have HMU : Hid (∀ W, Calls Try.prog 63 #[.int .i64 x.e, .int .i64 s] W fun e w' => e = .returned (.int .i64 (mul x.e s)) ∧ W = w') := fun W => multiple_any x.e s W hee hs
        have HMB := hid (mul_bd hee hs)
        clear hee
        generalize mul x.e s = M2 at *
        generalize x.e = xe at *
        have hadd : off + b * 3 + j * 3 = off + (b + j) * 3 := by omega
        have hadd1 : off + b * 3 + j * 3 + 1 = off + (b + j) * 3 + 1 := by omega
        have hadd2 : off + b * 3 + j * 3 + 2 = off + (b + j) * 3 + 2 := by omega
        rw [← hadd] at x0
        rw [← hadd1] at x1
        rw [← hadd2] at x2
        clear hadd hadd1 hadd2
        obtain ⟨r, hr⟩ : ∃ r, r = wr.heap.size := ⟨_, rfl⟩
        have hbz : ∀ w2, Kp (fun i => i = wr.heap.size) (wr.alloc (.cells zRn.cs 46)) w2 → Below wr.heap.size wr w2 := fun w2 k2 => (((Below.refl _ wr).alloc (Nat.le_refl _) _)).trans (k2.below (by rw [World.size_alloc]; omega) (fun i e => by omega))
        have HBZ := hid hbz
        clear hbz
        by_cases hge : k ≤ x.a - q
        · have HE3 : Hid (fre L p k s = q) := by rw [HE2.out, if_pos hge]; rfl
          go_wp2_with (first | (refine wpList_store_r rfl _ _ rfl _ rfl (e' := x) rfl (Rn.B.new wr zRn) ?_; intro w2 s2 k2; have B2 := hid (HB.out.trans ((HBZ.out w2 k2).mono HB.out.size)); rw [← hr] at s2 ⊢; have HR := hid hr; clear hr k2 x0 x1 x2 HBZ; have y0 : w2.cell? ⟨r, 0, none⟩ = some (.int .i64 x.k) := s2.cell 0; have y1 : w2.cell? ⟨r, 1, none⟩ = some (.int .i64 x.a) := s2.cell 1; have y2 : w2.cell? ⟨r, 2, none⟩ = some (.int .i64 x.n) := s2.cell 2))
          go_ret
          exact ⟨ret_int HE3.out.symm, B2.out⟩
        · have HE3 : Hid (fre L p k s = fr k s M2 (L.drop (b + (j + 1)))) := by rw [HE2.out, if_neg hge]; rfl
          go_wp2_with (first | (refine wpList_store_r rfl _ _ rfl _ rfl (e' := x) rfl (Rn.B.new wr zRn) ?_; intro w2 s2 k2; have B2 := hid (HB.out.trans ((HBZ.out w2 k2).mono HB.out.size)); rw [← hr] at s2 ⊢; have HR := hid hr; clear hr k2 x0 x1 x2 HBZ; have y0 : w2.cell? ⟨r, 0, none⟩ = some (.int .i64 x.k) := s2.cell 0; have y1 : w2.cell? ⟨r, 1, none⟩ = some (.int .i64 x.a) := s2.cell 1; have y2 : w2.cell? ⟨r, 2, none⟩ = some (.int .i64 x.n) := s2.cell 2) | (refine wpList_load_r rfl _ rfl _ rfl s2 ?_) | (go_at_call 42; refine (HEN.out _).mono ?_; rintro e w5 ⟨rfl, b5⟩; have B5 := hid (B2.out.trans (b5.mono B2.out.size)); clear b5) | (go_at_call 63; refine (HMU.out _).mono ?_; rintro e w6 ⟨rfl, rfl⟩))
          go_roundw
          case rel => exact ⟨j + 1, M2, by omega, by go_num, rfl, HMB.out, HE3, B5⟩
          case measure => simp [intOf]; omega
      · obtain rfl : j = n - b := by omega
        have HE3 : Hid (fre L p k s = q) := by
          show _ = _
          rw [HE.out, List.drop_eq_nil_of_le (by have := HN.out; omega)]
          rfl
        go_wp2_with fail
        go_ret
        exact ⟨ret_int HE3.out.symm, HB.out⟩
  · obtain rfl : b = n := by omega
    rw [List.drop_eq_nil_of_le (by have := HN.out; omega)] at HE
    have HE : Hid (fre L p k s = M) := HE.out
    cases ao with
    | none =>
      obtain rfl := hno rfl
      obtain rfl : b = 0 := by omega
      go_enter Try.func51, Try.ntmps51
      go_wp2_with (first | (go_at_call 63; refine (HM.out _).mono ?_; rintro e w0 ⟨rfl, rfl⟩) | (go_at_call 59; refine (HBY.out _ (Below.refl _ _)).mono ?_; rintro e w1 ⟨rfl, b1⟩; have B1 := hid b1; clear b1))
      go_loopw [9, 21] (fun a i wr => i = .int .i64 0 ∧ a = .int .i64 M ∧ Hid (Below w.heap.size w wr)) (fun _ i _ => 0)
      case atStart => exact ⟨rfl, rfl, B1⟩
      case round =>
        obtain ⟨rfl, rfl, HI⟩ := hrel
        go_wp2_with fail
        go_ret
        exact ⟨ret_int HE.out.symm, HI.out⟩
    | some ad =>
      by_cases hcb : c = b
      · subst hcb
        go_enter Try.func51, Try.ntmps51
        go_wp2_with (first | (go_at_call 63; refine (HM.out _).mono ?_; rintro e w0 ⟨rfl, rfl⟩) | (go_at_call 59; refine (HBY.out _ (Below.refl _ _)).mono ?_; rintro e w1 ⟨rfl, b1⟩; have B1 := hid b1; clear b1))
        go_loopw [9, 21] (fun a i wr => i = .int .i64 0 ∧ a = .int .i64 M ∧ Hid (Below w.heap.size w wr)) (fun _ i _ => 0)
        case atStart => exact ⟨rfl, rfl, B1⟩
        case round =>
          obtain ⟨rfl, rfl, HI⟩ := hrel
          go_wp2_with fail
          go_ret
          exact ⟨ret_int HE.out.symm, HI.out⟩
      · skip
        go_enter Try.func51, Try.ntmps51
        go_wp2_with (first | (go_at_call 63; refine (HM.out _).mono ?_; rintro e w0 ⟨rfl, rfl⟩) | (go_at_call 59; refine (HBY.out _ (Below.refl _ _)).mono ?_; rintro e w1 ⟨rfl, b1⟩; have B1 := hid b1; clear b1))
        go_loopw [9, 21] (fun a i wr => i = .int .i64 0 ∧ a = .int .i64 M ∧ Hid (Below w.heap.size w wr)) (fun _ i _ => 0)
        case atStart => exact ⟨rfl, rfl, B1⟩
        case round =>
          obtain ⟨rfl, rfl, HI⟩ := hrel
          go_wp2_with fail
          go_ret
          exact ⟨ret_int HE.out.symm, HI.out⟩
/-- What First answers. -/
def fsE (L : List Rn) (p k s : Int) : Int := if 0 ≤ p ∧ p ≤ 72057594037927936 ∧ 1 ≤ k ∧ 1 ≤ s then (if fre L p k s + k ≤ 72057594037927936 then 0 else 4) else 2
def fsV (L : List Rn) (p k s : Int) : Int := if fsE L p k s = 0 then fre L p k s else 0
theorem fre_bd {L : List Rn} (h : Srt L) {p k s : Int} (hp : 0 ≤ p ∧ p ≤ 72057594037927936) (hk : 1 ≤ k) (hs : 1 ≤ s ∧ s ≤ 9223372036854775807) : 0 ≤ fre L p k s ∧ fre L p k s ≤ 9223372036854775807 := by
  have h1 := fre_fst h hs.1 hk hp.1
  refine ⟨by have := h1.1; omega, ?_⟩
  unfold fre
  have hm := mul_bd hp hs
  generalize mul p s = q at *
  generalize bey L q = i
  have : ∀ (M : List Rn) (q : Int), (∀ x ∈ M, Mayr x) → 0 ≤ q ∧ q ≤ 9223372036854775807 → fr k s q M ≤ 9223372036854775807 := by
    intro M
    induction M with
    | nil => intro q _ hq; exact hq.2
    | cons x M ih =>
      intro q hM hq
      simp only [fr]
      split
      · exact hq.2
      · have hx := hM x (by simp)
        unfold Mayr at hx
        exact ih _ (fun y hy => hM y (by simp [hy])) (mul_bd ⟨by unfold Rn.e; omega, by unfold Rn.e; omega⟩ hs)
  exact this _ q (fun x hx => h.1 x (List.mem_of_mem_drop hx)) hm
set_option maxRecDepth 100000 in
set_option maxHeartbeats 4000000 in
theorem first_any (w : World) (B : Nat) (ao : Option Addr) (c : Nat) (L : List Rn) (p k s : Int) (h : Rg w B ao c L) (hp : I6 p) (hk : I6 k) (hs : I6 s) :
    Calls Try.prog 25 #[.pointer (some ⟨B, 0, none⟩), .int .i64 p, .int .i64 k, .int .i64 s] w fun e w' => e = .returned (.tuple #[.int .i64 (fsV L p k s), .int .i64 (fsE L p k s)]) ∧ Below w.heap.size w w' := by
  have c1 := St.cell h.rb 1
  change w.cell? _ = some (.slice ao L.length c) at c1
  have HNO := hid (none_yes B _ w h.rb)
  have HLI : Hid (∀ W, Calls Try.prog 45 #[.int .i64 p, .int .i64 0] W fun x w' => x = .returned (.bool (lieb p 0)) ∧ W = w') := fun W => lie_any p 0 W hp (by unfold I6; omega)
  have hlb : lieb p 0 = decide (0 ≤ p ∧ p ≤ 72057594037927936) := by unfold lieb; rw [Bool.eq_iff_iff]; simp
  unfold I6 at hp hk hs
  by_cases h1 : 0 ≤ p ∧ p ≤ 72057594037927936
  · rw [hlb, decide_eq_true h1] at HLI
    clear hlb
    by_cases h2 : 1 ≤ k
    · by_cases h3 : 1 ≤ s
      · have HFR := hid (free_any L ao L.length c p k s w rfl h.lst.2.1 (by have := h.lst.2.2.1; unfold maxLen at this; omega) h.lst.2.2.2.1 h.len h.lst.1 h.srt h1 ⟨h2, hk.2⟩ ⟨h3, hs.2⟩)
        have hfb := fre_bd h.srt (k := k) h1 h2 ⟨h3, hs.2⟩
        have hE : fsE L p k s = if fre L p k s + k ≤ 72057594037927936 then 0 else 4 := by unfold fsE; rw [if_pos ⟨h1.1, h1.2, h2, h3⟩]
        obtain ⟨n, hn⟩ : ∃ n, n = L.length := ⟨_, rfl⟩
        rw [← hn] at c1 HFR
        have HL2 : Hid (∀ W, Calls Try.prog 45 #[.int .i64 (fre L p k s), .int .i64 k] W fun x w' => x = .returned (.bool (lieb (fre L p k s) k)) ∧ W = w') := fun W => lie_any _ k W (by unfold I6; omega) hk
        have hl2 : lieb (fre L p k s) k = decide (fre L p k s + k ≤ 72057594037927936) := by unfold lieb; rw [Bool.eq_iff_iff]; simp; omega
        by_cases h4 : fre L p k s + k ≤ 72057594037927936
        · rw [hl2, decide_eq_true h4] at HL2
          rw [if_pos h4] at hE
          have hV : fsV L p k s = fre L p k s := by unfold fsV; rw [if_pos hE]
          rw [hE, hV]
          clear hE hV hl2 hn h h4 hfb
          generalize fre L p k s = F at *
          go_enter Try.func25, Try.ntmps25
          go_wp2_with (first | (go_at_call 30; refine HNO.out.mono ?_; rintro e w0 ⟨rfl, rfl⟩) | (go_at_call 45; refine (HLI.out _).mono ?_; rintro e w4 ⟨rfl, rfl⟩; clear HLI) | (go_at_call 45; refine (HL2.out _).mono ?_; rintro e w5 ⟨rfl, rfl⟩) | (go_at_call 51; refine HFR.out.mono ?_; rintro e w3 ⟨rfl, b3⟩))
          go_ret2
          exact ⟨rfl, b3⟩
        · rw [hl2, decide_eq_false h4] at HL2
          rw [if_neg h4] at hE
          have hV : fsV L p k s = 0 := by unfold fsV; rw [if_neg (by omega)]
          rw [hE, hV]
          clear hE hV hl2 hn h h4 hfb
          generalize fre L p k s = F at *
          go_enter Try.func25, Try.ntmps25
          go_wp2_with (first | (go_at_call 30; refine HNO.out.mono ?_; rintro e w0 ⟨rfl, rfl⟩) | (go_at_call 45; refine (HLI.out _).mono ?_; rintro e w4 ⟨rfl, rfl⟩; clear HLI) | (go_at_call 45; refine (HL2.out _).mono ?_; rintro e w5 ⟨rfl, rfl⟩) | (go_at_call 51; refine HFR.out.mono ?_; rintro e w3 ⟨rfl, b3⟩))
          go_ret2
          exact ⟨rfl, b3⟩
      · have hE : fsE L p k s = 2 := by unfold fsE; rw [if_neg (fun z => h3 z.2.2.2)]
        have hV : fsV L p k s = 0 := by unfold fsV; rw [if_neg (by omega)]
        rw [hE, hV]
        clear hE hV h c1
        go_enter Try.func25, Try.ntmps25
        go_wp2_with (first | (go_at_call 30; refine HNO.out.mono ?_; rintro e w0 ⟨rfl, rfl⟩) | (go_at_call 45; refine (HLI.out _).mono ?_; rintro e w4 ⟨rfl, rfl⟩))
        go_ret2
        exact ⟨rfl, Below.refl _ _⟩
    · have hE : fsE L p k s = 2 := by unfold fsE; rw [if_neg (fun z => h2 z.2.2.1)]
      have hV : fsV L p k s = 0 := by unfold fsV; rw [if_neg (by omega)]
      rw [hE, hV]
      clear hE hV h c1
      go_enter Try.func25, Try.ntmps25
      go_wp2_with (first | (go_at_call 30; refine HNO.out.mono ?_; rintro e w0 ⟨rfl, rfl⟩) | (go_at_call 45; refine (HLI.out _).mono ?_; rintro e w4 ⟨rfl, rfl⟩))
      go_ret2
      exact ⟨rfl, Below.refl _ _⟩
  · rw [hlb, decide_eq_false h1] at HLI
    have hE : fsE L p k s = 2 := by unfold fsE; rw [if_neg (fun z => h1 ⟨z.1, z.2.1⟩)]
    have hV : fsV L p k s = 0 := by unfold fsV; rw [if_neg (by omega)]
    rw [hE, hV]
    clear hE hV h c1 hlb
    go_enter Try.func25, Try.ntmps25
    go_wp2_with (first | (go_at_call 30; refine HNO.out.mono ?_; rintro e w0 ⟨rfl, rfl⟩) | (go_at_call 45; refine (HLI.out _).mono ?_; rintro e w4 ⟨rfl, rfl⟩))
    go_ret2
    exact ⟨rfl, Below.refl _ _⟩
end Go.Proofs.Ytopnfjgkgoeleaa
