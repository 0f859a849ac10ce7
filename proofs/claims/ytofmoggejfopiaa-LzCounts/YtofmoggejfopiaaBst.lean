/- The statement's own best: a token is right where it stands. -/
import Derived.Test.YtofmoggejfopiaaMth
import Derived.BigQuiet
import Derived.Deep.QuietTactic
namespace Go.Proofs.Ytofmoggejfopiaa
open Go.RowKit

/-- What is asked of each distance. -/
def Bst (b : Nat → Int) (N p : Nat) (a : Bool) (l d e : Nat) : Prop :=
  (l = 0 ∧ (cnt b p e (mst N p) < 3 ∨ a = true)) ∨ (3 ≤ l ∧ cnt b p e (mst N p) ≤ l ∧ (cnt b p e (mst N p) = l → d ≤ e) ∧ (e = d → cnt b p e (mst N p) = l))
theorem bst_of {b : Nat → Int} {N p : Nat} {a : Bool} {l d : Nat} (ht : tk b N a p = (l, d)) (e : Nat) (h1 : 1 ≤ e) (h2 : e ≤ p) (h3 : e ≤ 32768) : Bst b N p a l d e := by
  have hl := lng_is b N p
  have hc := cnt_le b p e (mst N p)
  have hm := cnt_mt b p e (mst N p)
  rcases tk_cases b N a p with h | ⟨h, g1, g2, g3, g4, g5, g6⟩
  · rw [ht] at h
    cases h
    refine .inl ⟨rfl, ?_⟩
    cases a with
    | true => exact .inr rfl
    | false =>
      refine .inl ?_
      have h0 : (lng b N p).1 = 0 := by
        unfold tk at ht
        split at ht
        · rename_i hh
          rcases hh with hh | ⟨hh, _⟩
          · exact hh
          · cases hh
        · rw [ht]
      rcases hl with ⟨_, _, hl⟩ | ⟨hl, _⟩
      · by_cases h4 : 3 ≤ cnt b p e (mst N p)
        · exact absurd (hm.mono h4) (hl e h1 (by omega) (by omega))
        · omega
      · omega
  · rw [ht] at h
    rw [← h] at g1 g2 g3 g4 g5 g6 hl
    dsimp only at g1 g2 g3 g4 g5 g6 hl
    rcases hl with ⟨hl, _⟩ | ⟨_, _, _, _, k5, k6, k7⟩
    · omega
    · refine .inr ⟨g1, ?_, fun hh => ?_, fun hh => ?_⟩
      · by_cases h4 : l + 1 ≤ cnt b p e (mst N p)
        · exact absurd (hm.mono h4) (k7 e h1 (by omega) (by omega))
        · omega
      · by_cases h4 : e < d
        · rw [hh] at hm
          exact absurd hm (k6 e h1 h4)
        · omega
      · subst hh
        have := cnt_max k5 g2
        by_cases h4 : l + 1 ≤ cnt b p e (mst N p)
        · exact absurd (hm.mono h4) (k7 e h1 (by omega) (by omega))
        · omega
theorem at_worldp {P : Program} {C : Code} {Q : Exit → Act → World → Prop} {a : Act} {X : World} {R : World → Prop} (hX : R X) (h : ∀ X', R X' → C.wp P Q a X') : C.wp P Q a X := h X hX
set_option maxRecDepth 100000 in
set_option maxHeartbeats 2000000 in
theorem best_any (zs : List Int) (ao : Option Addr) (N cap p : Nat) (a : Bool) (y : Int) (l d : Nat) (w : World) (hNe : N = zs.length) (hN : N ≤ 1000000) (hp : p < N) (hS : Src .u8 w ao zs) (ht : tokAt (bf zs) zs.length a p = (y, (l : Int), (d : Int))) :
    Calls Try.prog 33 #[.slice ao N cap, .int .i64 (p : Int), .agg #[.int .u8 y, .int .i64 (l : Int), .int .i64 (d : Int)], .bool a] w fun e w' => e = .returned (.bool true) ∧ Below w.heap.size w w' := by
  have htk : tk (bf zs) zs.length a p = (l, d) := by
    have h := tk_cases (bf zs) zs.length a p
    unfold tokAt at ht
    split at ht
    · rename_i h0
      cases ht
      rcases h with h | ⟨h, h1, _⟩
      · exact h
      · rw [h] at h0; omega
    · generalize tk (bf zs) zs.length a p = t at ht ⊢
      obtain ⟨t1, t2⟩ := t
      simp at ht
      obtain ⟨_, h1, h2⟩ := ht
      rw [Int.ofNat_inj.1 h1, Int.ofNat_inj.1 h2]
  have hy : l = 0 → y = bf zs p := fun h => by
    subst h
    unfold tokAt at ht
    rw [htk] at ht
    simp at ht
    exact ht.1.symm
  have hd : d ≤ p := by have := (tk_le (bf zs) zs.length a p).2.2.1; rw [htk] at this; exact this
  have hl258 : l ≤ 258 := by have := (tk_le (bf zs) zs.length a p).1; rw [htk] at this; exact this
  have HB : Hid (∀ e, 1 ≤ e → e ≤ p → e ≤ 32768 → Bst (bf zs) zs.length p a l d e) := fun e h1 h2 h3 => bst_of htk e h1 h2 h3
  obtain ⟨gb, off, rfl, hcs⟩ := hS (by omega)
  have HNE : Hid (N = zs.length) := hNe
  have HY : Hid (l = 0 → y = bf zs p) := hy
  have hgb : gb < w.heap.size := block_lt_of_cell (hcs 0 (by omega))
  have HS : Hid (Src .u8 (w.alloc (.cells #[.int .u8 y, .int .i64 (l : Int), .int .i64 (d : Int)] 25)) (some ⟨gb, off, none⟩) zs) := hS.below ((Below.refl _ _).alloc (Nat.le_refl _) _)
  have HST : Hid (St 25 (w.alloc (.cells #[.int .u8 y, .int .i64 (l : Int), .int .i64 (d : Int)] 25)) w.heap.size #[.int .u8 y, .int .i64 (l : Int), .int .i64 (d : Int)]) := St.new 25 w _
  have HBL : Hid (Below w.heap.size w (w.alloc (.cells #[.int .u8 y, .int .i64 (l : Int), .int .i64 (d : Int)] 25))) := (Below.refl _ _).alloc (Nat.le_refl _) _
  obtain ⟨m, hm⟩ : ∃ m, m = mst N p := ⟨_, rfl⟩
  have HM : Hid (m = mst zs.length p) := by rw [← hNe]; exact hm
  have hm1 : m ≤ 258 := by rw [hm]; unfold mst; omega
  have hm2 : p + m ≤ N := by rw [hm]; unfold mst; omega
  have hm3 : m = 258 ∨ p + m = N := by rw [hm]; unfold mst; omega
  have HM3 : Hid (m = 258 ∨ p + m = N) := hm3
  clear hS hcs hNe htk ht hy hm hm3
  go_enter Try.func33, Try.ntmps33
  go_wp2_with fail
  generalize w.alloc (.cells #[.int .u8 y, .int .i64 (l : Int), .int .i64 (d : Int)] 25) = W1 at HS HST HBL ⊢
  go_loopw [9, 10] (fun u9 _ wr => ∃ e : Nat, u9 = .int .i64 (e : Int) ∧ 1 ≤ e ∧ e ≤ min p 32768 + 1 ∧ Kp (fun _ => False) W1 wr) (fun u9 _ _ => 40000 - (intOf u9).toNat)
  case atStart => exact ⟨1, rfl, by omega, by omega, Kp.refl _ _⟩
  case round =>
    obtain ⟨e, rfl, he1, he2, hk⟩ := hrel
    have HK : Hid (Kp (fun _ => False) W1 wr) := hk
    have hst := HST.out.kp hk (fun x => x)
    have q0 : wr.cell? ⟨w.heap.size, 0, none⟩ = some (.int .u8 y) := hst.cell 0
    have q1 : wr.cell? ⟨w.heap.size, 1, none⟩ = some (.int .i64 (l : Int)) := hst.cell 1
    have q2 : wr.cell? ⟨w.heap.size, 2, none⟩ = some (.int .i64 (d : Int)) := hst.cell 2
    clear hk hst
    by_cases hlt : e ≤ p ∧ e ≤ 32768
    · obtain ⟨hep, hew⟩ := hlt
      obtain ⟨c, hc⟩ : ∃ c, c = cnt (bf zs) p e m := ⟨_, rfl⟩
      have hbst := HB.out e he1 hep hew
      unfold Bst at hbst
      rw [← HM.out, ← hc] at hbst
      have HC : Hid (c = cnt (bf zs) p e m) := hc
      have HBST : Hid (l = 0 ∧ (c < 3 ∨ a = true) ∨ 3 ≤ l ∧ c ≤ l ∧ (c = l → d ≤ e) ∧ (e = d → c = l)) := hbst
      have hcm : c ≤ 258 := by have := cnt_le (bf zs) p e m; omega
      clear hbst hc
      go_wp2_with fail
      go_loopw [10] (fun u10 wx => ∃ n : Nat, u10 = .int .i64 (n : Int) ∧ n ≤ m ∧ Mt (bf zs) p e n ∧ Kp (fun _ => False) W1 wx) (fun u10 _ => 300 - (intOf u10).toNat)
      case atStart => exact ⟨0, rfl, Nat.zero_le _, Mt.zero _ _ _, HK.out⟩
      case round =>
        clear q0 q1 q2
        obtain ⟨n, rfl, hnm, hmt, hkx⟩ := hrel
        have HMT : Hid (Mt (bf zs) p e n) := hmt
        have HKX : Hid (Kp (fun _ => False) W1 wr) := hkx
        have hst := HST.out.kp hkx (fun x => x)
        have q0 : wr.cell? ⟨w.heap.size, 0, none⟩ = some (.int .u8 y) := hst.cell 0
        have q1 : wr.cell? ⟨w.heap.size, 1, none⟩ = some (.int .i64 (l : Int)) := hst.cell 1
        have q2 : wr.cell? ⟨w.heap.size, 2, none⟩ = some (.int .i64 (d : Int)) := hst.cell 2
        clear hst hmt hkx
        obtain ⟨pn, hpn⟩ : ∃ x, x = p + n := ⟨_, rfl⟩
        obtain ⟨pe, hpe⟩ : ∃ x, x = pn - e := ⟨_, rfl⟩
        have e1 : IntKind.i64.wrap ((p : Int) + (n : Int)) = (pn : Int) := by rw [IntKind.wrap_i64]; omega
        have e2 : IntKind.i64.wrap ((pn : Int) - (e : Int)) = (pe : Int) := by rw [IntKind.wrap_i64]; omega
        by_cases hnl : n < m
        · have d1 : decide ((n : Int) < 258) = true := by simp; omega
          have d2 : decide ((pn : Int) < (N : Int)) = true := by simp; omega
          have d3 : (n : Int) < 258 := by omega
          have d4 : pn < N := by omega
          have d5 : pe < N := by omega
          have hsr := HS.out.kp HKX.out (fun _ _ _ x => x)
          have x1 := hsr.at pe (by have := HNE.out; omega)
          have x2 := hsr.at pn (by have := HNE.out; omega)
          obtain ⟨X, hX⟩ : ∃ X, X = zs.getD pe 0 := ⟨_, rfl⟩
          obtain ⟨Y, hY⟩ : ∃ Y, Y = zs.getD pn 0 := ⟨_, rfl⟩
          rw [← hX] at x1
          rw [← hY] at x2
          have HXY : Hid (X = bf zs (p + n - e) ∧ Y = bf zs (p + n)) := ⟨by rw [hX, hpe, hpn]; rfl, by rw [hY, hpn]; rfl⟩
          clear hX hY hsr hpn hpe
          by_cases hxy : X = Y
          · have HM1 : Hid (Mt (bf zs) p e (n + 1)) := HMT.out.succ (by rw [← HXY.out.1, ← HXY.out.2, hxy])
            clear HXY
            subst hxy
            go_wp2_with fail
            go_quiet (fail)
            go_wp2
            exact ⟨⟨n + 1, by simp, by omega, HM1.out, HKX.out.trans (drewN_kp (fun _ => False) _ _) (fun _ _ x => x)⟩, by simp [intOf]; omega⟩
          · have hxy2 : (X == Y) = false := beq_eq_false_iff_ne.2 hxy
            have hcn : n = c := by rw [HC.out, cnt_eq HMT.out hnm (.inr (by rw [← HXY.out.1, ← HXY.out.2]; exact hxy))]
            subst hcn
            go_wp2_with fail
            go_quiet (fail)
            generalize hX : wr.drewN nq = X
            have hkX : Kp (fun _ => False) W1 X := by rw [← hX]; exact HKX.out.trans (drewN_kp (fun _ => False) _ _) (fun _ _ x => x)
            have hst := HST.out.kp hkX (fun x => x)
            have q0 : X.cell? ⟨w.heap.size, 0, none⟩ = some (.int .u8 y) := hst.cell 0
            have q1 : X.cell? ⟨w.heap.size, 1, none⟩ = some (.int .i64 (l : Int)) := hst.cell 1
            have q2 : X.cell? ⟨w.heap.size, 2, none⟩ = some (.int .i64 (d : Int)) := hst.cell 2
            have HKX2 : Hid (Kp (fun _ => False) W1 X) := hkX
            clear hX hkX hst
            rcases HBST.out with ⟨hl0, hb⟩ | ⟨h3, hcl, hcd, hed⟩
            · subst hl0
              rcases Nat.lt_or_ge n 3 with hn3 | hn3
              · try (exfalso; omega)
                all_goals
                have t1 : ¬ (3 : Int) ≤ (n : Int) := by omega
                go_wp2
                exact ⟨⟨e + 1, by simp, by omega, by omega, HKX2.out⟩, by simp [intOf]; omega⟩
              · obtain rfl : a = true := hb.resolve_left (by omega)
                have t1 : (3 : Int) ≤ (n : Int) := by omega
                go_wp2
                exact ⟨⟨e + 1, by simp, by omega, by omega, HKX2.out⟩, by simp [intOf]; omega⟩
            · have hl1 : ((l : Int) == 0) = false := beq_eq_false_iff_ne.2 (by omega)
              have hl2 : 0 < l := by omega
              by_cases hnl2 : l = n
              · subst hnl2
                have hde := hcd rfl
                have hde2 : ¬ (e : Int) < (d : Int) := by omega
                by_cases hde3 : d = e
                · subst hde3
                  clear hcd hed HBST
                  go_wp2
                  exact ⟨⟨d + 1, by simp, by omega, by omega, HKX2.out⟩, by simp [intOf]; omega⟩
                · have hde4 : ((e : Int) == (d : Int)) = false := beq_eq_false_iff_ne.2 (by omega)
                  clear hcd hed HBST
                  go_wp2
                  exact ⟨⟨e + 1, by simp, by omega, by omega, HKX2.out⟩, by simp [intOf]; omega⟩
              · try (exfalso; omega)
                all_goals
                have t1 : ((n : Int) == (l : Int)) = false := beq_eq_false_iff_ne.2 (by omega)
                have t2 : ¬ (l : Int) < (n : Int) := by omega
                have t3 : ((e : Int) == (d : Int)) = false := beq_eq_false_iff_ne.2 (fun h => hnl2 (hed (by omega)).symm)
                clear hcd hed HBST
                go_wp2
                exact ⟨⟨e + 1, by simp, by omega, by omega, HKX2.out⟩, by simp [intOf]; omega⟩
        · obtain rfl : n = m := by omega
          have hcn : n = c := by rw [HC.out, cnt_eq HMT.out hnm (.inl rfl)]
          subst hcn
          clear e2 hpe
          by_cases h258 : n = 258
          · have d1 : decide ((n : Int) < 258) = false := by simp; omega
            have d3 : ¬ (n : Int) < 258 := by omega
            have HN58 : Hid (n = 258) := h258
            clear h258 hpn
            go_wp2_with fail
            go_quiet (fail)
            generalize hX : wr.drewN nq = X
            have hkX : Kp (fun _ => False) W1 X := by rw [← hX]; exact HKX.out.trans (drewN_kp (fun _ => False) _ _) (fun _ _ x => x)
            have hst := HST.out.kp hkX (fun x => x)
            have q0 : X.cell? ⟨w.heap.size, 0, none⟩ = some (.int .u8 y) := hst.cell 0
            have q1 : X.cell? ⟨w.heap.size, 1, none⟩ = some (.int .i64 (l : Int)) := hst.cell 1
            have q2 : X.cell? ⟨w.heap.size, 2, none⟩ = some (.int .i64 (d : Int)) := hst.cell 2
            have HKX2 : Hid (Kp (fun _ => False) W1 X) := hkX
            clear hX hkX hst
            rcases HBST.out with ⟨hl0, hb⟩ | ⟨h3, hcl, hcd, hed⟩
            · subst hl0
              rcases Nat.lt_or_ge n 3 with hn3 | hn3
              · try (exfalso; omega)
                all_goals
                have t1 : ¬ (3 : Int) ≤ (n : Int) := by omega
                go_wp2
                exact ⟨⟨e + 1, by simp, by omega, by omega, HKX2.out⟩, by simp [intOf]; omega⟩
              · obtain rfl : a = true := hb.resolve_left (by omega)
                have t1 : (3 : Int) ≤ (n : Int) := by omega
                go_wp2
                exact ⟨⟨e + 1, by simp, by omega, by omega, HKX2.out⟩, by simp [intOf]; omega⟩
            · have hl1 : ((l : Int) == 0) = false := beq_eq_false_iff_ne.2 (by omega)
              have hl2 : 0 < l := by omega
              by_cases hnl2 : l = n
              · subst hnl2
                have hde := hcd rfl
                have hde2 : ¬ (e : Int) < (d : Int) := by omega
                by_cases hde3 : d = e
                · subst hde3
                  clear hcd hed HBST
                  go_wp2
                  exact ⟨⟨d + 1, by simp, by omega, by omega, HKX2.out⟩, by simp [intOf]; omega⟩
                · have hde4 : ((e : Int) == (d : Int)) = false := beq_eq_false_iff_ne.2 (by omega)
                  clear hcd hed HBST
                  go_wp2
                  exact ⟨⟨e + 1, by simp, by omega, by omega, HKX2.out⟩, by simp [intOf]; omega⟩
              · try (exfalso; omega)
                all_goals
                have t1 : ((n : Int) == (l : Int)) = false := beq_eq_false_iff_ne.2 (by omega)
                have t2 : ¬ (l : Int) < (n : Int) := by omega
                have t3 : ((e : Int) == (d : Int)) = false := beq_eq_false_iff_ne.2 (fun h => hnl2 (hed (by omega)).symm)
                clear hcd hed HBST
                go_wp2
                exact ⟨⟨e + 1, by simp, by omega, by omega, HKX2.out⟩, by simp [intOf]; omega⟩
          · have d1 : decide ((n : Int) < 258) = true := by simp; omega
            have d3 : (n : Int) < 258 := by omega
            have d2 : decide (pn < N) = false := by have := HM3.out; simp; omega
            have d4 : ¬ (pn : Int) < (N : Int) := by have := HM3.out; omega
            clear hpn
            go_wp2_with fail
            go_quiet (fail)
            generalize hX : wr.drewN nq = X
            have hkX : Kp (fun _ => False) W1 X := by rw [← hX]; exact HKX.out.trans (drewN_kp (fun _ => False) _ _) (fun _ _ x => x)
            have hst := HST.out.kp hkX (fun x => x)
            have q0 : X.cell? ⟨w.heap.size, 0, none⟩ = some (.int .u8 y) := hst.cell 0
            have q1 : X.cell? ⟨w.heap.size, 1, none⟩ = some (.int .i64 (l : Int)) := hst.cell 1
            have q2 : X.cell? ⟨w.heap.size, 2, none⟩ = some (.int .i64 (d : Int)) := hst.cell 2
            have HKX2 : Hid (Kp (fun _ => False) W1 X) := hkX
            clear hX hkX hst
            rcases HBST.out with ⟨hl0, hb⟩ | ⟨h3, hcl, hcd, hed⟩
            · subst hl0
              rcases Nat.lt_or_ge n 3 with hn3 | hn3
              · try (exfalso; omega)
                all_goals
                have t1 : ¬ (3 : Int) ≤ (n : Int) := by omega
                go_wp2
                exact ⟨⟨e + 1, by simp, by omega, by omega, HKX2.out⟩, by simp [intOf]; omega⟩
              · obtain rfl : a = true := hb.resolve_left (by omega)
                have t1 : (3 : Int) ≤ (n : Int) := by omega
                go_wp2
                exact ⟨⟨e + 1, by simp, by omega, by omega, HKX2.out⟩, by simp [intOf]; omega⟩
            · have hl1 : ((l : Int) == 0) = false := beq_eq_false_iff_ne.2 (by omega)
              have hl2 : 0 < l := by omega
              by_cases hnl2 : l = n
              · subst hnl2
                have hde := hcd rfl
                have hde2 : ¬ (e : Int) < (d : Int) := by omega
                by_cases hde3 : d = e
                · subst hde3
                  clear hcd hed HBST
                  go_wp2
                  exact ⟨⟨d + 1, by simp, by omega, by omega, HKX2.out⟩, by simp [intOf]; omega⟩
                · have hde4 : ((e : Int) == (d : Int)) = false := beq_eq_false_iff_ne.2 (by omega)
                  clear hcd hed HBST
                  go_wp2
                  exact ⟨⟨e + 1, by simp, by omega, by omega, HKX2.out⟩, by simp [intOf]; omega⟩
              · try (exfalso; omega)
                all_goals
                have t1 : ((n : Int) == (l : Int)) = false := beq_eq_false_iff_ne.2 (by omega)
                have t2 : ¬ (l : Int) < (n : Int) := by omega
                have t3 : ((e : Int) == (d : Int)) = false := beq_eq_false_iff_ne.2 (fun h => hnl2 (hed (by omega)).symm)
                clear hcd hed HBST
                go_wp2
                exact ⟨⟨e + 1, by simp, by omega, by omega, HKX2.out⟩, by simp [intOf]; omega⟩
    · have hns : (p < e) ∨ (e ≤ p ∧ 32768 < e) := by omega
      have hsr := HS.out.kp HK.out (fun _ _ _ x => x)
      have x1 := hsr.at p (by have := HNE.out; omega)
      obtain ⟨Y, hY⟩ : ∃ Y, Y = zs.getD p 0 := ⟨_, rfl⟩
      rw [← hY] at x1
      have HYY : Hid (Y = bf zs p) := hY
      clear hsr hY hlt
      by_cases hl0 : l = 0
      · have hyY : y = Y := by rw [HY.out hl0, HYY.out]
        subst hl0 hyY
        rcases hns with h1 | ⟨h1, h2⟩
        · have h3 : ¬ (e : Int) ≤ (p : Int) := by omega
          go_wp2_with fail
          go_quiet (fail)
          go_wp2
          go_ret
          exact ⟨rfl, HBL.out.trans ((HK.out.trans (drewN_kp (fun _ => False) _ _) (fun _ _ x => x)).below HBL.out.size (fun _ x => x.elim))⟩
        · have h3 : ¬ (e : Int) ≤ 32768 := by omega
          go_wp2_with fail
          go_quiet (fail)
          go_wp2
          go_ret
          exact ⟨rfl, HBL.out.trans ((HK.out.trans (drewN_kp (fun _ => False) _ _) (fun _ _ x => x)).below HBL.out.size (fun _ x => x.elim))⟩
      · have hl1 : ((l : Int) == 0) = false := beq_eq_false_iff_ne.2 (by omega)
        have hl2 : 0 < l := by omega
        have hl3 : decide (0 < l) = true := by simpa using hl2
        have hl4 : decide (d ≤ p) = true := by simpa using hd
        rcases hns with h1 | ⟨h1, h2⟩
        · have h3 : ¬ (e : Int) ≤ (p : Int) := by omega
          go_wp2_with fail
          go_quiet (fail)
          go_wp2
          go_ret
          exact ⟨rfl, HBL.out.trans ((HK.out.trans (drewN_kp (fun _ => False) _ _) (fun _ _ x => x)).below HBL.out.size (fun _ x => x.elim))⟩
        · have h3 : ¬ (e : Int) ≤ 32768 := by omega
          go_wp2_with fail
          go_quiet (fail)
          go_wp2
          go_ret
          exact ⟨rfl, HBL.out.trans ((HK.out.trans (drewN_kp (fun _ => False) _ _) (fun _ _ x => x)).below HBL.out.size (fun _ x => x.elim))⟩
end Go.Proofs.Ytofmoggejfopiaa
