/- The reference's Longest. -/
import Derived.Test.YtofmoggejfopiaaLgs
import Derived.BigQuiet
namespace Go.Proofs.Ytofmoggejfopiaa
open Go.RowKit
theorem scan_stay {b : Nat → Int} {m p D : Nat} (h : m ≤ (scan b m p D).1) (E : Nat) (hE : D ≤ E) : scan b m p E = scan b m p D := by
  induction E with
  | zero => rw [show D = 0 by omega]
  | succ E ih =>
    by_cases e : D = E + 1
    · rw [e]
    · have h1 := ih (by omega)
      have h2 := cnt_le b p (E + 1) m
      rw [← h1]
      show (if 3 ≤ cnt b p (E + 1) m ∧ (scan b m p E).1 < cnt b p (E + 1) m then (cnt b p (E + 1) m, E + 1) else scan b m p E) = _
      rw [if_neg (by rw [h1]; omega)]
set_option maxRecDepth 100000 in
set_option maxHeartbeats 2000000 in
theorem rlongest_ok (zs : List Int) (ao : Option Addr) (N cap p : Nat) (w : World) (hNe : N = zs.length) (hN : N ≤ 1048576) (hS : Src .u8 w ao zs) (hp : p < N) :
    Calls Try.prog 11 #[.slice ao N cap, .int .i64 (p : Int)] w fun e w' => e = .returned (.tuple #[tkv (lng (bf zs) zs.length p), .bool (decide (0 < (lng (bf zs) zs.length p).1))]) ∧ Below w.heap.size w w' := by
  have HNE : Hid (N = zs.length) := hNe
  have HS : Hid (Src .u8 w ao zs) := hS
  have hp0 : ¬ (p : Int) < 0 := by omega
  have hp1 : ¬ (N : Int) ≤ (p : Int) := by omega
  obtain ⟨m, hm⟩ : ∃ m, m = mst N p := ⟨_, rfl⟩
  obtain ⟨r, hr⟩ : ∃ r, r = N - p := ⟨_, rfl⟩
  have e0 : IntKind.i64.wrap ((N : Int) - (p : Int)) = (r : Int) := by rw [IntKind.wrap_i64]; omega
  have hm258 : m ≤ 258 := by rw [hm]; unfold mst; omega
  have hmr : m ≤ r := by rw [hm]; unfold mst; omega
  have HM : Hid (m = mst N p) := hm
  clear hNe hS
  go_enter Try.func11, Try.ntmps11
  go_wp2_with fail
  all_goals
    have HB2 : Hid (Below w.heap.size w ((w.alloc (.cells #[.int .u8 0, .int .i64 0, .int .i64 0] 25)).alloc (.cells #[.int .u8 0, .int .i64 0, .int .i64 0] 25))) := ((Below.refl _ _).alloc (Nat.le_refl _) _).alloc (by simp) _
    have hs4 := (St.new 25 w #[.int .u8 0, .int .i64 0, .int .i64 0]).kp ((Kp.refl (fun _ => False) (w.alloc (.cells #[.int .u8 0, .int .i64 0, .int .i64 0] 25))).alloc (.cells #[.int .u8 0, .int .i64 0, .int .i64 0] 25)) (fun x => x)
    have hs6 := St.new 25 (w.alloc (.cells #[.int .u8 0, .int .i64 0, .int .i64 0] 25)) #[.int .u8 0, .int .i64 0, .int .i64 0]
    rw [World.size_alloc] at hs6
    have HS4 := (show Hid _ from hs4)
    have HS6 := (show Hid _ from hs6)
    clear hs4 hs6
    generalize (w.alloc (.cells #[.int .u8 0, .int .i64 0, .int .i64 0] 25)).alloc (.cells #[.int .u8 0, .int .i64 0, .int .i64 0] 25) = W0 at HB2 HS4 HS6 ⊢
    first
      | (rw [show (258 : Int) = (m : Int) by rw [hm]; unfold mst; omega])
      | (rw [show N - p = m by rw [hm]; unfold mst; omega])
    have hmN : p + m ≤ N := by rw [hm]; unfold mst; omega
    clear hm hr hmr e0
    go_loopw [8, 9] (fun u8 _ wr => ∃ D : Nat, D ≤ min p 32768 ∧ u8 = .int .i64 ((D + 1 : Nat) : Int) ∧ St 25 wr (w.heap.size + 1) #[.int .u8 0, .int .i64 ((scan (bf zs) m p D).1 : Int), .int .i64 ((scan (bf zs) m p D).2 : Int)] ∧ St 25 wr w.heap.size #[.int .u8 0, .int .i64 0, .int .i64 0] ∧ Below w.heap.size w wr) (fun u8 _ _ => 40000 - (intOf u8).toNat)
    case atStart => exact ⟨0, Nat.zero_le _, rfl, HS6.out, HS4.out, HB2.out⟩
    case round =>
      clear HB2 HS4 HS6
      obtain ⟨D, hD, rfl, s6, s4, hb⟩ := hrel
      obtain ⟨⟨sl, sd⟩, hs⟩ : ∃ t, t = scan (bf zs) m p D := ⟨_, rfl⟩
      rw [← hs] at s6
      dsimp only at s6
      have HSC : Hid ((sl, sd) = scan (bf zs) m p D) := hs
      have x1 : wr.cell? ⟨w.heap.size + 1, 1, none⟩ = some (.int .i64 (sl : Int)) := s6.cell 1
      have HO6 : Hid (St 25 wr (w.heap.size + 1) #[.int .u8 0, .int .i64 (sl : Int), .int .i64 (sd : Int)]) := s6
      have HO4 : Hid (St 25 wr w.heap.size #[.int .u8 0, .int .i64 0, .int .i64 0]) := s4
      have HOB : Hid (Below w.heap.size w wr) := hb
      clear hs s6 s4 hb
      obtain ⟨d, hd⟩ : ∃ d, d = D + 1 := ⟨_, rfl⟩
      rw [← hd]
      have HD : Hid (d = D + 1) := hd
      have HDP : Hid (D ≤ min p 32768) := hD
      clear hd hD
      by_cases hgo : (d : Int) ≤ 32768 ∧ (d : Int) ≤ (p : Int) ∧ (sl : Int) < (m : Int)
      · obtain ⟨h1', h2', h3'⟩ := hgo
        have HG : Hid (d ≤ 32768 ∧ d ≤ p ∧ sl < m) := by show _ ∧ _ ∧ _; omega
        go_wp2_with fail
        obtain ⟨wo, hwo⟩ : ∃ x, x = wr := ⟨_, rfl⟩
        subst hwo
        clear x1 h1' h2' h3'
        go_loopw [9] (fun u9 wr => ∃ n : Nat, n ≤ m ∧ u9 = .int .i64 (n : Int) ∧ Mt (bf zs) p d n ∧ Below wo.heap.size wo wr) (fun u9 _ => m - (intOf u9).toNat)
        case atStart => exact ⟨0, Nat.zero_le _, rfl, Mt.zero _ _ _, Below.refl _ _⟩
        case round =>
          obtain ⟨n, hn, rfl, hmt, hbq⟩ := hrel
          have HMT : Hid (Mt (bf zs) p d n) := hmt
          have HBQ : Hid (Below wo.heap.size wo wr) := hbq
          clear hmt hbq
          by_cases hlt : n < m
          · have hsb := (HS.out.below (HOB.out.trans (HBQ.out.mono HOB.out.size)))
            obtain ⟨gb, off, hao, hcs⟩ := hsb (by have := HNE.out; omega)
            subst hao
            obtain ⟨t, ht⟩ : ∃ t, t = p + n := ⟨_, rfl⟩
            obtain ⟨q, hq⟩ : ∃ q, q = t - d := ⟨_, rfl⟩
            have hdt : d ≤ t := by have := HG.out; omega
            have htN : t < N := by omega
            have hqN : q < N := by omega
            have z1 := hcs q (by have := HNE.out; omega)
            have z2 := hcs t (by have := HNE.out; omega)
            have e1 : IntKind.i64.wrap ((p : Int) + (n : Int)) = (t : Int) := by rw [IntKind.wrap_i64]; omega
            have e2 : IntKind.i64.wrap ((t : Int) - (d : Int)) = (q : Int) := by rw [IntKind.wrap_i64]; omega
            have hlt' : (n : Int) < (m : Int) := by omega
            obtain ⟨Y, hY⟩ : ∃ Y, Y = zs.getD t 0 := ⟨_, rfl⟩
            obtain ⟨X, hX⟩ : ∃ X, X = zs.getD q 0 := ⟨_, rfl⟩
            rw [← hX] at z1
            rw [← hY] at z2
            have HXY : Hid (bf zs (p + n - d) = X ∧ bf zs (p + n) = Y) := by show _ ∧ _; unfold bf; rw [hX, hY, hq, ht]; exact ⟨rfl, rfl⟩
            have htpn : p + n = t := ht.symm
            clear hcs hsb hX hY hq ht
            by_cases hxy : X = Y
            · subst hxy
              go_wp2_with fail
              go_region_held3 (fun w' => w'.cell? ⟨gb, off + q, none⟩ = some (.int .u8 X) ∧ w'.cell? ⟨gb, off + t, none⟩ = some (.int .u8 X)) (first | (exact ⟨z1, z2⟩) | go_keep) (fail)
              have HBD : Hid (Below wo.heap.size wo wr.drew) := HBQ.out.drew
              clear z1 z2 e1 e2
              go_wp2
              exact ⟨⟨n + 1, hlt, by simp, HMT.out.succ (HXY.out.1.trans HXY.out.2.symm), HBD.out⟩, by simp [intOf]; omega⟩
            · have hxb : (X == Y) = false := beq_eq_false_iff_ne.2 hxy
              go_wp2_with fail
              go_region_held3 (fun w' => w'.cell? ⟨gb, off + q, none⟩ = some (.int .u8 X) ∧ w'.cell? ⟨gb, off + t, none⟩ = some (.int .u8 Y)) (first | (exact ⟨z1, z2⟩) | go_keep) (fail)
              clear z1 z2 e1 e2 hxb
              have hcn : cnt (bf zs) p d m = n := cnt_eq HMT.out (by omega) (.inr (fun h => hxy (HXY.out.1.symm.trans (h.trans HXY.out.2))))
              have HSN : Hid (scan (bf zs) m p (D + 1) = if 3 ≤ n ∧ sl < n then (n, D + 1) else (sl, sd)) := by
                show (if 3 ≤ cnt (bf zs) p (D + 1) m ∧ (scan (bf zs) m p D).1 < cnt (bf zs) p (D + 1) m then (cnt (bf zs) p (D + 1) m, D + 1) else scan (bf zs) m p D) = _
                rw [← HSC.out, ← HD.out, hcn]
              have T6 : St 25 wr.drew (w.heap.size + 1) #[.int .u8 0, .int .i64 (sl : Int), .int .i64 (sd : Int)] := HO6.out.below HBQ.out.drew HO6.out.lt
              have T4 : St 25 wr.drew w.heap.size #[.int .u8 0, .int .i64 0, .int .i64 0] := HO4.out.below HBQ.out.drew HO4.out.lt
              have TB : Below w.heap.size w wr.drew := (HOB.out.trans (HBQ.out.mono HOB.out.size)).drew
              generalize wr.drew = X at T6 T4 TB ⊢
              have t0 : X.cell? ⟨w.heap.size + 1, 0, none⟩ = some (.int .u8 0) := T6.cell 0
              have t1 : X.cell? ⟨w.heap.size + 1, 1, none⟩ = some (.int .i64 (sl : Int)) := T6.cell 1
              have t2 : X.cell? ⟨w.heap.size + 1, 2, none⟩ = some (.int .i64 (sd : Int)) := T6.cell 2
              have g0 := T6.frozen 0
              have g1 := T6.frozen 1
              have g2 := T6.frozen 2
              have H6 : Hid (St 25 X (w.heap.size + 1) #[.int .u8 0, .int .i64 (sl : Int), .int .i64 (sd : Int)]) := T6
              have H4 : Hid (St 25 X w.heap.size #[.int .u8 0, .int .i64 0, .int .i64 0]) := T4
              have HX : Hid (Below w.heap.size w X) := TB
              clear hcn T6 T4 TB
              by_cases hA : (3 : Int) ≤ (n : Int)
              · by_cases hC : (sl : Int) < (n : Int)
                · have hy := HSN.out
                  rw [if_pos (by omega)] at hy
                  have HY : Hid (scan (bf zs) m p (D + 1) = (n, D + 1)) := hy
                  clear hy HSN
                  go_wp2
                  refine ⟨⟨D + 1, by have := HG.out; have := HD.out; omega, by rw [HD.out]; simp, ?_, ?_, ?_⟩, by have := HG.out; simp [intOf]; omega⟩
                  · rw [HY.out, ← HD.out]
                    exact ((H6.out.set 0 _).set 1 _).set 2 _
                  · exact H4.out.kp (((kp_setCell _ (w.heap.size + 1) 0 _ (fun i => i = w.heap.size + 1) rfl).trans (kp_setCell _ (w.heap.size + 1) 1 _ (fun i => i = w.heap.size + 1) rfl) (fun _ _ e => e)).trans (kp_setCell _ (w.heap.size + 1) 2 _ (fun i => i = w.heap.size + 1) rfl) (fun _ _ e => e)) (by omega)
                  · exact HX.out.trans ((((kp_setCell _ (w.heap.size + 1) 0 _ (fun i => i = w.heap.size + 1) rfl).trans (kp_setCell _ (w.heap.size + 1) 1 _ (fun i => i = w.heap.size + 1) rfl) (fun _ _ e => e)).trans (kp_setCell _ (w.heap.size + 1) 2 _ (fun i => i = w.heap.size + 1) rfl) (fun _ _ e => e)).below HX.out.size (fun i e => by omega))
                · have hy := HSN.out
                  rw [if_neg (by omega)] at hy
                  have HY : Hid (scan (bf zs) m p (D + 1) = (sl, sd)) := hy
                  clear hy HSN
                  go_wp2
                  exact ⟨⟨D + 1, by have := HG.out; have := HD.out; omega, by rw [HD.out]; simp, by rw [HY.out]; exact H6.out, H4.out, HX.out⟩, by have := HG.out; simp [intOf]; omega⟩
              · have hy := HSN.out
                rw [if_neg (by omega)] at hy
                have HY : Hid (scan (bf zs) m p (D + 1) = (sl, sd)) := hy
                clear hy HSN
                go_wp2
                exact ⟨⟨D + 1, by have := HG.out; have := HD.out; omega, by rw [HD.out]; simp, by rw [HY.out]; exact H6.out, H4.out, HX.out⟩, by have := HG.out; simp [intOf]; omega⟩
          · obtain ⟨HNM⟩ : Nonempty (Hid (n = m)) := ⟨show n = m by omega⟩
            have d1 : decide ((n : Int) < (m : Int)) = false := by simp; omega
            have d2 : decide (n < m) = false := by simp; omega
            have d3 : ¬ (n : Int) < (m : Int) := by omega
            clear hlt hn
            go_wp2_with fail
            go_quiet (fail)
            have hcn : cnt (bf zs) p d m = n := cnt_eq HMT.out (by have := HNM.out; omega) (.inl HNM.out)
            have HSN : Hid (scan (bf zs) m p (D + 1) = if 3 ≤ n ∧ sl < n then (n, D + 1) else (sl, sd)) := by
              show (if 3 ≤ cnt (bf zs) p (D + 1) m ∧ (scan (bf zs) m p D).1 < cnt (bf zs) p (D + 1) m then (cnt (bf zs) p (D + 1) m, D + 1) else scan (bf zs) m p D) = _
              rw [← HSC.out, ← HD.out, hcn]
            generalize hX : wr.drewN nq = X
            have BQX : Below wo.heap.size wo X := by rw [← hX]; exact HBQ.out.trans ((drewN_kp (fun _ => False) _ _).below HBQ.out.size (fun _ x => x.elim))
            clear hX d1 d2 d3
            have hd9 : d ≤ 32768 := HG.out.1
            have T6 : St 25 X (w.heap.size + 1) #[.int .u8 0, .int .i64 (sl : Int), .int .i64 (sd : Int)] := HO6.out.below BQX HO6.out.lt
            have T4 : St 25 X w.heap.size #[.int .u8 0, .int .i64 0, .int .i64 0] := HO4.out.below BQX HO4.out.lt
            have TB : Below w.heap.size w X := HOB.out.trans (BQX.mono HOB.out.size)
            clear BQX
            have t0 : X.cell? ⟨w.heap.size + 1, 0, none⟩ = some (.int .u8 0) := T6.cell 0
            have t1 : X.cell? ⟨w.heap.size + 1, 1, none⟩ = some (.int .i64 (sl : Int)) := T6.cell 1
            have t2 : X.cell? ⟨w.heap.size + 1, 2, none⟩ = some (.int .i64 (sd : Int)) := T6.cell 2
            have g0 := T6.frozen 0
            have g1 := T6.frozen 1
            have g2 := T6.frozen 2
            have H6 : Hid (St 25 X (w.heap.size + 1) #[.int .u8 0, .int .i64 (sl : Int), .int .i64 (sd : Int)]) := T6
            have H4 : Hid (St 25 X w.heap.size #[.int .u8 0, .int .i64 0, .int .i64 0]) := T4
            have HX : Hid (Below w.heap.size w X) := TB
            clear hcn T6 T4 TB
            by_cases hA : (3 : Int) ≤ (n : Int)
            · by_cases hC : (sl : Int) < (n : Int)
              · have hy := HSN.out
                rw [if_pos (by omega)] at hy
                have HY : Hid (scan (bf zs) m p (D + 1) = (n, D + 1)) := hy
                clear hy HSN
                go_wp2
                refine ⟨⟨D + 1, by have := HG.out; have := HD.out; omega, by rw [HD.out]; simp, ?_, ?_, ?_⟩, by have := HG.out; simp [intOf]; omega⟩
                · rw [HY.out, ← HD.out]
                  exact ((H6.out.set 0 _).set 1 _).set 2 _
                · exact H4.out.kp (((kp_setCell _ (w.heap.size + 1) 0 _ (fun i => i = w.heap.size + 1) rfl).trans (kp_setCell _ (w.heap.size + 1) 1 _ (fun i => i = w.heap.size + 1) rfl) (fun _ _ e => e)).trans (kp_setCell _ (w.heap.size + 1) 2 _ (fun i => i = w.heap.size + 1) rfl) (fun _ _ e => e)) (by omega)
                · exact HX.out.trans ((((kp_setCell _ (w.heap.size + 1) 0 _ (fun i => i = w.heap.size + 1) rfl).trans (kp_setCell _ (w.heap.size + 1) 1 _ (fun i => i = w.heap.size + 1) rfl) (fun _ _ e => e)).trans (kp_setCell _ (w.heap.size + 1) 2 _ (fun i => i = w.heap.size + 1) rfl) (fun _ _ e => e)).below HX.out.size (fun i e => by omega))
              · have hy := HSN.out
                rw [if_neg (by omega)] at hy
                have HY : Hid (scan (bf zs) m p (D + 1) = (sl, sd)) := hy
                clear hy HSN
                go_wp2
                exact ⟨⟨D + 1, by have := HG.out; have := HD.out; omega, by rw [HD.out]; simp, by rw [HY.out]; exact H6.out, H4.out, HX.out⟩, by have := HG.out; simp [intOf]; omega⟩
            · have hy := HSN.out
              rw [if_neg (by omega)] at hy
              have HY : Hid (scan (bf zs) m p (D + 1) = (sl, sd)) := hy
              clear hy HSN
              go_wp2
              exact ⟨⟨D + 1, by have := HG.out; have := HD.out; omega, by rw [HD.out]; simp, by rw [HY.out]; exact H6.out, H4.out, HX.out⟩, by have := HG.out; simp [intOf]; omega⟩
      · by_cases q1 : (d : Int) ≤ 32768
        · by_cases q2 : (d : Int) ≤ (p : Int)
          · have q3 : ¬ (sl : Int) < (m : Int) := fun h => hgo ⟨q1, q2, h⟩
            clear hgo
            have HLN : Hid ((sl, sd) = lng (bf zs) zs.length p) := by
              show (sl, sd) = scan (bf zs) (mst zs.length p) p (min p 32768)
              rw [← HNE.out, ← HM.out, HSC.out]
              exact (scan_stay (by rw [← HSC.out]; show m ≤ sl; omega) _ HDP.out).symm
            have S4 := HO4.out
            have S6 := HO6.out
            clear HSC
            go_wp2_with fail
            have x0 : wr.cell? ⟨w.heap.size + 1, 0, none⟩ = some (.int .u8 0) := S6.cell 0
            have x2 : wr.cell? ⟨w.heap.size + 1, 2, none⟩ = some (.int .i64 (sd : Int)) := S6.cell 2
            have y0 : wr.cell? ⟨w.heap.size, 0, none⟩ = some (.int .u8 0) := S4.cell 0
            have y1 : wr.cell? ⟨w.heap.size, 1, none⟩ = some (.int .i64 0) := S4.cell 1
            have y2 : wr.cell? ⟨w.heap.size, 2, none⟩ = some (.int .i64 0) := S4.cell 2
            have f0 := S4.frozen 0
            have f1 := S4.frozen 1
            have f2 := S4.frozen 2
            clear S4 S6
            go_region_held3 (fun w' => w'.cell? ⟨w.heap.size + 1, 0, none⟩ = some (.int .u8 0) ∧ w'.cell? ⟨w.heap.size + 1, 1, none⟩ = some (.int .i64 (sl : Int)) ∧ w'.cell? ⟨w.heap.size + 1, 2, none⟩ = some (.int .i64 (sd : Int))) (first | (exact ⟨x0, x1, x2⟩) | go_keep) (fail)
            have hk : Kp (fun i => i = w.heap.size) wr (((wr.setCell ⟨w.heap.size, 0, none⟩ (.int .u8 0)).setCell ⟨w.heap.size, 1, none⟩ (.int .i64 (sl : Int))).setCell ⟨w.heap.size, 2, none⟩ (.int .i64 (sd : Int))) := ((kp_setCell wr w.heap.size 0 _ (fun i => i = w.heap.size) rfl).trans (kp_setCell _ w.heap.size 1 _ (fun i => i = w.heap.size) rfl) (fun _ _ e => e)).trans (kp_setCell _ w.heap.size 2 _ (fun i => i = w.heap.size) rfl) (fun _ _ e => e)
            have HBX : Hid (Below w.heap.size w (((wr.setCell ⟨w.heap.size, 0, none⟩ (.int .u8 0)).setCell ⟨w.heap.size, 1, none⟩ (.int .i64 (sl : Int))).setCell ⟨w.heap.size, 2, none⟩ (.int .i64 (sd : Int))).drew) := (HOB.out.trans (hk.below HOB.out.size (fun i e => by rw [e]; exact Nat.le_refl _))).drew
            clear hk
            go_wp2_with fail
            refine bodyPost_ret (v := .tuple #[.agg #[.int .u8 0, .int .i64 (sl : Int), .int .i64 (sd : Int)], .bool (decide (0 < sl))]) ?_ rfl ⟨by rw [← HLN.out]; rfl, HBX.out⟩
            rw [results_cell_tmp (p := 4) (u := 5) (ty := 25) rfl]
            go_simp
          · clear hgo
            have HLN : Hid ((sl, sd) = lng (bf zs) zs.length p) := by
              show (sl, sd) = scan (bf zs) (mst zs.length p) p (min p 32768)
              rw [← HNE.out, ← HM.out, HSC.out]
              rw [show min p 32768 = D by have := HD.out; have := HDP.out; omega]
            have S4 := HO4.out
            have S6 := HO6.out
            clear HSC
            go_wp2_with fail
            have x0 : wr.cell? ⟨w.heap.size + 1, 0, none⟩ = some (.int .u8 0) := S6.cell 0
            have x2 : wr.cell? ⟨w.heap.size + 1, 2, none⟩ = some (.int .i64 (sd : Int)) := S6.cell 2
            have y0 : wr.cell? ⟨w.heap.size, 0, none⟩ = some (.int .u8 0) := S4.cell 0
            have y1 : wr.cell? ⟨w.heap.size, 1, none⟩ = some (.int .i64 0) := S4.cell 1
            have y2 : wr.cell? ⟨w.heap.size, 2, none⟩ = some (.int .i64 0) := S4.cell 2
            have f0 := S4.frozen 0
            have f1 := S4.frozen 1
            have f2 := S4.frozen 2
            clear S4 S6
            go_region_held3 (fun w' => w'.cell? ⟨w.heap.size + 1, 0, none⟩ = some (.int .u8 0) ∧ w'.cell? ⟨w.heap.size + 1, 1, none⟩ = some (.int .i64 (sl : Int)) ∧ w'.cell? ⟨w.heap.size + 1, 2, none⟩ = some (.int .i64 (sd : Int))) (first | (exact ⟨x0, x1, x2⟩) | go_keep) (fail)
            have hk : Kp (fun i => i = w.heap.size) wr (((wr.setCell ⟨w.heap.size, 0, none⟩ (.int .u8 0)).setCell ⟨w.heap.size, 1, none⟩ (.int .i64 (sl : Int))).setCell ⟨w.heap.size, 2, none⟩ (.int .i64 (sd : Int))) := ((kp_setCell wr w.heap.size 0 _ (fun i => i = w.heap.size) rfl).trans (kp_setCell _ w.heap.size 1 _ (fun i => i = w.heap.size) rfl) (fun _ _ e => e)).trans (kp_setCell _ w.heap.size 2 _ (fun i => i = w.heap.size) rfl) (fun _ _ e => e)
            have HBX : Hid (Below w.heap.size w (((wr.setCell ⟨w.heap.size, 0, none⟩ (.int .u8 0)).setCell ⟨w.heap.size, 1, none⟩ (.int .i64 (sl : Int))).setCell ⟨w.heap.size, 2, none⟩ (.int .i64 (sd : Int))).drew) := (HOB.out.trans (hk.below HOB.out.size (fun i e => by rw [e]; exact Nat.le_refl _))).drew
            clear hk
            go_wp2_with fail
            refine bodyPost_ret (v := .tuple #[.agg #[.int .u8 0, .int .i64 (sl : Int), .int .i64 (sd : Int)], .bool (decide (0 < sl))]) ?_ rfl ⟨by rw [← HLN.out]; rfl, HBX.out⟩
            rw [results_cell_tmp (p := 4) (u := 5) (ty := 25) rfl]
            go_simp
        · clear hgo
          have HLN : Hid ((sl, sd) = lng (bf zs) zs.length p) := by
            show (sl, sd) = scan (bf zs) (mst zs.length p) p (min p 32768)
            rw [← HNE.out, ← HM.out, HSC.out]
            rw [show min p 32768 = D by have := HD.out; have := HDP.out; omega]
          have S4 := HO4.out
          have S6 := HO6.out
          clear HSC
          go_wp2_with fail
          have x0 : wr.cell? ⟨w.heap.size + 1, 0, none⟩ = some (.int .u8 0) := S6.cell 0
          have x2 : wr.cell? ⟨w.heap.size + 1, 2, none⟩ = some (.int .i64 (sd : Int)) := S6.cell 2
          have y0 : wr.cell? ⟨w.heap.size, 0, none⟩ = some (.int .u8 0) := S4.cell 0
          have y1 : wr.cell? ⟨w.heap.size, 1, none⟩ = some (.int .i64 0) := S4.cell 1
          have y2 : wr.cell? ⟨w.heap.size, 2, none⟩ = some (.int .i64 0) := S4.cell 2
          have f0 := S4.frozen 0
          have f1 := S4.frozen 1
          have f2 := S4.frozen 2
          clear S4 S6
          go_region_held3 (fun w' => w'.cell? ⟨w.heap.size + 1, 0, none⟩ = some (.int .u8 0) ∧ w'.cell? ⟨w.heap.size + 1, 1, none⟩ = some (.int .i64 (sl : Int)) ∧ w'.cell? ⟨w.heap.size + 1, 2, none⟩ = some (.int .i64 (sd : Int))) (first | (exact ⟨x0, x1, x2⟩) | go_keep) (fail)
          have hk : Kp (fun i => i = w.heap.size) wr (((wr.setCell ⟨w.heap.size, 0, none⟩ (.int .u8 0)).setCell ⟨w.heap.size, 1, none⟩ (.int .i64 (sl : Int))).setCell ⟨w.heap.size, 2, none⟩ (.int .i64 (sd : Int))) := ((kp_setCell wr w.heap.size 0 _ (fun i => i = w.heap.size) rfl).trans (kp_setCell _ w.heap.size 1 _ (fun i => i = w.heap.size) rfl) (fun _ _ e => e)).trans (kp_setCell _ w.heap.size 2 _ (fun i => i = w.heap.size) rfl) (fun _ _ e => e)
          have HBX : Hid (Below w.heap.size w (((wr.setCell ⟨w.heap.size, 0, none⟩ (.int .u8 0)).setCell ⟨w.heap.size, 1, none⟩ (.int .i64 (sl : Int))).setCell ⟨w.heap.size, 2, none⟩ (.int .i64 (sd : Int))).drew) := (HOB.out.trans (hk.below HOB.out.size (fun i e => by rw [e]; exact Nat.le_refl _))).drew
          clear hk
          go_wp2_with fail
          refine bodyPost_ret (v := .tuple #[.agg #[.int .u8 0, .int .i64 (sl : Int), .int .i64 (sd : Int)], .bool (decide (0 < sl))]) ?_ rfl ⟨by rw [← HLN.out]; rfl, HBX.out⟩
          rw [results_cell_tmp (p := 4) (u := 5) (ty := 25) rfl]
          go_simp
set_option maxRecDepth 100000 in
set_option maxHeartbeats 1000000 in
theorem rlongest_none (ao : Option Addr) (N cap : Nat) (p : Int) (w : World) (hp : p < 0 ∨ (N : Int) ≤ p) :
    Calls Try.prog 11 #[.slice ao N cap, .int .i64 p] w fun e w' => e = .returned (.tuple #[tkv (0, 0), .bool false]) ∧ Below w.heap.size w w' := by
  have HB2 : Hid (Below w.heap.size w ((w.alloc (.cells #[.int .u8 0, .int .i64 0, .int .i64 0] 25)).alloc (.cells #[.int .u8 0, .int .i64 0, .int .i64 0] 25))) := ((Below.refl _ _).alloc (Nat.le_refl _) _).alloc (by simp) _
  rcases hp with hp | hp
  · go_enter Try.func11, Try.ntmps11
    go_wp2
    refine bodyPost_ret (v := .tuple #[tkv (0, 0), .bool false]) ?_ rfl ⟨rfl, HB2.out⟩
    rw [results_cell_tmp (p := 4) (u := 5) (ty := 25) rfl]
    go_simp
    rfl
  · have hp0 : ¬ p < 0 := by omega
    go_enter Try.func11, Try.ntmps11
    go_wp2
    refine bodyPost_ret (v := .tuple #[tkv (0, 0), .bool false]) ?_ rfl ⟨rfl, HB2.out⟩
    rw [results_cell_tmp (p := 4) (u := 5) (ty := 25) rfl]
    go_simp
    rfl
/-- The reference's Longest, at a place up to the end. -/
theorem rlongest_any (zs : List Int) (ao : Option Addr) (N cap p : Nat) (q : Int) (hq : q = (p : Int)) (w : World) (hNe : N = zs.length) (hN : N ≤ 1048576) (hS : Src .u8 w ao zs) (hp : p ≤ N) (t1 t2 : Nat) (ht : lng (bf zs) zs.length p = (t1, t2)) (ok : Bool) (hok : decide (0 < t1) = ok) :
    Calls Try.prog 11 #[.slice ao N cap, .int .i64 q] w fun e w' => e = .returned (.tuple #[.agg #[.int .u8 0, .int .i64 (t1 : Int), .int .i64 (t2 : Int)], .bool ok]) ∧ Below w.heap.size w w' := by
  subst hq hok
  by_cases hlt : p < N
  · have h := rlongest_ok zs ao N cap p w hNe hN hS hlt
    rw [ht] at h
    exact h
  · have e : lng (bf zs) zs.length p = (0, 0) := lng_end _ _ _ (by omega)
    rw [ht] at e
    cases e
    exact rlongest_none ao N cap (p : Int) w (.inr (by omega))
end Go.Proofs.Ytofmoggejfopiaa
