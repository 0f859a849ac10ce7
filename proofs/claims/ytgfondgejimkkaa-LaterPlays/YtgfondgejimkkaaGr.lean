/- later: greater, greatest. -/
import Derived.Test.YtgfondgejimkkaaTn
import Derived.Deep.RegionHeld3
namespace Go.Proofs.Ytgfondgejimkkaa
open Go.RowKit
set_option linter.unusedVariables false
set_option linter.unusedSimpArgs false
/-- Which of two is the greater. -/
def grt (x y : Rn) : Bool := decide (y.n < x.n) || (decide (x.n = y.n) && decide (x.a < y.a))
theorem two_new (w : World) (a b : Array Value) : St 38 ((w.alloc (.cells a 38)).alloc (.cells b 38)).drew w.heap.size a ∧ St 38 ((w.alloc (.cells a 38)).alloc (.cells b 38)).drew (w.heap.size + 1) b ∧ Kp (fun _ => False) w ((w.alloc (.cells a 38)).alloc (.cells b 38)).drew := by
  have h1 := (St.new 38 w a).kp ((Kp.refl (fun _ => False) _).alloc (.cells b 38)).drew (fun h => h)
  have h2 := (St.new 38 (w.alloc (.cells a 38)) b).kp (Kp.refl (fun _ => False) _).drew (fun h => h)
  rw [World.size_alloc] at h2
  exact ⟨h1, h2, (((Kp.refl _ _).alloc _).alloc _).drew⟩
set_option maxRecDepth 100000 in
set_option maxHeartbeats 8000000 in
theorem greater_any (c : Nat → Rn) (w : World) (base B : Nat) (v : Value) (L : List Nat) (h : Ln c w base B v L) (i j : Nat) (hi : i < L.length) (hj : j < L.length) :
    Calls Try.prog 64 #[ptr B, .int .i64 i, .int .i64 j] w fun e w' => e = .returned (.bool (grt (c (L.getD i 0)) (c (L.getD j 0)))) ∧ Kp (fun _ => False) w w' := by
  have HEA : Hid (∀ U, Kp (fun _ => False) w U → Calls Try.prog 65 #[.pointer (some ⟨B, 0, none⟩), .int .i64 i, .int .i64 j] U fun e w' => e = .returned (.bool (decide ((c (L.getD i 0)).a < (c (L.getD j 0)).a))) ∧ Kp (fun _ => False) U w') := fun U hU => (earlier_any c U base B v L (h.kp0 hU) i j hi hj).mono (by
    rintro e w' ⟨rfl, q, rfl⟩
    have mi := h.may _ (gn_mem hi)
    have mj := h.may _ (gn_mem hj)
    have e : decide (kf (key c) L i < kf (key c) L j) = decide ((c (L.getD i 0)).a < (c (L.getD j 0)).a) := by
      unfold kf key
      unfold Mayr at mi mj
      exact decide_eq_decide.2 (by omega)
    exact ⟨by rw [e], drewN_kp _ _ _⟩)
  obtain ⟨g, cap, hv, hb, hgl, hc1, hc2, hcells, hfr⟩ := h.row (by omega)
  have ti := h.tr i hi
  have tj := h.tr j hj
  unfold maxLen at hc2
  obtain ⟨n, hn⟩ : ∃ n, n = L.length := ⟨_, rfl⟩
  rw [← hn] at hi hj hv hc1
  unfold grt
  have HS : Hid (∀ U, Kp (fun _ => False) w U → (fun U : World => U.cell? ⟨B, 0, none⟩ = some (.slice (some ⟨g, 0, none⟩) n cap) ∧ U.cell? ⟨g, i, none⟩ = some (.pointer (some ⟨L.getD i 0, 0, none⟩)) ∧ U.cell? ⟨g, j, none⟩ = some (.pointer (some ⟨L.getD j 0, 0, none⟩)) ∧ U.cell? ⟨L.getD i 0, 0, none⟩ = some (.int .i64 (c (L.getD i 0)).a) ∧ U.cell? ⟨L.getD i 0, 1, none⟩ = some (.int .i64 (c (L.getD i 0)).n) ∧ U.cell? ⟨L.getD j 0, 0, none⟩ = some (.int .i64 (c (L.getD j 0)).a) ∧ U.cell? ⟨L.getD j 0, 1, none⟩ = some (.int .i64 (c (L.getD j 0)).n)) U) := fun U hU =>
    ⟨by have := (h.st.kp hU (fun h => h)).cell 0; rw [hv] at this; exact this, kp_cell hU (hcells i (by omega)) (fun h => h), kp_cell hU (hcells j (by omega)) (fun h => h), (St.kp ti hU (fun h => h)).cell 0, (St.kp ti hU (fun h => h)).cell 1, (St.kp tj hU (fun h => h)).cell 0, (St.kp tj hU (fun h => h)).cell 1⟩
  have HF : Hid (∀ U, Kp (fun _ => False) w U → U.cell? ⟨B, 1, none⟩ = some (.func (.func 65) #[.pointer (some ⟨B, 0, none⟩)] #[])) := fun U hU => (h.st.kp hU (fun h => h)).cell 1
  clear h hcells hfr ti tj hn hv
  generalize L.getD i 0 = x at *
  generalize L.getD j 0 = y at *
  generalize (c x).a = xa at *
  generalize (c x).n = xn at *
  generalize (c y).a = ya at *
  generalize (c y).n = yn at *
  unfold ptr
  go_enter Try.func64, Try.ntmps64
  generalize hC2 : Code.region 2 _ _ = C2
  generalize hC1 : Code.region 1 _ _ = C1
  go_wp2_with fail
  subst hC1
  have cc := HS.out w.drew (Kp.refl (fun _ => False) w).drew
  go_region_held3 (fun U : World => U.cell? ⟨B, 0, none⟩ = some (.slice (some ⟨g, 0, none⟩) n cap) ∧ U.cell? ⟨g, i, none⟩ = some (.pointer (some ⟨x, 0, none⟩)) ∧ U.cell? ⟨g, j, none⟩ = some (.pointer (some ⟨y, 0, none⟩)) ∧ U.cell? ⟨x, 0, none⟩ = some (.int .i64 xa) ∧ U.cell? ⟨x, 1, none⟩ = some (.int .i64 xn) ∧ U.cell? ⟨y, 0, none⟩ = some (.int .i64 ya) ∧ U.cell? ⟨y, 1, none⟩ = some (.int .i64 yn)) (first | exact cc | exact HS.out _ ((Kp.refl (fun _ => False) w).drew.alloc _) | exact HS.out _ (((Kp.refl (fun _ => False) w).drew.alloc _).alloc _)) (fail)
  · obtain ⟨s1, s2, k2⟩ := two_new w #[.int .i64 xa, .int .i64 xn] #[.int .i64 ya, .int .i64 yn]
    have K2 := hid k2
    have hf := HF.out _ k2
    generalize ((w.alloc (.cells #[.int .i64 xa, .int .i64 xn] 38)).alloc (.cells #[.int .i64 ya, .int .i64 yn] 38)).drew = W2 at *
    clear HS HF cc
    obtain ⟨p, hp⟩ : ∃ p, p = w.heap.size := ⟨_, rfl⟩
    obtain ⟨q, hq⟩ : ∃ q, q = w.heap.size + 1 := ⟨_, rfl⟩
    rw [← hp] at s1 s2 ⊢
    rw [show p + 1 = q by omega] at s2 ⊢
    have y1 : W2.cell? ⟨p, 1, none⟩ = some (.int .i64 xn) := s1.cell 1
    have y2 : W2.cell? ⟨q, 1, none⟩ = some (.int .i64 yn) := s2.cell 1
    clear s1 s2 k2 hp hq
    by_cases h1 : yn < xn
    · go_wp2_with fail
      subst hC2
      go_wp2_with fail
      go_ret
      exact ⟨by simp [h1], K2.out⟩
    · by_cases h2 : xn = yn
      · subst h2
        have HE := hid (HEA.out W2 K2.out)
        go_wp2_with fail
        subst hC2
        go_wp2_with (first | (go_at_call 65; refine HE.out.mono ?_; rintro e w4 ⟨rfl, k4⟩; have K4 := hid k4; clear k4))
        go_ret
        exact ⟨by simp, K2.out.trans K4.out (fun _ _ h => h)⟩
      · go_wp2_with fail
        subst hC2
        go_wp2_with fail
        go_ret
        exact ⟨by simp [h1, h2], K2.out⟩
  · obtain ⟨s1, s2, k2⟩ := two_new w #[.int .i64 ya, .int .i64 yn] #[.int .i64 xa, .int .i64 xn]
    have K2 := hid k2
    have hf := HF.out _ k2
    generalize ((w.alloc (.cells #[.int .i64 ya, .int .i64 yn] 38)).alloc (.cells #[.int .i64 xa, .int .i64 xn] 38)).drew = W2 at *
    clear HS HF cc
    obtain ⟨p, hp⟩ : ∃ p, p = w.heap.size := ⟨_, rfl⟩
    obtain ⟨q, hq⟩ : ∃ q, q = w.heap.size + 1 := ⟨_, rfl⟩
    rw [← hp] at s1 s2 ⊢
    rw [show p + 1 = q by omega] at s2 ⊢
    have y1 : W2.cell? ⟨p, 1, none⟩ = some (.int .i64 yn) := s1.cell 1
    have y2 : W2.cell? ⟨q, 1, none⟩ = some (.int .i64 xn) := s2.cell 1
    clear s1 s2 k2 hp hq
    by_cases h1 : yn < xn
    · go_wp2_with fail
      subst hC2
      go_wp2_with fail
      go_ret
      exact ⟨by simp [h1], K2.out⟩
    · by_cases h2 : xn = yn
      · subst h2
        have HE := hid (HEA.out W2 K2.out)
        go_wp2_with fail
        subst hC2
        go_wp2_with (first | (go_at_call 65; refine HE.out.mono ?_; rintro e w4 ⟨rfl, k4⟩; have K4 := hid k4; clear k4))
        go_ret
        exact ⟨by simp, K2.out.trans K4.out (fun _ _ h => h)⟩
      · go_wp2_with fail
        subst hC2
        go_wp2_with fail
        go_ret
        exact ⟨by simp [h1, h2], K2.out⟩
end Go.Proofs.Ytgfondgejimkkaa
