/- regions: place, begins. -/
import Derived.Test.YtopnfjgkgoeleaaNb
import Derived.BigQuiet
import Derived.Deep.RegionHeld3
namespace Go.Proofs.Ytopnfjgkgoeleaa
open Go.RowKit
set_option linter.unusedVariables false
set_option linter.unusedSimpArgs false
def plI (L : List Rn) (x : Rn) : Int := if plE L x = 0 then ((bey L x.a : Nat) : Int) else 0
set_option maxRecDepth 100000 in
set_option maxHeartbeats 4000000 in
theorem place_any (L : List Rn) (ao : Option Addr) (n c : Nat) (x : Rn) (w : World) (hn : n = L.length) (hc : n ≤ c) (hn2 : n ≤ 65536) (hS : Srcr w ao L) (hL : Srt L) (hx : Mayr x) :
    Calls Try.prog 60 #[.slice ao n c, .agg x.cs] w fun e w' => e = .returned (.tuple #[.int .i64 (plI L x), .int .i64 (plE L x)]) ∧ Below w.heap.size w w' := by
  have HN := hid hn
  have HS := hid hS
  have HL := hid hL
  have HX := hid hx
  clear hn hS hL hx
  have HBY : Hid (∀ W, Below w.heap.size w W → Calls Try.prog 59 #[.slice ao n c, .int .i64 x.a] W fun e w' => e = .returned (.int .i64 ((bey L x.a : Nat) : Int)) ∧ Below W.heap.size W w') := fun W hW => beyond_any L ao n c x.a W HN.out hc (by omega) (HS.out.below hW) HL.out
  have HE : Hid (∀ W, Calls Try.prog 42 #[.agg x.cs] W fun e w' => e = .returned (.int .i64 x.e) ∧ Below W.heap.size W w') := fun W => end_any x W HX.out
  have b0 : Below w.heap.size w (w.alloc (.cells x.cs 46)) := (Below.refl _ _).alloc (Nat.le_refl _) _
  have n0 := Rn.B.new w x
  have z0 : (w.alloc (.cells x.cs 46)).heap.size = w.heap.size + 1 := World.size_alloc _ _
  obtain ⟨R, hR⟩ : ∃ R, R = w.heap.size := ⟨_, rfl⟩
  by_cases hfull : n = 65536
  · subst hfull
    have HP : Hid (plE L x = 6 ∧ plI L x = 0) := by
      have : plE L x = 6 := by unfold plE; rw [if_pos HN.out.symm]
      exact ⟨this, by unfold plI; rw [if_neg (by omega)]⟩
    unfold Rn.cs at b0 ⊢
    go_enter Try.func60, Try.ntmps60
    go_wp2_with fail
    go_ret2
    exact ⟨by rw [HP.out.1, HP.out.2]; rfl, b0⟩
  · obtain ⟨i, hi⟩ : ∃ i, i = bey L x.a := ⟨_, rfl⟩
    rw [← hi] at HBY
    have hile : i ≤ n := by rw [hi]; have := bey_le L x.a; have := HN.out; omega
    by_cases hlt : i < n
    · obtain ⟨y, hy⟩ : ∃ y, y = L.getD i zRn := ⟨_, rfl⟩
      have HP : Hid (plE L x = (if y.a < x.e then 220 else 0) ∧ plI L x = (if y.a < x.e then 0 else (i : Int))) := by
        have : plE L x = (if y.a < x.e then 220 else 0) := by
          unfold plE
          rw [if_neg (by have := HN.out; omega), ← hi, ← hy]
          by_cases h : y.a < x.e
          · rw [if_pos ⟨by have := HN.out; omega, h⟩, if_pos h]
          · rw [if_neg (fun z => h z.2), if_neg h]
        refine ⟨this, ?_⟩
        unfold plI
        rw [this, ← hi]
        by_cases h : y.a < x.e <;> simp [h]
      have HI := hid hi
      have HYY := hid hy
      clear hi hy
      have HX2 := HX
      obtain ⟨xk, xa, xn⟩ := x
      simp only [Rn.cs] at *
      generalize hxe : Rn.e ⟨xk, xa, xn⟩ = xe at *
      have HXE := hid hxe
      clear hxe
      go_enter Try.func60, Try.ntmps60
      go_wp2_with fail
      rw [← hR] at z0 b0 n0 ⊢
      have HR := hid hR
      clear hR
      have r0 := n0.cell 0
      have r1 := n0.cell 1
      have r2 := n0.cell 2
      simp only [Rn.cs, List.getElem?_toArray, List.getElem?_cons_zero, List.getElem?_cons_succ] at r0 r1 r2
      generalize w.alloc (.cells #[.int .i64 xk, .int .i64 xa, .int .i64 xn] 46) = W at *
      go_wp2_with (first | (go_at_call 59; refine (HBY.out _ (by rw [← HR.out]; exact b0)).mono ?_; rintro e w1 ⟨rfl, b1⟩))
      have b01 : Below R w w1 := b0.trans (b1.mono (by omega))
      have HS1 := HS.out.below (by rw [← HR.out]; exact b01)
      obtain ⟨gb, off, rfl, hgb, y0, y1, y2⟩ := HS1.at (i := i) (by have := HN.out; omega)
      rw [← HYY.out] at y0 y1 y2
      have s0 : w1.cell? ⟨R, 0, none⟩ = some (.int .i64 xk) := by rw [b1.cell (by show R < _; omega)]; exact r0
      have s1 : w1.cell? ⟨R, 1, none⟩ = some (.int .i64 xa) := by rw [b1.cell (by show R < _; omega)]; exact r1
      have s2 : w1.cell? ⟨R, 2, none⟩ = some (.int .i64 xn) := by rw [b1.cell (by show R < _; omega)]; exact r2
      have hlt2 : decide (i < n) = true := by simp [hlt]
      have cc : (fun U : World => U.cell? ⟨gb, off + i * 3 + 1, none⟩ = some (.int .i64 y.a) ∧ U.cell? ⟨R, 0, none⟩ = some (.int .i64 xk) ∧ U.cell? ⟨R, 1, none⟩ = some (.int .i64 xa) ∧ U.cell? ⟨R, 2, none⟩ = some (.int .i64 xn)) w1.drew := ⟨y1, s0, s1, s2⟩
      have hRs : R < w1.heap.size := by have := b1.size; omega
      have HKE : Hid (∀ U, Below w1.heap.size w1 U → (fun U : World => U.cell? ⟨gb, off + i * 3 + 1, none⟩ = some (.int .i64 y.a) ∧ U.cell? ⟨R, 0, none⟩ = some (.int .i64 xk) ∧ U.cell? ⟨R, 1, none⟩ = some (.int .i64 xa) ∧ U.cell? ⟨R, 2, none⟩ = some (.int .i64 xn)) U) := fun U h => ⟨by rw [h.cell (by show gb < _; omega)]; exact y1, by rw [h.cell (by show R < _; omega)]; exact s0, by rw [h.cell (by show R < _; omega)]; exact s1, by rw [h.cell (by show R < _; omega)]; exact s2⟩
      have B01 := hid b01
      clear r0 r1 r2 b0 n0 y0 y1 y2 s0 s1 s2 b1 b01 HS1
      go_region_held3 (fun U : World => U.cell? ⟨gb, off + i * 3 + 1, none⟩ = some (.int .i64 y.a) ∧ U.cell? ⟨R, 0, none⟩ = some (.int .i64 xk) ∧ U.cell? ⟨R, 1, none⟩ = some (.int .i64 xa) ∧ U.cell? ⟨R, 2, none⟩ = some (.int .i64 xn)) (first | exact cc | exact cd) (first | (go_at_call 42; refine (HE.out _).mono ?_; rintro e w2 ⟨rfl, b2⟩; have B2 : Hid (Below w1.heap.size w1 w2) := ⟨b2.os, b2.tape, b2.output, b2.size, b2.block⟩; have cd := HKE.out w2 B2.out; clear b2))
      by_cases hya : y.a < xe
      · go_wp2_with fail
        go_ret2
        exact ⟨by rw [HP.out.1, HP.out.2, if_pos hya, if_pos hya]; rfl, by rw [← HR.out]; exact B01.out.trans (B2.out.mono (by omega))⟩
      · go_wp2_with fail
        go_ret2
        exact ⟨by rw [HP.out.1, HP.out.2, if_neg (Int.not_lt.2 hya), if_neg (Int.not_lt.2 hya)]; rfl, by rw [← HR.out]; exact B01.out.trans (B2.out.mono (by omega))⟩
    · have HP : Hid (plE L x = 0 ∧ plI L x = (i : Int)) := by
        have : plE L x = 0 := by
          unfold plE
          rw [if_neg (by have := HN.out; omega), ← hi, if_neg (fun z => by have := HN.out; omega)]
        exact ⟨this, by unfold plI; rw [this, ← hi]; simp⟩
      have HI := hid hi
      clear hi
      have hin : decide (i < n) = false := by simp; omega
      have hin2 : decide ((i : Int) < (n : Int)) = false := by simp; omega
      obtain ⟨xk, xa, xn⟩ := x
      simp only [Rn.cs] at *
      go_enter Try.func60, Try.ntmps60
      go_wp2_with fail
      rw [← hR] at z0 b0 n0 ⊢
      have HR := hid hR
      clear hR
      have r1 := n0.cell 1
      simp only [Rn.cs, List.getElem?_toArray, List.getElem?_cons_zero, List.getElem?_cons_succ] at r1
      generalize w.alloc (.cells #[.int .i64 xk, .int .i64 xa, .int .i64 xn] 46) = W at *
      go_wp2_with (first | (go_at_call 59; refine (HBY.out _ (by rw [← HR.out]; exact b0)).mono ?_; rintro e w1 ⟨rfl, b1⟩))
      have B01 : Hid (Below R w w1) := b0.trans (b1.mono (by omega))
      clear r1 b0 n0 b1
      go_quiet (fail)
      go_wp2_with fail
      go_ret2
      exact ⟨by rw [HP.out.1, HP.out.2]; rfl, by rw [← HR.out]; exact B01.out.trans ((drewN_kp (fun _ => False) w1 _).below (by have := B01.out.size; have := HR.out; omega) (fun _ x => x.elim))⟩
end Go.Proofs.Ytopnfjgkgoeleaa
