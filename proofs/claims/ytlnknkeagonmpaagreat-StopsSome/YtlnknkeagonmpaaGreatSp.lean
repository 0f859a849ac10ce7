/- Fates in memory; a step takes the next one. -/
import Derived.Test.YtlnknkeagonmpaaGreatAl
namespace Go.Proofs.YtlnknkeagonmpaaGreat
open Go.RowKit

/-- A slice of fates. -/
def Fv (w : World) (fv : Value) (ft : List (Int × Int)) : Prop :=
  (fv = .slice none 0 0 ∧ ft = []) ∨ ∃ b o cap cs, fv = .slice (some ⟨b, o * 2, none⟩) ft.length cap ∧ w.heap[b]? = some (.cells cs 86 (0, 0)) ∧ ft.length ≤ cap ∧ cap ≤ 9223372036854775807 ∧ (o + cap) * 2 ≤ cs.size ∧
    ∀ i, i < ft.length → cs[(o + i) * 2]? = some (.int .i64 (ft.getD i (0, 0)).1) ∧ cs[(o + i) * 2 + 1]? = some (.int .i64 (ft.getD i (0, 0)).2)
theorem Fv.kp {F : Nat → Prop} {w w' : World} {fv : Value} {ft : List (Int × Int)} (h : Fv w fv ft) (k : Kp F w w') (hf : ∀ b, fv.ownBlock = some b → ¬ F b) : Fv w' fv ft := by
  rcases h with h | ⟨b, o, cap, cs, rfl, h2, h3⟩
  · exact .inl h
  · exact .inr ⟨b, o, cap, cs, rfl, (k.block b (Array.getElem?_eq_some_iff.1 h2).1 (hf b rfl)).trans h2, h3⟩
theorem Fv.lt {w : World} {fv : Value} {ft : List (Int × Int)} (h : Fv w fv ft) : ∀ b, fv.ownBlock = some b → b < w.heap.size := by
  intro b hb
  rcases h with ⟨h, _⟩ | ⟨b', o, cap, cs, rfl, h2, h3⟩
  · rw [h] at hb; cases hb
  · have : b' = b := by simpa [Value.ownBlock] using hb
    subst this
    exact (Array.getElem?_eq_some_iff.1 h2).1
theorem Fv.shape {w : World} {fv : Value} {ft : List (Int × Int)} (h : Fv w fv ft) : ∃ ao c, fv = .slice ao ft.length c := by
  rcases h with ⟨rfl, rfl⟩ | ⟨b, o, cap, cs, rfl, _⟩
  · exact ⟨none, 0, rfl⟩
  · exact ⟨_, _, rfl⟩
set_option maxRecDepth 100000 in
set_option maxHeartbeats 1000000 in
theorem step_nil (g : Nat) (mv : Value) (ao : Option Addr) (c steps : Nat) (w : World) (hs : St 58 w g #[mv, .slice ao 0 c, .int .i64 steps]) (hb : steps ≤ 1000000000000) :
    Calls Tryz.prog 34 #[.pointer (some ⟨g, 0, none⟩)] w fun e w' => e = .returned (.agg #[.int .i64 0, .int .i64 0]) ∧ St 58 w' g #[mv, .slice ao 0 c, .int .i64 ((steps + 1 : Nat) : Int)] ∧ Kp (fun i => i = g) w w' := by
  have hc1 : w.cell? ⟨g, 1, none⟩ = some (.slice ao 0 c) := hs.cell 1
  have hc2 : w.cell? ⟨g, 2, none⟩ = some (.int .i64 steps) := hs.cell 2
  have hf2 := hs.frozen 2
  have HS : Hid (St 58 w g #[mv, .slice ao 0 c, .int .i64 steps]) := hs
  have hl := hs.lt
  clear hs
  go_enter Tryz.func34, Tryz.ntmps34
  go_wp2
  refine bodyPost_ret (v := .agg #[.int .i64 0, .int .i64 0]) (by simp [results, Tryz.results34, go_sem]) rfl ⟨rfl, ?_, (kp_setCell w g 2 _ (fun i => i = g) rfl).alloc _⟩
  exact (HS.out.set 2 (.int .i64 ((steps : Int) + 1))).kp (F := fun _ => False) ((Kp.refl _ _).alloc _) (fun h => h)
set_option maxRecDepth 100000 in
set_option maxHeartbeats 1000000 in
theorem step_cons (g : Nat) (mv : Value) (b o cap steps n : Nat) (k0 n0 : Int) (w : World) (hs : St 58 w g #[mv, .slice (some ⟨b, o, none⟩) (n + 1) cap, .int .i64 steps]) (hb : steps ≤ 1000000000000) (hn : n + 1 ≤ cap) (hcap : cap ≤ 9223372036854775807)
    (h0 : w.cell? ⟨b, o, none⟩ = some (.int .i64 k0)) (h1 : w.cell? ⟨b, o + 1, none⟩ = some (.int .i64 n0)) (hbg : b ≠ g) :
    Calls Tryz.prog 34 #[.pointer (some ⟨g, 0, none⟩)] w fun e w' => e = .returned (.agg #[.int .i64 k0, .int .i64 n0]) ∧ St 58 w' g #[mv, .slice (some ⟨b, if cap = 1 then o else o + 2, none⟩) n (cap - 1), .int .i64 ((steps + 1 : Nat) : Int)] ∧ Kp (fun i => i = g) w w' := by
  have hc1 : w.cell? ⟨g, 1, none⟩ = some (.slice (some ⟨b, o, none⟩) (n + 1) cap) := hs.cell 1
  have hc2 : w.cell? ⟨g, 2, none⟩ = some (.int .i64 steps) := hs.cell 2
  have hf2 := hs.frozen 2
  have hf1 := hs.frozen 1
  have HS : Hid (St 58 w g #[mv, .slice (some ⟨b, o, none⟩) (n + 1) cap, .int .i64 steps]) := hs
  have hl := hs.lt
  have hbl := block_lt_of_cell h0
  have x0 : ∀ v, (w.setCell ⟨g, 2, none⟩ v).cell? ⟨b, o, none⟩ = some (.int .i64 k0) := fun v => kp_cell (kp_setCell w g 2 v (fun i => i = g) rfl) h0 hbg
  have x1 : ∀ v, (w.setCell ⟨g, 2, none⟩ v).cell? ⟨b, o + 1, none⟩ = some (.int .i64 n0) := fun v => kp_cell (kp_setCell w g 2 v (fun i => i = g) rfl) h1 hbg
  clear hs
  by_cases hcp : cap = 1
  · subst hcp
    obtain rfl : n = 0 := by omega
    go_enter Tryz.func34, Tryz.ntmps34
    go_wp2
    refine bodyPost_ret (v := .agg #[.int .i64 k0, .int .i64 n0]) (by simp [results, Tryz.results34, go_sem]) rfl ⟨rfl, ?_, (((kp_setCell w g 2 _ (fun i => i = g) rfl).trans (kp_setCell _ _ _ _ (fun i => i = g) rfl) (fun _ _ h => h)).alloc _).alloc _⟩
    exact ((HS.out.set 2 (.int .i64 ((steps : Int) + 1))).set 1 _).kp (F := fun _ => False) (((Kp.refl _ _).alloc _).alloc _) (fun h => h)
  · rw [if_neg hcp]
    go_enter Tryz.func34, Tryz.ntmps34
    go_wp2
    refine bodyPost_ret (v := .agg #[.int .i64 k0, .int .i64 n0]) (by simp [results, Tryz.results34, go_sem]) rfl ⟨rfl, ?_, (((kp_setCell w g 2 _ (fun i => i = g) rfl).trans (kp_setCell _ _ _ _ (fun i => i = g) rfl) (fun _ _ h => h)).alloc _).alloc _⟩
    exact ((HS.out.set 2 (.int .i64 ((steps : Int) + 1))).set 1 _).kp (F := fun _ => False) (((Kp.refl _ _).alloc _).alloc _) (fun h => h)
/-- A step: the next fate, or a good one. -/
theorem step_any (g : Nat) (mv fv : Value) (steps : Nat) (ft : List (Int × Int)) (w : World) (hs : St 58 w g #[mv, fv, .int .i64 steps]) (hb : steps ≤ 1000000000000) (hf : Fv w fv ft) (hg : fv.ownBlock ≠ some g) :
    Calls Tryz.prog 34 #[.pointer (some ⟨g, 0, none⟩)] w fun e w' => e = .returned (.agg #[.int .i64 (ft.headD (0, 0)).1, .int .i64 (ft.headD (0, 0)).2]) ∧ ∃ fv', St 58 w' g #[mv, fv', .int .i64 ((steps + 1 : Nat) : Int)] ∧ Fv w' fv' ft.tail ∧ fv'.ownBlock = fv.ownBlock ∧ Kp (fun i => i = g) w w' := by
  cases ft with
  | nil =>
    obtain ⟨ao, c, rfl⟩ := hf.shape
    refine (step_nil g mv ao c steps w hs hb).mono ?_
    rintro e w' ⟨rfl, h1, h2⟩
    exact ⟨rfl, _, h1, hf.kp h2 (fun b hb e => hg (e ▸ hb)), rfl, h2⟩
  | cons f ft =>
    rcases hf with ⟨_, h⟩ | ⟨b, o, cap, cs, rfl, h2, h3, h4, h5, h6⟩
    · cases h
    · have hbg : b ≠ g := fun e => hg (by rw [← e]; rfl)
      obtain ⟨q0, q1⟩ := h6 0 (by simp)
      rw [show o + 0 = o from rfl] at q0 q1
      have p0 : w.cell? ⟨b, o * 2, none⟩ = some (.int .i64 f.1) := (cell_of_row w b (o * 2) _ 86 _ h2).trans (by rw [q0]; rfl)
      have p1 : w.cell? ⟨b, o * 2 + 1, none⟩ = some (.int .i64 f.2) := (cell_of_row w b (o * 2 + 1) _ 86 _ h2).trans (by rw [q1]; rfl)
      refine (step_cons g mv b (o * 2) cap steps ft.length f.1 f.2 w hs hb (by simpa using h3) h4 p0 p1 hbg).mono ?_
      rintro e w' ⟨rfl, h7, h8⟩
      refine ⟨rfl, _, h7, .inr ?_, rfl, h8⟩
      have hh := (h8.block b (Array.getElem?_eq_some_iff.1 h2).1 hbg).trans h2
      by_cases hc : cap = 1
      · have hl : ft.length = 0 := by simp at h3; omega
        obtain rfl : ft = [] := List.eq_nil_of_length_eq_zero hl
        exact ⟨b, o, cap - 1, cs, by rw [if_pos hc]; rfl, hh, by simp, by omega, by omega, fun i hi => by simp at hi⟩
      · refine ⟨b, o + 1, cap - 1, cs, by rw [if_neg hc, show (o + 1) * 2 = o * 2 + 2 by omega]; rfl, hh, by simp at h3; show ft.length ≤ cap - 1; omega, by omega, by simp at h3; omega, fun i hi => ?_⟩
        have := h6 (i + 1) (by simp at hi ⊢; omega)
        rw [show o + 1 + i = o + (i + 1) by omega]
        simpa [List.getD_cons_succ] using this
end Go.Proofs.YtlnknkeagonmpaaGreat
