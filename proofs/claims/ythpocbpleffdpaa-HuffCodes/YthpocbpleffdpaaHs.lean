/- Swap of a pile. -/
import Derived.Test.YthpocbpleffdpaaHb
import Derived.BigRegion
import Derived.RegionTactic
namespace Go.Proofs.Ythpocbpleffdpaa
open Go.RowKit

set_option maxHeartbeats 4000000 in
theorem swap_raw (w : World) (B g n cap i j : Nat) (fv : Value) (x y : Nat) (st : St 127 w B #[.slice (some ⟨g, 0, none⟩) n cap, fv]) (hi : i < n) (hj : j < n)
    (ci : w.cell? ⟨g, i, none⟩ = some (ptr x)) (cj : w.cell? ⟨g, j, none⟩ = some (ptr y)) (fi : w.frozen? ⟨g, i, none⟩ = false) (fj : w.frozen? ⟨g, j, none⟩ = false) :
    Calls Try.prog 114 #[ptr B, .int .i64 i, .int .i64 j] w fun e w' => e = .returned (.tuple #[]) ∧ ∃ q, w' = ((w.setCell ⟨g, i, none⟩ (ptr y)).setCell ⟨g, j, none⟩ (ptr x)).drewN q := by
  obtain ⟨v', hy'⟩ := cell?_setCell_some (w := w) (p := ⟨g, i, none⟩) (x := ptr y) (q := ⟨g, j, none⟩) cj
  have h1 := st.cell 0
  simp at h1
  clear st
  unfold ptr at *
  go_enter Try.func114, Try.ntmps114
  go_wp2
  go_region
  all_goals (try go_wp2)
  all_goals go_end0
  all_goals exact ⟨rfl, 1, rfl⟩

theorem lsw_map (L : List Nat) (i j : Nat) : (lsw L i j).map ptr = ((L.map ptr).set i (ptr (L.getD j 0))).set j (ptr (L.getD i 0)) := by simp [lsw, List.map_set]
theorem swap_any (c : Nat → Nat) (w : World) (base B : Nat) (v fv : Value) (L : List Nat) (h : Pil c w base B v fv L) (i j : Nat) (hi : i < L.length) (hj : j < L.length) :
    Calls Try.prog 114 #[ptr B, .int .i64 i, .int .i64 j] w fun e w' => e = .returned (.tuple #[]) ∧ Pil c w' base B v fv (lsw L i j) ∧ Kp (fun k => v.ownBlock = some k) w w' := by
  obtain ⟨g, cap, rfl, hb, hgl, hc1, hc2, hcells, hfr⟩ := h.row (by omega)
  refine (swap_raw w B g L.length cap i j fv (L.getD i 0) (L.getD j 0) h.st hi hj (hcells i hi) (hcells j hj) (hfr i) (hfr j)).mono ?_
  rintro e w' ⟨rfl, q, rfl⟩
  have hgn := h.ne g rfl
  obtain ⟨o1, _⟩ := h.own.stored i (ptr (L.getD j 0))
  obtain ⟨o2, _⟩ := o1.stored j (ptr (L.getD i 0))
  rw [← lsw_map, ← lsw_length L i j] at o2
  have k1 := kp_setCell w g i (ptr (L.getD j 0)) (fun k => (Value.slice (some ⟨g, 0, none⟩) L.length cap).ownBlock = some k) rfl
  have k2 := kp_setCell (w.setCell ⟨g, i, none⟩ (ptr (L.getD j 0))) g j (ptr (L.getD i 0)) (fun k => (Value.slice (some ⟨g, 0, none⟩) L.length cap).ownBlock = some k) rfl
  have k := k1.trans k2 (fun i _ h => h)
  have hF : ∀ b, (Value.slice (some ⟨g, 0, none⟩) L.length cap).ownBlock = some b → b = g := fun b hb => by simp [Value.ownBlock] at hb; omega
  have hp := lsw_perm L i j hi hj
  have P1 : Pil c ((w.setCell ⟨g, i, none⟩ (ptr (L.getD j 0))).setCell ⟨g, j, none⟩ (ptr (L.getD i 0))) base B (.slice (some ⟨g, 0, none⟩) L.length cap) fv (lsw L i j) :=
    ⟨h.st.kp k (fun e => hgn.1 (hF B e).symm), by rw [lsw_length] at o2 ⊢; exact o2, fun b hb => (h.tr b (hp.mem_iff.1 hb)).kp k (fun e => hgn.2 (by rw [← hF b e]; exact hp.mem_iff.1 hb)), fun g' e => ⟨(h.ne g' e).1, fun hm => (h.ne g' e).2 (hp.mem_iff.1 hm)⟩, fun hm => h.nb (hp.mem_iff.1 hm)⟩
  exact ⟨rfl, P1.kp (drewN_kp (fun _ => False) _ q) (fun h => h) (fun _ _ h => h) (fun _ _ h => h), k.trans (drewN_kp (fun _ => False) _ q) (fun _ _ h => h.elim)⟩
end Go.Proofs.Ythpocbpleffdpaa
