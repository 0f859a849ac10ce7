/- granules: sized. -/
import Derived.Test.YteenlifdamhffaaDoorNd
import Derived.Test.YteenlifdamhffaaDoorCp
namespace Go.Proofs.YteenlifdamhffaaDoor
open Go.RowKit
set_option linter.unusedVariables false
set_option linter.unusedSimpArgs false
theorem info102s : (Tryd.prog.info? 102).map (·.size) = some 1 := by kernel_rfl
/-- So many words of a row, noughts behind it. -/
def cutw (ws : List Nat) (k : Nat) : List Nat := ws.take k ++ List.replicate (k - ws.length) 0
theorem cutw_len (ws : List Nat) (k : Nat) : (cutw ws k).length = k := by
  unfold cutw
  simp
  omega
theorem cutw_get (ws : List Nat) (k i : Nat) (h : i < k) : (cutw ws k).getD i 0 = ws.getD i 0 := by
  unfold cutw
  simp only [List.getD_eq_getElem?_getD]
  by_cases h1 : i < ws.length
  · rw [List.getElem?_append_left (by simp; omega), List.getElem?_take_of_lt h]
  · rw [List.getElem?_append_right (by simp; omega), List.getElem?_eq_none (l := ws) (by omega), List.getElem?_replicate]
    split <;> rfl
theorem cutw_W {ws : List Nat} (h : W64 ws) (k : Nat) : W64 (cutw ws k) := by
  intro x hx
  unfold cutw at hx
  rcases List.mem_append.1 hx with h1 | h1
  · exact h x (List.mem_of_mem_take h1)
  · rw [(List.mem_replicate.1 h1).2]; decide
theorem cutw_dty (ws : List Nat) (k g : Nat) : dty (cutw ws k) g = (dty ws g && decide (g < 64 * k)) := by
  by_cases h : g < 64 * k
  · rw [decide_eq_true h, Bool.and_true]
    unfold dty
    rw [cutw_get _ _ _ (by omega)]
  · rw [decide_eq_false h, Bool.and_false]
    exact dty_far (by rw [cutw_len]; omega)
theorem cutw_splice (ws : List Nat) (k : Nat) : splice (List.replicate k (0 : Int)) 0 (up (ws.take k)) = up (cutw ws k) := by
  unfold splice cutw up
  simp
  omega
theorem nwd_fact (n : Nat) : n ≤ nwd n * 64 ∧ nwd n * 64 ≤ n + 63 := by unfold nwd; omega
set_option maxRecDepth 100000 in
set_option maxHeartbeats 2000000 in
theorem sized_any (r L c many : Nat) (ws : List Nat) (w : World) (hL : L = ws.length) (hW : W64 ws) (hb : ws.length ≤ 1000000000) (hm : many ≤ 1000000000) (hr : Rw .u64 102 w r (up ws)) :
    Calls Tryd.prog 45 #[.slice (some ⟨r, 0, none⟩) L c, .int .i64 many] w fun e w' => ∃ b, e = .returned (.slice (some ⟨b, 0, none⟩) (nwd many) (nwd many)) ∧ w.heap.size ≤ b ∧ Kp (fun _ => False) w w' ∧ ∃ ws', ws'.length = nwd many ∧ W64 ws' ∧ (∀ g, dty ws' g = (dty ws g && decide (g < many))) ∧ Rw .u64 102 w' b (up ws') := by
  have HNR := hid (newrow_any many hm w)
  obtain ⟨k, hk⟩ : ∃ k, nwd many = k := ⟨_, rfl⟩
  have hkf := nwd_fact many
  rw [hk] at HNR hkf ⊢
  have HL := hid hL
  have HR := hid hr
  have HW := hid hW
  have HB := hid hb
  have hkb : k ≤ 1000000000 := by omega
  have HKF := hid hkf
  clear hr hL hW hb hkf hk
  go_enter Tryd.func45, Tryd.ntmps45
  go_wp2_with fail
  refine HNR.out.mono ?_
  rintro _ w1 ⟨rfl, r1, b1⟩
  have k1 : Kp (fun _ => False) w w1 := Kp.of_below b1
  have hr1 := HR.out.kp k1 (fun h => h)
  have HR1 := hid r1
  have HS1 := hid hr1
  have HK1 := hid k1
  have hcl : (up (ws.take k)).length = Nat.min L k := by rw [up_len, List.length_take, HL.out, Nat.min_comm]
  have hsrc : ∀ j, j < (up (ws.take k)).length → w1.cell? ((⟨r, 0, none⟩ : Addr).add j) = some (.int .u64 ((up (ws.take k)).getD j 0)) := fun j hj => by
    rw [hcl] at hj
    have hj1 : j < ws.length := by have h9 : Nat.min L k ≤ L := Nat.min_le_left L k; have := HL.out; omega
    have hj2 : j < k := by have h9 : Nat.min L k ≤ k := Nat.min_le_right L k; omega
    rw [add_z, hr1.cell j (by rw [up_len]; exact hj1), up_get, up_get]
    congr 3
    simp [List.getD, List.getElem?_take, hj2]
  have HSRC := hid hsrc
  have HCL := hid hcl
  obtain ⟨b, hbx⟩ : ∃ b, w.heap.size = b := ⟨_, rfl⟩
  rw [hbx] at HR1 ⊢
  have HBX := hid hbx
  clear HNR r1 b1 k1 hr1 hcl hbx hsrc
  go_wp2_with (first | (refine wpList_copy_rw rfl (.tmp 8) (.tmp 9) 84 84 rfl 102 Tryd.underlying84 info102s _ _ _ _ _ _ rfl rfl b 0 102 (List.replicate k 0) (up (ws.take k)) HR1.out HCL.out (fun _ => ⟨rfl, _, rfl, HSRC.out⟩) (by rw [HCL.out]; simp; exact Nat.min_le_right _ _) ?_; intro w3 r3 g3; rw [cutw_splice] at r3))
  have k3 : Kp (fun i => i = b) w1 w3 := Kp.of_grown g3 (fun j e => (Option.some.inj e).symm)
  have HRS := hid (reset_any b k k many (k * 64) (cutw ws k) w3 (cutw_len _ _).symm (cutw_W HW.out k) (by rw [cutw_len]; omega) (by omega) (by rw [cutw_len]; exact hkb) r3)
  have e64 : ((k * 64 : Nat) : Int) = (k : Int) * 64 := by simp
  rw [e64] at HRS
  have HK3 := hid k3
  clear HR1 HS1 r3 g3 k3 HCL e64
  go_wp2_with fail
  refine HRS.out.mono ?_
  rintro _ w4 ⟨rfl, k4, ws', h1, h2, h3, h4⟩
  have HFIN : Hid (w.heap.size ≤ b ∧ Kp (fun _ => False) w w4 ∧ ∃ ws', ws'.length = k ∧ W64 ws' ∧ (∀ g, dty ws' g = (dty ws g && decide (g < many))) ∧ Rw .u64 102 w4 b (up ws')) := by
    refine ⟨Nat.le_of_eq HBX.out, ((HK1.out.mono (G := fun i => i = b) (fun _ _ h => h.elim)).trans HK3.out (fun _ _ h => h) |>.trans k4 (fun _ _ h => h)).mono (fun i hi h => ?_), ws', h1.trans (cutw_len _ _), h2, fun g => ?_, h4⟩
    · have := HBX.out; omega
    · rw [h3 g, cutw_dty]
      unfold app
      have hf := HKF.out
      by_cases hg : g < many
      · have e1 : decide (g < 64 * k) = true := decide_eq_true (by omega)
        have e2 : decide (many ≤ g ∧ g < k * 64) = false := decide_eq_false (by omega)
        have e3 : decide (g < many) = true := decide_eq_true hg
        rw [e1, e2, e3]; simp
      · have e3 : decide (g < many) = false := decide_eq_false hg
        rw [e3]
        by_cases hg2 : g < 64 * k
        · have e2 : decide (many ≤ g ∧ g < k * 64) = true := decide_eq_true (by omega)
          rw [e2]; simp
        · have e1 : decide (g < 64 * k) = false := decide_eq_false hg2
          rw [e1]; simp
  clear HRS k4 h1 h2 h3 h4
  go_wp2_with fail
  go_ret
  exact ⟨b, rfl, HFIN.out⟩
end Go.Proofs.YteenlifdamhffaaDoor
