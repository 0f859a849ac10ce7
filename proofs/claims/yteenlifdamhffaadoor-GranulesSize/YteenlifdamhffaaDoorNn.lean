/- granules: Bytes; All, Runs as values. -/
import Derived.Test.YteenlifdamhffaaDoorNh
namespace Go.Proofs.YteenlifdamhffaaDoor
open Go.RowKit
set_option linter.unusedVariables false
set_option linter.unusedSimpArgs false
theorem Tryd.info5z : (Tryd.prog.info? 5).map (fun i => (i.zero, i.size, i.bytes)) = some (some (.int .u8 0), 1, 1) := by kernel_rfl
/-- A byte of the map's. -/
def bt8 (ws : List Nat) (i : Nat) : Nat := ws.getD (i / 8) 0 / 2 ^ (8 * (i % 8)) % 256
/-- How many bytes. -/
def nbt (n : Nat) : Nat := (n + 7) / 8
def byts (ws : List Nat) (n : Nat) : List Int := (List.range (nbt n)).map fun i => ((bt8 ws i : Nat) : Int)
theorem wrap_u8n (y : Nat) : IntKind.u8.wrap (y : Int) = ((y % 256 : Nat) : Int) := by
  simp only [IntKind.wrap, IntKind.bits, IntKind.signed]
  simp
set_option maxRecDepth 100000 in
set_option maxHeartbeats 2000000 in
theorem bytes_any (r L c many : Nat) (ws : List Nat) (w : World) (hL : L = ws.length) (hW : W64 ws) (hm : many ≤ 64 * ws.length) (hb : many ≤ 1000000000) (hr : Rw .u64 102 w r (up ws)) :
    Calls Tryd.prog 69 #[.slice (some ⟨r, 0, none⟩) L c, .int .i64 many] w fun e w' => ∃ b, e = .returned (.slice (some ⟨b, 0, none⟩) (nbt many) (nbt many)) ∧ w.heap.size ≤ b ∧ Kp (fun _ => False) w w' ∧ Rw .u8 5 w' b (byts ws many) := by
  obtain ⟨k, hk⟩ : ∃ k, nbt many = k := ⟨_, rfl⟩
  have hk2 : (many + 7) / 8 = k := hk
  have hkb : k ≤ 17592186044416 := by omega
  have hd2 : ((many : Int) + 8 - 1) / 8 = (k : Int) := by omega
  have HR := hid hr
  have HL := hid hL
  have HB8 : Hid (k * 8 ≤ many + 7 ∧ many ≤ 64 * ws.length ∧ k ≤ 1000000000) := by show _ ∧ _ ∧ _; omega
  have HBY : Hid (byts ws many = (List.range k).map fun i => ((bt8 ws i : Nat) : Int)) := by show _ = _; unfold byts; rw [hk]
  have HW := hid hW
  rw [hk]
  clear hr hL hk hk2 hm hb
  go_enter Tryd.func69, Tryd.ntmps69
  go_wp2_with (first | (at_make; refine wpList_make_rw (κ := .u8) 47 5 1 Tryd.underlying47 Tryd.info5z (by decide) rfl _ _ rfl k (by go_simp <;> exact hd2) (by go_simp <;> exact hd2) hkb ?_; intro w1 r1 b1))
  have HK1 : Hid (Kp (fun _ => False) w w1) := Kp.of_below b1
  obtain ⟨B, hB⟩ : ∃ B, w.heap.size = B := ⟨_, rfl⟩
  rw [hB] at r1 ⊢
  have HBW := hid hB
  have HS0 : Hid (∃ zs : List Int, zs.length = k ∧ (∀ j, j < 0 → zs.getD j 0 = ((bt8 ws j : Nat) : Int)) ∧ Rw .u8 5 w1 B zs) := ⟨_, by simp, fun j hj => absurd hj (Nat.not_lt_zero _), r1⟩
  clear r1 b1 hB hd2
  go_loopw [14] (fun i wr => ∃ t : Nat, i = .int .i64 t ∧ t ≤ k ∧ (∃ zs : List Int, zs.length = k ∧ (∀ j, j < t → zs.getD j 0 = ((bt8 ws j : Nat) : Int)) ∧ Rw .u8 5 wr B zs) ∧ Kp (fun i => i = B) w1 wr) (fun i _ => k - (intOf i).toNat)
  case atStart => exact ⟨0, rfl, Nat.zero_le _, HS0.out, Kp.refl _ _⟩
  case round =>
    obtain ⟨t, rfl, ht, ⟨zs, z1, z2, z3⟩, hkp⟩ := hrel
    by_cases hlt : t < k
    · have hlt' : (t : Int) < (k : Int) := by omega
      have h8 := HB8.out
      have hll := HL.out
      have hix : t / 8 < ws.length := by omega
      have yc := ((HR.out.kp HK1.out (fun h => h)).kp hkp (fun h => by have := HR.out.ltS; have := HBW.out; omega)).cell (t / 8) (by rw [up_len]; exact hix)
      rw [up_get] at yc
      have zf := z3.frozen t
      have zc := z3.cell t (by rw [z1]; exact hlt)
      have he1 : (t : Int) * 8 / 64 = ((t / 8 : Nat) : Int) := by omega
      have he2 : (t : Int) * 8 % 64 = ((8 * (t % 8) : Nat) : Int) := by omega
      have hmin : min (8 * (t % 8)) 64 = 8 * (t % 8) := Nat.min_eq_left (by omega)
      have hil : ¬ L ≤ t / 8 := by omega
      have hbd : ws.getD (t / 8) 0 / 2 ^ (8 * (t % 8)) % 256 = bt8 ws t := rfl
      obtain ⟨i, hi⟩ : ∃ i, t / 8 = i := ⟨_, rfl⟩
      obtain ⟨s, hs⟩ : ∃ s, 8 * (t % 8) = s := ⟨_, rfl⟩
      obtain ⟨y, hy⟩ : ∃ y, ws.getD i 0 = y := ⟨_, rfl⟩
      rw [hi] at yc he1 hil hbd
      rw [hs] at he2 hmin hbd
      rw [hy] at yc hbd
      have hcv : IntKind.u8.wrap ((y : Int) / 2 ^ s) = ((bt8 ws t : Nat) : Int) := by
        rw [← hbd, show (y : Int) / 2 ^ s = ((y / 2 ^ s : Nat) : Int) by rw [Int.natCast_ediv, Int.natCast_pow]; rfl]
        exact wrap_u8n _
      have HZ : Hid (zs.length = k ∧ (∀ j, j < t → zs.getD j 0 = ((bt8 ws j : Nat) : Int)) ∧ Rw .u8 5 wr B zs) := ⟨z1, z2, z3⟩
      have HKP := hid hkp
      have ht9 : t ≤ 1000000000 := by omega
      have HN : Hid (t + 1 ≤ k) := hlt
      clear z1 z2 z3 hkp hi hs hy hbd h8 hix hll hmin
      go_wp2_with fail
      refine ⟨⟨t + 1, by simp, HN.out, ⟨zs.set t ((bt8 ws t : Nat) : Int), by rw [List.length_set]; exact HZ.out.1, fun j hj => ?_, HZ.out.2.2.set t _⟩, HKP.out.trans (kp_setCell wr B t _ (fun i => i = B) rfl) (fun _ _ h => h)⟩, by simp [intOf]; omega⟩
      by_cases e : j = t
      · subst e
        simp [List.getD, HZ.out.1, hlt]
      · have e2 : t ≠ j := fun h => e h.symm
        have h3 := HZ.out.2.1 j (by omega)
        rw [List.getD_eq_getElem?_getD, List.getElem?_set_ne e2, ← List.getD_eq_getElem?_getD]
        exact h3
    · obtain rfl : t = k := by omega
      have HZ : Hid (zs = byts ws many) := by
        show _ = _
        rw [HBY.out]
        apply List.ext_getElem (by simp [z1])
        intro i i1 i2
        have h := z2 i (by rw [← z1]; exact i1)
        rw [List.getD_eq_getElem?_getD, List.getElem?_eq_getElem i1] at h
        simpa using h
      have HZ3 := hid z3
      have HKP := hid hkp
      clear z1 z2 z3 hkp
      go_wp2_with fail
      go_ret
      have h := HZ3.out
      rw [HZ.out] at h
      have hb := HBW.out
      exact ⟨B, rfl, by omega, (HK1.out.mono (G := fun i => i = B) (fun _ _ h => h.elim)).trans HKP.out (fun _ _ h => h) |>.mono (fun i hi h => by omega), h⟩
end Go.Proofs.YteenlifdamhffaaDoor
