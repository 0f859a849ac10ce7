/- stops: Plain. -/
import Derived.Test.YtlnknkeagonmpaaGreatSt1
import Derived.Test.YtlnknkeagonmpaaGreatCk
namespace Go.Proofs.YtlnknkeagonmpaaGreat
open Go.RowKit

theorem info3 : (Tryz.prog.info? 3).map (fun i => (i.zero, i.size, i.bytes)) = some (some (.int .i64 0), 1, 8) := by kernel_rfl
theorem info3s : (Tryz.prog.info? 3).map (·.size) = some 1 := by kernel_rfl
def lst (P : Nat) (F : Nat → Int) : List Int := (List.range P).map F
theorem lst_len (P : Nat) (F : Nat → Int) : (lst P F).length = P := by simp [lst]
theorem lst_get (P : Nat) (F : Nat → Int) (i : Nat) (h : i < P) : (lst P F).getD i 0 = F i := by simp [lst, List.getD, h]
theorem lst_set (P : Nat) (F : Nat → Int) (k : Nat) (v : Int) : (lst P F).set k v = lst P (fun i => if i = k then v else F i) := by
  apply List.ext_getElem?
  intro j
  rw [List.getElem?_set]
  by_cases hj : k = j
  · subst hj
    by_cases h : k < P <;> simp [lst, h]
  · rw [if_neg hj]
    by_cases h : j < P
    · simp [lst, h, Ne.symm hj]
    · simp [lst, h]
theorem lst_ext {P : Nat} {F G : Nat → Int} (h : ∀ i, i < P → F i = G i) : lst P F = lst P G := by
  unfold lst
  exact List.map_congr_left (fun i hi => h i (List.mem_range.1 hi))
/-- The way of these picks. -/
def wayf (zs : List Int) (i : Nat) : Int := zs.getD i 0 % 2
theorem splice_lst (P : Nat) (zs : List Int) : splice (List.replicate P 0) 0 (zs.take P) = lst P (fun i => zs.getD i 0) := by
  apply List.ext_getElem?
  intro j
  unfold splice
  by_cases h : j < P
  · by_cases h2 : j < zs.length
    · rw [List.take_zero, List.nil_append, List.getElem?_append_left (by rw [List.length_take]; omega), List.getElem?_take, if_pos h, List.getElem?_eq_getElem h2]
      simp [lst, h, List.getD, h2]
    · rw [List.take_zero, List.nil_append, List.getElem?_append_right (by rw [List.length_take]; omega)]
      rw [List.getElem?_drop, List.getElem?_replicate, if_pos (by rw [List.length_take]; omega)]
      simp [lst, h, List.getD, List.getElem?_eq_none (Nat.le_of_not_lt h2)]
  · rw [List.getElem?_eq_none (by simp; omega), List.getElem?_eq_none (by simp [lst]; omega)]
set_option maxRecDepth 100000 in
set_option maxHeartbeats 2000000 in
theorem plain_bad (D : Nat → Prop) (w : World) (g fm : Nat) (fv : Value) (steps : Nat) (fs : List Fe) (ft : List (Int × Int)) (es : List (ByteArray × Value × Nat)) (c : Nat) (h : Sr D w g fm fv steps fs ft es c) (ao : Option Addr) (zs : List Int) (n cap : Nat) (hn : n = zs.length) (hb : n ≤ 1000000000000) (hz : ¬ ∀ z ∈ zs, 0 ≤ z) (hS : Src .i64 w ao zs) :
    Calls Tryz.prog 19 #[.pointer (some ⟨g, 0, none⟩), .slice ao n cap] w fun e w' => e = .returned (.tuple #[.slice none 0 0, .int .i64 2]) ∧ w' = w := by
  have hany : zs.any (fun z => decide (z < 0)) = true := by
    cases hq : zs.any (fun z => decide (z < 0)) with
    | true => rfl
    | false =>
      rw [List.any_eq_false] at hq
      exact absurd (fun z hz' => by have := hq z hz'; simp at this; omega) hz
  have HS : Hid (Sr D w g fm fv steps fs ft es c) := h
  have HN : Hid (n = zs.length) := hn
  have HSR : Hid (Src .i64 w ao zs) := hS
  clear h hn hz hS
  go_enter Tryz.func19, Tryz.ntmps19
  go_wp2_with (first | (go_at_call 45; refine (snone_live HS.out).mono ?_; rintro e w' ⟨rfl, h⟩; replace h := h.symm; subst h) | (go_at_call 47; refine (containsf_any ao zs n cap w HN.out hb HSR.out).mono ?_; rintro e w' ⟨rfl, h⟩; subst h; rw [hany]))
  go_ret2
  exact ⟨rfl, rfl⟩
set_option maxRecDepth 100000 in
set_option maxHeartbeats 4000000 in
theorem plain_any (D : Nat → Prop) (w : World) (g fm : Nat) (fv : Value) (steps : Nat) (fs : List Fe) (ft : List (Int × Int)) (es : List (ByteArray × Value × Nat)) (c : Nat) (h : Sr D w g fm fv steps fs ft es c) (hP : pnd fs ≤ 1000000000) (ao : Option Addr) (zs : List Int) (n cap : Nat) (hn : n = zs.length) (hb : n ≤ 1000000000000) (hz : ∀ z ∈ zs, 0 ≤ z) (hS : Src .i64 w ao zs) :
    Calls Tryz.prog 19 #[.pointer (some ⟨g, 0, none⟩), .slice ao n cap] w fun e w' => ∃ G, e = .returned (.tuple #[.slice (some ⟨G, 0, none⟩) (pnd fs) (pnd fs), .int .i64 0]) ∧ w.heap.size ≤ G ∧ Rw .i64 3 w' G (lst (pnd fs) (wayf zs)) ∧ Kp (fun _ => False) w w' := by
  have hany : zs.any (fun z => decide (z < 0)) = false := by
    rw [List.any_eq_false]
    intro z hz'
    have := hz z hz'
    simp; omega
  have HS : Hid (Sr D w g fm fv steps fs ft es c) := h
  have HN : Hid (n = zs.length) := hn
  have HZ : Hid (∀ z ∈ zs, 0 ≤ z) := hz
  have HSR : Hid (Src .i64 w ao zs) := hS
  clear h hn hz hS
  obtain ⟨P, hPe⟩ : ∃ P, P = pnd fs := ⟨_, rfl⟩
  rw [← hPe] at hP ⊢
  have HPE : Hid (P = pnd fs) := hPe
  clear hPe
  go_enter Tryz.func19, Tryz.ntmps19
  go_wp2_with (first | (go_at_call 45; refine (snone_live HS.out).mono ?_; rintro e w' ⟨rfl, h⟩; replace h := h.symm; subst h) | (go_at_call 47; refine (containsf_any ao zs n cap w HN.out hb HSR.out).mono ?_; rintro e w' ⟨rfl, h⟩; subst h; rw [hany]))
  refine (pending_any D w g fm fv steps fs ft es c HS.out).mono ?_
  rintro e w1 ⟨rfl, k1⟩
  rw [← HPE.out]
  have K1 : Hid (Kp (fun _ => False) w w1) := k1
  clear k1 hany
  have HCP : ∀ W, Hid (Kp (fun _ => False) w W) → 0 < (zs.take P).length → ∃ ad, ao = some ad ∧ ∀ j, j < (zs.take P).length → W.cell? (ad.add j) = some (.int .i64 ((zs.take P).getD j 0)) := by
    intro W k hp
    rw [List.length_take] at hp
    obtain ⟨b, off, e, hc⟩ := (HSR.out.kp k.out (fun _ _ _ h => h)) (by omega)
    refine ⟨_, e, fun j hj => ?_⟩
    rw [List.length_take] at hj
    rw [add_o, hc j (by omega)]
    simp only [List.getD_eq_getElem?_getD, List.getElem?_take, if_pos (show j < P by omega)]
  go_wp2_with (first | (at_make; refine wpList_make_rw (κ := .i64) 40 3 8 Tryz.underlying40 info3 (by decide) rfl _ _ rfl P rfl rfl (by omega) ?_; intro w2 r2 b2; have R2 : Hid (Rw .i64 3 w2 w1.heap.size (List.replicate P 0)) := r2; have K2 : Hid (Kp (fun _ => False) w w2) := K1.out.trans (Kp.of_below b2) (fun _ _ h => h); clear r2 b2) | (refine wpList_copy_rk (κ := .i64) rfl (.tmp 15) (.tmp 16) 40 40 rfl 3 Tryz.underlying40 info3s _ _ _ _ _ _ rfl rfl w1.heap.size 0 3 (List.replicate P 0) (zs.take P) R2.out (by rw [List.length_take, ← HN.out]; exact Nat.min_comm _ _) (fun hp => ⟨rfl, HCP w2 K2 hp⟩) (by rw [List.length_take, List.length_replicate]; omega) ?_; intro w3 r3 g3; rw [splice_lst] at r3; have R3 : Hid (Rw .i64 3 w3 w1.heap.size (lst P (fun i => zs.getD i 0))) := r3; have K3 : Hid (Kp (fun _ => False) w w3) := K2.out.trans (Kp.of_grown (F := fun i => i = w1.heap.size) g3 (fun i e => by cases e; rfl)) (fun i hi e => by have := K1.out.size; omega); clear r3 g3))
  have HG : Hid (w.heap.size ≤ w1.heap.size) := K1.out.size
  generalize w1.heap.size = G at *
  clear K1 R2 K2 HCP
  go_loopw [7, 20] (fun _ iv wr => ∃ k : Nat, k ≤ P ∧ iv = .int .i64 k ∧ Rw .i64 3 wr G (lst P (fun i => if i < k then wayf zs i else zs.getD i 0)) ∧ Kp (fun _ => False) w wr) (fun _ iv _ => P - (intOf iv).toNat)
  case atStart => exact ⟨0, Nat.zero_le _, rfl, by rw [show lst P (fun i => if i < 0 then wayf zs i else zs.getD i 0) = lst P (fun i => zs.getD i 0) from lst_ext (fun i _ => if_neg (by omega))]; exact R3.out, K3.out⟩
  case round =>
    clear R3 K3
    obtain ⟨k, hk, rfl, hr, hkp⟩ := hrel
    by_cases hlt : k < P
    · have hli : (k : Int) < (P : Int) := by omega
      have y0 := hr.cell k (by rw [lst_len]; exact hlt)
      rw [lst_get _ _ _ hlt, if_neg (by omega)] at y0
      have f0 := hr.frozen k
      have hz0 : 0 ≤ zs.getD k 0 := by
        by_cases h : k < zs.length
        · rw [List.getD_eq_getElem?_getD, List.getElem?_eq_getElem h]
          exact HZ.out _ (List.getElem_mem h)
        · rw [List.getD_eq_getElem?_getD, List.getElem?_eq_none (by omega)]
          simp
      obtain ⟨z, hzz⟩ : ∃ z, z = zs.getD k 0 := ⟨_, rfl⟩
      rw [← hzz] at y0 hz0
      have hmod : Int.tmod z 2 = z % 2 := Int.tmod_eq_emod_of_nonneg hz0
      have HNX : Hid (Rw .i64 3 (wr.setCell ⟨G, k, none⟩ (.int .i64 (z % 2))) G (lst P (fun i => if i < k + 1 then wayf zs i else zs.getD i 0)) ∧ Kp (fun _ => False) w (wr.setCell ⟨G, k, none⟩ (.int .i64 (z % 2)))) := by
        refine ⟨?_, (hkp.mono (G := fun i => i = G) (fun _ _ h => h.elim)).trans (kp_setCell wr G k _ (fun i => i = G) rfl) (fun _ _ h => h) |>.mono (fun i hi h => by have := HG.out; omega)⟩
        have h1 := hr.set k (z % 2)
        rw [lst_set] at h1
        rw [show lst P (fun i => if i < k + 1 then wayf zs i else zs.getD i 0) = lst P (fun i => if i = k then z % 2 else if i < k then wayf zs i else zs.getD i 0) from lst_ext (fun i _ => by
          by_cases h2 : i = k
          · subst h2
            rw [if_pos (by omega), if_pos rfl, hzz]
            rfl
          · rw [if_neg h2]
            by_cases h3 : i < k
            · rw [if_pos (by omega), if_pos h3]
            · rw [if_neg (by omega), if_neg h3])]
        exact h1
      clear hr hkp hzz
      go_wp2
      exact ⟨⟨k + 1, hlt, rfl, HNX.out.1, HNX.out.2⟩, by simp only [intOf]; omega⟩
    · have hli : ¬ (k : Int) < (P : Int) := by omega
      have HR : Hid (Rw .i64 3 wr G (lst P (wayf zs))) := by
        rw [show lst P (wayf zs) = lst P (fun i => if i < k then wayf zs i else zs.getD i 0) from lst_ext (fun i hi => (if_pos (by omega)).symm)]
        exact hr
      have HKP : Hid (Kp (fun _ => False) w wr) := hkp
      clear hr hkp
      go_wp2
      go_ret2
      exact ⟨G, rfl, HG.out, HR.out, HKP.out⟩
end Go.Proofs.YtlnknkeagonmpaaGreat
