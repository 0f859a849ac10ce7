/- sectors.cut: the walk. -/
import Derived.Test.YtalicohflfildaaCu
namespace Go.Proofs.Ytalicohflfildaa
open Go.RowKit

theorem lk67 {w w' : World} {m c : Nat} {es : List (Int × Value × Nat)} {k : Int} {v : Value} (h' : Mp (Value.int .i64) w' m es c) (h : Mp (Value.int .i64) w m es c) (hl : (Instr.lookup 67 (.map (some m)) (.int .i64 k) false).run Try.prog w = .ok v w) : (Instr.lookup 67 (.map (some m)) (.int .i64 k) false).run Try.prog w' = .ok v w' := by
  have h1 := run_lookup_mp (ky_int Try.underlying2) Try.underlying67 h (Try.zeroValue36 _) k
  have h2 := run_lookup_mp (ky_int Try.underlying2) Try.underlying67 h' (Try.zeroValue36 _) k
  rw [hl] at h1
  cases h1
  exact h2
set_option maxRecDepth 100000 in
set_option maxHeartbeats 2000000 in
theorem cut_any (D : Nat → Prop) (w : World) (m c sz : Nat) (f d : Nat → Int) (es : List (Int × Value × Nat)) (h : Sm D w m f d es c) (hb : sz ≤ 268435456) (hDm : ¬ D m) :
    Calls Try.prog 66 #[.map (some m), .int .i64 sz] w fun e w' => e = .returned (.tuple #[]) ∧ ∃ es' c', Sm (fun i => D i ∨ (w.heap.size ≤ i ∧ i < w'.heap.size)) w' m (cutf sz f) (cutf sz d) es' c' ∧ Kp (fun i => i = m) w w' ∧ ∀ j : Nat, j * 512 < sz → mget es (j : Int) ≠ none → mget es' (j : Int) ≠ none := by
  have hml := h.mp.lt
  have HSM : Hid (Sm D w m f d es c) := h
  have hD : ∀ i, D i → ¬ i = m := fun i hi e => hDm (e ▸ hi)
  have st := St.new 2 w #[.int .i64 sz]
  have k0 : Kp (fun _ => False) w (w.alloc (.cells #[.int .i64 sz] 2)) := (Kp.refl _ _).alloc _
  obtain ⟨e1, he1⟩ : ∃ e1, e1 = es.filter (fun e => !pdl (sz : Int) e) := ⟨_, rfl⟩
  have HE1 : Hid (e1 = es.filter (fun e => !pdl (sz : Int) e)) := he1
  have hq : (sz : Int) / 512 = ((sz / 512 : Nat) : Int) := by omega
  have hr : (sz : Int) % 512 = ((sz % 512 : Nat) : Int) := by omega
  have hr5 : sz % 512 < 512 := by omega
  obtain ⟨kq, hkq⟩ : ∃ kq, kq = sz / 512 := ⟨_, rfl⟩
  obtain ⟨kr, hkr⟩ : ∃ kr, kr = sz % 512 := ⟨_, rfl⟩
  rw [← hkq] at hq
  rw [← hkr] at hr hr5
  have HQ : Hid (kq = sz / 512 ∧ kr = sz % 512) := ⟨hkq, hkr⟩
  clear h hkq hkr he1
  go_enter Try.func66, Try.ntmps66
  go_wp2_with fail
  have hd := delf_any m c w.heap.size (sz : Int) es _ (kp_mp (F := fun _ => False) HSM.out.mp k0 (fun h => h)) HSM.out.ks (st.cell 0) (by omega)
  refine hd.mono ?_
  rintro e w1 ⟨rfl, m1, k1⟩
  rw [← HE1.out] at m1
  have K1 : Hid (Kp (fun i => i = m) w w1) := (k0.mono (G := fun i => i = m) (fun _ _ h => h.elim)).trans k1 (fun _ _ h => h)
  have M1 : Hid (Mp (Value.int .i64) w1 m e1 c) := m1
  have c0 : w1.cell? ⟨w.heap.size, 0, none⟩ = some (.int .i64 sz) := (st.kp k1 (by omega)).cell 0
  have ST1 : Hid (St 2 w1 w.heap.size #[.int .i64 sz]) := st.kp k1 (by omega)
  have hz1 : w.heap.size < w1.heap.size := ST1.out.lt
  clear hd m1 k1 st k0
  have hl1 : (Instr.lookup 67 (.map (some m)) (.int .i64 (kq : Int)) false).run Try.prog w1 = .ok ((mget e1 (kq : Int)).getD (.slice none 0 0)) w1 := run_lookup_mp (ky_int Try.underlying2) Try.underlying67 M1.out (Try.zeroValue36 _) (kq : Int)
  cases hg : mget e1 (kq : Int) with
  | none =>
    rw [hg] at hl1
    replace hl1 : (Instr.lookup 67 (.map (some m)) (.int .i64 (kq : Int)) false).run Try.prog w1 = .ok (.slice none 0 0) w1 := hl1
    have he : ∀ w : World, (binOp .eql 36 (.slice none 0 0) (.slice none 0 0)).run Try.prog w = .ok (.bool true) w := fun _ => rfl
    have HG : Hid (mget e1 (kq : Int) = none) := hg
    clear hg
    go_wp2
    refine bodyPost_ret (results_none rfl _ _ _) rfl ?_
    have hg0 := HG.out
    have hm1 := M1.out
    rw [HQ.out.1, HE1.out] at hg0
    rw [HE1.out] at hm1
    refine ⟨rfl, _, _, (sm_cut0 HSM.out hm1 K1.out hD hg0).mono (fun i _ hi => .inl hi), K1.out, fun j hj hne => ?_⟩
    rw [mget_cut, if_neg (by omega)]
    exact hne
  | some u =>
    have hlt : ¬ (sz : Int) ≤ (kq : Int) * 512 := fun hx => by
      rw [HE1.out, mget_cut, if_pos hx] at hg; cases hg
    have hbs := HSM.out.so kq u (by rw [HE1.out, mget_cut, if_neg hlt] at hg; exact hg)
    obtain ⟨ug, uo, uc, hue, hDu, hul, huc, hum, hucs⟩ := hbs.le
    rw [sec_len] at hue huc hucs
    subst hue
    rw [hg] at hl1
    replace hl1 : (Instr.lookup 67 (.map (some m)) (.int .i64 (kq : Int)) false).run Try.prog w1 = .ok (.slice (some ⟨ug, uo, none⟩) 512 uc) w1 := hl1
    have he : ∀ w : World, (binOp .eql 36 (.slice (some ⟨ug, uo, none⟩) 512 uc) (.slice none 0 0)).run Try.prog w = .ok (.bool false) w := fun _ => rfl
    have HCS : Hid (∀ i, i < 512 → w.cell? ⟨ug, uo + i, none⟩ = some (.int .u8 ((sec f kq).getD i 0))) := hucs
    have HDU : Hid (D ug) := hDu
    obtain ⟨Z, hZ⟩ : ∃ Z : List Int, List.replicate 512 0 = Z := ⟨_, rfl⟩
    have HZ : Hid (List.replicate 512 (0 : Int) = Z) := hZ
    clear hbs hucs hDu hg hZ
    have hux : kr ≤ uc := by omega
    have HL : Hid (((sec f kq).take kr).length = kr) := by show _ = _; rw [List.length_take, sec_len]; omega
    have HZL : Hid (Z.length = 512) := by show _ = _; rw [← HZ.out, List.length_replicate]
    have HCJ : Hid (∀ w2, Kp (fun _ => False) w1 w2 → ∀ j, j < ((sec f kq).take kr).length → w2.cell? (Addr.add ⟨ug, uo, none⟩ j) = some (.int .u8 (((sec f kq).take kr).getD j 0))) := by
      intro w2 k2 j hj
      rw [HL.out] at hj
      rw [add_o]
      have h1 := HCS.out j (by omega)
      have h2 : ((sec f kq).take kr).getD j 0 = (sec f kq).getD j 0 := by simp only [List.getD_eq_getElem?_getD, List.getElem?_take, if_pos hj]
      rw [h2]
      exact kp_cell k2 (kp_cell K1.out h1 (hD _ HDU.out)) (fun h => h)
    have HSP : Hid (splice Z 0 ((sec f kq).take kr) = sec (cutf sz f) kq) := by show _ = _; rw [← HZ.out, HQ.out.1, HQ.out.2]; exact sec_cut_mid
    go_wp2_with (first | (at_make; refine wpList_make_rw (κ := .u8) 36 5 1 Try.underlying36 Try.info5 (by decide) rfl _ _ rfl 512 rfl rfl (by omega) ?_; intro w2 r2 b2; rw [HZ.out] at r2; have R2 : Hid (Rw .u8 5 w2 w1.heap.size Z) := r2; have k2 : Kp (fun _ => False) w1 w2 := Kp.of_below b2; have K2 : Hid (Kp (fun _ => False) w1 w2) := k2; have M2 : Hid (Mp (Value.int .i64) w2 m e1 c) := kp_mp M1.out k2 (fun h => h); have c2 : w2.cell? ⟨w.heap.size, 0, none⟩ = some (.int .i64 sz) := kp_cell k2 c0 (fun h => h); have hl2 : (Instr.lookup 67 (.map (some m)) (.int .i64 (kq : Int)) false).run Try.prog w2 = .ok (.slice (some ⟨ug, uo, none⟩) 512 uc) w2 := lk67 M2.out M1.out hl1; clear r2 b2 k2) | (at_mapUpdate; refine wpList_update_mp rfl _ _ _ rfl (ky_int Try.underlying2) Try.underlying67 m c e1 rfl M3.out (kq : Int) rfl (.slice (some ⟨w1.heap.size, 0, none⟩) 512 512) rfl ?_; intro w4 m4 g4) | (refine wpList_copy_rw rfl (.tmp 16) (.tmp 22) 36 36 rfl 5 Try.underlying36 info5s _ _ _ _ _ _ rfl rfl w1.heap.size 0 5 Z ((sec f kq).take kr) R2.out (by rw [HL.out]; exact (Nat.min_eq_left (by omega)).symm) (fun _ => ⟨rfl, _, rfl, HCJ.out w2 K2.out⟩) (by rw [HL.out, HZL.out]; omega) ?_; intro w3 r3 g3; rw [HSP.out] at r3; have R3 : Hid (Rw .u8 5 w3 w1.heap.size (sec (cutf sz f) kq)) := r3; have k3 : Kp (fun i => i = w1.heap.size) w2 w3 := Kp.of_grown g3 (fun i e => by cases e; rfl); have K3 : Hid (Kp (fun i => i = w1.heap.size) w2 w3) := k3; have M3 : Hid (Mp (Value.int .i64) w3 m e1 c) := kp_mp M2.out k3 (by have := M1.out.lt; omega); clear r3 g3 k3))
    go_end0
    have hz2 := K2.out.size
    have hz3 := K3.out.size
    have hm1 := M1.out.lt
    have R4 := R3.out.grown g4 (by intro e; cases e; omega)
    have k4 : Kp (fun i => i = m) w3 w4 := Kp.of_grown g4 (fun i e => by cases e; rfl)
    have kA : Kp (fun i => i = m) w w4 := ((K1.out.trans K2.out (fun _ _ h => h.elim)).trans K3.out (fun i hi h => by omega)).trans k4 (fun _ _ h => h)
    rw [HE1.out, HQ.out.1] at m4
    rw [HQ.out.1] at R4
    have hv : Bs (fun i => D i ∨ (w.heap.size ≤ i ∧ i < w4.heap.size)) w4 (.slice (some ⟨w1.heap.size, 0, none⟩) 512 512) (sec (cutf sz f) (sz / 512)) := ⟨w1.heap.size, 0, 512, by rw [sec_len], .inr ⟨by omega, R4.lt⟩, R4.lt, by rw [sec_len]; exact Nat.le_refl _, by unfold maxLen; omega, fun i hi => R4.cells i hi⟩
    refine ⟨rfl, _, ⟨_, sm_cut1 HSM.out m4 kA hD (fun i hi => .inl hi) hv hb⟩, kA, fun j hj hne => ?_⟩
    rw [mget_put]
    split
    · exact fun h => by cases h
    · rw [mget_cut, if_neg (by omega)]; exact hne
end Go.Proofs.Ytalicohflfildaa
