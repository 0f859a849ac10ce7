/- tables: one is read (Sn). -/
import Derived.Test.YtjjhkfhppoioiaaRe
import Derived.Test.YtjjhkfhppoioiaaKdS
namespace Go.Proofs.Ytjjhkfhppoioiaa
open Go.RowKit
set_option linter.unusedVariables false
theorem rb_byts {k : Nat} {st : Bool × List Int} (h : Byt st.2) : Byt (rb k st).2.2 := by
  unfold rb
  split
  · exact h
  · exact h.drop k
theorem setqs {w : World} {g : Nat} {cs : Array Value} (h : St 25 w g cs) (i : Nat) (x : Value) {ds : Array Value} (hd : ds = cs.set! i x) : St 25 (w.setCell ⟨g, i, none⟩ x) g ds := by
  rw [hd]
  exact h.set i x
set_option maxRecDepth 100000 in
set_option maxHeartbeats 4000000 in
theorem read_s (R D : Nat) (st : Bool × List Int) (w : World) (hDR : D ≤ R) (hb : Byt st.2) (h : Rdr w R D st) :
    Calls Try.prog 44 #[.pointer (some ⟨R, 0, none⟩)] w fun e w' => e = .returned (.agg (Sn.rd st).1.cs) ∧ Rdr w' R D (Sn.rd st).2 ∧ Kp (fun i => i = R) w w' := by
  obtain ⟨vr, hr1, hr2, hr3⟩ := h
  have hRl := hr1.lt
  have h : Rdr w R D st := ⟨vr, hr1, hr2, hr3⟩
  have hal : ∀ (W : World) (o : Obj) (s : Bool × List Int), Rdr W R D s → Rdr (W.alloc o) R D s := fun W o s h => h.kp (F := fun _ => False) ((Kp.refl _ _).alloc _) (fun x => x) (fun _ _ x => x)
  have HAL := hid hal
  have H := hid h
  clear hal hr1 hr2 hr3 h
  obtain ⟨s0, hs0⟩ : ∃ s, s = (rtx st).2 := ⟨_, rfl⟩
  obtain ⟨nm, hnm⟩ : ∃ s, s = (rtx st).1 := ⟨_, rfl⟩
  have B0 : Byt s0.2 := by rw [hs0]; exact rb_byts (rb_byts hb)
  obtain ⟨s1, hs1⟩ : ∃ s, s = (rnm 8 s0).2 := ⟨_, rfl⟩
  obtain ⟨x1, hx1⟩ : ∃ s, s = (rnm 8 s0).1 := ⟨_, rfl⟩
  have B1 : Byt s1.2 := by rw [hs1]; exact rb_byts B0
  obtain ⟨s2, hs2⟩ : ∃ s, s = (rnm 4 s1).2 := ⟨_, rfl⟩
  obtain ⟨x2, hx2⟩ : ∃ s, s = (rnm 4 s1).1 := ⟨_, rfl⟩
  have B2 : Byt s2.2 := by rw [hs2]; exact rb_byts B1
  obtain ⟨s3, hs3⟩ : ∃ s, s = (rnm 8 s2).2 := ⟨_, rfl⟩
  obtain ⟨x3, hx3⟩ : ∃ s, s = (rnm 8 s2).1 := ⟨_, rfl⟩
  have B3 : Byt s3.2 := by rw [hs3]; exact rb_byts B2
  have HE : Hid (Sn.rd st = (⟨nm, x1, x2, x3⟩, s3)) := by
    show _ = _
    rw [hx1, hx2, hx3, hs3, hnm]
    rw [hs2, hs1, hs0]
    rfl
  have C0 : Hid (∀ W, Rdr W R D st → Calls Try.prog 45 #[.pointer (some ⟨R, 0, none⟩)] W fun e w' => e = .returned (.string nm) ∧ Rdr w' R D s0 ∧ Kp (fun i => i = R) W w') := fun W hW => by rw [hnm, hs0]; exact rtxt_any R D st W hDR hb hW
  have C1 : Hid (∀ W, Rdr W R D s0 → Calls Try.prog 46 #[.pointer (some ⟨R, 0, none⟩), .int .i64 8] W fun e w' => e = .returned (.int .i64 x1) ∧ Rdr w' R D s1 ∧ Kp (fun i => i = R) W w') := fun W hW => by rw [hx1, hs1]; exact rnum_any R D 8 s0 W (by omega) (by omega) hDR B0 hW
  have C2 : Hid (∀ W, Rdr W R D s1 → Calls Try.prog 46 #[.pointer (some ⟨R, 0, none⟩), .int .i64 4] W fun e w' => e = .returned (.int .i64 x2) ∧ Rdr w' R D s2 ∧ Kp (fun i => i = R) W w') := fun W hW => by rw [hx2, hs2]; exact rnum_any R D 4 s1 W (by omega) (by omega) hDR B1 hW
  have C3 : Hid (∀ W, Rdr W R D s2 → Calls Try.prog 46 #[.pointer (some ⟨R, 0, none⟩), .int .i64 8] W fun e w' => e = .returned (.int .i64 x3) ∧ Rdr w' R D s3 ∧ Kp (fun i => i = R) W w') := fun W hW => by rw [hx3, hs3]; exact rnum_any R D 8 s2 W (by omega) (by omega) hDR B2 hW
  clear hx1 hs1 hx2 hs2 hx3 hs3 hnm hs0 hb B0 B1 B2 B3
  go_enter Try.func44, Try.ntmps44
  generalize hC : Code.region 5 _ _ = C9
  go_wp2_with fail
  obtain ⟨q0, hq0⟩ : ∃ q, q = w.heap.size := ⟨_, rfl⟩
  have z0 : (w.alloc (.cells #[.string ⟨#[]⟩, .int .i64 0, .int .i64 0, .int .i64 0] 25)).heap.size = q0 + 1 := by rw [World.size_alloc, hq0]
  have t0 : Sn.B (w.alloc (.cells #[.string ⟨#[]⟩, .int .i64 0, .int .i64 0, .int .i64 0] 25)) q0 zSn := by rw [hq0]; exact Sn.B.new w zSn
  have k0 : Kp (fun i => i = R) w (w.alloc (.cells #[.string ⟨#[]⟩, .int .i64 0, .int .i64 0, .int .i64 0] 25)) := (Kp.refl _ _).alloc _
  have H0 := hid (HAL.out w (.cells #[.string ⟨#[]⟩, .int .i64 0, .int .i64 0, .int .i64 0] 25) st H.out)
  rw [← hq0]
  have hqR : R < q0 := by omega
  have HQ0 := hid hq0
  clear H hq0
  generalize w.alloc (.cells #[.string ⟨#[]⟩, .int .i64 0, .int .i64 0, .int .i64 0] 25) = W0 at *
  refine (C0.out W0 H0.out).mono ?_
  rintro e w1 ⟨rfl, r1, k1⟩
  have T0 := hid (t0.kp k1 (by omega))
  have K1 := hid (k0.trans k1 (fun _ _ e => e))
  have z1 := k1.size
  have R1 := hid r1
  clear C0 H0 t0 k0 k1 r1
  go_wp2_with fail
  obtain ⟨q1, hq1⟩ : ∃ q, q = w1.heap.size := ⟨_, rfl⟩
  rw [← hq1]
  have hq01 : q0 < q1 := by omega
  have Q : Hid (St 25 (w1.alloc (.cells #[.string nm, .int .i64 0, .int .i64 0, .int .i64 0] 25)) q1 #[.string nm, .int .i64 0, .int .i64 0, .int .i64 0]) := by rw [hq1]; exact St.new 25 w1 _
  replace T0 := hid (T0.out.kp (F := fun _ => False) ((Kp.refl _ w1).alloc (.cells #[.string nm, .int .i64 0, .int .i64 0, .int .i64 0] 25)) (fun x => x))
  replace R1 := hid (HAL.out w1 (.cells #[.string nm, .int .i64 0, .int .i64 0, .int .i64 0] 25) s0 R1.out)
  replace K1 := hid (K1.out.alloc (.cells #[.string nm, .int .i64 0, .int .i64 0, .int .i64 0] 25))
  clear hq1 z1
  generalize w1.alloc (.cells #[.string nm, .int .i64 0, .int .i64 0, .int .i64 0] 25) = W at *
  refine (C1.out W R1.out).mono ?_
  rintro e w2 ⟨rfl, r2, k2⟩
  replace Q := hid (Q.out.kp k2 (by omega))
  replace T0 := hid (T0.out.kp k2 (by omega))
  replace K1 := hid (K1.out.trans k2 (fun _ _ e => e))
  replace R1 := hid r2
  clear r2 k2 C1
  have y := Q.out.cell 1
  have f := Q.out.frozen 1
  change w2.cell? _ = some (.int .i64 0) at y
  go_wp2_with fail
  clear y f
  replace Q : Hid (St 25 (w2.setCell ⟨q1, 1, none⟩ (.int .i64 x1)) q1 #[.string nm, .int .i64 x1, .int .i64 0, .int .i64 0]) := setqs Q.out 1 _ (by simp)
  replace T0 := hid (T0.out.kp (kp_setCell w2 q1 1 (.int .i64 x1) (fun g => g = q1) rfl) (by omega))
  replace R1 : Hid (Rdr (w2.setCell ⟨q1, 1, none⟩ (.int .i64 x1)) R D s1) := R1.out.kp (kp_setCell w2 q1 1 (.int .i64 x1) (fun g => g = q1) rfl) (by omega) (fun g hg e => by omega)
  replace K1 := hid (K1.out.trans (kp_setCell w2 q1 1 (.int .i64 x1) (fun g => g = q1) rfl) (fun g hg e => by have := HQ0.out; omega))
  clear W
  generalize w2.setCell ⟨q1, 1, none⟩ (.int .i64 x1) = W at *
  clear w2
  refine (C2.out W R1.out).mono ?_
  rintro e w3 ⟨rfl, r2, k2⟩
  replace Q := hid (Q.out.kp k2 (by omega))
  replace T0 := hid (T0.out.kp k2 (by omega))
  replace K1 := hid (K1.out.trans k2 (fun _ _ e => e))
  replace R1 := hid r2
  clear r2 k2 C2
  have y := Q.out.cell 2
  have f := Q.out.frozen 2
  change w3.cell? _ = some (.int .i64 0) at y
  go_wp2_with fail
  clear y f
  replace Q : Hid (St 25 (w3.setCell ⟨q1, 2, none⟩ (.int .i64 x2)) q1 #[.string nm, .int .i64 x1, .int .i64 x2, .int .i64 0]) := setqs Q.out 2 _ (by simp)
  replace T0 := hid (T0.out.kp (kp_setCell w3 q1 2 (.int .i64 x2) (fun g => g = q1) rfl) (by omega))
  replace R1 : Hid (Rdr (w3.setCell ⟨q1, 2, none⟩ (.int .i64 x2)) R D s2) := R1.out.kp (kp_setCell w3 q1 2 (.int .i64 x2) (fun g => g = q1) rfl) (by omega) (fun g hg e => by omega)
  replace K1 := hid (K1.out.trans (kp_setCell w3 q1 2 (.int .i64 x2) (fun g => g = q1) rfl) (fun g hg e => by have := HQ0.out; omega))
  clear W
  generalize w3.setCell ⟨q1, 2, none⟩ (.int .i64 x2) = W at *
  clear w3
  refine (C3.out W R1.out).mono ?_
  rintro e w4 ⟨rfl, r2, k2⟩
  replace Q := hid (Q.out.kp k2 (by omega))
  replace T0 := hid (T0.out.kp k2 (by omega))
  replace K1 := hid (K1.out.trans k2 (fun _ _ e => e))
  replace R1 := hid r2
  clear r2 k2 C3
  have y := Q.out.cell 3
  have f := Q.out.frozen 3
  change w4.cell? _ = some (.int .i64 0) at y
  go_wp2_with fail
  clear y f
  replace Q : Hid (St 25 (w4.setCell ⟨q1, 3, none⟩ (.int .i64 x3)) q1 #[.string nm, .int .i64 x1, .int .i64 x2, .int .i64 x3]) := setqs Q.out 3 _ (by simp)
  replace T0 := hid (T0.out.kp (kp_setCell w4 q1 3 (.int .i64 x3) (fun g => g = q1) rfl) (by omega))
  replace R1 : Hid (Rdr (w4.setCell ⟨q1, 3, none⟩ (.int .i64 x3)) R D s3) := R1.out.kp (kp_setCell w4 q1 3 (.int .i64 x3) (fun g => g = q1) rfl) (by omega) (fun g hg e => by omega)
  replace K1 := hid (K1.out.trans (kp_setCell w4 q1 3 (.int .i64 x3) (fun g => g = q1) rfl) (fun g hg e => by have := HQ0.out; omega))
  clear W
  generalize w4.setCell ⟨q1, 3, none⟩ (.int .i64 x3) = W at *
  clear w4
  subst hC
  go_wp2_with (first | (refine wpList_load_s rfl (.tmp 3) rfl q1 rfl (e := ⟨nm, x1, x2, x3⟩) Q.out ?_) | (refine wpList_store_s rfl (.tmp 2) (.tmp 16) rfl q0 rfl (e := zSn) (e' := ⟨nm, x1, x2, x3⟩) rfl T0.out ?_; intro w9 s9 k9))
  refine bodyPost_ret (results_cell1 Try.results44 _ _ _ rfl s9.load) rfl ?_
  rw [HE.out]
  have hq0 := HQ0.out
  exact ⟨rfl, R1.out.kp k9 (by omega) (fun g hg e => by omega), K1.out.trans k9 (fun g hg e => by omega)⟩
end Go.Proofs.Ytjjhkfhppoioiaa
