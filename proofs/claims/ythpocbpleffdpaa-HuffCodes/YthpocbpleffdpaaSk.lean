/- How deep each symbol lies: sink. -/
import Derived.Test.YthpocbpleffdpaaLv
namespace Go.Proofs.Ythpocbpleffdpaa
open Go.RowKit

/-- The depths of a tree's symbols, laid into Z (the first number: enough for its height). -/
def snk (F : List Nd) : Nat → Nat → Nat → List Int → List Int
  | 0, _, _, Z => Z
  | n + 1, k, d, Z => match (F.getD k nd0).2.2 with
    | none => Z.set (F.getD k nd0).2.1 d
    | some p => snk F n p.2 (d + 1) (snk F n p.1 (d + 1) Z)
theorem snk_len (F : List Nd) : ∀ n k d Z, (snk F n k d Z).length = Z.length := by
  intro n
  induction n with
  | zero => intro k d Z; rfl
  | succ n ih =>
    intro k d Z
    unfold snk
    split
    · simp
    · rw [ih, ih]
theorem Rw.st {κ : IntKind} {t : TypeId} {w : World} {g : Nat} {L : List Int} (h : Rw κ t w g L) : St t w g (L.map (Value.int κ)).toArray := h

set_option maxHeartbeats 4000000 in
set_option maxRecDepth 100000 in
theorem sink_any (F : List Nd) (bs : List Nat) (Fb G : Nat) : ∀ (n k d : Nat) (Z : List Int) (w : World), k < n → k < F.length → d + n < 4611686018427387904 → Fo w Fb F bs → Rw .i64 3 w G Z → (∀ j, j < F.length → (F.getD j nd0).2.2 = none → (F.getD j nd0).2.1 < Z.length) → Z.length ≤ 1000000000 →
    Calls Try.prog 75 #[ptr (bs.getD k 0), .int .i64 d, .slice (some ⟨G, 0, none⟩) Z.length Z.length] w fun e w' => e = .returned (.tuple #[]) ∧ Rw .i64 3 w' G (snk F n k d Z) ∧ Kp (fun x => x = G) w w' := by
  intro n
  induction n with
  | zero => intro k d Z w h; omega
  | succ n ih =>
    intro k d Z w hkn hk hd hf hr hsy hZ
    have hn := hf.nd k hk
    have hGF : ¬ Fb = G := fun e => apart_types (by decide) (e ▸ hf.st) hr.st
    have hGb : ∀ b ∈ bs, ¬ b = G := fun b hb e => by
      obtain ⟨j, hj, rfl⟩ := hf.mem hb
      exact apart_types (by decide) (e ▸ hf.nd j hj) hr.st
    have hsk : snk F (n + 1) k d Z = match (F.getD k nd0).2.2 with | none => Z.set (F.getD k nd0).2.1 d | some p => snk F n p.2 (d + 1) (snk F n p.1 (d + 1) Z) := by rw [snk]
    rw [hsk]
    have hkid := hf.kid k
    have hsy1 := hsy k hk
    generalize hx : F.getD k nd0 = x at hn hkid hsy1 ⊢
    obtain ⟨co, sy, kd⟩ := x
    cases kd with
    | none =>
      have hs := hsy1 rfl
      have c2 := hn.cell 2
      have c3 := hn.cell 3
      have cz := hr.cell sy hs
      have fz := hr.frozen sy
      simp [pto] at c2 c3 hs cz
      have HR := hid hr
      clear hn hkid hsy1 hf hr hsk ih hx hsy
      unfold ptr
      simp only [List.getD_eq_getElem?_getD] at *
      generalize bs[k]?.getD 0 = a at *
      generalize Z[sy]?.getD 0 = zz at *
      go_enter Try.func75, Try.ntmps75
      go_wp2_with fail
      refine bodyPost_ret (results_none rfl _ _ _) rfl ?_
      exact ⟨rfl, HR.out.set sy d, kp_setCell w G sy _ (fun x => x = G) rfl⟩
    | some p =>
      obtain ⟨p1, p2⟩ := p
      obtain ⟨q1, q2⟩ := hkid (p1, p2) hk rfl
      have c3 := hn.cell 3
      have c4 := hn.cell 4
      simp [pto] at c3 c4
      have H1 : Hid (Calls Try.prog 75 #[.pointer (some ⟨bs.getD p1 0, 0, none⟩), .int .i64 ((d : Int) + 1), .slice (some ⟨G, 0, none⟩) Z.length Z.length] w fun e w' => e = .returned (.tuple #[]) ∧ Rw .i64 3 w' G (snk F n p1 (d + 1) Z) ∧ Kp (fun x => x = G) w w') := ih p1 (d + 1) Z w (by omega) (by omega) (by omega) hf hr hsy hZ
      have H2 : Hid (∀ w1, Rw .i64 3 w1 G (snk F n p1 (d + 1) Z) → Kp (fun x => x = G) w w1 → Calls Try.prog 75 #[.pointer (some ⟨bs.getD p2 0, 0, none⟩), .int .i64 ((d : Int) + 1), .slice (some ⟨G, 0, none⟩) Z.length Z.length] w1 fun e w' => e = .returned (.tuple #[]) ∧ Rw .i64 3 w' G (snk F n p2 (d + 1) (snk F n p1 (d + 1) Z)) ∧ Kp (fun x => x = G) w1 w') := by
        intro w1 r1 k1
        have := ih p2 (d + 1) (snk F n p1 (d + 1) Z) w1 (by omega) (by omega) (by omega) (hf.kp k1 hGF hGb) r1 (by rw [snk_len]; exact hsy) (by rw [snk_len]; exact hZ)
        rw [snk_len] at this
        exact this
      have HC : Hid (∀ w1, Kp (fun x => x = G) w w1 → w1.cell? ⟨bs.getD k 0, 4, none⟩ = some (.pointer (some ⟨bs.getD p2 0, 0, none⟩))) := fun w1 k1 => by
        have := (hn.kp k1 (hGb _ (by have := hf.len; simp [List.getD, show k < bs.length by omega]))).cell 4
        simpa [pto] using this
      simp only [List.getD_eq_getElem?_getD] at *
      clear hn hkid hsy1 hf hr hsk ih hx hsy
      unfold ptr
      generalize bs[k]?.getD 0 = a at *
      generalize bs[p1]?.getD 0 = b1 at *
      generalize bs[p2]?.getD 0 = b2 at *
      go_enter Try.func75, Try.ntmps75
      go_wp2_with (first
        | (go_at_call 75; refine H1.out.mono ?_; rintro _ w1 ⟨rfl, R1, K1⟩; have d4 := HC.out w1 K1; have HB := hid (H2.out w1 R1 K1); clear H1)
        | (go_at_call 75; refine HB.out.mono ?_; rintro _ w2 ⟨rfl, R2, K2⟩))
      go_end0
      exact ⟨rfl, R2, K1.trans K2 (fun _ _ h => h)⟩
end Go.Proofs.Ythpocbpleffdpaa
