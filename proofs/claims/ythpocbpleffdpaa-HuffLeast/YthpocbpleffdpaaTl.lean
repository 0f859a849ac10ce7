/- Plain; a tree's symbols counted: tally. -/
import Derived.Test.YthpocbpleffdpaaXdX
namespace Go.Proofs.Ythpocbpleffdpaa
open Go.RowKit

set_option maxHeartbeats 2000000 in
set_option maxRecDepth 100000 in
theorem plain_ok (w : World) (ao : Option Addr) (cap : Nat) (zs : List Int) (hl : zs.length ≤ 320) (hz : ∀ z ∈ zs, 0 ≤ z ∧ z < 4294967296) (hs : Src .u32 w ao zs) :
    Calls Try.prog 23 #[.slice ao zs.length cap] w fun e w' => e = .returned (.tuple #[.slice (some ⟨w.heap.size, 0, none⟩) zs.length zs.length, .int .i64 0]) ∧ Rw .i64 3 w' w.heap.size (hzl zs) ∧ Kp (fun _ => False) w w' := by
  have HQ := hid (plain_any w ao cap zs (by omega) hz hs)
  clear hs hz
  go_enter Try.func23, Try.ntmps23
  go_wp2_with (first
    | (go_at_call 50; refine HQ.out.mono ?_; rintro _ w1 ⟨rfl, R1, K1⟩))
  go_ret2
  exact ⟨rfl, R1, K1⟩
set_option maxHeartbeats 2000000 in
theorem plain_long (w : World) (ao : Option Addr) (cap n : Nat) (hl : 320 < n) (hn : n ≤ 4000000000000000000) :
    Calls Try.prog 23 #[.slice ao n cap] w fun e w' => e = .returned (.tuple #[.slice none 0 0, .int .i64 3]) ∧ w' = w := by
  go_enter Try.func23, Try.ntmps23
  go_wp2_with fail
  go_ret2
  exact ⟨rfl, rfl⟩

/-- A tree's symbols, each counted into Z. -/
def tly (F : List Nd) : Nat → Nat → List Int → List Int
  | 0, _, Z => Z
  | n + 1, k, Z => match (F.getD k nd0).2.2 with
    | none => Z.set (F.getD k nd0).2.1 (Z.getD (F.getD k nd0).2.1 0 + 1)
    | some p => tly F n p.2 (tly F n p.1 Z)
/-- How many symbols a tree has. -/
def lvc (F : List Nd) : Nat → Nat → Nat
  | 0, _ => 0
  | n + 1, k => match (F.getD k nd0).2.2 with
    | none => 1
    | some p => lvc F n p.1 + lvc F n p.2
theorem tly_len (F : List Nd) : ∀ n k Z, (tly F n k Z).length = Z.length := by
  intro n
  induction n with
  | zero => intro k Z; rfl
  | succ n ih =>
    intro k Z
    unfold tly
    split
    · simp
    · rw [ih, ih]
theorem tly_le (F : List Nd) : ∀ n k Z j, Z.getD j 0 ≤ (tly F n k Z).getD j 0 ∧ (tly F n k Z).getD j 0 ≤ Z.getD j 0 + lvc F n k := by
  intro n
  induction n with
  | zero => intro k Z j; simp [tly, lvc]
  | succ n ih =>
    intro k Z j
    unfold tly lvc
    split
    · simp only [List.getD_eq_getElem?_getD, List.getElem?_set]
      split
      · rename_i e
        split
        · subst e; simp; omega
        · rename_i h; subst e; rw [List.getElem?_eq_none (by omega)]; simp
      · omega
    · rename_i p _
      have h1 := ih p.1 Z j
      have h2 := ih p.2 (tly F n p.1 Z) j
      omega

set_option maxHeartbeats 4000000 in
set_option maxRecDepth 100000 in
theorem tally_any (F : List Nd) (bs : List Nat) (Fb G : Nat) : ∀ (n k : Nat) (Z : List Int) (w : World), k < n → k < F.length → (∀ j, 0 ≤ Z.getD j 0 ∧ Z.getD j 0 + lvc F n k ≤ 4611686018427387904) → Fo w Fb F bs → Rw .i64 3 w G Z → (∀ j, j < F.length → (F.getD j nd0).2.2 = none → (F.getD j nd0).2.1 < Z.length) → Z.length ≤ 1000000000 →
    Calls Try.prog 79 #[ptr (bs.getD k 0), .slice (some ⟨G, 0, none⟩) Z.length Z.length] w fun e w' => e = .returned (.tuple #[]) ∧ Rw .i64 3 w' G (tly F n k Z) ∧ Kp (fun x => x = G) w w' := by
  intro n
  induction n with
  | zero => intro k Z w h; omega
  | succ n ih =>
    intro k Z w hkn hk hd hf hr hsy hZ
    have hn := hf.nd k hk
    have hGF : ¬ Fb = G := fun e => apart_types (by decide) (e ▸ hf.st) hr.st
    have hGb : ∀ b ∈ bs, ¬ b = G := fun b hb e => by
      obtain ⟨j, hj, rfl⟩ := hf.mem hb
      exact apart_types (by decide) (e ▸ hf.nd j hj) hr.st
    have hsk : tly F (n + 1) k Z = match (F.getD k nd0).2.2 with | none => Z.set (F.getD k nd0).2.1 (Z.getD (F.getD k nd0).2.1 0 + 1) | some p => tly F n p.2 (tly F n p.1 Z) := by rw [tly]
    have hlc : lvc F (n + 1) k = match (F.getD k nd0).2.2 with | none => 1 | some p => lvc F n p.1 + lvc F n p.2 := by rw [lvc]
    rw [hsk]
    rw [hlc] at hd
    have hkid := hf.kid k
    have hsy1 := hsy k hk
    generalize hx : F.getD k nd0 = x at hn hkid hsy1 hd ⊢
    obtain ⟨co, sy, kd⟩ := x
    cases kd with
    | none =>
      have hs := hsy1 rfl
      have c2 := hn.cell 2
      have c3 := hn.cell 3
      have cz := hr.cell sy hs
      have fz := hr.frozen sy
      have hd1 := hd sy
      simp [pto] at c2 c3 hs cz hd1
      have HR := hid hr
      clear hn hkid hsy1 hf hr hsk hlc ih hx hsy hd
      unfold ptr
      simp only [List.getD_eq_getElem?_getD] at *
      generalize bs[k]?.getD 0 = a at *
      generalize Z[sy]?.getD 0 = zz at *
      go_enter Try.func79, Try.ntmps79
      go_wp2_with fail
      refine bodyPost_ret (results_none rfl _ _ _) rfl ?_
      exact ⟨rfl, HR.out.set sy _, kp_setCell w G sy _ (fun x => x = G) rfl⟩
    | some p =>
      obtain ⟨p1, p2⟩ := p
      have hd2 : ∀ j, 0 ≤ Z.getD j 0 ∧ Z.getD j 0 + ((lvc F n p1 + lvc F n p2 : Nat) : Int) ≤ 4611686018427387904 := hd
      obtain ⟨q1, q2⟩ := hkid (p1, p2) hk rfl
      have c3 := hn.cell 3
      have c4 := hn.cell 4
      simp [pto] at c3 c4
      have H1 : Hid (Calls Try.prog 79 #[.pointer (some ⟨bs.getD p1 0, 0, none⟩), .slice (some ⟨G, 0, none⟩) Z.length Z.length] w fun e w' => e = .returned (.tuple #[]) ∧ Rw .i64 3 w' G (tly F n p1 Z) ∧ Kp (fun x => x = G) w w') := ih p1 Z w (by omega) (by omega) (fun j => by have := hd2 j; omega) hf hr hsy hZ
      have H2 : Hid (∀ w1, Rw .i64 3 w1 G (tly F n p1 Z) → Kp (fun x => x = G) w w1 → Calls Try.prog 79 #[.pointer (some ⟨bs.getD p2 0, 0, none⟩), .slice (some ⟨G, 0, none⟩) Z.length Z.length] w1 fun e w' => e = .returned (.tuple #[]) ∧ Rw .i64 3 w' G (tly F n p2 (tly F n p1 Z)) ∧ Kp (fun x => x = G) w1 w') := by
        intro w1 r1 k1
        have := ih p2 (tly F n p1 Z) w1 (by omega) (by omega) (fun j => by have h1 := hd2 j; have h2 := tly_le F n p1 Z j; omega) (hf.kp k1 hGF hGb) r1 (by rw [tly_len]; exact hsy) (by rw [tly_len]; exact hZ)
        rw [tly_len] at this
        exact this
      have HC : Hid (∀ w1, Kp (fun x => x = G) w w1 → w1.cell? ⟨bs.getD k 0, 4, none⟩ = some (.pointer (some ⟨bs.getD p2 0, 0, none⟩))) := fun w1 k1 => by
        have := (hn.kp k1 (hGb _ (by have := hf.len; simp [List.getD, show k < bs.length by omega]))).cell 4
        simpa [pto] using this
      simp only [List.getD_eq_getElem?_getD] at *
      clear hn hkid hsy1 hf hr hsk hlc ih hx hsy hd hd2
      unfold ptr
      generalize bs[k]?.getD 0 = a at *
      generalize bs[p1]?.getD 0 = b1 at *
      generalize bs[p2]?.getD 0 = b2 at *
      go_enter Try.func79, Try.ntmps79
      go_wp2_with (first
        | (go_at_call 79; refine H1.out.mono ?_; rintro _ w1 ⟨rfl, R1, K1⟩; have d4 := HC.out w1 K1; have HB := hid (H2.out w1 R1 K1); clear H1)
        | (go_at_call 79; refine HB.out.mono ?_; rintro _ w2 ⟨rfl, R2, K2⟩))
      go_end0
      exact ⟨rfl, R2, K1.trans K2 (fun _ _ h => h)⟩
end Go.Proofs.Ythpocbpleffdpaa
