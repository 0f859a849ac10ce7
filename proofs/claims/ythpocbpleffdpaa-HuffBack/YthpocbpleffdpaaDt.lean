/- huff.Take. -/
import Derived.Test.YthpocbpleffdpaaDr
import Derived.Test.YthpocbpleffdpaaXbX
namespace Go.Proofs.Ythpocbpleffdpaa
open Go.RowKit
set_option linter.unusedVariables false
set_option linter.unusedSimpArgs false
theorem kpB {F : Nat → Prop} {w w' : World} (k : Bz.Kp F w w') : Kp F w w' := ⟨k.os, k.tape, k.output, k.size, k.block⟩
theorem kpZ {F : Nat → Prop} {w w' : World} (k : Kp F w w') : Bz.Kp F w w' := ⟨k.os, k.tape, k.output, k.size, k.block⟩
theorem xv_congr {b c : Nat → Nat} {t : Nat} (h : ∀ k, k < t → b k = c k) : ∀ m, m ≤ t → xv b m = xv c m
  | 0, _ => rfl
  | m + 1, hm => by simp only [xv]; rw [xv_congr h m (by omega), h m (by omega)]
theorem Dec.congr {zs : List Int} {b c : Nat → Nat} {t : Nat} {s n e : Int} (h : ∀ k, k < t → b k = c k) (d : Dec zs b t s n e) : Dec zs c t s n e := by
  have hx := xv_congr h
  have hn : ∀ m, m ≤ t → Nm zs b m → Nm zs c m := fun m hm g i hi => by rw [← hx i (by omega)]; exact g i hi
  rcases d with ⟨k, m, h1, h2, h3, h4, h5, h6, h7⟩ | ⟨h1, h2, h3, m, h4, h5, h6⟩ | ⟨h1, h2, h3, h4, h5⟩
  · exact .inl ⟨k, m, h1, h2, h3, h4, h5, by rw [← hx _ h4]; exact h6, hn m (by omega) h7⟩
  · exact .inr (.inl ⟨h1, h2, h3, m, h4, hn m h4 h5, by rw [← hx m h4]; exact h6⟩)
  · exact .inr (.inr ⟨h1, h2, h3, hn t (Nat.le_refl _) h4, by rw [← hx t (Nat.le_refl _)]; exact h5⟩)
/-- The bits from the place p on. -/
def bt (V p : Nat) (k : Nat) : Nat := V / 2 ^ (p + k) % 2
theorem bt_peek (V p k : Nat) (h : k < 15) : V / 2 ^ p % 2 ^ 15 / 2 ^ k % 2 = bt V p k := by
  unfold bt
  rw [Bz.div_mod_pow 2 (V / 2 ^ p) 15 k h, Nat.div_div_eq_div_mul, ← Nat.pow_add]
theorem Cd.ok {w w' : World} {g : Nat} {la ca sa : Option Addr} {lc cc sc : Nat} {zs S : List Int} (h : Cd w g la ca sa lc cc sc zs S) (k : Kp (fun _ => False) w w') : Cd w' g la ca sa lc cc sc zs S := h.kp k (fun x => x) (fun _ _ _ x => x)
/-- A code's blocks. -/
def Cdf (g : Nat) (la ca sa : Option Addr) (i : Nat) : Prop := i = g ∨ ∃ off, la = some ⟨i, off, none⟩ ∨ ca = some ⟨i, off, none⟩ ∨ sa = some ⟨i, off, none⟩
theorem Cd.kpf {F : Nat → Prop} {w w' : World} {g : Nat} {la ca sa : Option Addr} {lc cc sc : Nat} {zs S : List Int} (h : Cd w g la ca sa lc cc sc zs S) (k : Kp F w w') (hf : ∀ i, Cdf g la ca sa i → ¬ F i) : Cd w' g la ca sa lc cc sc zs S := h.kp k (hf g (.inl rfl)) (fun b off e => hf b (.inr ⟨off, e⟩))
set_option maxRecDepth 100000 in
set_option maxHeartbeats 4000000 in
theorem take_any (w : World) (g gr : Nat) (la ca sa ao : Option Addr) (lc cc sc cap : Nat) (zs S B : List Int) (p : Nat) (h : Cd w g la ca sa lc cc sc zs S) (hr : Bz.Rd w gr ao cap B p) (hne : ∀ i, Cdf g la ca sa i → i ≠ gr) :
    Calls Try.prog 41 #[.pointer (some ⟨g, 0, none⟩), .pointer (some ⟨gr, 0, none⟩)] w fun e w' => ∃ (s er : Int) (n : Nat), e = .returned (.tuple #[.int .i64 s, .int .i64 er]) ∧ Dec zs (bt (Bz.und 256 B) p) (min 15 (8 * B.length - p)) s (n : Int) er ∧ p + n ≤ 8 * B.length ∧ Bz.Rd w' gr ao cap B (p + n) ∧ Kp (fun i => i = gr) w w' := by
  obtain ⟨X, hX⟩ : ∃ X, X = Bz.und 256 B / 2 ^ p % 2 ^ 15 := ⟨_, rfl⟩
  obtain ⟨M, hM⟩ : ∃ M, M = min 15 (8 * B.length - p) := ⟨_, rfl⟩
  have HPK : Hid (Calls Try.prog 68 #[.pointer (some ⟨gr, 0, none⟩), .int .i64 15] w fun e w' => e = .returned (.tuple #[.int .u64 (X : Int), .int .i64 (M : Int), .int .i64 0]) ∧ Bz.Rd w' gr ao cap B p ∧ Bz.Kp (fun i => i = gr) w w') := (Bz.peek_x gr ao cap B p 15 X M w (by omega) hr ⟨hX, hM⟩).mono (by
    rintro e w' ⟨h1, nx, wt, h2, _, h3⟩
    exact ⟨h1, ⟨nx, wt, h2⟩, h3⟩)
  have hX2 : X < 18446744073709551616 := by rw [hX]; have := Nat.mod_lt (Bz.und 256 B / 2 ^ p) (Nat.two_pow_pos 15); omega
  have HFI : Hid (∀ U, Kp (fun i => i = gr) w U → Calls Try.prog 69 #[.pointer (some ⟨g, 0, none⟩), .int .u64 (X : Int), .int .i64 (M : Int)] U fun e w' => ∃ s n er : Int, e = .returned (.tuple #[.int .i64 s, .int .i64 n, .int .i64 er]) ∧ Dec zs (bt (Bz.und 256 B) p) M s n er ∧ Kp (fun _ => False) U w') := fun U k => (find_any U g la ca sa lc cc sc zs S X M (h.kpf k hne) hX2 (by omega)).mono (by
    rintro e w' ⟨s, n, er, h1, h2, h3⟩
    refine ⟨s, n, er, h1, h2.congr (fun k hk => ?_), h3⟩
    rw [hX]
    exact bt_peek _ p k (by omega))
  have HSK : Hid (∀ U (n : Nat) (x : Int), x = (n : Int) → Bz.Rd U gr ao cap B p → p + n ≤ 8 * B.length → Calls Try.prog 65 #[.pointer (some ⟨gr, 0, none⟩), .int .i64 x] U fun e w' => e = .returned (.int .i64 0) ∧ Bz.Rd w' gr ao cap B (p + n) ∧ Bz.Kp (fun i => i = gr) U w') := fun U n x e r hl => by subst e; exact Bz.skip_ok gr ao cap B p n U r hl
  have HLE : Hid (p ≤ 8 * B.length) := hr.le
  have HMM := hid hM
  rw [← hM]
  clear hr h hne hX hM
  go_enter Try.func41, Try.ntmps41
  go_wp2_with fail
  refine HPK.out.mono ?_
  rintro e w1 ⟨rfl, r1, k1⟩
  have R1 := hid r1
  have K1 := hid (kpB k1)
  have HF1 := hid (HFI.out w1 K1.out)
  clear r1 k1 HPK HFI
  go_wp2_with fail
  refine HF1.out.mono ?_
  rintro e w2 ⟨s, n, er, rfl, d2, k2⟩
  have K2 := hid (K1.out.trans k2 (fun _ _ x => x.elim))
  have R2 := hid (R1.out.ok (kpZ k2))
  have D2 := hid d2
  clear k2 R1 K1 HF1
  rcases d2 with ⟨k, m, rfl, rfl, rfl, h4, _⟩ | ⟨rfl, rfl, rfl, _⟩ | ⟨rfl, rfl, rfl, _⟩
  · have hle : p + (m + 1) ≤ 8 * B.length := by have := HMM.out; have := HLE.out; omega
    have HS2 := hid (HSK.out w2 (m + 1) ((m + 1 : Nat) : Int) rfl R2.out hle)
    push_cast at HS2
    clear HSK
    go_wp2_with fail
    refine HS2.out.mono ?_
    rintro e w3 ⟨rfl, r3, k3⟩
    have K3 := hid (K2.out.trans (kpB k3) (fun _ _ x => x))
    have R3 := hid r3
    clear k3 r3 HS2
    go_wp2_with fail
    go_ret2
    exact ⟨_, _, m + 1, rfl, D2.out, hle, R3.out, K3.out⟩
  · go_wp2_with fail
    go_ret2
    exact ⟨_, _, 0, rfl, D2.out, HLE.out, R2.out, K2.out⟩
  · go_wp2_with fail
    go_ret2
    exact ⟨_, _, 0, rfl, D2.out, HLE.out, R2.out, K2.out⟩
end Go.Proofs.Ythpocbpleffdpaa
