/- Resize, of a file that is there. -/
import Derived.Test.YtalicohflfildaaRz
import Derived.Test.YtalicohflfildaaFg
namespace Go.Proofs.Ytalicohflfildaa
open Go.RowKit

def grs (k0 : Int) (q : Gf) (n : Nat) : Gf := if k0 = 0 then grz q n else q
set_option maxRecDepth 100000 in
set_option maxHeartbeats 1000000 in
theorem resize_rng (s : ByteArray) (v : Value) (fb : Nat) (n e0 : Int) (w : World) (hf : Calls Try.prog 32 #[v, .string s] w fun e w' => e = .returned (.tuple #[.pointer (some ⟨fb, 0, none⟩), .int .i64 0]) ∧ w' = w) (h0 : (n < 0 ∧ e0 = 4) ∨ (268435456 < n ∧ e0 = 6)) :
    Calls Try.prog 23 #[v, .string s, .int .i64 n] w fun e w' => e = .returned (.int .i64 e0) ∧ w' = w := by
  have HF : Hid (Calls Try.prog 32 #[v, .string s] w fun e w' => e = .returned (.tuple #[.pointer (some ⟨fb, 0, none⟩), .int .i64 0]) ∧ w' = w) := hf
  clear hf
  rcases h0 with ⟨h0, rfl⟩ | ⟨h0, rfl⟩
  · go_enter Try.func23, Try.ntmps23
    go_wp2_with (first | (go_at_call 32; refine HF.out.mono ?_; rintro e w' ⟨rfl, h⟩; replace h := h.symm; subst h))
    go_ret
    exact ⟨rfl, rfl⟩
  · have h1 : ¬ n < 0 := by omega
    go_enter Try.func23, Try.ntmps23
    go_wp2_with (first | (go_at_call 32; refine HF.out.mono ?_; rintro e w' ⟨rfl, h⟩; replace h := h.symm; subst h))
    go_ret
    exact ⟨rfl, rfl⟩
set_option maxRecDepth 100000 in
set_option maxHeartbeats 2000000 in
theorem resize_go (D : Nat → Prop) (w : World) (g fm : Nat) (fv : Value) (steps : Nat) (l r : List Fe) (ft : List (Int × Int)) (es : List (ByteArray × Value × Nat)) (c : Nat) (s : ByteArray) (a : Fa) (q : Gf) (h : Sr D w g fm fv steps (l ++ (s, a, q) :: r) ft es c) (hq : fget (l ++ (s, a, q) :: r) s = some (s, a, q)) (hsb : steps < 1000000000) (k0 n0 : Int) (hk : ft.headD (0, 0) = (k0, n0)) (n : Nat) (hn : n ≤ 268435456) :
    Calls Try.prog 23 #[.pointer (some ⟨g, 0, none⟩), .string s, .int .i64 n] w fun e w' => e = .returned (.int .i64 (ferr k0)) ∧ ∃ D' fv' a', Sr D' w' g fm fv' (steps + 1) (l ++ (s, a', grs k0 q n) :: r) ft.tail es c ∧ fv'.ownBlock = fv.ownBlock ∧ Wk D w (g :: a.own) w' D' (g :: a'.own) := by
  have hnm : nmd s = true := h.nm (s, a, q) (by simp)
  have HFI : Hid (Calls Try.prog 32 #[.pointer (some ⟨g, 0, none⟩), .string s] w fun e w' => e = .returned (.tuple #[.pointer (some ⟨a.fb, 0, none⟩), .int .i64 0]) ∧ w' = w) := h.file_some s hnm (s, a, q) hq
  have HS : Hid (Sr D w g fm fv steps (l ++ (s, a, q) :: r) ft es c) := h
  have HK : Hid (ft.headD (0, 0) = (k0, n0)) := hk
  clear h hq hk hnm
  have h1 : ¬ (n : Int) < 0 := by omega
  have h2 : ¬ (268435456 : Int) < (n : Int) := by omega
  go_enter Try.func23, Try.ntmps23
  go_wp2_with fail
  refine HFI.out.mono ?_
  rintro e w1 ⟨rfl, hw1⟩
  replace hw1 := hw1.symm
  subst hw1
  go_wp2_with fail
  refine (step_any g _ fv steps ft _ HS.out.st (by have := HS.out.sb; omega) HS.out.fa HS.out.fvg).mono ?_
  rintro e w2 ⟨rfl, fv1, s2, f2, o2, k2⟩
  rw [HK.out]
  have S2 := HS.out.stepped s2 f2 o2 k2 hsb
  have HO2 : Hid (fv1.ownBlock = fv.ownBlock) := o2
  have tf := St.new 58 w2 #[.int .i64 k0, .int .i64 n0]
  have k3 : Kp (fun _ => False) w2 (w2.alloc (.cells #[.int .i64 k0, .int .i64 n0] 58)) := (Kp.refl _ _).alloc _
  have c0 : (w2.alloc (.cells #[.int .i64 k0, .int .i64 n0] 58)).cell? ⟨w2.heap.size, 0, none⟩ = some (.int .i64 k0) := tf.cell 0
  have c1 : (w2.alloc (.cells #[.int .i64 k0, .int .i64 n0] 58)).cell? ⟨w2.heap.size, 1, none⟩ = some (.int .i64 n0) := tf.cell 1
  have S3 := S2.kp k3 (fun _ _ h => h) (fun _ _ h => h)
  have HS3 : Hid (Sr D (w2.alloc (.cells #[.int .i64 k0, .int .i64 n0] 58)) g fm fv1 (steps + 1) (l ++ (s, a, q) :: r) ft.tail es c) := S3
  have HTF : Hid (St 58 (w2.alloc (.cells #[.int .i64 k0, .int .i64 n0] 58)) w2.heap.size #[.int .i64 k0, .int .i64 n0]) := tf
  have HTN : Hid (∀ i, i ∈ ownS g fm fv1 (l ++ (s, a, q) :: r) → i < w2.heap.size) := S2.lt
  have K3 : Hid (Kp (fun i => i = g) w (w2.alloc (.cells #[.int .i64 k0, .int .i64 n0] 58))) := k2.trans k3 (fun _ _ h => h.elim)
  clear s2 f2 o2 k2 S2 S3 tf k3
  by_cases hz : k0 = 0
  · subst hz
    go_wp2_with fail
    have f3 : Fr D (w2.alloc (.cells #[.int .i64 0, .int .i64 n0] 58)) a q.sz q.L q.ps := HS3.out.fr (s, a, q) (by simp)
    refine (resize_any D _ a q f3 n hn).mono ?_
    rintro e w5 ⟨rfl, D5, a5, hb5, fr5, wk5⟩
    have hnt : w2.heap.size ∉ a.own := fun hm => by
      have := HTN.out _ (mem_ownS.2 (.inr (.inr (.inr ⟨(s, a, q), by simp, hm⟩))))
      omega
    have tf5 := HTF.out.kp wk5.k hnt
    have S5 : Sr D5 w5 g fm fv1 (steps + 1) (l ++ (s, a5, grz q n) :: r) ft.tail es c := HS3.out.upd (q' := grz q n) wk5 hb5 fr5
    have wk : Wk D w (g :: a.own) w5 D5 (g :: a5.own) := by
      have hz := K3.out.size
      refine ⟨(K3.out.mono (fun i _ e => by rw [e]; exact List.mem_cons_self)).trans wk5.k (fun i _ h => List.mem_cons_of_mem _ h), fun i hi => ?_, wk5.d, fun i hi => (wk5.e i hi).elim .inl (fun x => .inr (by omega))⟩
      rcases List.mem_cons.1 hi with e | e
      · exact .inl (by rw [e]; exact List.mem_cons_self)
      · exact (wk5.o i e).elim (fun x => .inl (List.mem_cons_of_mem _ x)) (fun x => .inr (by omega))
    have d0 : w5.cell? ⟨w2.heap.size, 0, none⟩ = some (.int .i64 0) := tf5.cell 0
    have d1 : w5.cell? ⟨w2.heap.size, 1, none⟩ = some (.int .i64 n0) := tf5.cell 1
    have HS5 : Hid (Sr D5 w5 g fm fv1 (steps + 1) (l ++ (s, a5, grz q n) :: r) ft.tail es c) := S5
    have HWK : Hid (Wk D w (g :: a.own) w5 D5 (g :: a5.own)) := wk
    clear S5 wk tf5 f3 fr5 wk5 c0 c1
    go_wp2_with (first | (go_at_call 39; refine (came_f 0 n0 _).mono ?_; rintro e w6 ⟨rfl, b6⟩))
    have k6 : Kp (fun _ => False) w5 w6 := Kp.of_below b6
    go_ret
    exact ⟨rfl, D5, fv1, a5, HS5.out.kp k6 (fun _ _ h => h) (fun _ _ h => h), HO2.out, HWK.out.kp k6⟩
  · have hzb : (k0 == 0) = false := by simpa using hz
    go_wp2_with (first | (go_at_call 39; refine (came_f k0 n0 _).mono ?_; rintro e w5 ⟨rfl, b5⟩))
    have k5 : Kp (fun _ => False) (w2.alloc (.cells #[.int .i64 k0, .int .i64 n0] 58)) w5 := Kp.of_below b5
    go_ret
    rw [show grs k0 q n = q from if_neg hz]
    exact ⟨rfl, D, fv1, a, HS3.out.kp k5 (fun _ _ h => h) (fun _ _ h => h), HO2.out, (K3.out.mono (fun i _ e => by rw [e]; exact List.mem_cons_self)).trans k5 (fun _ _ h => h.elim), fun i hi => .inl hi, fun _ h => h, fun _ h => .inl h⟩
end Go.Proofs.Ytalicohflfildaa
