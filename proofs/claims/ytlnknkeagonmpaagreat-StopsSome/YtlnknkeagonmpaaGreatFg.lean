/- Flush, of a file that is there. -/
import Derived.Test.YtlnknkeagonmpaaGreatFl
import Derived.Test.YtlnknkeagonmpaaGreatWt
namespace Go.Proofs.YtlnknkeagonmpaaGreat
open Go.RowKit

theorem lft_le (k0 n0 : Int) (m : Nat) : lft k0 n0 m ≤ m := by
  unfold lft
  split
  · exact Nat.le_refl _
  · omega
/-- A file of which so many pieces have come to last. -/
def gfl (q : Gf) (n : Nat) : Gf := ⟨q.sz, ovs q.L (q.ps.take n), q.ps.drop n⟩
set_option maxRecDepth 100000 in
set_option maxHeartbeats 4000000 in
theorem flush_go (D : Nat → Prop) (w : World) (g fm : Nat) (fv : Value) (steps : Nat) (l r : List Fe) (ft : List (Int × Int)) (es : List (ByteArray × Value × Nat)) (c : Nat) (s : ByteArray) (a : Fa) (q : Gf) (h : Sr D w g fm fv steps (l ++ (s, a, q) :: r) ft es c) (hq : fget (l ++ (s, a, q) :: r) s = some (s, a, q)) (hsb : steps < 1000000000) (k0 n0 : Int) (hk : ft.headD (0, 0) = (k0, n0)) :
    Calls Tryz.prog 26 #[.pointer (some ⟨g, 0, none⟩), .string s] w fun e w' => e = .returned (.int .i64 (ferr k0)) ∧ ∃ D' fv' a', Sr D' w' g fm fv' (steps + 1) (l ++ (s, a', gfl q (lft k0 n0 q.ps.length)) :: r) ft.tail es c ∧ fv'.ownBlock = fv.ownBlock ∧ Wk D w (g :: a.own) w' D' (g :: a'.own) := by
  have hn : nmd s = true := h.nm (s, a, q) (by simp)
  have HFI : Hid (Calls Tryz.prog 37 #[.pointer (some ⟨g, 0, none⟩), .string s] w fun e w' => e = .returned (.tuple #[.pointer (some ⟨a.fb, 0, none⟩), .int .i64 0]) ∧ w' = w) := h.file_some s hn (s, a, q) hq
  have HS : Hid (Sr D w g fm fv steps (l ++ (s, a, q) :: r) ft es c) := h
  have HK : Hid (ft.headD (0, 0) = (k0, n0)) := hk
  clear h hq hk hn
  go_enter Tryz.func26, Tryz.ntmps26
  go_wp2_with fail
  refine HFI.out.mono ?_
  rintro e w1 ⟨rfl, hw1⟩
  replace hw1 := hw1.symm
  subst hw1
  go_wp2_with fail
  refine (step_any g _ fv steps ft _ HS.out.st (by have := HS.out.sb; omega) HS.out.fa HS.out.fvg).mono ?_
  rintro e w2 ⟨rfl, fv1, s2, f2, o2, k2⟩
  rw [HK.out]
  have HS2 : Hid (Sr D w2 g fm fv1 (steps + 1) (l ++ (s, a, q) :: r) ft.tail es c) := HS.out.stepped s2 f2 o2 k2 hsb
  have HO2 : Hid (fv1.ownBlock = fv.ownBlock) := o2
  have K2 : Hid (Kp (fun i => i = g) w w2) := k2
  clear s2 f2 o2 k2
  go_wp2_with fail
  have tf := St.new 86 w2 #[.int .i64 k0, .int .i64 n0]
  have k3 : Kp (fun _ => False) w2 (w2.alloc (.cells #[.int .i64 k0, .int .i64 n0] 86)) := (Kp.refl _ _).alloc _
  generalize w2.alloc (.cells #[.int .i64 k0, .int .i64 n0] 86) = W3 at tf k3 ⊢
  have S3 := HS2.out.kp k3 (fun _ _ h => h) (fun _ _ h => h)
  have f3 : Fr D W3 a q.sz q.L q.ps := S3.fr (s, a, q) (by simp)
  obtain ⟨vs, hpr⟩ := f3.pc
  obtain ⟨pao, pcap, hpv⟩ := ownsRow_shape hpr.row
  have c0 : W3.cell? ⟨w2.heap.size, 0, none⟩ = some (.int .i64 k0) := tf.cell 0
  have c1 : W3.cell? ⟨w2.heap.size, 1, none⟩ = some (.int .i64 n0) := tf.cell 1
  have c3 : W3.cell? ⟨a.fb, 3, none⟩ = some (.slice pao q.ps.length pcap) := by rw [← hpv]; exact f3.st.cell 3
  have HS3 : Hid (Sr D W3 g fm fv1 (steps + 1) (l ++ (s, a, q) :: r) ft.tail es c) := S3
  have HTF : Hid (St 86 W3 w2.heap.size #[.int .i64 k0, .int .i64 n0]) := tf
  have K3 : Hid (Kp (fun i => i = g) w W3) := K2.out.trans k3 (fun _ _ h => h.elim)
  have HTN : Hid (∀ i, i ∈ ownS g fm fv1 (l ++ (s, a, q) :: r) → i < w2.heap.size) := HS2.out.lt
  clear S3 f3 hpr hpv tf k3
  refine wp_region_G (fun w' => w'.cell? ⟨w2.heap.size, 0, none⟩ = some (.int .i64 k0) ∧ w'.cell? ⟨w2.heap.size, 1, none⟩ = some (.int .i64 n0) ∧ w'.cell? ⟨a.fb, 3, none⟩ = some (.slice pao q.ps.length pcap)) [8] hmix ⟨c0, c1, c3⟩ (fun h0 => ?_)
  refine wpAnyG_takeW (i := 0) (v := .pointer (some ⟨a.fb, 0, none⟩)) rfl (by kernel_rfl) (fun _ _ _ h => h) (Or.inl ⟨by rfl, fun w _ => by go_simp⟩) ?_
  refine wpAnyG_take (i := 1) (v := .agg #[.int .i64 k0, .int .i64 n0]) rfl (by kernel_rfl) (fun _ _ _ h => h) (Or.inl ⟨by rfl, fun w hSw => by (try dsimp only at hSw); go_simp⟩) h0 ?_
  refine wpAnyG_takeW (i := 2) (v := .pointer (some ⟨a.fb, 0, none⟩)) rfl (by kernel_rfl) (fun _ _ _ h => h) (Or.inl ⟨by rfl, fun w _ => by go_simp⟩) ?_
  refine wpAnyG_takeW (i := 3) (v := .pointer (some ⟨a.fb, 0, none⟩)) rfl (by kernel_rfl) (fun _ _ _ h => h) (Or.inl ⟨by rfl, fun w _ => by go_simp⟩) ?_
  refine wpAnyG_takeW (i := 4) (v := .pointer (some ⟨a.fb, 3, none⟩)) rfl (by kernel_rfl) (fun _ _ _ h => h) (Or.inl ⟨by rfl, fun w _ => by go_simp⟩) ?_
  refine wpAnyG_take (i := 5) (v := .slice pao q.ps.length pcap) rfl (by kernel_rfl) (fun _ _ _ h => h) (Or.inl ⟨by rfl, fun w hSw => by (try dsimp only at hSw); go_simp⟩) h0 ?_
  refine wpAnyG_takeW (i := 6) (v := .int .i64 (q.ps.length : Int)) rfl (by kernel_rfl) (fun _ _ _ h => h) (Or.inl ⟨by rfl, fun w _ => by go_simp⟩) ?_
  refine wpAnyG_one (i := 7) (by kernel_rfl) rfl (fun K1 hK => ?_)
  go_simp
  refine (kept_f k0 n0 q.ps.length _).mono ?_
  rintro e w4 ⟨rfl, b4⟩
  have k4 : Kp (fun _ => False) W3 w4 := ((Kp.refl _ _).drew).trans (Kp.of_below (F := fun _ => False) b4) (fun _ _ h => h)
  have S4 := HS3.out.kp k4 (fun _ _ h => h) (fun _ _ h => h)
  have f4 : Fr D w4 a q.sz q.L q.ps := S4.fr (s, a, q) (by simp)
  go_wp2_with fail
  refine hK.out _ _ (fun _ h => ⟨(b4.cell (block_lt_of_cell h.1)).trans h.1, (b4.cell (block_lt_of_cell h.2.1)).trans h.2.1, (b4.cell (block_lt_of_cell h.2.2)).trans h.2.2⟩) ?_
  clear hK K1
  refine wpAnyG_one (i := 8) (by kernel_rfl) rfl (fun K1 hK => ?_)
  go_simp
  refine (flush_any D w4 a q.sz q.L q.ps f4 (lft k0 n0 q.ps.length) (lft_le _ _ _)).mono ?_
  rintro e w5 ⟨rfl, D5, a5, hb5, fr5, wk5⟩
  have hnt : w2.heap.size ∉ a.own := fun hm => by
    have := HTN.out _ (mem_ownS.2 (.inr (.inr (.inr ⟨(s, a, q), by simp, hm⟩))))
    omega
  have tf5 := (HTF.out.kp k4 (fun h => h)).kp wk5.k hnt
  have S5 : Sr D5 w5 g fm fv1 (steps + 1) (l ++ (s, a5, gfl q (lft k0 n0 q.ps.length)) :: r) ft.tail es c := S4.upd (q' := gfl q (lft k0 n0 q.ps.length)) wk5 hb5 fr5
  have wk : Wk D w (g :: a.own) w5 D5 (g :: a5.own) := by
    have hz : w.heap.size ≤ w4.heap.size := Nat.le_trans K3.out.size k4.size
    refine ⟨((K3.out.mono (fun i _ e => by rw [e]; exact List.mem_cons_self)).trans k4 (fun _ _ h => h.elim)).trans wk5.k (fun i _ h => List.mem_cons_of_mem _ h), fun i hi => ?_, wk5.d, fun i hi => (wk5.e i hi).elim .inl (fun x => .inr (by omega))⟩
    rcases List.mem_cons.1 hi with e | e
    · exact .inl (by rw [e]; exact List.mem_cons_self)
    · exact (wk5.o i e).elim (fun x => .inl (List.mem_cons_of_mem _ x)) (fun x => .inr (by omega))
  have HS5 : Hid (Sr D5 w5 g fm fv1 (steps + 1) (l ++ (s, a5, gfl q (lft k0 n0 q.ps.length)) :: r) ft.tail es c) := S5
  have HWK : Hid (Wk D w (g :: a.own) w5 D5 (g :: a5.own)) := wk
  have d0 : w5.cell? ⟨w2.heap.size, 0, none⟩ = some (.int .i64 k0) := tf5.cell 0
  have d1 : w5.cell? ⟨w2.heap.size, 1, none⟩ = some (.int .i64 n0) := tf5.cell 1
  go_wp2_with fail
  refine hK.out _ _ (fun h => absurd h (by decide)) ?_
  clear hK K1
  refine wpAnyG_done (by kernel_rfl) ?_ _
  clear S5 wk tf5 f4 S4 k4 b4 fr5 wk5 c0 c1 c3 h0
  go_wp2_with (first | (go_at_call 36; refine (came_f k0 n0 _).mono ?_; rintro e w6 ⟨rfl, b6⟩))
  have k6 : Kp (fun _ => False) w5 w6 := Kp.of_below b6
  go_ret
  exact ⟨rfl, D5, fv1, a5, HS5.out.kp k6 (fun _ _ h => h) (fun _ _ h => h), HO2.out, HWK.out.kp k6⟩
end Go.Proofs.YtlnknkeagonmpaaGreat
