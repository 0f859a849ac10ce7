/- regions: Count; what is left out by kind. -/
import Derived.Test.YtopnfjgkgoeleaaOb
namespace Go.Proofs.Ytopnfjgkgoeleaa
open Go.RowKit
set_option linter.unusedVariables false
set_option linter.unusedSimpArgs false
theorem sumL_bd {L : List Rn} (h : Srt L) (p : Int) (hp : p ≤ 72057594037927936) (ha : ∀ x ∈ L, p ≤ x.a) : 0 ≤ sumL L ∧ sumL L ≤ 72057594037927936 - p := by
  induction L generalizing p with
  | nil => simp [sumL]; omega
  | cons x L ih =>
    have hx := h.1 x (by simp)
    have hxa := ha x (by simp)
    unfold Mayr at hx
    have := ih h.tail x.e (by unfold Rn.e; omega) (fun y hy => (List.pairwise_cons.1 h.2).1 y hy)
    have e : sumL (x :: L) = x.n + sumL L := rfl
    rw [e]
    unfold Rn.e at this
    omega
theorem sumK_bd {L : List Rn} (h : Srt L) (k : Int) : 0 ≤ sumK L k ∧ sumK L k ≤ 72057594037927936 := by
  have hs : Srt (L.filter (fun x => x.k == k)) := h.sub List.filter_sublist
  have := sumL_bd hs 0 (by omega) (fun x hx => by have := hs.1 x hx; unfold Mayr at this; omega)
  unfold sumK
  omega
theorem sumL_app (L M : List Rn) : sumL (L ++ M) = sumL L + sumL M := by
  induction L with
  | nil => simp [sumL]
  | cons x L ih =>
    have e : ∀ M, sumL (x :: M) = x.n + sumL M := fun _ => rfl
    rw [List.cons_append, e, e, ih]
    omega
theorem take_step {L : List Rn} {j : Nat} (hj : j < L.length) : L.take (j + 1) = L.take j ++ [L.getD j zRn] := by
  rw [List.take_add_one]
  simp [List.getD, List.getElem?_eq_getElem hj]
theorem cntK_step {L : List Rn} {j : Nat} (hj : j < L.length) (k : Int) : cntK (L.take (j + 1)) k = cntK (L.take j) k + (if (L.getD j zRn).k = k then 1 else 0) := by
  rw [take_step hj]
  generalize L.getD j zRn = x
  unfold cntK
  rw [List.filter_append, List.length_append]
  by_cases h : x.k = k <;> simp [h]
theorem sumK_step {L : List Rn} {j : Nat} (hj : j < L.length) (k : Int) : sumK (L.take (j + 1)) k = sumK (L.take j) k + (if (L.getD j zRn).k = k then (L.getD j zRn).n else 0) := by
  rw [take_step hj]
  generalize L.getD j zRn = x
  unfold sumK
  rw [List.filter_append, sumL_app]
  by_cases h : x.k = k <;> simp [h, sumL]
theorem Srt.take {L : List Rn} (h : Srt L) (j : Nat) : Srt (L.take j) := h.sub (List.take_sublist _ _)
set_option maxRecDepth 100000 in
set_option maxHeartbeats 4000000 in
theorem count_any (w : World) (B : Nat) (ao : Option Addr) (c : Nat) (L : List Rn) (kd : Int) (h : Rg w B ao c L) : Calls Try.prog 28 #[.pointer (some ⟨B, 0, none⟩), .int .i64 kd] w fun e w' => e = .returned (.tuple #[.int .i64 ((cntK L kd : Nat) : Int), .int .i64 (sumK L kd)]) ∧ Below w.heap.size w w' := by
  have HNW := hid (now_yes B _ w h.rb)
  have HS := hid h.lst.1
  have HSR := hid h.srt
  have hnc := h.lst.2.1
  have hn6 := h.len
  obtain ⟨n, hn⟩ : ∃ n, n = L.length := ⟨_, rfl⟩
  rw [← hn] at HNW hnc hn6
  have HN := hid hn
  clear hn h
  go_enter Try.func28, Try.ntmps28
  go_wp2_with (first | (go_at_call 33; refine HNW.out.mono ?_; rintro e w1 ⟨rfl, rfl⟩))
  go_loopw [6, 7, 13] (fun a b i wr => ∃ (j m : Nat) (y : Int), j ≤ n ∧ a = .int .i64 (m : Int) ∧ b = .int .i64 y ∧ i = .int .i64 (j : Int) ∧ Hid (m = cntK (L.take j) kd) ∧ Hid (y = sumK (L.take j) kd) ∧ m ≤ j ∧ Hid (Below w.heap.size w wr)) (fun _ _ i _ => n - (intOf i).toNat)
  case atStart => exact ⟨0, 0, 0, Nat.zero_le _, rfl, rfl, rfl, rfl, rfl, Nat.le_refl _, Below.refl _ _⟩
  case round =>
    clear HNW
    obtain ⟨j, m, y, hj, rfl, rfl, rfl, HM, HY, hmj, HB⟩ := hrel
    by_cases hlt : j < n
    · have hjl : j < L.length := by have := HN.out; omega
      obtain ⟨gb, off, rfl, hgb, x0, x1, x2⟩ := (HS.out.below HB.out).at (i := j) hjl
      have hyb := sumK_bd (HSR.out.take j) kd
      rw [← HY.out] at hyb
      have hyb2 := sumK_bd (HSR.out.take (j + 1)) kd
      have HC2 := hid (cntK_step hjl kd)
      have HY2 := hid (sumK_step hjl kd)
      have HMX := HSR.out.may hjl
      generalize L.getD j zRn = x at *
      rw [← HM.out] at HC2
      rw [← HY.out] at HY2
      rw [HY2.out] at hyb2
      unfold Mayr at HMX
      obtain ⟨r, hr⟩ : ∃ r, r = wr.heap.size := ⟨_, rfl⟩
      have hbz : ∀ w2, Kp (fun i => i = wr.heap.size) (wr.alloc (.cells zRn.cs 46)) w2 → Below wr.heap.size wr w2 := fun w2 k2 => (((Below.refl _ wr).alloc (Nat.le_refl _) _)).trans (k2.below (by rw [World.size_alloc]; omega) (fun i e => by omega))
      have HBZ := hid hbz
      clear hbz
      by_cases hk : x.k = kd
      · rw [if_pos hk] at HC2 HY2 hyb2
        subst hk
        go_wp2_with (first | (refine wpList_store_r rfl _ _ rfl _ rfl (e' := x) rfl (Rn.B.new wr zRn) ?_; intro w2 s2 k2; have B2 := hid (HB.out.trans ((HBZ.out w2 k2).mono HB.out.size)); rw [← hr] at s2 ⊢; have HR := hid hr; clear hr k2 x0 x1 x2 HBZ; have y0 : w2.cell? ⟨r, 0, none⟩ = some (.int .i64 x.k) := s2.cell 0; have y1 : w2.cell? ⟨r, 1, none⟩ = some (.int .i64 x.a) := s2.cell 1; have y2 : w2.cell? ⟨r, 2, none⟩ = some (.int .i64 x.n) := s2.cell 2))
        go_roundw
        case rel => exact ⟨j + 1, m + 1, y + x.n, by omega, by go_num, by first | rfl | go_num, by go_num, HC2.out.symm, HY2.out.symm, by omega, B2⟩
        case measure => simp [intOf]; omega
      · rw [if_neg hk] at HC2 HY2 hyb2
        go_wp2_with (first | (refine wpList_store_r rfl _ _ rfl _ rfl (e' := x) rfl (Rn.B.new wr zRn) ?_; intro w2 s2 k2; have B2 := hid (HB.out.trans ((HBZ.out w2 k2).mono HB.out.size)); rw [← hr] at s2 ⊢; have HR := hid hr; clear hr k2 x0 x1 x2 HBZ; have y0 : w2.cell? ⟨r, 0, none⟩ = some (.int .i64 x.k) := s2.cell 0; have y1 : w2.cell? ⟨r, 1, none⟩ = some (.int .i64 x.a) := s2.cell 1; have y2 : w2.cell? ⟨r, 2, none⟩ = some (.int .i64 x.n) := s2.cell 2))
        go_roundw
        case rel => exact ⟨j + 1, m, y, by omega, rfl, rfl, by go_num, HC2.out.symm, by show _ = _; rw [HY2.out]; omega, by omega, B2⟩
        case measure => simp [intOf]; omega
    · obtain rfl : j = n := by omega
      have HTK : Hid (L.take j = L) := List.take_of_length_le (by have := HN.out; omega)
      rw [HTK.out] at HM HY
      go_wp2_with fail
      go_ret2
      exact ⟨by rw [← HM.out, ← HY.out]; rfl, HB.out⟩
end Go.Proofs.Ytopnfjgkgoeleaa
