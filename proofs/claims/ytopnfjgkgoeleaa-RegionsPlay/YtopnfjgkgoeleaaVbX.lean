/- RegionsPlay: step: gaps, and all kinds. -/
import Derived.Test.YtopnfjgkgoeleaaOb
import Derived.Test.YtopnfjgkgoeleaaVaX
import Derived.Test.YtopnfjgkgoeleaaVfX
namespace Go.Proofs.Ytopnfjgkgoeleaa
open Go.RowKit
set_option linter.unusedVariables false
set_option linter.unusedSimpArgs false
theorem sumL_bd {L : List Rn} (h : Srt L) (p : Int) (hp : p ≤ 72057594037927936) (ha : ∀ x ∈ L, p ≤ x.a) : 0 ≤ sumL L ∧ sumL L ≤ 72057594037927936 - p := by
  induction L generalizing p with
  | nil => simp [sumL]; omega
  | cons x L ih =>
    have hx := h.1 x (by simp)
    have hxa := ha x (by simp)
    unfold Mayr at hx
    have := ih h.tail x.e (by unfold Rn.e; omega) (fun y hy => (List.pairwise_cons.1 h.2).1 y hy)
    have e : sumL (x :: L) = x.n + sumL L := rfl
    rw [e]
    unfold Rn.e at this
    omega
theorem sumK_bd {L : List Rn} (h : Srt L) (k : Int) : 0 ≤ sumK L k ∧ sumK L k ≤ 72057594037927936 := by
  have hs : Srt (L.filter (fun x => x.k == k)) := h.sub List.filter_sublist
  have := sumL_bd hs 0 (by omega) (fun x hx => by have := hs.1 x hx; unfold Mayr at this; omega)
  unfold sumK
  omega
theorem sumL_app (L M : List Rn) : sumL (L ++ M) = sumL L + sumL M := by
  induction L with
  | nil => simp [sumL]
  | cons x L ih =>
    have e : ∀ M, sumL (x :: M) = x.n + sumL M := fun _ => rfl
    rw [List.cons_append, e, e, ih]
    omega
theorem take_step {L : List Rn} {j : Nat} (hj : j < L.length) : L.take (j + 1) = L.take j ++ [L.getD j zRn] := by
  rw [List.take_add_one]
  simp [List.getD, List.getElem?_eq_getElem hj]
theorem cntK_step {L : List Rn} {j : Nat} (hj : j < L.length) (k : Int) : cntK (L.take (j + 1)) k = cntK (L.take j) k + (if (L.getD j zRn).k = k then 1 else 0) := by
  rw [take_step hj]
  generalize L.getD j zRn = x
  unfold cntK
  rw [List.filter_append, List.length_append]
  by_cases h : x.k = k <;> simp [h]
theorem sumK_step {L : List Rn} {j : Nat} (hj : j < L.length) (k : Int) : sumK (L.take (j + 1)) k = sumK (L.take j) k + (if (L.getD j zRn).k = k then (L.getD j zRn).n else 0) := by
  rw [take_step hj]
  generalize L.getD j zRn = x
  unfold sumK
  rw [List.filter_append, sumL_app]
  by_cases h : x.k = k <;> simp [h, sumL]
theorem Srt.take {L : List Rn} (h : Srt L) (j : Nat) : Srt (L.take j) := h.sub (List.take_sublist _ _)
set_option maxRecDepth 100000 in
set_option maxHeartbeats 4000000 in
theorem count_any (w : World) (B : Nat) (ao : Option Addr) (c : Nat) (L : List Rn) (kd : Int) (h : Rg w B ao c L) : Calls Try.prog 28 #[.pointer (some ⟨B, 0, none⟩), .int .i64 kd] w fun e w' => e = .returned (.tuple #[.int .i64 ((cntK L kd : Nat) : Int), .int .i64 (sumK L kd)]) ∧ Below w.heap.size w w' := by
  have HNW := hid (now_yes B _ w h.rb)
  have HS := hid h.lst.1
  have HSR := hid h.srt
  have hnc := h.lst.2.1
  have hn6 := h.len
  obtain ⟨n, hn⟩ : ∃ n, n = L.length := ⟨_, rfl⟩
  rw [← hn] at HNW hnc hn6
  have HN := hid hn
  clear hn h
  go_enter Try.func28, Try.ntmps28
  go_wp2_with (first | (go_at_call 33; refine HNW.out.mono ?_; rintro e w1 ⟨rfl, rfl⟩))
  go_loopw [6, 7, 13] (fun a b i wr => ∃ (j m : Nat) (y : Int), j ≤ n ∧ a = .int .i64 (m : Int) ∧ b = .int .i64 y ∧ i = .int .i64 (j : Int) ∧ Hid (m = cntK (L.take j) kd) ∧ Hid (y = sumK (L.take j) kd) ∧ m ≤ j ∧ Hid (Below w.heap.size w wr)) (fun _ _ i _ => n - (intOf i).toNat)
  case atStart => exact ⟨0, 0, 0, Nat.zero_le _, rfl, rfl, rfl, rfl, rfl, Nat.le_refl _, Below.refl _ _⟩
  case round =>
    clear HNW
    obtain ⟨j, m, y, hj, rfl, rfl, rfl, HM, HY, hmj, HB⟩ := hrel
    by_cases hlt : j < n
    · have hjl : j < L.length := by have := HN.out; omega
      obtain ⟨gb, off, rfl, hgb, x0, x1, x2⟩ := (HS.out.below HB.out).at (i := j) hjl
      have hyb := sumK_bd (HSR.out.take j) kd
      rw [← HY.out] at hyb
      have hyb2 := sumK_bd (HSR.out.take (j + 1)) kd
      have HC2 := hid (cntK_step hjl kd)
      have HY2 := hid (sumK_step hjl kd)
      have HMX := HSR.out.may hjl
      generalize L.getD j zRn = x at *
      rw [← HM.out] at HC2
      rw [← HY.out] at HY2
      rw [HY2.out] at hyb2
      unfold Mayr at HMX
      obtain ⟨r, hr⟩ : ∃ r, r = wr.heap.size := ⟨_, rfl⟩
      have hbz : ∀ w2, Kp (fun i => i = wr.heap.size) (wr.alloc (.cells zRn.cs 46)) w2 → Below wr.heap.size wr w2 := fun w2 k2 => (((Below.refl _ wr).alloc (Nat.le_refl _) _)).trans (k2.below (by rw [World.size_alloc]; omega) (fun i e => by omega))
      have HBZ := hid hbz
      clear hbz
      by_cases hk : x.k = kd
      · rw [if_pos hk] at HC2 HY2 hyb2
        subst hk
        go_wp2_with (first | (refine wpList_store_r rfl _ _ rfl _ rfl (e' := x) rfl (Rn.B.new wr zRn) ?_; intro w2 s2 k2; have B2 := hid (HB.out.trans ((HBZ.out w2 k2).mono HB.out.size)); rw [← hr] at s2 ⊢; have HR := hid hr; clear hr k2 x0 x1 x2 HBZ; have y0 : w2.cell? ⟨r, 0, none⟩ = some (.int .i64 x.k) := s2.cell 0; have y1 : w2.cell? ⟨r, 1, none⟩ = some (.int .i64 x.a) := s2.cell 1; have y2 : w2.cell? ⟨r, 2, none⟩ = some (.int .i64 x.n) := s2.cell 2))
        go_roundw
        case rel => exact ⟨j + 1, m + 1, y + x.n, by omega, by go_num, by first | rfl | go_num, by go_num, HC2.out.symm, HY2.out.symm, by omega, B2⟩
        case measure => simp [intOf]; omega
      · rw [if_neg hk] at HC2 HY2 hyb2
        go_wp2_with (first | (refine wpList_store_r rfl _ _ rfl _ rfl (e' := x) rfl (Rn.B.new wr zRn) ?_; intro w2 s2 k2; have B2 := hid (HB.out.trans ((HBZ.out w2 k2).mono HB.out.size)); rw [← hr] at s2 ⊢; have HR := hid hr; clear hr k2 x0 x1 x2 HBZ; have y0 : w2.cell? ⟨r, 0, none⟩ = some (.int .i64 x.k) := s2.cell 0; have y1 : w2.cell? ⟨r, 1, none⟩ = some (.int .i64 x.a) := s2.cell 1; have y2 : w2.cell? ⟨r, 2, none⟩ = some (.int .i64 x.n) := s2.cell 2))
        go_roundw
        case rel => exact ⟨j + 1, m, y, by omega, rfl, rfl, by go_num, HC2.out.symm, by show _ = _; rw [HY2.out]; omega, by omega, B2⟩
        case measure => simp [intOf]; omega
    · obtain rfl : j = n := by omega
      have HTK : Hid (L.take j = L) := List.take_of_length_le (by have := HN.out; omega)
      rw [HTK.out] at HM HY
      go_wp2_with fail
      go_ret2
      exact ⟨by rw [← HM.out, ← HY.out]; rfl, HB.out⟩
end Go.Proofs.Ytopnfjgkgoeleaa

namespace Go.Proofs.Ytopnfjgkgoeleaa
open Go.RowKit
set_option linter.unusedVariables false
set_option linter.unusedSimpArgs false
set_option maxRecDepth 100000 in
set_option maxHeartbeats 8000000 in
theorem step_put (W : World) (B rq : Nat) (ao : Option Addr) (c : Nat) (l M : List Rn) (kd lv p n q : Int) (bo : Option Addr) (m cap : Nat) (bl : Value) (hk : kd = 0 ∨ kd = 1 ∨ kd = 2) (hM : M.length = m) (hm : m ≤ 40) (h6 : ∀ x ∈ M, x.i6) (hz : bo = none → cap = 0) (hs : Srcr W bo M) (hlow : ∀ b off, bo = some ⟨b, off, none⟩ → 0 < M.length → b ≠ B ∧ ¬ Rmb ao l.length c b ∧ b ≠ rq) (t : Two W B rq ao c l) :
    Calls Try.prog 12 #[.pointer (some ⟨B, 0, none⟩), .pointer (some ⟨rq, 0, none⟩), .agg #[.int .i64 kd, .int .i64 lv, .slice bo m cap, .int .i64 p, .int .i64 n, .int .i64 q, bl]] W fun e w' => e = .returned (.bool true) ∧ ∃ l', Ch W B rq ao l.length c l' w' := by
  have ka : Kp (fun _ => False) W (W.alloc (.cells #[.int .i64 kd, .int .i64 lv, .slice bo m cap, .int .i64 p, .int .i64 n, .int .i64 q, bl] 34)) := (Kp.refl _ _).alloc _
  have S5 := hid (St.new 34 W #[.int .i64 kd, .int .i64 lv, .slice bo m cap, .int .i64 p, .int .i64 n, .int .i64 q, bl])
  have HBT : Hid (W.heap.size ≠ B ∧ W.heap.size ≠ rq) := ⟨fun e => by have := St.lt t.rg.rb; omega, fun e => by have := t.rl.lt; omega⟩
  have tX := t.kp0 ka
  have KA := hid ka
  have HT := hid t
  have HNU := hid num_any
  have HEQ := hid eql_r
  have HC := hid (lput_any _ B rq ao c l M bo m cap hM hm h6 hz (hs.kp ka (fun _ _ _ _ h => h)) hlow tX)
  clear ka tX t hM h6 hz hs hlow
  rcases hk with rfl | rfl | rfl
  all_goals
    go_enter Try.func12, Try.ntmps12
    go_wp2_with fail
    refine HC.out.mono ?_
    rintro e w1 ⟨rfl, l', c1⟩
    have C1 := hid (Ch.pre HT.out KA.out c1)
    clear c1 HC
    go_wp2_with fail
    go_ret
    exact ⟨rfl, l', C1.out⟩
set_option maxRecDepth 100000 in
set_option maxHeartbeats 8000000 in
theorem step_take (W : World) (B rq : Nat) (ao : Option Addr) (c : Nat) (l : List Rn) (lv p n q : Int) (sl bl : Value)  (t : Two W B rq ao c l) :
    Calls Try.prog 12 #[.pointer (some ⟨B, 0, none⟩), .pointer (some ⟨rq, 0, none⟩), .agg #[.int .i64 3, .int .i64 lv, sl, .int .i64 p, .int .i64 n, .int .i64 q, bl]] W fun e w' => e = .returned (.bool true) ∧ ∃ l', Ch W B rq ao l.length c l' w' := by
  have ka : Kp (fun _ => False) W (W.alloc (.cells #[.int .i64 3, .int .i64 lv, sl, .int .i64 p, .int .i64 n, .int .i64 q, bl] 34)) := (Kp.refl _ _).alloc _
  have S5 := hid (St.new 34 W #[.int .i64 3, .int .i64 lv, sl, .int .i64 p, .int .i64 n, .int .i64 q, bl])
  have HBT : Hid (W.heap.size ≠ B ∧ W.heap.size ≠ rq) := ⟨fun e => by have := St.lt t.rg.rb; omega, fun e => by have := t.rl.lt; omega⟩
  have tX := t.kp0 ka
  have KA := hid ka
  have HT := hid t
  have HNU := hid num_any
  have HEQ := hid eql_r
  have HC := hid (take_two tX p)
  have HRQ : Hid (rq < W.heap.size) := t.rl.lt
  clear ka tX t
  go_enter Try.func12, Try.ntmps12
  go_wp2_with fail
  refine HC.out.mono ?_
  rintro e w1 ⟨y, er, rfl, k1, h2⟩
  have S51 := hid (S5.out.kp k1 HBT.out.1)
  have H2 := hid h2
  have HW1 : Hid (rq < w1.heap.size) := Nat.lt_of_lt_of_le HRQ.out (Nat.le_trans KA.out.size k1.size)
  clear h2 k1 HC
  go_wp2_with (first | (refine wpList_store_r rfl _ _ rfl _ rfl (e' := y) rfl (Rn.B.new w1 zRn) ?_; intro w2 s2 k2; have k3 := ((Kp.refl (fun _ => False) w1).alloc (.cells zRn.cs 46)).trans k2 (fun i hi e => by omega); have E2 := hid s2; have z3 : w2.cell? ⟨W.heap.size, 3, none⟩ = some (.int .i64 p) := (S51.out.kp k3 (fun h => h)).cell 3; have H3 := hid (H2.out w2 k3); clear s2 k2 k3))
  refine H3.out.mono ?_
  rintro e w3 ⟨rfl, k3, l', c3⟩
  have C3 := hid (Ch.pre HT.out KA.out c3)
  have E3 := hid (E2.out.kp k3 (by have := HW1.out; omega))
  clear c3 k3 H3 H2 E2 z3
  go_wp2_with (first | (refine wpList_store_r rfl _ _ rfl _ rfl (e' := y) rfl (Rn.B.new w3 zRn) ?_; intro w4 s4 k4; have k5 := ((Kp.refl (fun _ => False) w3).alloc (.cells zRn.cs 46)).trans k4 (fun i hi e => by omega); have E4 := hid s4; have E34 := hid (E3.out.kp k5 (fun h => h)); have C4 := hid (C3.out.post k5); have a0 : w4.cell? ⟨w1.heap.size, 0, none⟩ = some (.int .i64 y.k) := E34.out.cell 0; have a1 : w4.cell? ⟨w1.heap.size, 1, none⟩ = some (.int .i64 y.a) := E34.out.cell 1; have a2 : w4.cell? ⟨w1.heap.size, 2, none⟩ = some (.int .i64 y.n) := E34.out.cell 2; have b0 : w4.cell? ⟨w3.heap.size, 0, none⟩ = some (.int .i64 y.k) := E4.out.cell 0; have b1 : w4.cell? ⟨w3.heap.size, 1, none⟩ = some (.int .i64 y.a) := E4.out.cell 1; have b2 : w4.cell? ⟨w3.heap.size, 2, none⟩ = some (.int .i64 y.n) := E4.out.cell 2; have heq := HEQ.out y w4; clear s4 k4 k5) | (go_at_call 22; refine (HNU.out _ _).mono ?_; rintro e1 w9 ⟨rfl, rfl⟩))
  go_ret
  exact ⟨by simp, l', C4.out⟩
set_option maxRecDepth 100000 in
set_option maxHeartbeats 8000000 in
theorem step_move (W : World) (B rq : Nat) (ao : Option Addr) (c : Nat) (l : List Rn) (lv p n q : Int) (sl bl : Value) (hq : I6 q) (t : Two W B rq ao c l) :
    Calls Try.prog 12 #[.pointer (some ⟨B, 0, none⟩), .pointer (some ⟨rq, 0, none⟩), .agg #[.int .i64 4, .int .i64 lv, sl, .int .i64 p, .int .i64 n, .int .i64 q, bl]] W fun e w' => e = .returned (.bool true) ∧ ∃ l', Ch W B rq ao l.length c l' w' := by
  have ka : Kp (fun _ => False) W (W.alloc (.cells #[.int .i64 4, .int .i64 lv, sl, .int .i64 p, .int .i64 n, .int .i64 q, bl] 34)) := (Kp.refl _ _).alloc _
  have S5 := hid (St.new 34 W #[.int .i64 4, .int .i64 lv, sl, .int .i64 p, .int .i64 n, .int .i64 q, bl])
  have HBT : Hid (W.heap.size ≠ B ∧ W.heap.size ≠ rq) := ⟨fun e => by have := St.lt t.rg.rb; omega, fun e => by have := t.rl.lt; omega⟩
  have tX := t.kp0 ka
  have KA := hid ka
  have HT := hid t
  have HNU := hid num_any
  have HEQ := hid eql_r
  have KD : Hid (Kp (fun _ => False) W (W.alloc (.cells #[.int .i64 4, .int .i64 lv, sl, .int .i64 p, .int .i64 n, .int .i64 q, bl] 34)).drew) := ka.drew
  have HC := hid (move_two (t.kp0 KD.out) p q hq)
  have HPR : Hid (∀ U, Kp (fun i => i = B ∨ i = rq) (W.alloc (.cells #[.int .i64 4, .int .i64 lv, sl, .int .i64 p, .int .i64 n, .int .i64 q, bl] 34)) U → U.cell? ⟨W.heap.size, 3, none⟩ = some (.int .i64 p) ∧ U.cell? ⟨W.heap.size, 5, none⟩ = some (.int .i64 q)) := fun U k => ⟨(S5.out.kp k (fun e => e.elim HBT.out.1 HBT.out.2)).cell 3, (S5.out.kp k (fun e => e.elim HBT.out.1 HBT.out.2)).cell 5⟩
  have cc0 := HPR.out _ (Kp.refl _ _)
  have cd0 := HPR.out _ (Kp.refl _ _).drew
  clear ka tX t hq
  go_enter Try.func12, Try.ntmps12
  go_wp2_with fail
  go_region_held3 (fun U : World => U.cell? ⟨W.heap.size, 3, none⟩ = some (.int .i64 p) ∧ U.cell? ⟨W.heap.size, 5, none⟩ = some (.int .i64 q)) (first | exact cc0 | exact cd0 | exact cc1 | exact cc2) (first | (go_at_call 29; refine HC.out.mono ?_; rintro e w1 ⟨er, rfl, k1, h2⟩; have K1 := hid (((Kp.refl (fun i => i = B ∨ i = rq) _).drew).trans k1 (fun _ _ e => .inl e)); have cc1 := HPR.out w1 K1.out; have H2 := hid (h2 w1 (Kp.refl _ _)); clear h2 k1 HC) | (go_at_call 22; refine (HNU.out _ _).mono ?_; rintro e1 w9 ⟨rfl, rfl⟩) | (go_at_call 36; refine H2.out.mono ?_; rintro e w2 ⟨rfl, k2, l', c2⟩; have cc2 := HPR.out w2 (K1.out.trans k2 (fun _ _ e => .inr e)); have C2 := hid (Ch.pre HT.out KD.out c2); clear c2 k2 H2))
  go_wp2_with fail
  go_ret
  exact ⟨by simp, l', C2.out⟩
set_option maxRecDepth 100000 in
set_option maxHeartbeats 8000000 in
theorem step_ask (W : World) (B rq : Nat) (ao : Option Addr) (c : Nat) (l : List Rn) (lv p n q : Int) (sl : Value) (bo : Option Addr) (kn kc : Nat) (K : List Int) (hp : I6 p) (hn : I6 n) (hkn : kn = K.length) (hk4 : kn ≤ 40) (hkc : kn ≤ kc) (hS : Src .i64 W bo K) (t : Two W B rq ao c l) :
    Calls Try.prog 12 #[.pointer (some ⟨B, 0, none⟩), .pointer (some ⟨rq, 0, none⟩), .agg #[.int .i64 5, .int .i64 lv, sl, .int .i64 p, .int .i64 n, .int .i64 q, .slice bo kn kc]] W fun e w' => e = .returned (.bool true) ∧ ∃ l', Ch W B rq ao l.length c l' w' := by
  have ka : Kp (fun _ => False) W (W.alloc (.cells #[.int .i64 5, .int .i64 lv, sl, .int .i64 p, .int .i64 n, .int .i64 q, .slice bo kn kc] 34)) := (Kp.refl _ _).alloc _
  have S5 := hid (St.new 34 W #[.int .i64 5, .int .i64 lv, sl, .int .i64 p, .int .i64 n, .int .i64 q, .slice bo kn kc])
  have HBT : Hid (W.heap.size ≠ B ∧ W.heap.size ≠ rq) := ⟨fun e => by have := St.lt t.rg.rb; omega, fun e => by have := t.rl.lt; omega⟩
  have tX := t.kp0 ka
  have KA := hid ka
  have HT := hid t
  have HNU := hid num_any
  have HEQ := hid eql_r
  have HC := hid (lask_any _ B rq ao c l 5 lv sl p n q bo kn kc K hp hn hkn hk4 hkc (hS.kp0 ka) tX.rg tX.rl)
  clear ka tX t hp hn hkn hkc hS
  go_enter Try.func12, Try.ntmps12
  go_wp2_with fail
  refine HC.out.mono ?_
  rintro e w1 ⟨rfl, k1⟩
  have K1 := hid (KA.out.trans k1 (fun _ _ h => h))
  clear k1 HC
  go_wp2_with fail
  go_ret
  exact ⟨rfl, l, Ch.same HT.out K1.out⟩
def clm (p : Int) : Int := if p < -1 then -1 else if 72057594037927936 < p then 72057594037927936 else p
theorem of_clm {l : List Rn} (h : Srt l) (p : Int) : ovr l (clm p) 1 (mks []) = ovr l p 1 mz := by
  rw [mks_nil]
  unfold clm
  split
  · rw [ovr_none (fun j hj h1 h2 => by have := (h.may hj); unfold Mayr at this; omega), ovr_none (fun j hj h1 h2 => by have := (h.may hj); unfold Mayr at this; omega)]
  · split
    · rw [ovr_none (fun j hj h1 h2 => by have := (h.may hj); unfold Mayr at this; unfold Rn.e at h1; omega), ovr_none (fun j hj h1 h2 => by have := (h.may hj); unfold Mayr at this; unfold Rn.e at h1; omega)]
    · rfl
theorem clm_bd (p : Int) : -1 ≤ clm p ∧ clm p ≤ 72057594037927936 := by unfold clm; split <;> (try split) <;> omega
set_option maxRecDepth 100000 in
set_option maxHeartbeats 8000000 in
theorem step_of1 (W : World) (B rq : Nat) (ao : Option Addr) (c : Nat) (l : List Rn) (lv p n q : Int) (sl bl : Value) (hp : I6 p) (hc : p < -1) (t : Two W B rq ao c l) :
    Calls Try.prog 12 #[.pointer (some ⟨B, 0, none⟩), .pointer (some ⟨rq, 0, none⟩), .agg #[.int .i64 6, .int .i64 lv, sl, .int .i64 p, .int .i64 n, .int .i64 q, bl]] W fun e w' => e = .returned (.bool true) ∧ ∃ l', Ch W B rq ao l.length c l' w' := by
  have ka : Kp (fun _ => False) W (W.alloc (.cells #[.int .i64 6, .int .i64 lv, sl, .int .i64 p, .int .i64 n, .int .i64 q, bl] 34)) := (Kp.refl _ _).alloc _
  have S5 := hid (St.new 34 W #[.int .i64 6, .int .i64 lv, sl, .int .i64 p, .int .i64 n, .int .i64 q, bl])
  have HBT : Hid (W.heap.size ≠ B ∧ W.heap.size ≠ rq) := ⟨fun e => by have := St.lt t.rg.rb; omega, fun e => by have := t.rl.lt; omega⟩
  have tX := t.kp0 ka
  have KA := hid ka
  have HT := hid t
  have HNU := hid num_any
  have HEQ := hid eql_r
  have HC : Hid (Calls Try.prog 24 #[.pointer (some ⟨B, 0, none⟩), .int .i64 p] (W.alloc (.cells #[.int .i64 6, .int .i64 lv, sl, .int .i64 p, .int .i64 n, .int .i64 q, bl] 34)) fun e w' => e = .returned (.tuple #[.agg (orz (ovr l p 1 mz)).cs, .bool (ovr l p 1 mz).isSome]) ∧ Below (W.alloc (.cells #[.int .i64 6, .int .i64 lv, sl, .int .i64 p, .int .i64 n, .int .i64 q, bl] 34)).heap.size (W.alloc (.cells #[.int .i64 6, .int .i64 lv, sl, .int .i64 p, .int .i64 n, .int .i64 q, bl] 34)) w') := of_any _ B ao c l p tX.rg hp
  have HRA : Hid (∀ U, Kp (fun _ => False) W U → Calls Try.prog 38 #[.pointer (some ⟨rq, 0, none⟩), .int .i64 (-1), .int .i64 1, .slice none 0 0] U fun e w' => e = .returned (.tuple #[.agg (orz (ovr l p 1 mz)).cs, .bool (ovr l p 1 mz).isSome]) ∧ Kp (fun _ => False) U w') := fun U k => by
    have := rask_any U rq l (clm p) 1 none 0 0 [] (clm_bd p) (by omega) rfl (by omega) (fun h => absurd h (by simp)) (HT.out.rl.kp k)
    rw [of_clm t.rg.srt] at this
    rw [show clm p = -1 by unfold clm; rw [if_pos hc]] at this
    exact this
  have hd1 : ¬ (72057594037927936 : Int) < p := by omega
  have hd2 : p < (72057594037927936 : Int) := by omega
  have hd3 : ¬ (-1 : Int) < p := by omega
  clear ka tX t hp
  generalize orz (ovr l p 1 mz) = y at *
  generalize (ovr l p 1 mz).isSome = is at *
  go_enter Try.func12, Try.ntmps12
  go_wp2_with fail
  refine HC.out.mono ?_
  rintro e w1 ⟨rfl, b1⟩
  have K1 := hid (KA.out.trans (Kp.of_below (F := fun _ => False) b1) (fun _ _ h => h))
  have S51 := hid (S5.out.kp (Kp.of_below (F := fun _ => False) b1) (fun h => h))
  clear b1 HC
  go_wp2_with (first | (refine wpList_store_r rfl _ _ rfl _ rfl (e' := y) rfl (Rn.B.new w1 zRn) ?_; intro w2 s2 k2; have k3 := ((Kp.refl (fun _ => False) w1).alloc (.cells zRn.cs 46)).trans k2 (fun i hi e => by omega); have E2 := hid s2; have z3 : w2.cell? ⟨W.heap.size, 3, none⟩ = some (.int .i64 p) := (S51.out.kp k3 (fun h => h)).cell 3; have K2 := hid (K1.out.trans k3 (fun _ _ h => h)); have H3 := hid (HRA.out w2 K2.out); clear s2 k2 k3))
  refine H3.out.mono ?_
  rintro e w3 ⟨rfl, k3⟩
  have K3 := hid (K2.out.trans k3 (fun _ _ h => h))
  have E3 := hid (E2.out.kp k3 (fun h => h))
  clear k3 H3 E2 z3 HRA
  go_wp2_with (first | (refine wpList_store_r rfl _ _ rfl _ rfl (e' := y) rfl (Rn.B.new w3 zRn) ?_; intro w4 s4 k4; have k5 := ((Kp.refl (fun _ => False) w3).alloc (.cells zRn.cs 46)).trans k4 (fun i hi e => by omega); have E4 := hid s4; have E34 := hid (E3.out.kp k5 (fun h => h)); have K4 := hid (K3.out.trans k5 (fun _ _ h => h)); have a0 : w4.cell? ⟨w1.heap.size, 0, none⟩ = some (.int .i64 y.k) := E34.out.cell 0; have a1 : w4.cell? ⟨w1.heap.size, 1, none⟩ = some (.int .i64 y.a) := E34.out.cell 1; have a2 : w4.cell? ⟨w1.heap.size, 2, none⟩ = some (.int .i64 y.n) := E34.out.cell 2; have b0 : w4.cell? ⟨w3.heap.size, 0, none⟩ = some (.int .i64 y.k) := E4.out.cell 0; have b1 : w4.cell? ⟨w3.heap.size, 1, none⟩ = some (.int .i64 y.a) := E4.out.cell 1; have b2 : w4.cell? ⟨w3.heap.size, 2, none⟩ = some (.int .i64 y.n) := E4.out.cell 2; have heq := HEQ.out y w4; clear s4 k4 k5))
  all_goals
    go_wp2_with fail
    go_ret
    exact ⟨by cases is <;> rfl, l, Ch.same HT.out K4.out⟩
set_option maxRecDepth 100000 in
set_option maxHeartbeats 8000000 in
theorem step_of2 (W : World) (B rq : Nat) (ao : Option Addr) (c : Nat) (l : List Rn) (lv p n q : Int) (sl bl : Value) (hp : I6 p) (hc : 72057594037927936 < p) (t : Two W B rq ao c l) :
    Calls Try.prog 12 #[.pointer (some ⟨B, 0, none⟩), .pointer (some ⟨rq, 0, none⟩), .agg #[.int .i64 6, .int .i64 lv, sl, .int .i64 p, .int .i64 n, .int .i64 q, bl]] W fun e w' => e = .returned (.bool true) ∧ ∃ l', Ch W B rq ao l.length c l' w' := by
  have ka : Kp (fun _ => False) W (W.alloc (.cells #[.int .i64 6, .int .i64 lv, sl, .int .i64 p, .int .i64 n, .int .i64 q, bl] 34)) := (Kp.refl _ _).alloc _
  have S5 := hid (St.new 34 W #[.int .i64 6, .int .i64 lv, sl, .int .i64 p, .int .i64 n, .int .i64 q, bl])
  have HBT : Hid (W.heap.size ≠ B ∧ W.heap.size ≠ rq) := ⟨fun e => by have := St.lt t.rg.rb; omega, fun e => by have := t.rl.lt; omega⟩
  have tX := t.kp0 ka
  have KA := hid ka
  have HT := hid t
  have HNU := hid num_any
  have HEQ := hid eql_r
  have HC : Hid (Calls Try.prog 24 #[.pointer (some ⟨B, 0, none⟩), .int .i64 p] (W.alloc (.cells #[.int .i64 6, .int .i64 lv, sl, .int .i64 p, .int .i64 n, .int .i64 q, bl] 34)) fun e w' => e = .returned (.tuple #[.agg (orz (ovr l p 1 mz)).cs, .bool (ovr l p 1 mz).isSome]) ∧ Below (W.alloc (.cells #[.int .i64 6, .int .i64 lv, sl, .int .i64 p, .int .i64 n, .int .i64 q, bl] 34)).heap.size (W.alloc (.cells #[.int .i64 6, .int .i64 lv, sl, .int .i64 p, .int .i64 n, .int .i64 q, bl] 34)) w') := of_any _ B ao c l p tX.rg hp
  have HRA : Hid (∀ U, Kp (fun _ => False) W U → Calls Try.prog 38 #[.pointer (some ⟨rq, 0, none⟩), .int .i64 (72057594037927936), .int .i64 1, .slice none 0 0] U fun e w' => e = .returned (.tuple #[.agg (orz (ovr l p 1 mz)).cs, .bool (ovr l p 1 mz).isSome]) ∧ Kp (fun _ => False) U w') := fun U k => by
    have := rask_any U rq l (clm p) 1 none 0 0 [] (clm_bd p) (by omega) rfl (by omega) (fun h => absurd h (by simp)) (HT.out.rl.kp k)
    rw [of_clm t.rg.srt] at this
    rw [show clm p = 72057594037927936 by unfold clm; rw [if_neg (by omega), if_pos hc]] at this
    exact this
  have hd2 : ¬ p < (72057594037927936 : Int) := by omega
  clear ka tX t hp
  generalize orz (ovr l p 1 mz) = y at *
  generalize (ovr l p 1 mz).isSome = is at *
  go_enter Try.func12, Try.ntmps12
  go_wp2_with fail
  refine HC.out.mono ?_
  rintro e w1 ⟨rfl, b1⟩
  have K1 := hid (KA.out.trans (Kp.of_below (F := fun _ => False) b1) (fun _ _ h => h))
  have S51 := hid (S5.out.kp (Kp.of_below (F := fun _ => False) b1) (fun h => h))
  clear b1 HC
  go_wp2_with (first | (refine wpList_store_r rfl _ _ rfl _ rfl (e' := y) rfl (Rn.B.new w1 zRn) ?_; intro w2 s2 k2; have k3 := ((Kp.refl (fun _ => False) w1).alloc (.cells zRn.cs 46)).trans k2 (fun i hi e => by omega); have E2 := hid s2; have z3 : w2.cell? ⟨W.heap.size, 3, none⟩ = some (.int .i64 p) := (S51.out.kp k3 (fun h => h)).cell 3; have K2 := hid (K1.out.trans k3 (fun _ _ h => h)); have H3 := hid (HRA.out w2 K2.out); clear s2 k2 k3))
  refine H3.out.mono ?_
  rintro e w3 ⟨rfl, k3⟩
  have K3 := hid (K2.out.trans k3 (fun _ _ h => h))
  have E3 := hid (E2.out.kp k3 (fun h => h))
  clear k3 H3 E2 z3 HRA
  go_wp2_with (first | (refine wpList_store_r rfl _ _ rfl _ rfl (e' := y) rfl (Rn.B.new w3 zRn) ?_; intro w4 s4 k4; have k5 := ((Kp.refl (fun _ => False) w3).alloc (.cells zRn.cs 46)).trans k4 (fun i hi e => by omega); have E4 := hid s4; have E34 := hid (E3.out.kp k5 (fun h => h)); have K4 := hid (K3.out.trans k5 (fun _ _ h => h)); have a0 : w4.cell? ⟨w1.heap.size, 0, none⟩ = some (.int .i64 y.k) := E34.out.cell 0; have a1 : w4.cell? ⟨w1.heap.size, 1, none⟩ = some (.int .i64 y.a) := E34.out.cell 1; have a2 : w4.cell? ⟨w1.heap.size, 2, none⟩ = some (.int .i64 y.n) := E34.out.cell 2; have b0 : w4.cell? ⟨w3.heap.size, 0, none⟩ = some (.int .i64 y.k) := E4.out.cell 0; have b1 : w4.cell? ⟨w3.heap.size, 1, none⟩ = some (.int .i64 y.a) := E4.out.cell 1; have b2 : w4.cell? ⟨w3.heap.size, 2, none⟩ = some (.int .i64 y.n) := E4.out.cell 2; have heq := HEQ.out y w4; clear s4 k4 k5))
  all_goals
    go_wp2_with fail
    go_ret
    exact ⟨by cases is <;> rfl, l, Ch.same HT.out K4.out⟩
set_option maxRecDepth 100000 in
set_option maxHeartbeats 8000000 in
theorem step_of3 (W : World) (B rq : Nat) (ao : Option Addr) (c : Nat) (l : List Rn) (lv p n q : Int) (sl bl : Value) (hp : I6 p) (hc : -1 < p) (hc2 : ¬ 72057594037927936 < p) (t : Two W B rq ao c l) :
    Calls Try.prog 12 #[.pointer (some ⟨B, 0, none⟩), .pointer (some ⟨rq, 0, none⟩), .agg #[.int .i64 6, .int .i64 lv, sl, .int .i64 p, .int .i64 n, .int .i64 q, bl]] W fun e w' => e = .returned (.bool true) ∧ ∃ l', Ch W B rq ao l.length c l' w' := by
  have ka : Kp (fun _ => False) W (W.alloc (.cells #[.int .i64 6, .int .i64 lv, sl, .int .i64 p, .int .i64 n, .int .i64 q, bl] 34)) := (Kp.refl _ _).alloc _
  have S5 := hid (St.new 34 W #[.int .i64 6, .int .i64 lv, sl, .int .i64 p, .int .i64 n, .int .i64 q, bl])
  have HBT : Hid (W.heap.size ≠ B ∧ W.heap.size ≠ rq) := ⟨fun e => by have := St.lt t.rg.rb; omega, fun e => by have := t.rl.lt; omega⟩
  have tX := t.kp0 ka
  have KA := hid ka
  have HT := hid t
  have HNU := hid num_any
  have HEQ := hid eql_r
  have HC : Hid (Calls Try.prog 24 #[.pointer (some ⟨B, 0, none⟩), .int .i64 p] (W.alloc (.cells #[.int .i64 6, .int .i64 lv, sl, .int .i64 p, .int .i64 n, .int .i64 q, bl] 34)) fun e w' => e = .returned (.tuple #[.agg (orz (ovr l p 1 mz)).cs, .bool (ovr l p 1 mz).isSome]) ∧ Below (W.alloc (.cells #[.int .i64 6, .int .i64 lv, sl, .int .i64 p, .int .i64 n, .int .i64 q, bl] 34)).heap.size (W.alloc (.cells #[.int .i64 6, .int .i64 lv, sl, .int .i64 p, .int .i64 n, .int .i64 q, bl] 34)) w') := of_any _ B ao c l p tX.rg hp
  have HRA : Hid (∀ U, Kp (fun _ => False) W U → Calls Try.prog 38 #[.pointer (some ⟨rq, 0, none⟩), .int .i64 (p), .int .i64 1, .slice none 0 0] U fun e w' => e = .returned (.tuple #[.agg (orz (ovr l p 1 mz)).cs, .bool (ovr l p 1 mz).isSome]) ∧ Kp (fun _ => False) U w') := fun U k => by
    have := rask_any U rq l (clm p) 1 none 0 0 [] (clm_bd p) (by omega) rfl (by omega) (fun h => absurd h (by simp)) (HT.out.rl.kp k)
    rw [of_clm t.rg.srt] at this
    rw [show clm p = p by unfold clm; rw [if_neg (by omega), if_neg hc2]] at this
    exact this
  clear ka tX t hp
  generalize orz (ovr l p 1 mz) = y at *
  generalize (ovr l p 1 mz).isSome = is at *
  go_enter Try.func12, Try.ntmps12
  go_wp2_with fail
  refine HC.out.mono ?_
  rintro e w1 ⟨rfl, b1⟩
  have K1 := hid (KA.out.trans (Kp.of_below (F := fun _ => False) b1) (fun _ _ h => h))
  have S51 := hid (S5.out.kp (Kp.of_below (F := fun _ => False) b1) (fun h => h))
  clear b1 HC
  go_wp2_with (first | (refine wpList_store_r rfl _ _ rfl _ rfl (e' := y) rfl (Rn.B.new w1 zRn) ?_; intro w2 s2 k2; have k3 := ((Kp.refl (fun _ => False) w1).alloc (.cells zRn.cs 46)).trans k2 (fun i hi e => by omega); have E2 := hid s2; have z3 : w2.cell? ⟨W.heap.size, 3, none⟩ = some (.int .i64 p) := (S51.out.kp k3 (fun h => h)).cell 3; have K2 := hid (K1.out.trans k3 (fun _ _ h => h)); have H3 := hid (HRA.out w2 K2.out); clear s2 k2 k3))
  refine H3.out.mono ?_
  rintro e w3 ⟨rfl, k3⟩
  have K3 := hid (K2.out.trans k3 (fun _ _ h => h))
  have E3 := hid (E2.out.kp k3 (fun h => h))
  clear k3 H3 E2 z3 HRA
  go_wp2_with (first | (refine wpList_store_r rfl _ _ rfl _ rfl (e' := y) rfl (Rn.B.new w3 zRn) ?_; intro w4 s4 k4; have k5 := ((Kp.refl (fun _ => False) w3).alloc (.cells zRn.cs 46)).trans k4 (fun i hi e => by omega); have E4 := hid s4; have E34 := hid (E3.out.kp k5 (fun h => h)); have K4 := hid (K3.out.trans k5 (fun _ _ h => h)); have a0 : w4.cell? ⟨w1.heap.size, 0, none⟩ = some (.int .i64 y.k) := E34.out.cell 0; have a1 : w4.cell? ⟨w1.heap.size, 1, none⟩ = some (.int .i64 y.a) := E34.out.cell 1; have a2 : w4.cell? ⟨w1.heap.size, 2, none⟩ = some (.int .i64 y.n) := E34.out.cell 2; have b0 : w4.cell? ⟨w3.heap.size, 0, none⟩ = some (.int .i64 y.k) := E4.out.cell 0; have b1 : w4.cell? ⟨w3.heap.size, 1, none⟩ = some (.int .i64 y.a) := E4.out.cell 1; have b2 : w4.cell? ⟨w3.heap.size, 2, none⟩ = some (.int .i64 y.n) := E4.out.cell 2; have heq := HEQ.out y w4; clear s4 k4 k5))
  all_goals
    go_wp2_with fail
    go_ret
    exact ⟨by cases is <;> rfl, l, Ch.same HT.out K4.out⟩
set_option maxRecDepth 100000 in
set_option maxHeartbeats 8000000 in
theorem step_of4 (W : World) (B rq : Nat) (ao : Option Addr) (c : Nat) (l : List Rn) (lv p n q : Int) (sl bl : Value) (hp : I6 p) (hc : p = -1) (t : Two W B rq ao c l) :
    Calls Try.prog 12 #[.pointer (some ⟨B, 0, none⟩), .pointer (some ⟨rq, 0, none⟩), .agg #[.int .i64 6, .int .i64 lv, sl, .int .i64 p, .int .i64 n, .int .i64 q, bl]] W fun e w' => e = .returned (.bool true) ∧ ∃ l', Ch W B rq ao l.length c l' w' := by
  have ka : Kp (fun _ => False) W (W.alloc (.cells #[.int .i64 6, .int .i64 lv, sl, .int .i64 p, .int .i64 n, .int .i64 q, bl] 34)) := (Kp.refl _ _).alloc _
  have S5 := hid (St.new 34 W #[.int .i64 6, .int .i64 lv, sl, .int .i64 p, .int .i64 n, .int .i64 q, bl])
  have HBT : Hid (W.heap.size ≠ B ∧ W.heap.size ≠ rq) := ⟨fun e => by have := St.lt t.rg.rb; omega, fun e => by have := t.rl.lt; omega⟩
  have tX := t.kp0 ka
  have KA := hid ka
  have HT := hid t
  have HNU := hid num_any
  have HEQ := hid eql_r
  have HC : Hid (Calls Try.prog 24 #[.pointer (some ⟨B, 0, none⟩), .int .i64 p] (W.alloc (.cells #[.int .i64 6, .int .i64 lv, sl, .int .i64 p, .int .i64 n, .int .i64 q, bl] 34)) fun e w' => e = .returned (.tuple #[.agg (orz (ovr l p 1 mz)).cs, .bool (ovr l p 1 mz).isSome]) ∧ Below (W.alloc (.cells #[.int .i64 6, .int .i64 lv, sl, .int .i64 p, .int .i64 n, .int .i64 q, bl] 34)).heap.size (W.alloc (.cells #[.int .i64 6, .int .i64 lv, sl, .int .i64 p, .int .i64 n, .int .i64 q, bl] 34)) w') := of_any _ B ao c l p tX.rg hp
  have HRA : Hid (∀ U, Kp (fun _ => False) W U → Calls Try.prog 38 #[.pointer (some ⟨rq, 0, none⟩), .int .i64 (-1), .int .i64 1, .slice none 0 0] U fun e w' => e = .returned (.tuple #[.agg (orz (ovr l p 1 mz)).cs, .bool (ovr l p 1 mz).isSome]) ∧ Kp (fun _ => False) U w') := fun U k => by
    have := rask_any U rq l (clm p) 1 none 0 0 [] (clm_bd p) (by omega) rfl (by omega) (fun h => absurd h (by simp)) (HT.out.rl.kp k)
    rw [of_clm t.rg.srt] at this
    rw [show clm p = -1 by unfold clm; rw [if_neg (by omega), if_neg (by omega), hc]] at this
    exact this
  have hd1 : ¬ (72057594037927936 : Int) < p := by omega
  have hd2 : p < (72057594037927936 : Int) := by omega
  have hd3 : ¬ (-1 : Int) < p := by omega
  clear hc
  clear ka tX t hp
  generalize orz (ovr l p 1 mz) = y at *
  generalize (ovr l p 1 mz).isSome = is at *
  go_enter Try.func12, Try.ntmps12
  go_wp2_with fail
  refine HC.out.mono ?_
  rintro e w1 ⟨rfl, b1⟩
  have K1 := hid (KA.out.trans (Kp.of_below (F := fun _ => False) b1) (fun _ _ h => h))
  have S51 := hid (S5.out.kp (Kp.of_below (F := fun _ => False) b1) (fun h => h))
  clear b1 HC
  go_wp2_with (first | (refine wpList_store_r rfl _ _ rfl _ rfl (e' := y) rfl (Rn.B.new w1 zRn) ?_; intro w2 s2 k2; have k3 := ((Kp.refl (fun _ => False) w1).alloc (.cells zRn.cs 46)).trans k2 (fun i hi e => by omega); have E2 := hid s2; have z3 : w2.cell? ⟨W.heap.size, 3, none⟩ = some (.int .i64 p) := (S51.out.kp k3 (fun h => h)).cell 3; have K2 := hid (K1.out.trans k3 (fun _ _ h => h)); have H3 := hid (HRA.out w2 K2.out); clear s2 k2 k3))
  refine H3.out.mono ?_
  rintro e w3 ⟨rfl, k3⟩
  have K3 := hid (K2.out.trans k3 (fun _ _ h => h))
  have E3 := hid (E2.out.kp k3 (fun h => h))
  clear k3 H3 E2 z3 HRA
  go_wp2_with (first | (refine wpList_store_r rfl _ _ rfl _ rfl (e' := y) rfl (Rn.B.new w3 zRn) ?_; intro w4 s4 k4; have k5 := ((Kp.refl (fun _ => False) w3).alloc (.cells zRn.cs 46)).trans k4 (fun i hi e => by omega); have E4 := hid s4; have E34 := hid (E3.out.kp k5 (fun h => h)); have K4 := hid (K3.out.trans k5 (fun _ _ h => h)); have a0 : w4.cell? ⟨w1.heap.size, 0, none⟩ = some (.int .i64 y.k) := E34.out.cell 0; have a1 : w4.cell? ⟨w1.heap.size, 1, none⟩ = some (.int .i64 y.a) := E34.out.cell 1; have a2 : w4.cell? ⟨w1.heap.size, 2, none⟩ = some (.int .i64 y.n) := E34.out.cell 2; have b0 : w4.cell? ⟨w3.heap.size, 0, none⟩ = some (.int .i64 y.k) := E4.out.cell 0; have b1 : w4.cell? ⟨w3.heap.size, 1, none⟩ = some (.int .i64 y.a) := E4.out.cell 1; have b2 : w4.cell? ⟨w3.heap.size, 2, none⟩ = some (.int .i64 y.n) := E4.out.cell 2; have heq := HEQ.out y w4; clear s4 k4 k5))
  all_goals
    go_wp2_with fail
    go_ret
    exact ⟨by cases is <;> rfl, l, Ch.same HT.out K4.out⟩
theorem step_of (W : World) (B rq : Nat) (ao : Option Addr) (c : Nat) (l : List Rn) (lv p n q : Int) (sl bl : Value) (hp : I6 p) (t : Two W B rq ao c l) :
    Calls Try.prog 12 #[.pointer (some ⟨B, 0, none⟩), .pointer (some ⟨rq, 0, none⟩), .agg #[.int .i64 6, .int .i64 lv, sl, .int .i64 p, .int .i64 n, .int .i64 q, bl]] W fun e w' => e = .returned (.bool true) ∧ ∃ l', Ch W B rq ao l.length c l' w' := by
  by_cases h1 : p < -1
  · exact step_of1 W B rq ao c l lv p n q sl bl hp h1 t
  · by_cases h2 : 72057594037927936 < p
    · exact step_of2 W B rq ao c l lv p n q sl bl hp h2 t
    · by_cases h3 : p = -1
      · exact step_of4 W B rq ao c l lv p n q sl bl hp h3 t
      · exact step_of3 W B rq ao c l lv p n q sl bl hp (by omega) h2 t
set_option maxRecDepth 100000 in
set_option maxHeartbeats 8000000 in
theorem step_first1 (W : World) (B rq : Nat) (ao : Option Addr) (c : Nat) (l : List Rn) (lv p n q : Int) (sl bl : Value) (hp : I6 p) (hn : I6 n) (hq : I6 q) (h1 : p < 0) (t : Two W B rq ao c l) :
    Calls Try.prog 12 #[.pointer (some ⟨B, 0, none⟩), .pointer (some ⟨rq, 0, none⟩), .agg #[.int .i64 7, .int .i64 lv, sl, .int .i64 p, .int .i64 n, .int .i64 q, bl]] W fun e w' => e = .returned (.bool true) ∧ ∃ l', Ch W B rq ao l.length c l' w' := by
  have ka : Kp (fun _ => False) W (W.alloc (.cells #[.int .i64 7, .int .i64 lv, sl, .int .i64 p, .int .i64 n, .int .i64 q, bl] 34)) := (Kp.refl _ _).alloc _
  have S5 := hid (St.new 34 W #[.int .i64 7, .int .i64 lv, sl, .int .i64 p, .int .i64 n, .int .i64 q, bl])
  have HBT : Hid (W.heap.size ≠ B ∧ W.heap.size ≠ rq) := ⟨fun e => by have := St.lt t.rg.rb; omega, fun e => by have := t.rl.lt; omega⟩
  have tX := t.kp0 ka
  have KA := hid ka
  have HT := hid t
  have HNU := hid num_any
  have HEQ := hid eql_r
  have HC : Hid (Calls Try.prog 25 #[.pointer (some ⟨B, 0, none⟩), .int .i64 p, .int .i64 n, .int .i64 q] (W.alloc (.cells #[.int .i64 7, .int .i64 lv, sl, .int .i64 p, .int .i64 n, .int .i64 q, bl] 34)) fun e w' => e = .returned (.tuple #[.int .i64 0, .int .i64 2]) ∧ Below (W.alloc (.cells #[.int .i64 7, .int .i64 lv, sl, .int .i64 p, .int .i64 n, .int .i64 q, bl] 34)).heap.size (W.alloc (.cells #[.int .i64 7, .int .i64 lv, sl, .int .i64 p, .int .i64 n, .int .i64 q, bl] 34)) w') := (first_any _ B ao c l p n q tX.rg hp hn hq).mono (by
    rintro e w' ⟨rfl, h2⟩
    have e2 : fsE l p n q = 2 := by unfold fsE; rw [if_neg (by omega)]
    have e1 : fsV l p n q = 0 := by unfold fsV; rw [e2]; rfl
    rw [e1, e2]
    exact ⟨rfl, h2⟩)
  have d1 : decide (p < 0) = true := by simpa using h1
  clear ka tX t hp hn hq
  go_enter Try.func12, Try.ntmps12
  go_wp2_with fail
  refine HC.out.mono ?_
  rintro e w1 ⟨rfl, b1⟩
  have K1 := hid (KA.out.trans (Kp.of_below (F := fun _ => False) b1) (fun _ _ h => h))
  have S51 := hid (S5.out.kp (Kp.of_below (F := fun _ => False) b1) (fun h => h))
  have z3 : w1.cell? ⟨W.heap.size, 3, none⟩ = some (.int .i64 p) := S51.out.cell 3
  have z4 : w1.cell? ⟨W.heap.size, 4, none⟩ = some (.int .i64 n) := S51.out.cell 4
  have z5 : w1.cell? ⟨W.heap.size, 5, none⟩ = some (.int .i64 q) := S51.out.cell 5
  clear b1 HC
  go_wp2_with (first | (go_at_call 22; refine (HNU.out _ _).mono ?_; rintro e1 w9 ⟨rfl, rfl⟩))
  go_ret
  exact ⟨rfl, l, Ch.same HT.out K1.out⟩
set_option maxRecDepth 100000 in
set_option maxHeartbeats 8000000 in
theorem step_first2 (W : World) (B rq : Nat) (ao : Option Addr) (c : Nat) (l : List Rn) (lv p n q : Int) (sl bl : Value) (hp : I6 p) (hn : I6 n) (hq : I6 q) (h1 : ¬ p < 0) (h2 : 72057594037927936 < p) (t : Two W B rq ao c l) :
    Calls Try.prog 12 #[.pointer (some ⟨B, 0, none⟩), .pointer (some ⟨rq, 0, none⟩), .agg #[.int .i64 7, .int .i64 lv, sl, .int .i64 p, .int .i64 n, .int .i64 q, bl]] W fun e w' => e = .returned (.bool true) ∧ ∃ l', Ch W B rq ao l.length c l' w' := by
  have ka : Kp (fun _ => False) W (W.alloc (.cells #[.int .i64 7, .int .i64 lv, sl, .int .i64 p, .int .i64 n, .int .i64 q, bl] 34)) := (Kp.refl _ _).alloc _
  have S5 := hid (St.new 34 W #[.int .i64 7, .int .i64 lv, sl, .int .i64 p, .int .i64 n, .int .i64 q, bl])
  have HBT : Hid (W.heap.size ≠ B ∧ W.heap.size ≠ rq) := ⟨fun e => by have := St.lt t.rg.rb; omega, fun e => by have := t.rl.lt; omega⟩
  have tX := t.kp0 ka
  have KA := hid ka
  have HT := hid t
  have HNU := hid num_any
  have HEQ := hid eql_r
  have HC : Hid (Calls Try.prog 25 #[.pointer (some ⟨B, 0, none⟩), .int .i64 p, .int .i64 n, .int .i64 q] (W.alloc (.cells #[.int .i64 7, .int .i64 lv, sl, .int .i64 p, .int .i64 n, .int .i64 q, bl] 34)) fun e w' => e = .returned (.tuple #[.int .i64 0, .int .i64 2]) ∧ Below (W.alloc (.cells #[.int .i64 7, .int .i64 lv, sl, .int .i64 p, .int .i64 n, .int .i64 q, bl] 34)).heap.size (W.alloc (.cells #[.int .i64 7, .int .i64 lv, sl, .int .i64 p, .int .i64 n, .int .i64 q, bl] 34)) w') := (first_any _ B ao c l p n q tX.rg hp hn hq).mono (by
    rintro e w' ⟨rfl, h2⟩
    have e2 : fsE l p n q = 2 := by unfold fsE; rw [if_neg (by omega)]
    have e1 : fsV l p n q = 0 := by unfold fsV; rw [e2]; rfl
    rw [e1, e2]
    exact ⟨rfl, h2⟩)
  have d1 : decide (p < 0) = false := by simpa using h1
  have d2 : decide ((72057594037927936 : Int) < p) = true := by simpa using h2
  clear ka tX t hp hn hq
  go_enter Try.func12, Try.ntmps12
  go_wp2_with fail
  refine HC.out.mono ?_
  rintro e w1 ⟨rfl, b1⟩
  have K1 := hid (KA.out.trans (Kp.of_below (F := fun _ => False) b1) (fun _ _ h => h))
  have S51 := hid (S5.out.kp (Kp.of_below (F := fun _ => False) b1) (fun h => h))
  have z3 : w1.cell? ⟨W.heap.size, 3, none⟩ = some (.int .i64 p) := S51.out.cell 3
  have z4 : w1.cell? ⟨W.heap.size, 4, none⟩ = some (.int .i64 n) := S51.out.cell 4
  have z5 : w1.cell? ⟨W.heap.size, 5, none⟩ = some (.int .i64 q) := S51.out.cell 5
  clear b1 HC
  go_wp2_with (first | (go_at_call 22; refine (HNU.out _ _).mono ?_; rintro e1 w9 ⟨rfl, rfl⟩))
  go_ret
  exact ⟨rfl, l, Ch.same HT.out K1.out⟩
set_option maxRecDepth 100000 in
set_option maxHeartbeats 8000000 in
theorem step_first3 (W : World) (B rq : Nat) (ao : Option Addr) (c : Nat) (l : List Rn) (lv p n q : Int) (sl bl : Value) (hp : I6 p) (hn : I6 n) (hq : I6 q) (h1 : ¬ p < 0) (h2 : ¬ 72057594037927936 < p) (h3 : n < 1) (t : Two W B rq ao c l) :
    Calls Try.prog 12 #[.pointer (some ⟨B, 0, none⟩), .pointer (some ⟨rq, 0, none⟩), .agg #[.int .i64 7, .int .i64 lv, sl, .int .i64 p, .int .i64 n, .int .i64 q, bl]] W fun e w' => e = .returned (.bool true) ∧ ∃ l', Ch W B rq ao l.length c l' w' := by
  have ka : Kp (fun _ => False) W (W.alloc (.cells #[.int .i64 7, .int .i64 lv, sl, .int .i64 p, .int .i64 n, .int .i64 q, bl] 34)) := (Kp.refl _ _).alloc _
  have S5 := hid (St.new 34 W #[.int .i64 7, .int .i64 lv, sl, .int .i64 p, .int .i64 n, .int .i64 q, bl])
  have HBT : Hid (W.heap.size ≠ B ∧ W.heap.size ≠ rq) := ⟨fun e => by have := St.lt t.rg.rb; omega, fun e => by have := t.rl.lt; omega⟩
  have tX := t.kp0 ka
  have KA := hid ka
  have HT := hid t
  have HNU := hid num_any
  have HEQ := hid eql_r
  have HC : Hid (Calls Try.prog 25 #[.pointer (some ⟨B, 0, none⟩), .int .i64 p, .int .i64 n, .int .i64 q] (W.alloc (.cells #[.int .i64 7, .int .i64 lv, sl, .int .i64 p, .int .i64 n, .int .i64 q, bl] 34)) fun e w' => e = .returned (.tuple #[.int .i64 0, .int .i64 2]) ∧ Below (W.alloc (.cells #[.int .i64 7, .int .i64 lv, sl, .int .i64 p, .int .i64 n, .int .i64 q, bl] 34)).heap.size (W.alloc (.cells #[.int .i64 7, .int .i64 lv, sl, .int .i64 p, .int .i64 n, .int .i64 q, bl] 34)) w') := (first_any _ B ao c l p n q tX.rg hp hn hq).mono (by
    rintro e w' ⟨rfl, h2⟩
    have e2 : fsE l p n q = 2 := by unfold fsE; rw [if_neg (by omega)]
    have e1 : fsV l p n q = 0 := by unfold fsV; rw [e2]; rfl
    rw [e1, e2]
    exact ⟨rfl, h2⟩)
  have d1 : decide (p < 0) = false := by simpa using h1
  have d2 : decide ((72057594037927936 : Int) < p) = false := by simpa using h2
  have d3 : decide (n < 1) = true := by simpa using h3
  clear ka tX t hp hn hq
  go_enter Try.func12, Try.ntmps12
  go_wp2_with fail
  refine HC.out.mono ?_
  rintro e w1 ⟨rfl, b1⟩
  have K1 := hid (KA.out.trans (Kp.of_below (F := fun _ => False) b1) (fun _ _ h => h))
  have S51 := hid (S5.out.kp (Kp.of_below (F := fun _ => False) b1) (fun h => h))
  have z3 : w1.cell? ⟨W.heap.size, 3, none⟩ = some (.int .i64 p) := S51.out.cell 3
  have z4 : w1.cell? ⟨W.heap.size, 4, none⟩ = some (.int .i64 n) := S51.out.cell 4
  have z5 : w1.cell? ⟨W.heap.size, 5, none⟩ = some (.int .i64 q) := S51.out.cell 5
  clear b1 HC
  go_wp2_with (first | (go_at_call 22; refine (HNU.out _ _).mono ?_; rintro e1 w9 ⟨rfl, rfl⟩))
  go_ret
  exact ⟨rfl, l, Ch.same HT.out K1.out⟩
set_option maxRecDepth 100000 in
set_option maxHeartbeats 8000000 in
theorem step_first4 (W : World) (B rq : Nat) (ao : Option Addr) (c : Nat) (l : List Rn) (lv p n q : Int) (sl bl : Value) (hp : I6 p) (hn : I6 n) (hq : I6 q) (h1 : ¬ p < 0) (h2 : ¬ 72057594037927936 < p) (h3 : ¬ n < 1) (h4 : q < 1) (t : Two W B rq ao c l) :
    Calls Try.prog 12 #[.pointer (some ⟨B, 0, none⟩), .pointer (some ⟨rq, 0, none⟩), .agg #[.int .i64 7, .int .i64 lv, sl, .int .i64 p, .int .i64 n, .int .i64 q, bl]] W fun e w' => e = .returned (.bool true) ∧ ∃ l', Ch W B rq ao l.length c l' w' := by
  have ka : Kp (fun _ => False) W (W.alloc (.cells #[.int .i64 7, .int .i64 lv, sl, .int .i64 p, .int .i64 n, .int .i64 q, bl] 34)) := (Kp.refl _ _).alloc _
  have S5 := hid (St.new 34 W #[.int .i64 7, .int .i64 lv, sl, .int .i64 p, .int .i64 n, .int .i64 q, bl])
  have HBT : Hid (W.heap.size ≠ B ∧ W.heap.size ≠ rq) := ⟨fun e => by have := St.lt t.rg.rb; omega, fun e => by have := t.rl.lt; omega⟩
  have tX := t.kp0 ka
  have KA := hid ka
  have HT := hid t
  have HNU := hid num_any
  have HEQ := hid eql_r
  have HC : Hid (Calls Try.prog 25 #[.pointer (some ⟨B, 0, none⟩), .int .i64 p, .int .i64 n, .int .i64 q] (W.alloc (.cells #[.int .i64 7, .int .i64 lv, sl, .int .i64 p, .int .i64 n, .int .i64 q, bl] 34)) fun e w' => e = .returned (.tuple #[.int .i64 0, .int .i64 2]) ∧ Below (W.alloc (.cells #[.int .i64 7, .int .i64 lv, sl, .int .i64 p, .int .i64 n, .int .i64 q, bl] 34)).heap.size (W.alloc (.cells #[.int .i64 7, .int .i64 lv, sl, .int .i64 p, .int .i64 n, .int .i64 q, bl] 34)) w') := (first_any _ B ao c l p n q tX.rg hp hn hq).mono (by
    rintro e w' ⟨rfl, h2⟩
    have e2 : fsE l p n q = 2 := by unfold fsE; rw [if_neg (by omega)]
    have e1 : fsV l p n q = 0 := by unfold fsV; rw [e2]; rfl
    rw [e1, e2]
    exact ⟨rfl, h2⟩)
  have d1 : decide (p < 0) = false := by simpa using h1
  have d2 : decide ((72057594037927936 : Int) < p) = false := by simpa using h2
  have d3 : decide (n < 1) = false := by simpa using h3
  have d4 : decide (q < 1) = true := by simpa using h4
  clear ka tX t hp hn hq
  go_enter Try.func12, Try.ntmps12
  go_wp2_with fail
  refine HC.out.mono ?_
  rintro e w1 ⟨rfl, b1⟩
  have K1 := hid (KA.out.trans (Kp.of_below (F := fun _ => False) b1) (fun _ _ h => h))
  have S51 := hid (S5.out.kp (Kp.of_below (F := fun _ => False) b1) (fun h => h))
  have z3 : w1.cell? ⟨W.heap.size, 3, none⟩ = some (.int .i64 p) := S51.out.cell 3
  have z4 : w1.cell? ⟨W.heap.size, 4, none⟩ = some (.int .i64 n) := S51.out.cell 4
  have z5 : w1.cell? ⟨W.heap.size, 5, none⟩ = some (.int .i64 q) := S51.out.cell 5
  clear b1 HC
  go_wp2_with (first | (go_at_call 22; refine (HNU.out _ _).mono ?_; rintro e1 w9 ⟨rfl, rfl⟩))
  go_ret
  exact ⟨rfl, l, Ch.same HT.out K1.out⟩
set_option maxRecDepth 100000 in
set_option maxHeartbeats 8000000 in
theorem step_first5 (W : World) (B rq : Nat) (ao : Option Addr) (c : Nat) (l : List Rn) (lv p n q : Int) (sl bl : Value) (hp : I6 p) (hn : I6 n) (hq : I6 q) (h1 : ¬ p < 0) (h2 : ¬ 72057594037927936 < p) (h3 : ¬ n < 1) (h4 : ¬ q < 1) (t : Two W B rq ao c l) :
    Calls Try.prog 12 #[.pointer (some ⟨B, 0, none⟩), .pointer (some ⟨rq, 0, none⟩), .agg #[.int .i64 7, .int .i64 lv, sl, .int .i64 p, .int .i64 n, .int .i64 q, bl]] W fun e w' => e = .returned (.bool true) ∧ ∃ l', Ch W B rq ao l.length c l' w' := by
  have ka : Kp (fun _ => False) W (W.alloc (.cells #[.int .i64 7, .int .i64 lv, sl, .int .i64 p, .int .i64 n, .int .i64 q, bl] 34)) := (Kp.refl _ _).alloc _
  have S5 := hid (St.new 34 W #[.int .i64 7, .int .i64 lv, sl, .int .i64 p, .int .i64 n, .int .i64 q, bl])
  have HBT : Hid (W.heap.size ≠ B ∧ W.heap.size ≠ rq) := ⟨fun e => by have := St.lt t.rg.rb; omega, fun e => by have := t.rl.lt; omega⟩
  have tX := t.kp0 ka
  have KA := hid ka
  have HT := hid t
  have HNU := hid num_any
  have HEQ := hid eql_r
  have HC := hid (first_any _ B ao c l p n q tX.rg hp hn hq)
  have HRF : Hid (∀ U, Kp (fun _ => False) W U → Calls Try.prog 39 #[.pointer (some ⟨rq, 0, none⟩), .int .i64 p, .int .i64 n, .int .i64 q] U fun e w' => e = .returned (.tuple #[.int .i64 (fsV l p n q), .int .i64 (fsE l p n q)]) ∧ Kp (fun _ => False) U w') := fun U k => rfirst_any U rq l p n q (by omega) (by unfold I6 at hn; omega) (by unfold I6 at hq; omega) (HT.out.rl.kp k)
  have d1 : decide (p < 0) = false := by simpa using h1
  have d2 : decide ((72057594037927936 : Int) < p) = false := by simpa using h2
  have d3 : decide (n < 1) = false := by simpa using h3
  have d4 : decide (q < 1) = false := by simpa using h4
  clear ka tX t hp hn hq
  generalize fsV l p n q = fv at *
  generalize fsE l p n q = fe at *
  go_enter Try.func12, Try.ntmps12
  go_wp2_with fail
  refine HC.out.mono ?_
  rintro e w1 ⟨rfl, b1⟩
  have K1 := hid (KA.out.trans (Kp.of_below (F := fun _ => False) b1) (fun _ _ h => h))
  have S51 := hid (S5.out.kp (Kp.of_below (F := fun _ => False) b1) (fun h => h))
  have z3 : w1.cell? ⟨W.heap.size, 3, none⟩ = some (.int .i64 p) := S51.out.cell 3
  have z4 : w1.cell? ⟨W.heap.size, 4, none⟩ = some (.int .i64 n) := S51.out.cell 4
  have z5 : w1.cell? ⟨W.heap.size, 5, none⟩ = some (.int .i64 q) := S51.out.cell 5
  have H1 := hid (HRF.out w1 K1.out)
  clear b1 HC HRF
  go_wp2_with fail
  refine H1.out.mono ?_
  rintro e w2 ⟨rfl, k2⟩
  have K2 := hid (K1.out.trans k2 (fun _ _ h => h))
  clear k2 H1 z3 z4 z5
  go_wp2_with (first | (go_at_call 22; refine (HNU.out _ _).mono ?_; rintro e1 w9 ⟨rfl, rfl⟩))
  go_ret
  exact ⟨by simp, l, Ch.same HT.out K2.out⟩
theorem step_first (W : World) (B rq : Nat) (ao : Option Addr) (c : Nat) (l : List Rn) (lv p n q : Int) (sl bl : Value) (hp : I6 p) (hn : I6 n) (hq : I6 q) (t : Two W B rq ao c l) :
    Calls Try.prog 12 #[.pointer (some ⟨B, 0, none⟩), .pointer (some ⟨rq, 0, none⟩), .agg #[.int .i64 7, .int .i64 lv, sl, .int .i64 p, .int .i64 n, .int .i64 q, bl]] W fun e w' => e = .returned (.bool true) ∧ ∃ l', Ch W B rq ao l.length c l' w' := by
  by_cases h1 : p < 0
  · exact step_first1 W B rq ao c l lv p n q sl bl hp hn hq h1 t
  · by_cases h2 : 72057594037927936 < p
    · exact step_first2 W B rq ao c l lv p n q sl bl hp hn hq h1 h2 t
    · by_cases h3 : n < 1
      · exact step_first3 W B rq ao c l lv p n q sl bl hp hn hq h1 h2 h3 t
      · by_cases h4 : q < 1
        · exact step_first4 W B rq ao c l lv p n q sl bl hp hn hq h1 h2 h3 h4 t
        · exact step_first5 W B rq ao c l lv p n q sl bl hp hn hq h1 h2 h3 h4 t
set_option maxRecDepth 100000 in
set_option maxHeartbeats 8000000 in
theorem step_count (W : World) (B rq : Nat) (ao : Option Addr) (c : Nat) (l : List Rn) (lv p n q : Int) (sl bl : Value)  (t : Two W B rq ao c l) :
    Calls Try.prog 12 #[.pointer (some ⟨B, 0, none⟩), .pointer (some ⟨rq, 0, none⟩), .agg #[.int .i64 8, .int .i64 lv, sl, .int .i64 p, .int .i64 n, .int .i64 q, bl]] W fun e w' => e = .returned (.bool true) ∧ ∃ l', Ch W B rq ao l.length c l' w' := by
  have ka : Kp (fun _ => False) W (W.alloc (.cells #[.int .i64 8, .int .i64 lv, sl, .int .i64 p, .int .i64 n, .int .i64 q, bl] 34)) := (Kp.refl _ _).alloc _
  have S5 := hid (St.new 34 W #[.int .i64 8, .int .i64 lv, sl, .int .i64 p, .int .i64 n, .int .i64 q, bl])
  have HBT : Hid (W.heap.size ≠ B ∧ W.heap.size ≠ rq) := ⟨fun e => by have := St.lt t.rg.rb; omega, fun e => by have := t.rl.lt; omega⟩
  have tX := t.kp0 ka
  have KA := hid ka
  have HT := hid t
  have HNU := hid num_any
  have HEQ := hid eql_r
  have HC := hid (count_any _ B ao c l n tX.rg)
  obtain ⟨ra, rc, g1, g2, g3, g4, g5, g6⟩ := t.rl.mem
  have G1 := hid g1
  have G2 := hid g2
  have hl6 := t.rg.len
  have HB := hid (sumK_bd t.rg.srt n)
  have HBJ : Hid (∀ j, 0 ≤ sumK (l.take j) n ∧ sumK (l.take j) n ≤ 72057594037927936) := fun j => sumK_bd (t.rg.srt.take j) n
  have HCN : Hid (cntK l n ≤ 65536) := Nat.le_trans (List.length_filter_le _ _) t.rg.len
  have HCJ : Hid (∀ j, cntK (l.take j) n ≤ 65536) := fun j => Nat.le_trans (List.length_filter_le _ _) (by have := t.rg.len; rw [List.length_take]; omega)
  have HCF : Hid (cntK (l.take l.length) n = cntK l n ∧ sumK (l.take l.length) n = sumK l n) := by rw [List.take_length]; exact ⟨rfl, rfl⟩
  obtain ⟨ln, hln⟩ : ∃ ln, ln = l.length := ⟨_, rfl⟩
  rw [← hln] at G1 HCF hl6
  have HLN := hid hln
  unfold maxLen at g5
  rw [← hln] at g4
  clear ka tX t g1 g2 g3 hln
  generalize hcn : cntK l n = cn at *
  generalize hsn : sumK l n = sn at *
  clear hcn hsn
  go_enter Try.func12, Try.ntmps12
  go_wp2_with fail
  refine HC.out.mono ?_
  rintro e w1 ⟨rfl, b1⟩
  have K1 := hid (KA.out.trans (Kp.of_below (F := fun _ => False) b1) (fun _ _ h => h))
  have S51 := hid (S5.out.kp (Kp.of_below (F := fun _ => False) b1) (fun h => h))
  clear b1 HC
  go_wp2_with fail
  go_loopw [19, 20, 21] (fun a b i wr => ∃ (j : Nat), i = .int .i64 (j : Int) ∧ a = .int .i64 ((cn : Int) - (cntK (l.take j) n : Nat)) ∧ b = .int .i64 (sn - sumK (l.take j) n) ∧ j ≤ ln ∧ Hid (Kp (fun _ => False) w1 wr)) (fun _ _ i _ => ln - (intOf i).toNat)
  case atStart => exact ⟨0, rfl, by simp [cntK], by simp [sumK, sumL], Nat.zero_le _, Kp.refl _ _⟩
  case round =>
    obtain ⟨j, rfl, rfl, rfl, hj, HK⟩ := hrel
    have zq : wr.cell? ⟨rq, 0, none⟩ = some (.slice ra ln rc) := ((G1.out.kp K1.out (fun h => h)).kp HK.out (fun h => h)).cell 0
    have z4 : wr.cell? ⟨W.heap.size, 4, none⟩ = some (.int .i64 n) := (S51.out.kp HK.out (fun h => h)).cell 4
    by_cases hlt : j < ln
    · have hjl : j < l.length := by have := HLN.out; omega
      obtain ⟨gb, off, rfl, _, x0, x1', x2'⟩ := ((G2.out.kp K1.out (fun _ _ _ _ h => h)).kp HK.out (fun _ _ _ _ h => h)).at (i := j) hjl
      have HS1 := hid (cntK_step hjl n)
      have HS2 := hid (sumK_step hjl n)
      generalize l.getD j zRn = x at *
      have hj1 : (j : Int) < (ln : Int) := by omega
      have hj0 : (0 : Int) ≤ (j : Int) := by omega
      have B1 := HBJ.out j
      have B2 := HBJ.out (j + 1)
      have B3 := HCJ.out j
      have B4 := HCJ.out (j + 1)
      have B5 := HB.out
      have B6 := HCN.out
      generalize cntK (l.take j) n = cj at *
      generalize sumK (l.take j) n = sj at *
      by_cases hkd : x.k = n
      · have HS1' : Hid (cntK (l.take (j + 1)) n = cj + 1) := by have := HS1.out; rw [if_pos hkd] at this; exact this
        have HS2' : Hid (sumK (l.take (j + 1)) n = sj + x.n) := by have := HS2.out; rw [if_pos hkd] at this; exact this
        rw [HS1'.out] at B4
        rw [HS2'.out] at B2
        have hw1 : IntKind.i64.wrap ((cn : Int) - (cj : Int) - 1) = (cn : Int) - (cj : Int) - 1 := by rw [IntKind.wrap_i64]; omega
        have hw2 : IntKind.i64.wrap (sn - sj - x.n) = sn - sj - x.n := by rw [IntKind.wrap_i64]; omega
        have hke : (x.k == n) = true := by simpa using hkd
        clear B1 B2 B3 B4 B5 B6 HS1 HS2 hkd
        generalize x.k = xk at *
        generalize x.a = xa at *
        generalize x.n = xn at *
        go_wp2_with fail
        go_quiet (fail)
        go_wp2_with fail
        go_roundw
        case rel => exact ⟨j + 1, by go_num, by rw [HS1'.out]; go_num, by rw [HS2'.out]; go_num, hlt, HK.out.trans (drewN_kp _ _ _) (fun _ _ h => h)⟩
        case measure => simp [intOf]; omega
      · have HS1' : Hid (cntK (l.take (j + 1)) n = cj) := by have := HS1.out; rw [if_neg hkd] at this; exact this
        have HS2' : Hid (sumK (l.take (j + 1)) n = sj) := by have := HS2.out; rw [if_neg hkd, Int.add_zero] at this; exact this
        have hke : (x.k == n) = false := by simpa using hkd
        clear B1 B2 B3 B4 B5 B6 HS1 HS2 hkd
        generalize x.k = xk at *
        generalize x.a = xa at *
        generalize x.n = xn at *
        go_wp2_with fail
        go_quiet (fail)
        go_wp2_with fail
        go_roundw
        case rel => exact ⟨j + 1, by go_num, by rw [HS1'.out], by rw [HS2'.out], hlt, HK.out.trans (drewN_kp _ _ _) (fun _ _ h => h)⟩
        case measure => simp [intOf]; omega
    · obtain rfl : j = ln := by omega
      have hj1 : ¬ (j : Int) < (j : Int) := by omega
      rw [HCF.out.1, HCF.out.2, Int.sub_self, Int.sub_self]
      go_wp2_with fail
      go_ret
      exact ⟨rfl, l, Ch.same HT.out (K1.out.trans HK.out (fun _ _ h => h))⟩
end Go.Proofs.Ytopnfjgkgoeleaa

namespace Go.Proofs.Ytopnfjgkgoeleaa
open Go.RowKit
set_option linter.unusedVariables false
set_option linter.unusedSimpArgs false
theorem flg_at : ∀ {l : List (Int × Int)} {i : Nat}, i < l.length → (flg l)[i * 2]? = some (.int .i64 (l.getD i (0, 0)).1) ∧ (flg l)[i * 2 + 1]? = some (.int .i64 (l.getD i (0, 0)).2)
  | x :: r, 0, _ => by simp [flg, List.getD]
  | x :: r, i + 1, h => by
    have ih := flg_at (l := r) (i := i) (by simpa using h)
    have e1 : flg (x :: r) = .int .i64 x.1 :: .int .i64 x.2 :: flg r := by simp [flg]
    rw [e1, show (i + 1) * 2 = i * 2 + 1 + 1 by omega]
    simp only [List.getElem?_cons_succ]
    simpa [List.getD] using ih
theorem gps_len {u : Int} : ∀ {l : List Rn} {p : Int}, (gps u p l).length ≤ l.length + 1
  | [], p => by simp only [gps]; split <;> simp
  | x :: r, p => by
    simp only [gps]
    split
    · split <;> simp
    · split
      · have := gps_len (u := u) (l := r) (p := x.e); simp; omega
      · have := gps_len (u := u) (l := r) (p := x.e); simp; omega
theorem mn_bd {u : Int} (h : I6 u) : -9223372036854775808 ≤ mn u ∧ mn u ≤ 72057594037927936 := by unfold I6 at h; unfold mn; split <;> omega
theorem Owng.src {w : World} {base : Nat} {v : Value} {l : List (Int × Int)} (h : Owng w base v l) : ∃ ao cap, v = .slice ao l.length cap ∧ Srcg w ao l ∧ ∀ b off, ao = some ⟨b, off, none⟩ → base ≤ b := by
  rcases h.2 with ⟨e, h0⟩ | ⟨g, cap, cur, e, h1, h2, h3, h4, h5, h6⟩
  · exact ⟨none, 0, by rw [e, h0], fun hp => by omega, fun b off e => by cases e⟩
  · refine ⟨some ⟨g, 0, none⟩, cap, e, fun hp => ⟨g, 0, rfl, (Array.getElem?_eq_some_iff.1 h2).1, fun i hi => ?_⟩, fun b off e => by cases e; exact h1⟩
    have hc : ∀ k u, (flg l)[k]? = some u → w.cell? ⟨g, 0 + k, none⟩ = some u := fun k u hu => by
      rw [cell_of_row w g (0 + k) _ 106 _ h2, Nat.zero_add]
      have hk : k < (flg l).length := (List.getElem?_eq_some_iff.1 hu).1
      rw [← h6, List.getElem?_take_of_lt (by rw [flg_len] at hk; exact hk)] at hu
      simpa using hu
    have hg := flg_at hi
    exact ⟨by have := hc (i * 2) _ hg.1; exact this, by have := hc (i * 2 + 1) _ hg.2; exact this⟩
set_option maxRecDepth 100000 in
set_option maxHeartbeats 8000000 in
theorem step_gaps (W : World) (B rq : Nat) (ao : Option Addr) (c : Nat) (l : List Rn) (lv p n q : Int) (sl bl : Value) (hq : I6 q) (t : Two W B rq ao c l) :
    Calls Try.prog 12 #[.pointer (some ⟨B, 0, none⟩), .pointer (some ⟨rq, 0, none⟩), .agg #[.int .i64 9, .int .i64 lv, sl, .int .i64 p, .int .i64 n, .int .i64 q, bl]] W fun e w' => e = .returned (.bool true) ∧ ∃ l', Ch W B rq ao l.length c l' w' := by
  have ka : Kp (fun _ => False) W (W.alloc (.cells #[.int .i64 9, .int .i64 lv, sl, .int .i64 p, .int .i64 n, .int .i64 q, bl] 34)) := (Kp.refl _ _).alloc _
  have S5 := hid (St.new 34 W #[.int .i64 9, .int .i64 lv, sl, .int .i64 p, .int .i64 n, .int .i64 q, bl])
  have HBT : Hid (W.heap.size ≠ B ∧ W.heap.size ≠ rq) := ⟨fun e => by have := St.lt t.rg.rb; omega, fun e => by have := t.rl.lt; omega⟩
  have tX := t.kp0 ka
  have KA := hid ka
  have HT := hid t
  have HNU := hid num_any
  have HEQ := hid eql_r
  have HC := hid (gaps_any _ B ao l.length c q tX.rg.rb)
  have HRG : Hid (∀ U, Kp (fun _ => False) W U → Calls Try.prog 40 #[.pointer (some ⟨rq, 0, none⟩), .int .i64 q] U fun e w' => ∃ v, e = .returned v ∧ Owng w' U.heap.size v (gps (mn q) 0 l) ∧ Kp (fun _ => False) U w') := fun U k => rgaps_any U rq l q hq (HT.out.rl.kp k)
  have HMN := hid (mn_bd hq)
  have hgl : (gps (mn q) 0 l).length ≤ 65537 := by have := gps_len (u := mn q) (l := l) (p := 0); have := t.rg.len; omega
  have HLS : Hid (Srcr W ao l ∧ l.length ≤ c) := ⟨t.rg.lst.1, t.rg.lst.2.1⟩
  have hl6 : l.length ≤ 65536 := t.rg.len
  have HLT : Hid (∀ b, 0 < l.length → (∃ off, ao = some ⟨b, off, none⟩) → b < W.heap.size) := fun b hp e => t.rg.lst.blk_lt ⟨by have := t.rg.lst.2.1; omega, e⟩
  have HSR := hid t.rg.srt
  clear ka tX t hq
  generalize hu : mn q = u at *
  clear hu
  go_enter Try.func12, Try.ntmps12
  go_wp2_with fail
  refine HC.out.mono ?_
  rintro e w1 ⟨bt, bu, rfl, hbt, hbu, s1, s2, b1⟩
  have k1 : Kp (fun _ => False) (W.alloc (.cells #[.int .i64 9, .int .i64 lv, sl, .int .i64 p, .int .i64 n, .int .i64 q, bl] 34)) w1 := Kp.of_below b1
  have K1 := hid (KA.out.trans k1 (fun _ _ h => h))
  have S51 := hid (S5.out.kp k1 (fun h => h))
  have z5 : w1.cell? ⟨W.heap.size, 5, none⟩ = some (.int .i64 q) := S51.out.cell 5
  have H1 := hid (HRG.out w1 K1.out)
  have Q1 := hid s1
  have Q2 := hid s2
  have HBB : Hid (W.heap.size ≤ bt ∧ W.heap.size ≤ bu ∧ bt < w1.heap.size ∧ bu < w1.heap.size) := ⟨Nat.le_trans KA.out.size hbt, Nat.le_trans KA.out.size hbu, s1.lt, s2.lt⟩
  clear b1 HC HRG k1 s1 s2 hbt hbu
  go_wp2_with fail
  refine H1.out.mono ?_
  rintro e w2 ⟨v, rfl, og, k2⟩
  obtain ⟨bo, cb, rfl, sg, hnb⟩ := og.src
  have K2 := hid (K1.out.trans k2 (fun _ _ h => h))
  have S52 := hid (S51.out.kp k2 (fun h => h))
  have z1 : w2.cell? ⟨W.heap.size, 1, none⟩ = some (.int .i64 lv) := S52.out.cell 1
  have HGV : Hid (∀ U, Kp (fun _ => False) w2 U → ∀ leave : Int, Calls Try.prog 41 #[.func (.func 62) #[] #[.pointer (some ⟨bt, 0, none⟩), .pointer (some ⟨bu, 0, none⟩)], .slice bo (gps u 0 l).length cb, .int .i64 leave] U fun e w' => e = .returned (.bool true) ∧ Kp (fun _ => False) U w') := fun U ku leave => by
    refine gaps_val U bt bu ao c l u HMN.out hl6 HLS.out.2 HSR.out ((HLS.out.1.kp K2.out (fun _ _ _ _ h => h)).kp ku (fun _ _ _ _ h => h)) ((Q1.out.kp k2 (fun h => h)).kp ku (fun h => h)) ((Q2.out.kp k2 (fun h => h)).kp ku (fun h => h)) _ rfl hgl bo cb (sg.kp ku (fun _ _ _ _ h => h)) (fun b off e hp ro => ?_) leave
    have h1 := hnb b off e
    obtain ⟨h2, h3, h4, h5⟩ := HBB.out
    have h6 := K1.out.size
    rcases ro with rfl | rfl | ⟨h7, h8⟩
    · omega
    · omega
    · have := HLT.out b h7 h8; omega
  have G2 := hid (HGV.out w2 (Kp.refl _ _) lv)
  clear H1 og sg hnb k2 z5 HMN HLS HLT HSR Q1 Q2 HBB S51 S52
  generalize (gps u 0 l).length = gn at *
  go_wp2_with fail
  refine G2.out.mono ?_
  rintro e w3 ⟨rfl, k3⟩
  have G3 := hid (HGV.out w3 k3 0)
  have K3 := hid (K2.out.trans k3 (fun _ _ h => h))
  clear G2 HGV k3 z1
  go_wp2_with fail
  refine G3.out.mono ?_
  rintro e w4 ⟨rfl, k4⟩
  have K4 := hid (K3.out.trans k4 (fun _ _ h => h))
  clear G3 k4
  go_wp2_with fail
  go_ret
  exact ⟨rfl, l, Ch.same HT.out K4.out⟩
set_option maxRecDepth 100000 in
set_option maxHeartbeats 8000000 in
theorem step_else (W : World) (B rq : Nat) (ao : Option Addr) (c : Nat) (l : List Rn) (kd lv p n q : Int) (sl bl : Value) (hk : kd < 0 ∨ 9 < kd) (t : Two W B rq ao c l) :
    Calls Try.prog 12 #[.pointer (some ⟨B, 0, none⟩), .pointer (some ⟨rq, 0, none⟩), .agg #[.int .i64 kd, .int .i64 lv, sl, .int .i64 p, .int .i64 n, .int .i64 q, bl]] W fun e w' => e = .returned (.bool true) ∧ ∃ l', Ch W B rq ao l.length c l' w' := by
  have ka : Kp (fun _ => False) W (W.alloc (.cells #[.int .i64 kd, .int .i64 lv, sl, .int .i64 p, .int .i64 n, .int .i64 q, bl] 34)) := (Kp.refl _ _).alloc _
  have S5 := hid (St.new 34 W #[.int .i64 kd, .int .i64 lv, sl, .int .i64 p, .int .i64 n, .int .i64 q, bl])
  have HBT : Hid (W.heap.size ≠ B ∧ W.heap.size ≠ rq) := ⟨fun e => by have := St.lt t.rg.rb; omega, fun e => by have := t.rl.lt; omega⟩
  have tX := t.kp0 ka
  have KA := hid ka
  have HT := hid t
  have HNU := hid num_any
  have HEQ := hid eql_r
  have HCH := hid (Ch.same t ka)
  have e0 : (kd == 0) = false := by simp; omega
  have e1 : (kd == 1) = false := by simp; omega
  have e2 : (kd == 2) = false := by simp; omega
  have e3 : (kd == 3) = false := by simp; omega
  have e4 : (kd == 4) = false := by simp; omega
  have e5 : (kd == 5) = false := by simp; omega
  have e6 : (kd == 6) = false := by simp; omega
  have e7 : (kd == 7) = false := by simp; omega
  have e8 : (kd == 8) = false := by simp; omega
  have e9 : (kd == 9) = false := by simp; omega
  clear ka tX t hk
  go_enter Try.func12, Try.ntmps12
  go_wp2_with fail
  go_ret
  exact ⟨rfl, l, HCH.out⟩
end Go.Proofs.Ytopnfjgkgoeleaa
