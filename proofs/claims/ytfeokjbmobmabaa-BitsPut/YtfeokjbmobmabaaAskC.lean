/- Contract of the statements' own ask(): Raw, whose answer is turned over behind the call; and ask whole. -/
import Derived.Test.YtfeokjbmobmabaaAskB
namespace Go.Proofs.Ytfeokjbmobmabaa
open Go.RowKit

theorem raw_eq (B : List Int) (hb : Byt B) (p n : Nat) (h8 : p % 8 = 0) (hl : n ≤ (8 * B.length - p) / 8) (hp : p ≤ 8 * B.length) : (B.drop (p / 8)).take n = dig 256 (und 256 B / 2 ^ p % 2 ^ (8 * n)) n := by
  obtain ⟨a, ha⟩ : ∃ a, p = 8 * a := ⟨p / 8, by omega⟩
  subst ha
  rw [show 8 * a / 8 = a by omega, ← pow_256, ← pow_256, dig_mod 256 _ n n (Nat.le_refl _)]
  have e := dig_und 256 B (byt_range hb)
  have e2 : B.drop a = dig 256 (und 256 B / 256 ^ a) (B.length - a) := by
    rw [← dig_drop 256 _ _ _ (by omega), e]
  rw [e2, dig_take 256 _ _ _ (by omega)]
theorem Rd.byt' {w : World} {g : Nat} {ao : Option Addr} {cap : Nat} {B : List Int} {p : Nat} (h : Rd w g ao cap B p) : Byt B := by
  obtain ⟨_, _, hx⟩ := h
  exact hx.byt
/-- A pair is kept while another block turns. -/
theorem Pr.row {w w' : World} {g G cap gr bL capL : Nat} {B : List Int} {p Gb : Nat} (h : Pr w g G cap gr bL capL B p) (k : Kp (fun i => i = Gb) w w') (h1 : g ≠ Gb) (h2 : gr ≠ Gb) (h3 : 0 < B.length → G ≠ Gb ∧ bL ≠ Gb) : Pr w' g G cap gr bL capL B p := by
  by_cases hB : B.length = 0
  · obtain ⟨n, q, hx⟩ := h.rd
    refine ⟨⟨n, q, hx.pos, hx.nle, hx.wle, hx.blen, hx.byt, hx.st.kp k h1, fun hp => absurd hp (by omega), hx.hcap, hx.hnil, hx.apart⟩, ?_, h.n1, h.n2, h.n3⟩
    exact ⟨h.rf.st.kp k h2, fun hp => absurd hp (by rw [dig_length]; omega), h.rf.hcap, h.rf.hp, h.rf.hT, h.rf.hV, h.rf.apart⟩
  · obtain ⟨h4, h5⟩ := h3 (by omega)
    exact ⟨h.rd.kp k h1 (fun b off e => by cases e; exact h4), h.rf.kp k h2 h5, h.n1, h.n2, h.n3⟩
theorem Pr.lts {w : World} {g G cap gr bL capL : Nat} {B : List Int} {p : Nat} (h : Pr w g G cap gr bL capL B p) (hB : 0 < B.length) : G < w.heap.size ∧ bL < w.heap.size := by
  obtain ⟨n, q, hx⟩ := h.rd
  exact ⟨block_lt_of_cell (hx.src.at 0 hB), block_lt_of_cell (h.rf.src.at 0 (by rw [dig_length]; omega))⟩

set_option maxRecDepth 100000 in
set_option maxHeartbeats 4000000 in
theorem ask_raw_no (g G cap gr bL capL : Nat) (B : List Int) (p : Nat) (N : Int) (w : World) (h : Pr w g G cap gr bL capL B p) (hno : N < 0 ∨ (0 ≤ N ∧ (p % 8 ≠ 0 ∨ (((8 * B.length - p) / 8 : Nat) : Int) < N))) :
    Calls Try.prog 24 #[.pointer (some ⟨g, 0, none⟩), .pointer (some ⟨gr, 0, none⟩), .agg #[.int .i64 6, .int .i64 N]] w fun e w' => e = .returned (.bool true) ∧ Asked w w' g G cap gr bL capL B := by
  have k0 : Ok' w (w.alloc (.cells #[.int .i64 6, .int .i64 N] 55)) := (Kp.refl _ w).alloc _
  have h0 := h.ok k0
  have k0' : Kp (fun i => i = g ∨ i = gr) w (w.alloc (.cells #[.int .i64 6, .int .i64 N] 55)) := k0.mono (fun _ _ x => x.elim)
  have sA : St 55 (w.alloc (.cells #[.int .i64 6, .int .i64 N] 55)) w.heap.size #[.int .i64 6, .int .i64 N] := heap_alloc_new w _
  obtain ⟨E, HE1, HE2⟩ : ∃ E : Int, (∃ q : Hid True, Calls Try.prog 34 #[.pointer (some ⟨g, 0, none⟩), .int .i64 N] (w.alloc (.cells #[.int .i64 6, .int .i64 N] 55)) fun e w' => e = .returned (.tuple #[.slice none 0 0, .int .i64 E]) ∧ Ok' (w.alloc (.cells #[.int .i64 6, .int .i64 N] 55)) w') ∧ Hid (∀ w1, Rf w1 gr bL capL (und 256 B) (8 * B.length) p → Calls Try.prog 45 #[.pointer (some ⟨gr, 0, none⟩), .int .i64 N] w1 fun e w' => e = .returned (.tuple #[.slice none 0 0, .int .i64 E]) ∧ Ok' w1 w') := by
    rcases hno with hneg | ⟨h1, h2⟩
    · refine ⟨2, ⟨trivial, (rawR_bad g N _ hneg).mono ?_⟩, fun w1 _ => (rraw_bad gr N w1 hneg).mono ?_⟩
      · rintro e w' ⟨rfl, rfl⟩; exact ⟨rfl, Kp.refl _ _⟩
      · rintro e w' ⟨rfl, rfl⟩; exact ⟨rfl, Kp.refl _ _⟩
    · refine ⟨120, ⟨trivial, (rawR_short g _ cap B p N _ h1 h0.rd h2).mono ?_⟩, fun w1 hf => rraw_short gr bL capL _ _ p N w1 h1 hf h2⟩
      rintro e w' ⟨rfl, m, rfl⟩; exact ⟨rfl, drewN_kp _ _ _⟩
  obtain ⟨_, T1⟩ := HE1
  clear hno
  go_enter Try.func24, Try.ntmps24
  go_wp2_with fail
  refine T1.mono ?_
  rintro e w1 ⟨rfl, k1⟩
  have f1 := h0.rf.ok k1
  have cA : w1.cell? ⟨w.heap.size, 1, none⟩ = some (.int .i64 N) := (sA.kp k1 (fun x => x)).cell 1
  go_wp2_with fail
  refine (HE2.out w1 f1).mono ?_
  rintro e w2 ⟨rfl, k2⟩
  clear cA
  go_wp2_with fail
  refine (same_eq none none 0 0 0 [] w2 rfl (Src.nil _ _) (Src.nil _ _)).mono ?_
  rintro e w' ⟨rfl, rfl⟩
  go_wp2_with (go_at_call 16; refine (num_any _ _).mono ?_; rintro e w' ⟨rfl, rfl⟩)
  refine wp_loop_rounds 1 ?_
  rw [rounds_succ]
  go_wp2_with fail
  go_ret
  exact ⟨rfl, asked h0 k0' (k1.mono (fun _ _ x => x.elim)) (k2.mono (fun _ _ x => x.elim)) _ (h0.rd.ok k1) (f1.ok k2)⟩

set_option maxRecDepth 100000 in
set_option maxHeartbeats 4000000 in
theorem ask_raw_ok (g G cap gr bL capL : Nat) (B : List Int) (p n : Nat) (w : World) (h : Pr w g G cap gr bL capL B p) (h8 : p % 8 = 0) (hl : n ≤ (8 * B.length - p) / 8) :
    Calls Try.prog 24 #[.pointer (some ⟨g, 0, none⟩), .pointer (some ⟨gr, 0, none⟩), .agg #[.int .i64 6, .int .i64 n]] w fun e w' => e = .returned (.bool true) ∧ Asked w w' g G cap gr bL capL B := by
  have k0 : Ok' w (w.alloc (.cells #[.int .i64 6, .int .i64 n] 55)) := (Kp.refl _ w).alloc _
  have h0 := h.ok k0
  have k0' : Kp (fun i => i = g ∨ i = gr) w (w.alloc (.cells #[.int .i64 6, .int .i64 n] 55)) := k0.mono (fun _ _ x => x.elim)
  have sA : St 55 (w.alloc (.cells #[.int .i64 6, .int .i64 n] 55)) w.heap.size #[.int .i64 6, .int .i64 n] := heap_alloc_new w _
  have hga : w.heap.size ≠ g := by have := rd_lt h.rd; omega
  have hle := h.rd.le
  have hblen : B.length ≤ 100000000 := by obtain ⟨_, _, hx⟩ := h.rd; exact hx.blen
  have hnb : n ≤ 100000000 := by omega
  have hnB : 0 < n → 0 < B.length := by omega
  have T1 := rawR_walk g G 0 cap B p n _ h8 hl h0.rd
  have hq := raw_eq B h.rd.byt' p n h8 hl hle
  obtain ⟨D, hD⟩ : ∃ D, D = dig 256 (und 256 B / 2 ^ p % 2 ^ (8 * n)) n := ⟨_, rfl⟩
  rw [← hD] at hq
  rw [hq] at T1
  have hDl : D.length = n := by rw [hD]; exact dig_length _ _ _
  have T2 : Hid (∀ w1, Rf w1 gr bL capL (und 256 B) (8 * B.length) p → Calls Try.prog 45 #[.pointer (some ⟨gr, 0, none⟩), .int .i64 n] w1 fun e w' => ∃ u, e = .returned (.tuple #[u, .int .i64 0]) ∧ OwnI w' w1.heap.size u D ∧ Rf w' gr bL capL (und 256 B) (8 * B.length) (p + 8 * n) ∧ Kp (fun i => i = gr) w1 w') := by
    intro w1 hf
    have := rraw_ok gr bL capL (und 256 B) (8 * B.length) p n w1 h8 hl hf
    rw [← hD] at this
    exact this
  have HDL : Hid (D.length = n) := hDl
  have HNB : Hid (0 < n → 0 < B.length) := hnB
  clear hq hD hDl h8 hl hnB
  go_enter Try.func24, Try.ntmps24
  go_wp2_with fail
  refine T1.mono ?_
  rintro e w1 ⟨Gb, rfl, hGb, rb1, h1, k1⟩
  have f1 := h0.rf.kp k1 (fun e => h0.n1 e.symm) h0.n3
  have cA : w1.cell? ⟨w.heap.size, 1, none⟩ = some (.int .i64 n) := (sA.kp k1 hga).cell 1
  go_wp2_with fail
  refine (T2.out w1 f1).mono ?_
  rintro e w2 ⟨u2, rfl, o2, f2, k2⟩
  have hgrb : gr ≠ Gb := by have := h0.rf.st.lt; omega
  have hggb : g ≠ Gb := by have := rd_lt h0.rd; omega
  have rb2 := rb1.kp k2 (fun e => hgrb e.symm)
  obtain ⟨a2, c2, rfl, _⟩ := o2.slice
  have s2 := o2.src.1
  rw [HDL.out]
  clear cA
  go_wp2_with fail
  refine (same_eq (some ⟨Gb, 0, none⟩) a2 n c2 n D w2 HDL.out rb2.src s2).mono ?_
  rintro e w' ⟨rfl, rfl⟩
  have hP : Pr w2 g G cap gr bL capL B (p + 8 * n) := ⟨h1.kp k2 h0.n1 (fun b off e => by cases e; exact h0.n2), f2, h.n1, h.n2, h.n3⟩
  have hK : Kp (fun i => i = g ∨ i = gr) w w2 := (k0'.trans k1 (fun _ _ x => .inl x)).trans k2 (fun _ _ x => .inr x)
  have hGbw : w.heap.size ≤ Gb := Nat.le_trans k0.size hGb
  have hlts : 0 < B.length → G ≠ Gb ∧ bL ≠ Gb := by
    intro hB
    have := h0.lts hB
    omega
  have HLT : Hid (0 < B.length → G ≠ Gb ∧ bL ≠ Gb) := hlts
  have HPP : Hid (Pr w2 g G cap gr bL capL B (p + 8 * n)) := hP
  clear hP hlts o2 s2 T1 k1 k2 h1 f1 f2 rb1
  go_wp2_with (go_at_call 16; refine (num_any _ _).mono ?_; rintro e w' ⟨rfl, rfl⟩)
  go_loopw [22] (fun iv wr => ∃ (j : Nat) (M : List Int), j ≤ n ∧ M.length = n ∧ iv = .int .i64 j ∧ Rw 5 wr Gb M ∧ Kp (fun i => i = Gb) w2 wr) (fun i _ => n - (intOf i).toNat)
  case atStart => exact ⟨0, D, Nat.zero_le _, HDL.out, rfl, rb2, Kp.refl _ _⟩
  case round =>
    clear rb2
    obtain ⟨j, M, hj, hM, rfl, rw1, kw⟩ := hrel
    by_cases hjn : j < n
    · have hc := rw1.cell j (by omega)
      have hf := rw1.frozen j
      have HM : Hid (M.length = n) := hM
      generalize M.getD j 0 = z at hc
      clear hM
      go_wp2_with fail
      go_roundw
      case rel => exact ⟨j + 1, M.set j _, by omega, by rw [List.length_set]; exact HM.out, by go_num, rw1.set j _, kw.trans (kp_setCell wr Gb j _ (fun i => i = Gb) rfl) (fun _ _ x => x)⟩
      case measure => simp [intOf]; omega
    · go_wp2_with fail
      go_ret
      refine ⟨rfl, ⟨_, HPP.out.row kw hggb hgrb HLT.out⟩, hK.trans kw (fun i hi e => by omega)⟩

/-- ask, whatever is asked: true, and both stand at the same bit again. -/
theorem ask_any (g G cap gr bL capL : Nat) (B : List Int) (p : Nat) (K N : Int) (w : World) (h : Pr w g G cap gr bL capL B p) :
    Calls Try.prog 24 #[.pointer (some ⟨g, 0, none⟩), .pointer (some ⟨gr, 0, none⟩), .agg #[.int .i64 K, .int .i64 N]] w fun e w' => e = .returned (.bool true) ∧ Asked w w' g G cap gr bL capL B := by
  by_cases h0 : K = 0
  · subst h0; exact ask_take0 g G cap gr bL capL B p N w h
  by_cases h1 : K = 1
  · subst h1; exact ask_take1 g G cap gr bL capL B p N w h
  by_cases h2 : K = 2
  · subst h2; exact ask_take2 g G cap gr bL capL B p N w h
  by_cases h3 : K = 3
  · subst h3; exact ask_peek g G cap gr bL capL B p N w h
  by_cases h4 : K = 4
  · subst h4; exact ask_skip g G cap gr bL capL B p N w h
  by_cases h5 : K = 5
  · subst h5; exact ask_align g G cap gr bL capL B p N w h
  by_cases h6 : K = 6
  · subst h6
    by_cases hno : N < 0 ∨ (0 ≤ N ∧ (p % 8 ≠ 0 ∨ (((8 * B.length - p) / 8 : Nat) : Int) < N))
    · exact ask_raw_no g G cap gr bL capL B p N w h hno
    · obtain ⟨n, rfl⟩ := Int.eq_ofNat_of_zero_le (show 0 ≤ N by omega)
      exact ask_raw_ok g G cap gr bL capL B p n w h (by omega) (by omega)
  exact ask_none g G cap gr bL capL B p K N w h (by omega)
end Go.Proofs.Ytfeokjbmobmabaa
