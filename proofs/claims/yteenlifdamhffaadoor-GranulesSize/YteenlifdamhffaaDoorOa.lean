/- granules: a law's runs; touched. -/
import Derived.Test.YteenlifdamhffaaDoorNo
import Derived.Test.YteenlifdamhffaaDoorNl
import Derived.Test.YteenlifdamhffaaDoorNk
namespace Go.Proofs.YteenlifdamhffaaDoor
open Go.RowKit
set_option linter.unusedVariables false
set_option linter.unusedSimpArgs false
/-- What a row of runs reads as. -/
def RSrc (w : World) (ao : Option Addr) (ts : List (Int × Int)) : Prop := 0 < ts.length → ∃ b off, ao = some ⟨b, off, none⟩ ∧ b < w.heap.size ∧ ∀ i, i < ts.length → w.cell? ⟨b, off + i * 2, none⟩ = some (.int .i64 (ts.getD i (0, 0)).1) ∧ w.cell? ⟨b, off + i * 2 + 1, none⟩ = some (.int .i64 (ts.getD i (0, 0)).2)
theorem RSrc.kp0 {w w' : World} {ao : Option Addr} {ts : List (Int × Int)} (h : RSrc w ao ts) (k : Kp (fun _ => False) w w') : RSrc w' ao ts := by
  intro hp
  obtain ⟨b, off, e, hb, hc⟩ := h hp
  exact ⟨b, off, e, Nat.lt_of_lt_of_le hb k.size, fun i hi => ⟨k.cell (hc i hi).1, k.cell (hc i hi).2⟩⟩
theorem set_all (Q r sz gr : Nat) (ws : List Nat) (w : World) (h : Bm w Q r sz gr ws) (a n : Int) (ha : a ≤ 9223372036854775807) :
    Calls Tryd.prog 21 #[ptr Q, .int .i64 a, .int .i64 n] w fun e w' => ∃ k z : Int, e = .returned (.tuple #[.int .i64 k, .int .i64 z]) ∧ Kp (fun i => i = r) w w' ∧ ∃ ws', Bm w' Q r sz gr ws' := by
  by_cases hc : askc sz a n = 0
  · obtain ⟨b, m, rfl, rfl, hbm⟩ := askc_0 hc
    refine (set_ok Q r sz gr ws w h b m hbm).mono ?_
    rintro e w' ⟨rfl, k, ws', hb, _⟩
    exact ⟨_, _, rfl, k, ws', hb⟩
  · refine (set_bad Q r sz gr ws w h a n ha hc).mono ?_
    rintro e w' ⟨rfl, k⟩
    exact ⟨_, _, rfl, k.mono (fun _ _ h => h.elim), ws, h.kp0 k⟩
set_option maxRecDepth 100000 in
set_option maxHeartbeats 4000000 in
theorem touched_law (sz gr : Nat) (ao : Option Addr) (n cap : Nat) (ts : List (Int × Int)) (w : World) (hs : sz ≤ 67108864) (hg : 9 ≤ gr ∧ gr ≤ 26) (hn : n = ts.length) (hn20 : n ≤ 20) (hS : RSrc w ao ts) (hb : ∀ t ∈ ts, t.1 ≤ 9223372036854775807) :
    Calls Tryd.prog 29 #[.int .i64 sz, .int .i64 gr, .slice ao n cap] w fun e w' => ∃ Q r ws, e = .returned (ptr Q) ∧ w.heap.size ≤ Q ∧ w.heap.size ≤ r ∧ Kp (fun _ => False) w w' ∧ Bm w' Q r sz gr ws := by
  have HNEW := hid (new_good sz gr w hs hg)
  have HNU := hid num_any
  have HN := hid hn
  have HS := hid hS
  have HB := hid hb
  clear hn hS hb hs hg
  unfold ptr at HNEW
  go_enter Tryd.func29, Tryd.ntmps29
  go_wp2_with fail
  refine HNEW.out.mono ?_
  rintro _ w1 ⟨Q, r, rfl, hQ, hr, k1, hb1⟩
  have HQR : Hid (w.heap.size ≤ Q ∧ w.heap.size ≤ r) := ⟨hQ, hr⟩
  have HST : Hid (Kp (fun _ => False) w w1 ∧ ∃ ws, Bm w1 Q r sz gr ws) := ⟨k1, _, hb1⟩
  clear HNEW hQ hr k1 hb1
  go_wp2_with (first | (go_at_call 11; refine (HNU.out _ _).mono ?_; rintro e w' ⟨rfl, h⟩; replace h := h.symm; subst h))
  go_loopw [9] (fun i wr => ∃ k : Nat, i = .int .i64 k ∧ k ≤ n ∧ Kp (fun _ => False) w wr ∧ ∃ ws, Bm wr Q r sz gr ws) (fun i _ => n - (intOf i).toNat)
  case atStart => exact ⟨0, rfl, Nat.zero_le _, HST.out⟩
  case round =>
    obtain ⟨k, rfl, hk, hkp, ws, hbm⟩ := hrel
    by_cases hlt : k < n
    · have hlt' : (k : Int) < (n : Int) := by omega
      have hlt2 : k < ts.length := by have := HN.out; omega
      obtain ⟨b, off, rfl, hbl, hc⟩ := (HS.out.kp0 hkp) (by omega)
      obtain ⟨y0, y1⟩ := hc k hlt2
      have hle := HB.out (ts.getD k (0, 0)) (by rw [List.getD_eq_getElem?_getD, List.getElem?_eq_getElem hlt2]; exact List.getElem_mem hlt2)
      generalize ts.getD k (0, 0) = t at y0 y1 hle
      obtain ⟨a, m⟩ := t
      dsimp only at y0 y1 hle
      have HSET := hid (fun U (kU : Kp (fun _ => False) wr U) => set_all Q r sz gr ws U (hbm.kp0 kU) a m hle)
      have HKP := hid hkp
      have HKN : Hid (k + 1 ≤ n) := hlt
      have hil : ¬ n ≤ k := by omega
      clear hkp hbm hc hbl hle HST
      unfold ptr at HSET
      go_wp2_with fail
      refine wp_region_tail hmix (by kernel_rfl) ?_
      dsimp only [List.dropLast, List.getLast]
      repeat (gi_big_quiet_step (fail))
      refine wpQuietIn_nil ?_
      intro U hU
      obtain ⟨nq, hU2⟩ := hU
      subst hU2
      have HKQ : Hid (Kp (fun _ => False) wr (wr.drewN nq)) := drewN_kp _ _ _
      generalize wr.drewN nq = Z at HKQ ⊢
      gi_wp2_with fail
      refine ⟨trivial, rfl, (callsIn_wide.2 (HSET.out _ HKQ.out)).mono ?_⟩
      rintro _ w3 ⟨k3, z3, rfl, kk, ws3, hb3⟩
      have HFIN : Hid (Kp (fun _ => False) w w3 ∧ ∃ ws, Bm w3 Q r sz gr ws) := ⟨(HKP.out.trans HKQ.out (fun _ _ h => h)).trans kk (fun i hi e => by have := HQR.out.2; omega), ws3, hb3⟩
      clear HSET HKQ kk hb3
      gi_wp2_with fail
      go_wp2_with fail
      exact ⟨⟨k + 1, by simp, HKN.out, HFIN.out⟩, by simp [intOf]; omega⟩
    · obtain rfl : k = n := by omega
      have HFIN : Hid (Kp (fun _ => False) w wr ∧ ∃ ws, Bm wr Q r sz gr ws) := ⟨hkp, ws, hbm⟩
      clear hkp hbm HST
      go_wp2_with fail
      go_ret
      obtain ⟨h1, ws, h2⟩ := HFIN.out
      exact ⟨Q, r, ws, rfl, HQR.out.1, HQR.out.2, h1, h2⟩
set_option maxRecDepth 100000 in
theorem rmay_any (sz gr : Int) (w : World) : Calls Tryd.prog 10 #[.int .i64 sz, .int .i64 gr] w fun e w' => e = .returned (.bool (mayb sz gr)) ∧ w' = w := by
  unfold mayb
  by_cases h1 : 0 ≤ sz
  · by_cases h2 : sz ≤ 67108864
    · by_cases h3 : 9 ≤ gr
      · by_cases h4 : gr ≤ 26
        · go_enter Tryd.func10, Tryd.ntmps10
          go_wp2_with fail
          go_ret
          refine ⟨?_, rfl⟩
          simp [h1, h2, h3, h4]
        · go_enter Tryd.func10, Tryd.ntmps10
          go_wp2_with fail
          go_ret
          refine ⟨?_, rfl⟩
          simp [h1, h2, h3, h4]
          try omega
      · go_enter Tryd.func10, Tryd.ntmps10
        go_wp2_with fail
        go_ret
        refine ⟨?_, rfl⟩
        simp [h1, h2, h3]
        try omega
    · go_enter Tryd.func10, Tryd.ntmps10
      go_wp2_with fail
      go_ret
      refine ⟨?_, rfl⟩
      simp [h1, h2]
      try omega
  · go_enter Tryd.func10, Tryd.ntmps10
    go_wp2_with fail
    go_ret
    refine ⟨?_, rfl⟩
    simp [h1]
    try omega
end Go.Proofs.YteenlifdamhffaaDoor
