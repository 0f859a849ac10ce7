/- tables: TablesParts: the walk. -/
import Derived.Test.YtjjhkfhppoioiaaKn
namespace Go.Proofs.Ytjjhkfhppoioiaa
open Go.RowKit
set_option linter.unusedVariables false
theorem out_cases {b : Int} {l : List Sn} {bs : List Int} {er : Int} (h : Out (Sn.May b) Sn.nm Sn.enc b l bs er) : (er ≠ 0 ∧ bs = [] ∧ (er = 2 ∨ er = 3)) ∨ (er = 0 ∧ bs = encs Sn.enc l ∧ l.length ≤ 64 ∧ Byt bs ∧ bs.length ≤ 10000) := by
  rcases h with ⟨_, rfl, rfl⟩ | ⟨_, _, _, rfl, rfl⟩ | ⟨h1, h2, h3, rfl, rfl⟩
  · exact Or.inl ⟨by decide, rfl, Or.inl rfl⟩
  · exact Or.inl ⟨by decide, rfl, Or.inr rfl⟩
  · refine Or.inr ⟨rfl, rfl, h3, ?_, ?_⟩
    · intro z hz
      obtain ⟨e, he, hz⟩ := List.mem_flatMap.1 hz
      exact Sn.enc_byt (h2.1 e he).1.2.1 z hz
    · have := encs_bounds b l h2.1
      omega
set_option maxRecDepth 100000 in
set_option maxHeartbeats 4000000 in
theorem parts_long (bits cut : Int) (ao : Option Addr) (n cap : Nat) (w : World) (h : 100 < n) (hn : n ≤ 9223372036854775807) :
    Calls Try.prog 7 #[.int .i64 bits, .slice ao n cap, .int .i64 cut] w fun e w' => e = .returned (.bool true) ∧ Below w.heap.size w w' := by
  go_enter Try.func7, Try.ntmps7
  go_wp2_with (first | (go_at_call 8; refine (known_any _).mono ?_; rintro e w1 ⟨rfl, b1⟩))
  go_ret
  exact ⟨rfl, b1⟩
set_option maxRecDepth 100000 in
set_option maxHeartbeats 4000000 in
theorem parts_walk (bits cut : Int) (ao : Option Addr) (n cap : Nat) (l : List Sn) (w : World) (hc1 : I6 cut) (hn : n = l.length) (hcap : n ≤ cap) (h100 : n ≤ 100) (hS : Srcs w ao l) (h6 : ∀ e ∈ l, e.i6) :
    Calls Try.prog 7 #[.int .i64 bits, .slice ao n cap, .int .i64 cut] w fun e w' => e = .returned (.bool true) ∧ Below w.heap.size w w' := by
  have HP := hid (Put_s bits l ao n cap w hn hcap (by omega) hS h6)
  obtain ⟨P, hP⟩ : ∃ P, P = w.heap.size := ⟨_, rfl⟩
  have HN := hid hn
  unfold I6 at hc1
  clear hn hS h6
  go_enter Try.func7, Try.ntmps7
  go_wp2_with fail
  refine HP.out.mono ?_
  rintro e w1 ⟨v, bs, er, rfl, o1, o2, o3⟩
  clear HP
  have B1 := hid o3
  have O1 := hid o1
  rcases out_cases o1 with ⟨h1, rfl, h2⟩ | ⟨rfl, h1, h2, h3, h4⟩
  · obtain ⟨aob, capb, rfl, _⟩ := o2.sl.src
    have hx : (er == 0) = false := by simpa using h1
    have hx2 : (er != 0) = true := by simpa using h1
    simp only [List.length_nil]
    clear o1 o2 o3 h1 h2
    go_wp2_with (first | (go_at_call 8; refine (known_any _).mono ?_; rintro e w2 ⟨rfl, b2⟩))
    go_ret
    exact ⟨rfl, B1.out.trans (b2.mono B1.out.size)⟩
  · have HBY := hid h3
    obtain ⟨L, hL⟩ : ∃ L, L = bs.length := ⟨_, rfl⟩
    rw [← hL] at h4
    have HL := hid hL
    have SL := hid o2.sl
    by_cases hz : L = 0
    · have hbs : bs = [] := List.eq_nil_of_length_eq_zero (by omega)
      have HR := hid (Read_s bits 0 v bs w1 h3 o2.sl)
      have hl0 : l = [] := by
        cases l with
        | nil => rfl
        | cons x l =>
          rw [hbs, encs_cons] at h1
          exact absurd (List.append_eq_nil_iff.1 h1.symm).1 (Sn.enc_ne x)
      have HBK : Hid (∀ m r, Red (Sn.May bits) Sn.nm Sn.enc bits bs 0 m r → m = [] ∧ r = 0) := fun m r h => by
        have := Red.back (Sn.prs bits) (l := l) O1.out (by rw [hl0]; exact h)
        rw [hl0] at this
        exact this
      rcases o2.sl with ⟨rfl, _⟩ | ⟨g, off, capb, rfl, _⟩
      · clear o1 o2 o3 h1 h3 HN O1 hL hl0 hbs
        go_wp2_with (first | (go_at_call 12; refine HR.out.mono ?_; rintro e w2 ⟨v2, l2, er2, rfl, q1, q2, q3⟩; obtain ⟨rfl, rfl⟩ := HBK.out _ _ q1; obtain ⟨ao2, cap2, rfl, _⟩ := q2.src; simp only [List.length_nil]; have B2 := hid (B1.out.trans (q3.mono B1.out.size)); clear q1 q2 q3) | (go_at_call 8; refine (known_any _).mono ?_; rintro e w3 ⟨rfl, b3⟩))
        go_ret
        exact ⟨rfl, B2.out.trans (b3.mono B2.out.size)⟩
      · subst hbs
        simp only [List.length_nil] at *
        clear o1 o2 o3 h1 h3 HN O1 hL hl0
        go_wp2_with (first | (go_at_call 12; refine HR.out.mono ?_; rintro e w2 ⟨v2, l2, er2, rfl, q1, q2, q3⟩; obtain ⟨rfl, rfl⟩ := HBK.out _ _ q1; obtain ⟨ao2, cap2, rfl, _⟩ := q2.src; simp only [List.length_nil]; have B2 := hid (B1.out.trans (q3.mono B1.out.size)); clear q1 q2 q3) | (go_at_call 8; refine (known_any _).mono ?_; rintro e w3 ⟨rfl, b3⟩))
        go_ret
        exact ⟨rfl, B2.out.trans (b3.mono B2.out.size)⟩
    · obtain ⟨g, capb, rfl, g1, g2, g3, g4⟩ := own_at o2 (by omega)
      rw [← hL] at g3 ⊢
      have hnl : l.length ≠ 0 := fun e => by
        have : l = [] := List.eq_nil_of_length_eq_zero e
        rw [this] at h1
        rw [h1] at hL
        exact hz hL
      have hn1 : 1 ≤ n := by have := HN.out; omega
      have hcm : capb ≤ maxLen := by
        rcases o2.2 with ⟨e, _⟩ | ⟨g', cap', cur, e, _, _, _, hm, _⟩
        · cases e
        · cases e; exact hm
      -- the cut
      have c1 := Int.tmod_lt_of_pos cut (show (0 : Int) < (L : Int) by omega)
      have c2 := Int.lt_tmod_of_pos cut (show (0 : Int) < (L : Int) by omega)
      obtain ⟨r, hr⟩ : ∃ r, cut.tmod (L : Int) = r := ⟨_, rfl⟩
      rw [hr] at c1 c2
      have c3 : (r + (L : Int)).tmod (L : Int) = (r + (L : Int)) % (L : Int) := Int.tmod_eq_emod_of_nonneg (by omega)
      have c4 := Int.emod_nonneg (r + (L : Int)) (show (L : Int) ≠ 0 by omega)
      have c5 := Int.emod_lt_of_pos (r + (L : Int)) (show (0 : Int) < (L : Int) by omega)
      obtain ⟨k, hk⟩ := Int.eq_ofNat_of_zero_le c4
      rw [hk] at c3 c5
      clear c4 hk
      have hkL : k < L := by omega
      have HK : Hid ((bs.take k).length = k) := by show _ = _; rw [List.length_take]; omega
      have SLk : Hid (Sl w1 (.slice (some ⟨g, 0, none⟩) k capb) (bs.take k)) := Or.inr ⟨g, 0, capb, by rw [HK.out], by rw [HK.out]; omega, hcm, g2, Sl.take (cap := capb) (fun i hi => by rw [Nat.zero_add]; exact g4 i hi) k⟩
      have SL0 : Hid (Sl w1 (.slice (some ⟨g, 0, none⟩) L capb) bs) := by
        show Sl _ _ _
        rw [hL]
        exact o2.sl
      have HA := hid (Read_s bits (n : Int) (.slice (some ⟨g, 0, none⟩) k capb) (bs.take k) w1 (h3.take k) SLk.out)
      have HBp : Hid (∀ W, Below w1.heap.size w1 W → Calls Try.prog 12 #[.int .i64 bits, .slice (some ⟨g, 0, none⟩) L capb, .int .i64 ((n : Int) + 1)] W fun e w' => ∃ v' l er, e = .returned (.tuple #[v', .int .i64 er]) ∧ Red (Sn.May bits) Sn.nm Sn.enc bits bs ((n : Int) + 1) l er ∧ Owns w' W.heap.size v' l ∧ Below W.heap.size W w') := fun W h => Read_s bits ((n : Int) + 1) _ bs W h3 (SL0.out.below h)
      have HCp : Hid (∀ W, Below w1.heap.size w1 W → Calls Try.prog 12 #[.int .i64 bits, .slice (some ⟨g, 0, none⟩) L capb, .int .i64 ((n : Int) - 1)] W fun e w' => ∃ v' l er, e = .returned (.tuple #[v', .int .i64 er]) ∧ Red (Sn.May bits) Sn.nm Sn.enc bits bs ((n : Int) - 1) l er ∧ Owns w' W.heap.size v' l ∧ Below W.heap.size W w') := fun W h => Read_s bits ((n : Int) - 1) _ bs W h3 (SL0.out.below h)
      have RA : Hid (∀ m r, Red (Sn.May bits) Sn.nm Sn.enc bits (bs.take k) (n : Int) m r → m = [] ∧ r = 210) := fun m r h => Red.part (Sn.prs bits) O1.out (k := k) (by omega) (by rw [← HN.out]; exact h)
      have RB : Hid (∀ (q : Int) m r, 0 ≤ q → q ≠ (n : Int) → Red (Sn.May bits) Sn.nm Sn.enc bits bs q m r → m = [] ∧ r = 210) := fun q m r h0 hne h => Red.other (Sn.prs bits) Sn.enc_ne O1.out h0 (by rw [← HN.out]; exact hne) h
      clear o1 o2 o3 h1 h3 SL SLk SL0 HBY O1 g4 hnl hL HL HK
      go_wp2_with fail
      refine HA.out.mono ?_
      rintro e w2 ⟨v2, l2, er2, rfl, q1, q2, q3⟩
      obtain ⟨rfl, rfl⟩ := RA.out _ _ q1
      obtain ⟨ao2, cap2, rfl, _⟩ := q2.src
      simp only [List.length_nil]
      have M2 := hid q3
      clear q1 q2 q3 HA RA
      go_wp2_with fail
      refine (HBp.out w2 M2.out).mono ?_
      rintro e w3 ⟨v3, l3, er3, rfl, q1, q2, q3⟩
      obtain ⟨rfl, rfl⟩ := RB.out _ _ _ (by omega) (by omega) q1
      obtain ⟨ao3, cap3, rfl, _⟩ := q2.src
      simp only [List.length_nil]
      have M3 := hid (M2.out.trans (q3.mono M2.out.size))
      clear q1 q2 q3 HBp M2
      go_wp2_with fail
      refine (HCp.out w3 M3.out).mono ?_
      rintro e w4 ⟨v4, l4, er4, rfl, q1, q2, q3⟩
      obtain ⟨rfl, rfl⟩ := RB.out _ _ _ (by omega) (by omega) q1
      obtain ⟨ao4, cap4, rfl, _⟩ := q2.src
      simp only [List.length_nil]
      have M4 := hid (B1.out.trans ((M3.out.trans (q3.mono M3.out.size)).mono B1.out.size))
      clear q1 q2 q3 HCp M3 RB
      go_wp2_with (first | (go_at_call 8; refine (known_any _).mono ?_; rintro e w5 ⟨rfl, b5⟩))
      go_ret
      exact ⟨rfl, M4.out.trans (b5.mono M4.out.size)⟩
theorem parts_any (bits cut : Int) (ao : Option Addr) (n cap : Nat) (l : List Sn) (w : World) (hc1 : I6 cut) (hn : n = l.length) (hcap : n ≤ cap) (hcm : cap ≤ maxLen) (hS : Srcs w ao l) (h6 : ∀ e ∈ l, e.i6) :
    Calls Try.prog 7 #[.int .i64 bits, .slice ao n cap, .int .i64 cut] w fun e w' => e = .returned (.bool true) ∧ Below w.heap.size w w' := by
  by_cases h : n ≤ 100
  · exact parts_walk bits cut ao n cap l w hc1 hn hcap h hS h6
  · exact parts_long bits cut ao n cap w (by omega) (by unfold maxLen at hcm; omega)
end Go.Proofs.Ytjjhkfhppoioiaa
