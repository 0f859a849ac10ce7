/- tables: the reader: bytes, number, text. -/
import Derived.Test.YtjjhkfhppoioiaaNc
namespace Go.Proofs.Ytjjhkfhppoioiaa
open Go.RowKit
set_option linter.unusedVariables false
/-- A slice of bytes that can be read. -/
def Sl (w : World) (v : Value) (xs : List Int) : Prop := (v = .slice none 0 0 ∧ xs = []) ∨ ∃ g off cap, v = .slice (some ⟨g, off, none⟩) xs.length cap ∧ xs.length ≤ cap ∧ cap ≤ maxLen ∧ g < w.heap.size ∧ ∀ i, i < xs.length → w.cell? ⟨g, off + i, none⟩ = some (.int .u8 (xs.getD i 0))
theorem Sl.kp {F : Nat → Prop} {w w' : World} {v : Value} {xs : List Int} (h : Sl w v xs) (k : Kp F w w') (hf : ∀ g, v.ownBlock = some g → ¬ F g) : Sl w' v xs := by
  rcases h with h | ⟨g, off, cap, rfl, h1, h2, h3, h4⟩
  · exact Or.inl h
  · exact Or.inr ⟨g, off, cap, rfl, h1, h2, Nat.lt_of_lt_of_le h3 k.size, fun i hi => kp_cell k (h4 i hi) (hf g rfl)⟩
theorem Sl.below {w w' : World} {v : Value} {xs : List Int} (h : Sl w v xs) (k : Below w.heap.size w w') : Sl w' v xs := h.kp (F := fun _ => False) (Kp.of_below k) (fun _ _ x => x)
theorem Sl.lt {w : World} {v : Value} {xs : List Int} (h : Sl w v xs) : ∀ g, v.ownBlock = some g → g < w.heap.size := by
  rcases h with ⟨rfl, _⟩ | ⟨g, off, cap, rfl, h1, h2, h3, h4⟩
  · intro g e; cases e
  · intro g' e; cases e; exact h3
theorem Sl.src {w : World} {v : Value} {xs : List Int} (h : Sl w v xs) : ∃ ao cap, v = .slice ao xs.length cap ∧ Src w ao xs ∧ (ao = none → cap = 0) := by
  rcases h with ⟨rfl, rfl⟩ | ⟨g, off, cap, rfl, h1, h2, h3, h4⟩
  · exact ⟨none, 0, rfl, Src.nil _ _, fun _ => rfl⟩
  · exact ⟨_, cap, rfl, Src.mk h4, fun e => by cases e⟩
theorem Own.sl {w : World} {base : Nat} {v : Value} {xs : List Int} (h : Own w base v xs) : Sl w v xs := by
  rcases h.2 with ⟨rfl, h0⟩ | ⟨g, cap, cur, rfl, hb, hc, h1, h2, h3, h4⟩
  · exact Or.inl ⟨rfl, List.eq_nil_of_length_eq_zero h0⟩
  · refine Or.inr ⟨g, 0, cap, rfl, h1, h2, (Array.getElem?_eq_some_iff.1 hc).1, fun i hi => ?_⟩
    rw [cell_of_row w g (0 + i) _ 5 _ hc, Nat.zero_add]
    have : (xs.map (Value.int .u8))[i]? = some (.int .u8 (xs.getD i 0)) := by simp [List.getD, hi]
    rw [← this, ← h4, List.getElem?_take_of_lt (by omega), Array.getElem?_toList]
theorem Sl.take {w : World} {g off cap : Nat} {xs : List Int} (h : ∀ i, i < xs.length → w.cell? ⟨g, off + i, none⟩ = some (.int .u8 (xs.getD i 0))) (k : Nat) : ∀ i, i < (xs.take k).length → w.cell? ⟨g, off + i, none⟩ = some (.int .u8 ((xs.take k).getD i 0)) := by
  intro i hi
  rw [List.length_take] at hi
  rw [h i (by omega)]
  simp [List.getD, List.getElem?_take_of_lt (show i < k by omega)]
theorem Sl.drop {w : World} {g off : Nat} {xs : List Int} (h : ∀ i, i < xs.length → w.cell? ⟨g, off + i, none⟩ = some (.int .u8 (xs.getD i 0))) (k : Nat) : ∀ i, i < (xs.drop k).length → w.cell? ⟨g, off + k + i, none⟩ = some (.int .u8 ((xs.drop k).getD i 0)) := by
  intro i hi
  rw [List.length_drop] at hi
  rw [Nat.add_assoc, h (k + i) (by omega)]
  simp [List.getD, List.getElem?_drop]
/-- The reader's block. -/
def Rdr (w : World) (R D : Nat) (st : Bool × List Int) : Prop := ∃ v, St 94 w R #[v, .bool st.1] ∧ Sl w v st.2 ∧ ∀ g, v.ownBlock = some g → g < D
theorem Rdr.kp {F : Nat → Prop} {w w' : World} {R D : Nat} {st : Bool × List Int} (h : Rdr w R D st) (k : Kp F w w') (hR : ¬ F R) (hf : ∀ g, g < D → ¬ F g) : Rdr w' R D st := by
  obtain ⟨v, h1, h2, h3⟩ := h
  exact ⟨v, h1.kp k hR, h2.kp k (fun g e => hf g (h3 g e)), h3⟩
theorem setc_0 {w : World} {R : Nat} {v u x : Value} (h : St 94 w R #[v, u]) : St 94 (w.setCell ⟨R, 0, none⟩ x) R #[x, u] := by
  have := h.set 0 x
  simpa using this
theorem setc_1 {w : World} {R : Nat} {v u x : Value} (h : St 94 w R #[v, u]) : St 94 (w.setCell ⟨R, 1, none⟩ x) R #[v, x] := by
  have := h.set 1 x
  simpa using this
set_option maxHeartbeats 4000000 in
theorem bytes_any (R D k : Nat) (st : Bool × List Int) (w : World) (hDR : D ≤ R) (hk : k ≤ 255) (h : Rdr w R D st) :
    Calls Try.prog 65 #[.pointer (some ⟨R, 0, none⟩), .int .i64 (k : Int)] w fun e w' => ∃ v, e = .returned v ∧ Sl w' v (rb k st).1 ∧ Rdr w' R D (rb k st).2 ∧ Kp (fun i => i = R) w w' := by
  obtain ⟨sh, xs⟩ := st
  obtain ⟨v, h1, h2, h3⟩ := h
  dsimp only at *
  have y0 := h1.cell 0
  have y1 := h1.cell 1
  have f0 := h1.frozen 0
  have f1 := h1.frozen 1
  change w.cell? _ = some v at y0
  change w.cell? _ = some (.bool sh) at y1
  have H1 := hid h1
  have H2 := hid h2
  have K1 : ∀ x, Hid (Kp (fun i => i = R) w (w.setCell ⟨R, 1, none⟩ x)) := fun x => kp_setCell w R 1 x _ rfl
  cases sh with
  | true =>
    obtain ⟨ao, cap, rfl, _⟩ := h2.src
    have HR : Hid (rb k (true, xs) = ([], (true, xs))) := rb_t
    clear h1 h2
    go_enter Try.func65, Try.ntmps65
    go_wp2_with fail
    go_ret
    rw [HR.out]
    refine ⟨_, rfl, Or.inl ⟨rfl, rfl⟩, ⟨_, setc_1 H1.out, H2.out.kp (K1 _).out (fun g e x => by have := h3 g e; omega), h3⟩, (K1 _).out⟩
  | false =>
    by_cases hs : xs.length < k
    · obtain ⟨ao, cap, rfl, _⟩ := h2.src
      have HR : Hid (rb k (false, xs) = ([], (true, xs))) := by show _ = _; unfold rb; rw [if_pos (Or.inr hs)]
      clear h1 h2
      generalize hn : xs.length = n at *
      go_enter Try.func65, Try.ntmps65
      go_wp2_with fail
      go_ret
      rw [HR.out]
      refine ⟨_, rfl, Or.inl ⟨rfl, rfl⟩, ⟨_, setc_1 H1.out, H2.out.kp (K1 _).out (fun g e x => by have := h3 g e; omega), h3⟩, (K1 _).out⟩
    · have HR : Hid (rb k (false, xs) = (xs.take k, (false, xs.drop k))) := rb_ok (by omega)
      rcases h2 with ⟨rfl, rfl⟩ | ⟨g, off, cap, rfl, g1, g2, g3, g4⟩
      · have hk0 : k = 0 := by simpa using hs
        subst hk0
        clear h1
        go_enter Try.func65, Try.ntmps65
        go_wp2_with fail
        go_ret
        rw [HR.out]
        refine ⟨_, rfl, Or.inl ⟨rfl, rfl⟩, ⟨_, setc_0 (setc_1 H1.out), Or.inl ⟨rfl, rfl⟩, fun g e => by cases e⟩, (K1 _).out.trans (kp_setCell _ R 0 _ (fun i => i = R) rfl) (fun _ _ e => e)⟩
      · have hgD : g < D := h3 g rfl
        have hgR : g ≠ R := by omega
        have G4 := hid g4
        have hxl : k ≤ xs.length := by omega
        clear h1 g4 h3 H2
        have HL : Hid ((xs.take k).length = k ∧ (xs.drop k).length = xs.length - k) := ⟨by rw [List.length_take]; omega, List.length_drop⟩
        obtain ⟨n, hn⟩ : ∃ n, n = xs.length := ⟨_, rfl⟩
        have HN := hid hn
        unfold maxLen at g2
        rw [← hn] at y0 H1 g1 hs hxl HL
        clear hn
        have fin : ∀ (W : World) (x : Value), Kp (fun i => i = R) w W → (x = .slice (some ⟨g, off, none⟩) (n - k) (cap - k) ∧ n = k ∨ x = .slice (some ⟨g, off + k, none⟩) (n - k) (cap - k)) → St 94 W R #[x, .bool false] → Sl W (.slice (some ⟨g, off, none⟩) k cap) (xs.take k) ∧ Rdr W R D (false, xs.drop k) := by
          intro W x kW hx hst
          have hc : ∀ i, i < xs.length → W.cell? ⟨g, off + i, none⟩ = some (.int .u8 (xs.getD i 0)) := fun i hi => kp_cell kW (G4.out i hi) hgR
          refine ⟨Or.inr ⟨g, off, cap, by rw [HL.out.1], by rw [HL.out.1]; omega, by unfold maxLen; omega, Nat.lt_of_lt_of_le g3 kW.size, Sl.take (cap := cap) hc k⟩, x, hst, ?_, ?_⟩
          · rcases hx with ⟨rfl, e⟩ | rfl
            · refine Or.inr ⟨g, off, cap - k, by rw [HL.out.2], by rw [HL.out.2]; omega, by unfold maxLen; omega, Nat.lt_of_lt_of_le g3 kW.size, fun i hi => ?_⟩
              rw [HL.out.2] at hi
              omega
            · exact Or.inr ⟨g, off + k, cap - k, by rw [HL.out.2], by rw [HL.out.2]; omega, by unfold maxLen; omega, Nat.lt_of_lt_of_le g3 kW.size, Sl.drop hc k⟩
          · rcases hx with ⟨rfl, e⟩ | rfl <;> (intro g' e'; cases e'; exact hgD)
        have FIN := hid fin
        clear fin G4 HL
        by_cases hck : cap = k
        · subst hck
          obtain rfl : n = cap := by omega
          go_enter Try.func65, Try.ntmps65
          go_wp2_with fail
          go_ret
          rw [HR.out]
          have KK := (K1 (.bool false)).out.trans (kp_setCell _ R 0 (.slice (some ⟨g, off, none⟩) (n - n) (n - n)) (fun i => i = R) rfl) (fun _ _ e => e)
          obtain ⟨q1, q2⟩ := FIN.out _ _ KK (Or.inl (by first | exact ⟨rfl, rfl⟩ | exact ⟨rfl, trivial⟩ | exact rfl)) (setc_0 (setc_1 H1.out))
          simp only [Nat.sub_self] at q1 q2 KK
          exact ⟨_, rfl, q1, q2, KK⟩
        · go_enter Try.func65, Try.ntmps65
          go_wp2_with fail
          go_ret
          rw [HR.out]
          have KK := (K1 (.bool false)).out.trans (kp_setCell _ R 0 (.slice (some ⟨g, off + k, none⟩) (n - k) (cap - k)) (fun i => i = R) rfl) (fun _ _ e => e)
          obtain ⟨q1, q2⟩ := FIN.out _ _ KK (Or.inr rfl) (setc_0 (setc_1 H1.out))
          exact ⟨_, rfl, q1, q2, KK⟩
/-- A number is read. -/
theorem rb_len (k : Nat) (st : Bool × List Int) : (rb k st).1.length = k ∨ (rb k st).1 = [] := by
  unfold rb
  split
  · exact Or.inr rfl
  · rename_i h
    left
    rw [List.length_take]
    omega
set_option maxHeartbeats 4000000 in
theorem rnum_any (R D k : Nat) (st : Bool × List Int) (w : World) (h1 : 1 ≤ k) (hk : k ≤ 8) (hDR : D ≤ R) (hb : Byt st.2) (h : Rdr w R D st) :
    Calls Try.prog 46 #[.pointer (some ⟨R, 0, none⟩), .int .i64 (k : Int)] w fun e w' => e = .returned (.int .i64 (rnm k st).1) ∧ Rdr w' R D (rnm k st).2 ∧ Kp (fun i => i = R) w w' := by
  have HB := hid (bytes_any R D k st w hDR (by omega) h)
  have HG : Hid (∀ v W, Sl W v (rb k st).1 → Calls Try.prog 66 #[v, .int .i64 0, .int .i64 (k : Int)] W fun e w' => ∃ x : Int, e = .returned (.tuple #[.int .u64 (val (rb k st).1), .int .i64 x]) ∧ W = w') := by
    intro v W hS
    have hbt : Byt (rb k st).1 := by
      unfold rb
      split
      · intro z hz; simp at hz
      · exact hb.take k
    rcases rb_len k st with hl | hl
    · rcases hS with ⟨rfl, e⟩ | ⟨g, off, cap, rfl, g1, g2, g3, g4⟩
      · rw [e] at hl; simp at hl; omega
      · have := get_ok g off cap (rb k st).1 0 (k : Int) W (by unfold maxLen at g2; omega) hbt g4 (numE_mk (by omega) (by omega) (by omega) (by omega))
        refine this.mono ?_
        rintro e w' ⟨rfl, rfl⟩
        refine ⟨0, ?_, rfl⟩
        rw [Int.toNat_natCast, show (0 : Int).toNat = 0 from rfl, List.drop_zero, List.take_of_length_le (by omega)]
    · obtain ⟨ao, cap, rfl, _⟩ := hS.src
      rw [hl]
      have hne : numE 0 0 (k : Int) = 4 := by
        unfold numE inE
        rw [if_neg (by omega), if_pos (by simp; omega)]
      refine (get_err ao 0 cap 0 (k : Int) W (by omega) (by rw [hne]; rfl)).mono ?_
      rintro e w' ⟨rfl, rfl⟩
      exact ⟨_, rfl, rfl⟩
  have HW : Hid (IntKind.i64.wrap (val (rb k st).1) = (rnm k st).1) := rfl
  have HQ : Hid ((rb k st).2 = (rnm k st).2) := rfl
  clear h hb
  generalize (rb k st).2 = st2 at *
  go_enter Try.func46, Try.ntmps46
  go_wp2_with (first | (go_at_call 65; refine HB.out.mono ?_; rintro e w1 ⟨v, rfl, s1, r1, k1⟩; have S1 := hid s1; have R1 := hid r1; have K1 := hid k1; clear s1 r1 k1) | (go_at_call 66; refine (HG.out v w1 S1.out).mono ?_; rintro e w2 ⟨x, rfl, rfl⟩))
  go_ret
  rw [← HQ.out]
  exact ⟨ret_int ((IntWalk.i64_left _).symm.trans HW.out), R1.out, K1.out⟩
theorem rnm1_bd (st : Bool × List Int) (hb : Byt st.2) : 0 ≤ (rnm 1 st).1 ∧ (rnm 1 st).1 ≤ 255 := by
  have hbt : Byt (rb 1 st).1 := by
    unfold rb
    split
    · intro z hz; simp at hz
    · exact hb.take 1
  have hln : (rb 1 st).1.length ≤ 1 := by rcases rb_len 1 st with h | h <;> simp [h]
  have hvb := val_bound _ hbt
  have hpw := pow256_le hln
  rw [p1] at hpw
  unfold rnm
  dsimp only
  rw [i6of_id ⟨by omega, by omega⟩]
  omega
set_option maxHeartbeats 4000000 in
theorem rtxt_any (R D : Nat) (st : Bool × List Int) (w : World) (hDR : D ≤ R) (hb : Byt st.2) (h : Rdr w R D st) :
    Calls Try.prog 45 #[.pointer (some ⟨R, 0, none⟩)] w fun e w' => e = .returned (.string (rtx st).1) ∧ Rdr w' R D (rtx st).2 ∧ Kp (fun i => i = R) w w' := by
  have HN := hid (rnum_any R D 1 st w (by omega) (by omega) hDR hb h)
  obtain ⟨b0, b1⟩ := rnm1_bd st hb
  obtain ⟨k, hk⟩ := Int.eq_ofNat_of_zero_le b0
  have HQ : Hid (rtx st = (strOfNums (rb k (rnm 1 st).2).1, (rb k (rnm 1 st).2).2)) := by
    show _ = _
    unfold rtx
    rw [hk, Int.toNat_natCast]
  rw [hk] at HN b1
  generalize (rnm 1 st).2 = st2 at *
  clear hk b0 h
  have HB : Hid (∀ W, Rdr W R D st2 → Calls Try.prog 65 #[.pointer (some ⟨R, 0, none⟩), .int .i64 (k : Int)] W fun e w' => ∃ v, e = .returned v ∧ Sl w' v (rb k st2).1 ∧ Rdr w' R D (rb k st2).2 ∧ Kp (fun i => i = R) W w') := fun W hW => bytes_any R D k st2 W hDR (by omega) hW
  obtain ⟨xs, hxs⟩ : ∃ xs, xs = (rb k st2).1 := ⟨_, rfl⟩
  rw [← hxs] at HB HQ
  clear hxs
  go_enter Try.func45, Try.ntmps45
  go_wp2_with (first | (go_at_call 46; refine HN.out.mono ?_; rintro e w1 ⟨rfl, r1, k1⟩; have R1 := hid r1; have K1 := hid k1; clear r1 k1) | (go_at_call 65; refine (HB.out w1 R1.out).mono ?_; rintro e w2 ⟨v, rfl, s2, r2, k2⟩; obtain ⟨ao, cap, rfl, q1, q2⟩ := s2.src; have S2 := hid q1; have R2 := hid r2; have K2 := hid k2; clear s2 r2 k2 q1 q2) | (refine wpList_convert_rw rfl (.tmp 6) 26 9 5 rfl Try.underlying26 Try.underlying5 Try.underlying9 ao xs.length cap rfl xs rfl (fun hp => S2.out hp) ?_))
  go_ret
  rw [HQ.out]
  exact ⟨rfl, R2.out, K1.out.trans K2.out (fun _ _ e => e)⟩
end Go.Proofs.Ytjjhkfhppoioiaa
