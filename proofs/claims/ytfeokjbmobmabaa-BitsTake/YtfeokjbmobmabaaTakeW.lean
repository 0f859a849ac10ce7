/- The walk of BitsTake. -/
import Derived.Test.YtfeokjbmobmabaaTakeM
import Derived.Deep.RegionHeld3
namespace Go.Proofs.Ytfeokjbmobmabaa
open Go.RowKit

theorem wpAnyH_strong {P : Program} {md : Region.Mode} {ops : Array Oper} {Q : Exit → Act → World → Prop} {S S' : World → Prop} (hS : ∀ w, S' w → S w) : ∀ (fuel : Nat) (listed : Array Bool) (a : Act) (w : World), wpAnyH P md ops Q S' fuel listed a w → wpAnyH P md ops Q S fuel listed a w
  | 0, _, _, _, h => h
  | fuel + 1, _, _, _, h => ⟨h.1, fun i hi => wpOp_mono (fun a' w' h' => ⟨hS _ h'.1, wpAnyH_strong hS fuel _ a' w' h'.2⟩) (h.2 i hi)⟩

set_option maxRecDepth 100000 in
set_option maxHeartbeats 4000000 in
theorem take_walk (a0 a1 : Option Addr) (c0 c1 L : Nat) (B : List Int) (K N : Nat → Int) (w : World) (hL : L ≤ 60) (hB : B.length ≤ 3000) (hb : Byt B) (hsrc : Src w a0 B) (hnil : a0 = none → c0 = 0) (hscr : Scr w a1 L K N) :
    Calls Try.prog 4 #[.slice a0 B.length c0, .slice a1 L c1] w fun e w' => e = .returned (.bool true) ∧ Ok' w w' := by
  have T1 : Hid (([] : List Int).length + B.length ≤ 140737488355328) := by show _ ≤ _; simp; omega
  have T2 : Hid (([] ++ B : List Int).length + ([165] : List Int).length ≤ 140737488355328) := by show _ ≤ _; simp; omega
  have HNIL : Hid (a0 = none → c0 = 0) := hnil
  have HS : Hid (Scr w a1 L K N) := hscr
  have k00 : Ok' w (w.alloc (.cells #[] 5)) := (Kp.refl _ w).alloc _
  have hsrc0 := hsrc.kp k00 (fun _ _ _ x => x)
  clear hnil hscr
  go_enter Try.func4, Try.ntmps4
  go_wp2_with (first | (at_builtin; refine wpList_append_i rfl (.tmp 29) (.tmp 30) rfl w.heap.size (.slice (some ⟨w.heap.size, 0, none⟩) 0 0) [] rfl (own_empty w) _ _ _ B rfl rfl HNIL.out hsrc0 T1.out (by simp) ?_; intro v1 w1 o1 q1 n1 b1) | (at_builtin; refine wpList_append_i rfl (.tmp 31) (.tmp 32) rfl w.heap.size v1 ([] ++ B) rfl (o1.alloc _) _ _ _ [165] rfl rfl (fun e => by cases e) (row_src (tl := []) (Rw.new 5 w1 [165])) T2.out (by have := b1.size; simp at this ⊢; omega) ?_; intro v2 w2 o2 q2 n2 b2; obtain ⟨G, c, tl, rfl, hG, hrow, hc1, hc2⟩ := own_form2 o2))
  have k2 : Ok' w w2 := Kp.of_below ((((Below.refl w.heap.size w).alloc (Nat.le_refl _) _).trans b1).alloc (by have := b1.size; simp at this ⊢; omega) _ |>.trans b2)
  clear o1 q1 n1 b1 o2 q2 n2 b2 T1 T2 hsrc0 k00
  refine (newr_lt (some ⟨G, 0, none⟩) c B w2 (by omega) hb (row_src hrow)).mono ?_
  rintro e w3 ⟨g, Gr, rfl, hg, hGr, hGr2, hr, k3⟩
  have k3' : Ok' w w3 := k2.trans k3 (fun _ _ x => x)
  have hrow3 := hrow.kp k3 (fun x => x)
  have hsrc3 := hsrc.kp k3' (fun _ _ _ x => x)
  have hGl := hrow.lt
  have h165 : w3.cell? ⟨G, B.length, none⟩ = some (.int .u8 165) := by
    rw [hrow3.cell B.length (by simp)]
    simp [List.getD]
  go_wp2_with fail
  refine (same_eq (some ⟨G, 0, none⟩) a0 c c0 B.length B w3 rfl (row_src hrow3) hsrc3).mono ?_
  rintro e w' ⟨rfl, rfl⟩
  go_wp2_with fail
  have HL1 : Hid (g ≠ G ∧ Gr ≠ G ∧ w.heap.size ≤ g) := by show _ ∧ _; have := k2.size; omega
  go_loopw [7] (fun iv wr => ∃ (j : Nat) (M : List Int), j ≤ B.length ∧ B.length < M.length ∧ iv = .int .i64 j ∧ Rw 5 wr G M ∧ Kp (fun i => i = G) w3 wr) (fun i _ => B.length - (intOf i).toNat)
  case atStart => exact ⟨0, _, Nat.zero_le _, by simp, rfl, hrow3, Kp.refl _ _⟩
  case round =>
    clear hrow3 h165 hsrc3 hrow
    obtain ⟨j, M, hj, hM, rfl, rw1, kw⟩ := hrel
    by_cases hjn : j < B.length
    · have hc := rw1.cell j (by omega)
      have hf := rw1.frozen j
      have HM : Hid (B.length < M.length) := hM
      generalize M.getD j 0 = z at hc
      clear hM
      go_wp2_with fail
      go_roundw
      case rel => exact ⟨j + 1, M.set j _, by omega, by rw [List.length_set]; exact HM.out, by go_num, rw1.set j _, kw.trans (kp_setCell wr G j _ (fun i => i = G) rfl) (fun _ _ x => x)⟩
      case measure => simp [intOf]; omega
    · have k4 : Ok' w wr := k3'.trans kw (fun i hi e => by omega)
      have hr4 := hr.kp kw HL1.out.1 (fun b off e => by cases e; exact HL1.out.2.1)
      have hgw := rd_lt hr4
      have hGrw : Gr < wr.heap.size := Nat.lt_of_lt_of_le hGr2 kw.size
      clear hM rw1 kw hr k3' hGr2
      go_wp2_with fail
      refine (rof_any a0 c0 B wr (by omega) hb (hsrc.kp k4 (fun _ _ _ x => x))).mono ?_
      rintro e w5 ⟨gL, cL, rfl, oL, b5⟩
      go_wp2_with fail
      obtain ⟨hcL, hgL1, hgL2⟩ := own_cap oL
      rw [dig_length] at hcL
      have PN := pr_new (hr4.ok (Kp.of_below b5)) oL.src.1 (Nat.lt_of_lt_of_le hGrw b5.size) hgL2 (by omega) hcL hB
      have k5 : Ok' w (w5.alloc (.cells #[.slice (some ⟨gL, 0, none⟩) (8 * B.length) cL, .int .i64 0] 51)) := (k4.trans (Kp.of_below b5) (fun _ _ x => x)).alloc _
      have hwg := HL1.out.2.2
      have hgr : w.heap.size ≤ w5.heap.size := Nat.le_trans k4.size b5.size
      have hgl6 : gL < (w5.alloc (.cells #[.slice (some ⟨gL, 0, none⟩) (8 * B.length) cL, .int .i64 0] 51)).heap.size := by simp; omega
      generalize w5.heap.size = gr at PN hgr ⊢
      have H0 : Hid (TS w (w5.alloc (.cells #[.slice (some ⟨gL, 0, none⟩) (8 * B.length) cL, .int .i64 0] 51)) gr gL cL B [] [] [] g Gr B.length 0 (.slice none 0 0) (.slice none 0 0)) := ⟨PN, fun q hq => by simp at hq, List.Pairwise.nil, fun q hq => by simp at hq, fun q hq => by simp at hq, hwg, hgr, hgl6, k5, World.ownsRow_nil _ _ _ _, World.ownsRow_nil _ _ _ _, fun b hb => by simp [Value.ownBlock] at hb, fun b hb => by simp [Value.ownBlock] at hb⟩
      clear PN hr4 oL b5 k4 hgw hGrw hcL hgL1 hgL2 HL1 k3 k2 hg hGr hGl hj hjn k5 hwg hgr hgl6
      generalize w5.alloc (.cells #[.slice (some ⟨gL, 0, none⟩) (8 * B.length) cL, .int .i64 0] 51) = w6 at H0 ⊢
      go_loopw [6, 9, 10, 11] (fun rv ov wv iv wr => ∃ (j : Nat) (l : List Old) (g G cap p : Nat), j ≤ L ∧ l.length ≤ j ∧ rv = .pointer (some ⟨g, 0, none⟩) ∧ iv = .int .i64 j ∧ TS w wr gr gL cL B l l l g G cap p ov wv) (fun _ _ _ i _ => L - (intOf i).toNat)
      case atStart => exact ⟨0, [], g, Gr, B.length, 0, Nat.zero_le _, Nat.le_refl _, rfl, rfl, H0.out⟩
      case round =>
        clear H0
        obtain ⟨j, l, g, G, cap, p, hj, hll, rfl, rfl, hTS⟩ := hrel
        have H : Hid (TS w wr gr gL cL B l l l g G cap p u9 u10) := hTS
        clear hTS
        obtain ⟨T, hT⟩ : ∃ T, T = 8 * B.length := ⟨_, rfl⟩
        have HT : Hid (T = 8 * B.length) := hT
        clear hT
        have HLL : Hid (l.length ≤ j) := hll
        clear hll
        by_cases hjL : j < L
        · obtain ⟨b, off, rfl, hcell⟩ := HS.out (by omega)
          obtain ⟨e1, e2⟩ := hcell j hjL
          rw [Nat.mul_comm 2 j] at e1 e2
          generalize K j = Kj at e1
          generalize N j = Nj at e2
          have HE : Hid (∀ wx, Ok' w wx → wx.cell? ⟨b, off + j * 2, none⟩ = some (.int .i64 Kj) ∧ wx.cell? ⟨b, off + j * 2 + 1, none⟩ = some (.int .i64 Nj)) := fun wx kx => ⟨(cell_ok kx e1).trans e1, (cell_ok kx e2).trans e2⟩
          obtain ⟨d1, d2⟩ := HE.out wr H.out.k
          clear e1 e2 hcell
          by_cases h7 : Kj = 7
          · subst h7
            go_wp2_with (first | (at_builtin; refine wpList_append_1 rfl (.tmp 84) (.tmp 86) 52 47 (.pointer none) (.pointer (some ⟨g, 0, none⟩)) 8 rfl Try.underlying52 info47 rfl (by decide) rfl w.heap.size u9 l.length (ps l) rfl H.out.ho rfl (by have := HLL.out; omega) H.out.k.size ?_; intro ov' w1 ho1 g1; rw [ps_snoc l g G cap p] at ho1; have H1 : Hid (TS w w1 gr gL cL B l (l ++ [(g, G, cap, p)]) l g G cap p ov' u10) := H.out.push1 g1 (g, G, cap, p) ho1; clear ho1 g1; have c1 : w1.cell? ⟨gr, 1, none⟩ = some (.int .i64 p) := H1.out.pr.rf.st.cell 1) | (at_builtin; refine wpList_append_1 rfl (.tmp 88) (.tmp 93) 53 3 (.int .i64 0) (.int .i64 p) 8 rfl Try.underlying53 Try.info3 rfl (by decide) rfl w.heap.size u10 l.length (ats l) rfl H1.out.hw rfl (by have := HLL.out; omega) H1.out.k.size ?_; intro wv' w2 hw2 g2; rw [ats_snoc l g G cap p] at hw2; have H2 : Hid (TS w w2 gr gL cL B l (l ++ [(g, G, cap, p)]) (l ++ [(g, G, cap, p)]) g G cap p ov' wv') := H1.out.push2 g2 (g, G, cap, p) hw2; clear hw2 g2))
            refine (copyR_any g _ cap B p w2 H2.out.pr.rd).mono ?_
            rintro e w3 ⟨g', G', rfl, hg', hG', hr', k3⟩
            obtain ⟨l', hl'⟩ : ∃ l', l' = l ++ [(g, G, cap, p)] := ⟨_, rfl⟩
            have H3 : Hid (TS w w3 gr gL cL B l' l' l' g' G' B.length p ov' wv') := by rw [hl']; exact H2.out.copy k3 hg' hG' hr'
            have HLL' : Hid (l'.length ≤ j + 1) := by show _ ≤ _; rw [hl']; simp; exact HLL.out
            clear hl' hg' hG' hr' k3 H1 H2 c1 d1 d2
            go_wp2_with fail
            have HD : Hid (TS w w3.drew gr gL cL B l' l' l' g' G' B.length p ov' wv') := H3.out.ok ((Kp.refl _ w3).drew)
            refine wp_region_held_drew (S := (fun w' => (w'.cell? ⟨b, off + j * 2, none⟩ = some (.int .i64 7) ∧ w'.cell? ⟨b, off + j * 2 + 1, none⟩ = some (.int .i64 Nj)) ∧ w'.cell? ⟨gr, 0, none⟩ = some (.slice (some ⟨gL, 0, none⟩) T cL))) (by kernel_rfl) ⟨HE.out w3.drew HD.out.k, gr_cell HD.out.pr HT.out⟩ (fun h0 => ?_)
            refine wpAnyH_take (i := 0) (oi := { dst := some 97, op := Op.move (Operand.tmp 6), type := 47, pos := "law.go:168", after := #[], guard := none }) (v := ?vs0) rfl (by kernel_rfl) (by kernel_rfl) (by kernel_rfl) (fun _ _ _ h => h) (Or.inl ⟨by rfl, ?hys0⟩) h0 ?rests0
            case hys0 => (intro w hSw; (try dsimp only at hSw); go_simp; try with_reducible rfl)
            try simp only [Act.put, List.setIfInBounds_toArray, List.set_cons_zero, List.set_cons_succ]
            refine wpAnyH_take (i := 1) (oi := { dst := some 98, op := Op.binOp BinOp.eql 47 (Operand.tmp 97) (Operand.const (Value.pointer none)) 47, type := 4, pos := "law.go:168", after := #[{ on := 0, ground := Ground.data }], guard := none }) (v := ?vs1) rfl (by kernel_rfl) (by kernel_rfl) (by kernel_rfl) (fun _ _ _ h => h) (Or.inl ⟨by rfl, ?hys1⟩) h0 ?rests1
            case hys1 => (intro w hSw; (try dsimp only at hSw); go_simp; try with_reducible rfl)
            try simp only [Act.put, List.setIfInBounds_toArray, List.set_cons_zero, List.set_cons_succ]
            refine wpAnyH_take (i := 2) (oi := { dst := some 99, op := Op.move (Operand.tmp 98), type := 4, pos := "law.go:168", after := #[{ on := 1, ground := Ground.data }], guard := none }) (v := ?vs2) rfl (by kernel_rfl) (by kernel_rfl) (by kernel_rfl) (fun _ _ _ h => h) (Or.inl ⟨by rfl, ?hys2⟩) h0 ?rests2
            case hys2 => (intro w hSw; (try dsimp only at hSw); go_simp; try with_reducible rfl)
            try simp only [Act.put, List.setIfInBounds_toArray, List.set_cons_zero, List.set_cons_succ]
            refine wpAnyH_take (i := 3) (oi := { dst := some 100, op := Op.move (Operand.tmp 6), type := 47, pos := "law.go:168", after := #[{ on := 2, ground := Ground.guard }], guard := some (2, false) }) (v := ?vs3) rfl (by kernel_rfl) (by kernel_rfl) (by kernel_rfl) (fun _ _ _ h => h) (Or.inl ⟨by rfl, ?hys3⟩) h0 ?rests3
            case hys3 => (intro w hSw; (try dsimp only at hSw); go_simp; try with_reducible rfl)
            try simp only [Act.put, List.setIfInBounds_toArray, List.set_cons_zero, List.set_cons_succ]
            refine wpAnyH_take (i := 4) (oi := { dst := some 101, op := Op.move (Operand.tmp 8), type := 49, pos := "law.go:168", after := #[{ on := 2, ground := Ground.guard }], guard := some (2, false) }) (v := ?vs4) rfl (by kernel_rfl) (by kernel_rfl) (by kernel_rfl) (fun _ _ _ h => h) (Or.inl ⟨by rfl, ?hys4⟩) h0 ?rests4
            case hys4 => (intro w hSw; (try dsimp only at hSw); go_simp; try with_reducible rfl)
            try simp only [Act.put, List.setIfInBounds_toArray, List.set_cons_zero, List.set_cons_succ]
            refine wpAnyH_take (i := 5) (oi := { dst := some 102, op := Op.move (Operand.tmp 1), type := 46, pos := "law.go:168", after := #[{ on := 2, ground := Ground.guard }], guard := some (2, false) }) (v := ?vs5) rfl (by kernel_rfl) (by kernel_rfl) (by kernel_rfl) (fun _ _ _ h => h) (Or.inl ⟨by rfl, ?hys5⟩) h0 ?rests5
            case hys5 => (intro w hSw; (try dsimp only at hSw); go_simp; try with_reducible rfl)
            try simp only [Act.put, List.setIfInBounds_toArray, List.set_cons_zero, List.set_cons_succ]
            refine wpAnyH_take (i := 6) (oi := { dst := some 103, op := Op.move (Operand.tmp 11), type := 3, pos := "law.go:168", after := #[{ on := 2, ground := Ground.guard }], guard := some (2, false) }) (v := ?vs6) rfl (by kernel_rfl) (by kernel_rfl) (by kernel_rfl) (fun _ _ _ h => h) (Or.inl ⟨by rfl, ?hys6⟩) h0 ?rests6
            case hys6 => (intro w hSw; (try dsimp only at hSw); go_simp; try with_reducible rfl)
            try simp only [Act.put, List.setIfInBounds_toArray, List.set_cons_zero, List.set_cons_succ]
            refine wpAnyH_take (i := 7) (oi := { dst := some 104, op := Op.indexAddr 46 (Operand.tmp 102) (Operand.tmp 103), type := 0, pos := "law.go:168", after := #[{ on := 5, ground := Ground.data }, { on := 6, ground := Ground.data }, { on := 2, ground := Ground.guard }], guard := some (2, false) }) (v := ?vs7) rfl (by kernel_rfl) (by kernel_rfl) (by kernel_rfl) (fun _ _ _ h => h) (Or.inl ⟨by rfl, ?hys7⟩) h0 ?rests7
            case hys7 => (intro w hSw; (try dsimp only at hSw); go_simp; try with_reducible rfl)
            try simp only [Act.put, List.setIfInBounds_toArray, List.set_cons_zero, List.set_cons_succ]
            refine wpAnyH_take (i := 8) (oi := { dst := some 105, op := Op.load 55 (Operand.tmp 104), type := 55, pos := "law.go:168", after := #[{ on := 7, ground := Ground.data }, { on := 2, ground := Ground.guard }], guard := some (2, false) }) (v := ?vs8) rfl (by kernel_rfl) (by kernel_rfl) (by kernel_rfl) (fun _ _ _ h => h) (Or.inl ⟨by rfl, ?hys8⟩) h0 ?rests8
            case hys8 => (intro w hSw; (try dsimp only at hSw); go_simp; try with_reducible rfl)
            try simp only [Act.put, List.setIfInBounds_toArray, List.set_cons_zero, List.set_cons_succ]
            refine wpAnyH_ready (rs := [9]) (by kernel_rfl) (by simp) ?_
            refine AllReadyH.cons (o := { dst := some 106, op := Op.call { callee := Callee.value (Operand.func 24), args := #[Operand.tmp 100, Operand.tmp 101, Operand.tmp 105], argTypes := #[47, 49, 55] }, type := 4, pos := "law.go:168", after := #[{ on := 3, ground := Ground.data }, { on := 4, ground := Ground.data }, { on := 8, ground := Ground.data }, { on := 2, ground := Ground.chain }, { on := 2, ground := Ground.guard }], guard := some (2, false) }) rfl (fun K hK => ?_) AllReadyH.nil
            go_simp
            (go_at_call 24; refine (ask_any g' G' B.length gr gL cL B p 7 Nj _ HD.out.pr).mono ?_; rintro e w7 ⟨rfl, ⟨p7, hP7⟩, k7⟩; have HA7 : Hid (TS w w7 gr gL cL B l' l' l' g' G' B.length p7 ov' wv') := HD.out.asked k7 hP7; clear hP7 k7; have s7 : Hid (((w7.cell? ⟨b, off + j * 2, none⟩ = some (.int .i64 7) ∧ w7.cell? ⟨b, off + j * 2 + 1, none⟩ = some (.int .i64 Nj)) ∧ w7.cell? ⟨gr, 0, none⟩ = some (.slice (some ⟨gL, 0, none⟩) T cL)) ∧ w7.cell? ⟨gr, 1, none⟩ = some (.int .i64 p7)) := ⟨⟨HE.out w7 HA7.out.k, gr_cell HA7.out.pr HT.out⟩, HA7.out.pr.rf.st.cell 1⟩; obtain ⟨q7, hq7, hq7w, hq7e'⟩ := left_num HA7.out.pr HT.out; have hq7e : Hid (8 * B.length - p7 = q7) := hq7e'; clear hq7e')
            go_wp2_with fail
            refine hK.out _ _ s7.out.1 (fun h7 => ?_)
            clear hK K
            try simp only [Act.put, List.setIfInBounds_toArray, List.set_cons_zero, List.set_cons_succ]
            clear h0 h7
            refine wpAnyH_strong (S' := (fun w' => ((w'.cell? ⟨b, off + j * 2, none⟩ = some (.int .i64 7) ∧ w'.cell? ⟨b, off + j * 2 + 1, none⟩ = some (.int .i64 Nj)) ∧ w'.cell? ⟨gr, 0, none⟩ = some (.slice (some ⟨gL, 0, none⟩) T cL)) ∧ w'.cell? ⟨gr, 1, none⟩ = some (.int .i64 p7))) (fun w h => h.1) _ _ _ _ ?_
            refine wpAnyH_take (i := 10) (oi := { dst := some 107, op := Op.unOp UnOp.not 4 (Operand.tmp 106), type := 4, pos := "law.go:168", after := #[{ on := 9, ground := Ground.data }, { on := 2, ground := Ground.guard }], guard := some (2, false) }) (v := ?vs10) rfl (by kernel_rfl) (by kernel_rfl) (by kernel_rfl) (fun _ _ _ h => h) (Or.inl ⟨by rfl, ?hys10⟩) s7.out ?rests10
            case hys10 => (intro w hSw; (try dsimp only at hSw); go_simp; try with_reducible rfl)
            try simp only [Act.put, List.setIfInBounds_toArray, List.set_cons_zero, List.set_cons_succ]
            refine wpAnyH_take (i := 11) (oi := { dst := some 108, op := Op.pick (Operand.tmp 99) (Operand.const (Value.bool true)) (Operand.tmp 107), type := 4, pos := "law.go:168", after := #[{ on := 2, ground := Ground.data }, { on := 10, ground := Ground.data }], guard := none }) (v := ?vs11) rfl (by kernel_rfl) (by kernel_rfl) (by kernel_rfl) (fun _ _ _ h => h) (Or.inl ⟨by rfl, ?hys11⟩) s7.out ?rests11
            case hys11 => (intro w hSw; (try dsimp only at hSw); go_simp; try with_reducible rfl)
            try simp only [Act.put, List.setIfInBounds_toArray, List.set_cons_zero, List.set_cons_succ]
            refine wpAnyH_take (i := 12) (oi := { dst := some 109, op := Op.move (Operand.tmp 108), type := 4, pos := "law.go:168", after := #[{ on := 11, ground := Ground.data }, { on := 9, ground := Ground.chain }], guard := none }) (v := ?vs12) rfl (by kernel_rfl) (by kernel_rfl) (by kernel_rfl) (fun _ _ _ h => h) (Or.inl ⟨by rfl, ?hys12⟩) s7.out ?rests12
            case hys12 => (intro w hSw; (try dsimp only at hSw); go_simp; try with_reducible rfl)
            try simp only [Act.put, List.setIfInBounds_toArray, List.set_cons_zero, List.set_cons_succ]
            refine wpAnyH_take (i := 13) (oi := { dst := some 110, op := Op.move (Operand.tmp 6), type := 47, pos := "law.go:168", after := #[{ on := 12, ground := Ground.guard }], guard := some (12, false) }) (v := ?vs13) rfl (by kernel_rfl) (by kernel_rfl) (by kernel_rfl) (fun _ _ _ h => h) (Or.inl ⟨by rfl, ?hys13⟩) s7.out ?rests13
            case hys13 => (intro w hSw; (try dsimp only at hSw); go_simp; try with_reducible rfl)
            try simp only [Act.put, List.setIfInBounds_toArray, List.set_cons_zero, List.set_cons_succ]
            refine wpAnyH_take (i := 15) (oi := { dst := some 112, op := Op.move (Operand.tmp 8), type := 49, pos := "law.go:168", after := #[{ on := 12, ground := Ground.guard }], guard := some (12, false) }) (v := ?vs15) rfl (by kernel_rfl) (by kernel_rfl) (by kernel_rfl) (fun _ _ _ h => h) (Or.inl ⟨by rfl, ?hys15⟩) s7.out ?rests15
            case hys15 => (intro w hSw; (try dsimp only at hSw); go_simp; try with_reducible rfl)
            try simp only [Act.put, List.setIfInBounds_toArray, List.set_cons_zero, List.set_cons_succ]
            refine wpAnyH_take (i := 16) (oi := { dst := some 113, op := Op.nilCheck (Operand.tmp 112), type := 0, pos := "law.go:168", after := #[{ on := 15, ground := Ground.data }, { on := 12, ground := Ground.guard }], guard := some (12, false) }) (v := ?vs16) rfl (by kernel_rfl) (by kernel_rfl) (by kernel_rfl) (fun _ _ _ h => h) (Or.inl ⟨by rfl, ?hys16⟩) s7.out ?rests16
            case hys16 => (intro w hSw; (try dsimp only at hSw); go_simp; try with_reducible rfl)
            try simp only [Act.put, List.setIfInBounds_toArray, List.set_cons_zero, List.set_cons_succ]
            refine wpAnyH_take (i := 17) (oi := { dst := some 114, op := Op.fieldAddr 51 (Operand.tmp 113) 1, type := 0, pos := "law.go:168", after := #[{ on := 16, ground := Ground.data }, { on := 12, ground := Ground.guard }], guard := some (12, false) }) (v := ?vs17) rfl (by kernel_rfl) (by kernel_rfl) (by kernel_rfl) (fun _ _ _ h => h) (Or.inl ⟨by rfl, ?hys17⟩) s7.out ?rests17
            case hys17 => (intro w hSw; (try dsimp only at hSw); go_simp; try with_reducible rfl)
            try simp only [Act.put, List.setIfInBounds_toArray, List.set_cons_zero, List.set_cons_succ]
            refine wpAnyH_take (i := 18) (oi := { dst := some 115, op := Op.load 3 (Operand.tmp 114), type := 3, pos := "law.go:168", after := #[{ on := 17, ground := Ground.data }, { on := 12, ground := Ground.guard }], guard := some (12, false) }) (v := ?vs18) rfl (by kernel_rfl) (by kernel_rfl) (by kernel_rfl) (fun _ _ _ h => h) (Or.inl ⟨by rfl, ?hys18⟩) s7.out ?rests18
            case hys18 => (intro w hSw; (try dsimp only at hSw); go_simp; try with_reducible rfl)
            try simp only [Act.put, List.setIfInBounds_toArray, List.set_cons_zero, List.set_cons_succ]
            refine wpAnyH_ready (rs := [14]) (by kernel_rfl) (by simp) ?_
            refine AllReadyH.cons (o := { dst := some 111, op := Op.call { callee := Callee.value (Operand.func 25), args := #[Operand.tmp 110], argTypes := #[47] }, type := 3, pos := "law.go:168", after := #[{ on := 13, ground := Ground.data }, { on := 12, ground := Ground.chain }, { on := 12, ground := Ground.guard }], guard := some (12, false) }) rfl (fun K hK => ?_) AllReadyH.nil
            go_simp
            (go_at_call 25; refine (at_k g' _ _ B p7 _ HA7.out.pr.rd).mono ?_; rintro e w8 ⟨rfl, k8⟩; have HA8 : Hid (TS w w8 gr gL cL B l' l' l' g' G' B.length p7 ov' wv') := HA7.out.ok k8; clear k8; have s8 : Hid (((w8.cell? ⟨b, off + j * 2, none⟩ = some (.int .i64 7) ∧ w8.cell? ⟨b, off + j * 2 + 1, none⟩ = some (.int .i64 Nj)) ∧ w8.cell? ⟨gr, 0, none⟩ = some (.slice (some ⟨gL, 0, none⟩) T cL)) ∧ w8.cell? ⟨gr, 1, none⟩ = some (.int .i64 p7)) := ⟨⟨HE.out w8 HA8.out.k, gr_cell HA8.out.pr HT.out⟩, HA8.out.pr.rf.st.cell 1⟩)
            go_wp2_with fail
            refine hK.out _ _ s8.out (fun h8 => ?_)
            clear hK K
            try simp only [Act.put, List.setIfInBounds_toArray, List.set_cons_zero, List.set_cons_succ]
            clear h8
            refine wpAnyH_take (i := 19) (oi := { dst := some 116, op := Op.binOp BinOp.neq 3 (Operand.tmp 111) (Operand.tmp 115) 3, type := 4, pos := "law.go:168", after := #[{ on := 14, ground := Ground.data }, { on := 18, ground := Ground.data }, { on := 12, ground := Ground.guard }], guard := some (12, false) }) (v := ?vs19) rfl (by kernel_rfl) (by kernel_rfl) (by kernel_rfl) (fun _ _ _ h => h) (Or.inl ⟨by rfl, ?hys19⟩) s8.out ?rests19
            case hys19 => (intro w hSw; (try dsimp only at hSw); go_simp; try with_reducible rfl)
            try simp only [Act.put, List.setIfInBounds_toArray, List.set_cons_zero, List.set_cons_succ]
            refine wpAnyH_take (i := 20) (oi := { dst := some 117, op := Op.pick (Operand.tmp 109) (Operand.const (Value.bool true)) (Operand.tmp 116), type := 4, pos := "law.go:168", after := #[{ on := 12, ground := Ground.data }, { on := 19, ground := Ground.data }], guard := none }) (v := ?vs20) rfl (by kernel_rfl) (by kernel_rfl) (by kernel_rfl) (fun _ _ _ h => h) (Or.inl ⟨by rfl, ?hys20⟩) s8.out ?rests20
            case hys20 => (intro w hSw; (try dsimp only at hSw); go_simp; try with_reducible rfl)
            try simp only [Act.put, List.setIfInBounds_toArray, List.set_cons_zero, List.set_cons_succ]
            refine wpAnyH_take (i := 21) (oi := { dst := some 118, op := Op.move (Operand.tmp 117), type := 4, pos := "law.go:168", after := #[{ on := 20, ground := Ground.data }, { on := 14, ground := Ground.chain }], guard := none }) (v := ?vs21) rfl (by kernel_rfl) (by kernel_rfl) (by kernel_rfl) (fun _ _ _ h => h) (Or.inl ⟨by rfl, ?hys21⟩) s8.out ?rests21
            case hys21 => (intro w hSw; (try dsimp only at hSw); go_simp; try with_reducible rfl)
            try simp only [Act.put, List.setIfInBounds_toArray, List.set_cons_zero, List.set_cons_succ]
            refine wpAnyH_take (i := 22) (oi := { dst := some 119, op := Op.move (Operand.tmp 6), type := 47, pos := "law.go:168", after := #[{ on := 21, ground := Ground.guard }], guard := some (21, false) }) (v := ?vs22) rfl (by kernel_rfl) (by kernel_rfl) (by kernel_rfl) (fun _ _ _ h => h) (Or.inl ⟨by rfl, ?hys22⟩) s8.out ?rests22
            case hys22 => (intro w hSw; (try dsimp only at hSw); go_simp; try with_reducible rfl)
            try simp only [Act.put, List.setIfInBounds_toArray, List.set_cons_zero, List.set_cons_succ]
            refine wpAnyH_take (i := 24) (oi := { dst := some 121, op := Op.move (Operand.tmp 8), type := 49, pos := "law.go:168", after := #[{ on := 21, ground := Ground.guard }], guard := some (21, false) }) (v := ?vs24) rfl (by kernel_rfl) (by kernel_rfl) (by kernel_rfl) (fun _ _ _ h => h) (Or.inl ⟨by rfl, ?hys24⟩) s8.out ?rests24
            case hys24 => (intro w hSw; (try dsimp only at hSw); go_simp; try with_reducible rfl)
            try simp only [Act.put, List.setIfInBounds_toArray, List.set_cons_zero, List.set_cons_succ]
            refine wpAnyH_take (i := 25) (oi := { dst := some 122, op := Op.nilCheck (Operand.tmp 121), type := 0, pos := "law.go:168", after := #[{ on := 24, ground := Ground.data }, { on := 21, ground := Ground.guard }], guard := some (21, false) }) (v := ?vs25) rfl (by kernel_rfl) (by kernel_rfl) (by kernel_rfl) (fun _ _ _ h => h) (Or.inl ⟨by rfl, ?hys25⟩) s8.out ?rests25
            case hys25 => (intro w hSw; (try dsimp only at hSw); go_simp; try with_reducible rfl)
            try simp only [Act.put, List.setIfInBounds_toArray, List.set_cons_zero, List.set_cons_succ]
            refine wpAnyH_take (i := 26) (oi := { dst := some 123, op := Op.fieldAddr 51 (Operand.tmp 122) 0, type := 0, pos := "law.go:168", after := #[{ on := 25, ground := Ground.data }, { on := 21, ground := Ground.guard }], guard := some (21, false) }) (v := ?vs26) rfl (by kernel_rfl) (by kernel_rfl) (by kernel_rfl) (fun _ _ _ h => h) (Or.inl ⟨by rfl, ?hys26⟩) s8.out ?rests26
            case hys26 => (intro w hSw; (try dsimp only at hSw); go_simp; try with_reducible rfl)
            try simp only [Act.put, List.setIfInBounds_toArray, List.set_cons_zero, List.set_cons_succ]
            refine wpAnyH_take (i := 27) (oi := { dst := some 124, op := Op.load 26 (Operand.tmp 123), type := 26, pos := "law.go:168", after := #[{ on := 26, ground := Ground.data }, { on := 21, ground := Ground.guard }], guard := some (21, false) }) (v := ?vs27) rfl (by kernel_rfl) (by kernel_rfl) (by kernel_rfl) (fun _ _ _ h => h) (Or.inl ⟨by rfl, ?hys27⟩) s8.out ?rests27
            case hys27 => (intro w hSw; (try dsimp only at hSw); go_simp; try with_reducible rfl)
            try simp only [Act.put, List.setIfInBounds_toArray, List.set_cons_zero, List.set_cons_succ]
            refine wpAnyH_take (i := 28) (oi := { dst := some 125, op := Op.call { callee := Callee.builtin Builtin.len, args := #[Operand.tmp 124], argTypes := #[26] }, type := 3, pos := "law.go:168", after := #[{ on := 27, ground := Ground.data }, { on := 21, ground := Ground.guard }], guard := some (21, false) }) (v := ?vs28) rfl (by kernel_rfl) (by kernel_rfl) (by kernel_rfl) (fun _ _ _ h => h) (Or.inl ⟨by rfl, ?hys28⟩) s8.out ?rests28
            case hys28 => (intro w hSw; (try dsimp only at hSw); go_simp; try with_reducible rfl)
            try simp only [Act.put, List.setIfInBounds_toArray, List.set_cons_zero, List.set_cons_succ]
            refine wpAnyH_take (i := 29) (oi := { dst := some 126, op := Op.move (Operand.tmp 8), type := 49, pos := "law.go:168", after := #[{ on := 21, ground := Ground.guard }], guard := some (21, false) }) (v := ?vs29) rfl (by kernel_rfl) (by kernel_rfl) (by kernel_rfl) (fun _ _ _ h => h) (Or.inl ⟨by rfl, ?hys29⟩) s8.out ?rests29
            case hys29 => (intro w hSw; (try dsimp only at hSw); go_simp; try with_reducible rfl)
            try simp only [Act.put, List.setIfInBounds_toArray, List.set_cons_zero, List.set_cons_succ]
            refine wpAnyH_take (i := 30) (oi := { dst := some 127, op := Op.nilCheck (Operand.tmp 126), type := 0, pos := "law.go:168", after := #[{ on := 29, ground := Ground.data }, { on := 21, ground := Ground.guard }], guard := some (21, false) }) (v := ?vs30) rfl (by kernel_rfl) (by kernel_rfl) (by kernel_rfl) (fun _ _ _ h => h) (Or.inl ⟨by rfl, ?hys30⟩) s8.out ?rests30
            case hys30 => (intro w hSw; (try dsimp only at hSw); go_simp; try with_reducible rfl)
            try simp only [Act.put, List.setIfInBounds_toArray, List.set_cons_zero, List.set_cons_succ]
            refine wpAnyH_take (i := 31) (oi := { dst := some 128, op := Op.fieldAddr 51 (Operand.tmp 127) 1, type := 0, pos := "law.go:168", after := #[{ on := 30, ground := Ground.data }, { on := 21, ground := Ground.guard }], guard := some (21, false) }) (v := ?vs31) rfl (by kernel_rfl) (by kernel_rfl) (by kernel_rfl) (fun _ _ _ h => h) (Or.inl ⟨by rfl, ?hys31⟩) s8.out ?rests31
            case hys31 => (intro w hSw; (try dsimp only at hSw); go_simp; try with_reducible rfl)
            try simp only [Act.put, List.setIfInBounds_toArray, List.set_cons_zero, List.set_cons_succ]
            refine wpAnyH_take (i := 32) (oi := { dst := some 129, op := Op.load 3 (Operand.tmp 128), type := 3, pos := "law.go:168", after := #[{ on := 31, ground := Ground.data }, { on := 21, ground := Ground.guard }], guard := some (21, false) }) (v := ?vs32) rfl (by kernel_rfl) (by kernel_rfl) (by kernel_rfl) (fun _ _ _ h => h) (Or.inl ⟨by rfl, ?hys32⟩) s8.out ?rests32
            case hys32 => (intro w hSw; (try dsimp only at hSw); go_simp; try with_reducible rfl)
            try simp only [Act.put, List.setIfInBounds_toArray, List.set_cons_zero, List.set_cons_succ]
            refine wpAnyH_take (i := 33) (oi := { dst := some 130, op := Op.binOp BinOp.sub 3 (Operand.tmp 125) (Operand.tmp 129) 3, type := 3, pos := "law.go:168", after := #[{ on := 28, ground := Ground.data }, { on := 32, ground := Ground.data }, { on := 21, ground := Ground.guard }], guard := some (21, false) }) (v := ?vs33) rfl (by kernel_rfl) (by kernel_rfl) (by kernel_rfl) (fun _ _ _ h => h) (Or.inl ⟨by rfl, ?hys33⟩) s8.out ?rests33
            case hys33 => (intro w hSw; (try dsimp only at hSw); go_simp; try with_reducible rfl)
            try simp only [Act.put, List.setIfInBounds_toArray, List.set_cons_zero, List.set_cons_succ]
            refine wpAnyH_ready (rs := [23]) (by kernel_rfl) (by simp) ?_
            refine AllReadyH.cons (o := { dst := some 120, op := Op.call { callee := Callee.value (Operand.func 26), args := #[Operand.tmp 119], argTypes := #[47] }, type := 3, pos := "law.go:168", after := #[{ on := 22, ground := Ground.data }, { on := 21, ground := Ground.chain }, { on := 21, ground := Ground.guard }], guard := some (21, false) }) rfl (fun K hK => ?_) AllReadyH.nil
            go_simp
            (go_at_call 26; refine (left_q g' _ _ B p7 q7 hq7e.out _ HA8.out.pr.rd).mono ?_; rintro e w9 ⟨rfl, k8⟩; have HA9 : Hid (TS w w9 gr gL cL B l' l' l' g' G' B.length p7 ov' wv') := HA8.out.ok k8; clear k8; have s9 : Hid (((w9.cell? ⟨b, off + j * 2, none⟩ = some (.int .i64 7) ∧ w9.cell? ⟨b, off + j * 2 + 1, none⟩ = some (.int .i64 Nj)) ∧ w9.cell? ⟨gr, 0, none⟩ = some (.slice (some ⟨gL, 0, none⟩) T cL)) ∧ w9.cell? ⟨gr, 1, none⟩ = some (.int .i64 p7)) := ⟨⟨HE.out w9 HA9.out.k, gr_cell HA9.out.pr HT.out⟩, HA9.out.pr.rf.st.cell 1⟩)
            go_wp2_with fail
            refine hK.out _ _ s9.out (fun h9 => ?_)
            clear hK K
            try simp only [Act.put, List.setIfInBounds_toArray, List.set_cons_zero, List.set_cons_succ]
            clear h9
            refine wpAnyH_take (i := 34) (oi := { dst := some 131, op := Op.binOp BinOp.neq 3 (Operand.tmp 120) (Operand.tmp 130) 3, type := 4, pos := "law.go:168", after := #[{ on := 23, ground := Ground.data }, { on := 33, ground := Ground.data }, { on := 21, ground := Ground.guard }], guard := some (21, false) }) (v := ?vs34) rfl (by kernel_rfl) (by kernel_rfl) (by kernel_rfl) (fun _ _ _ h => h) (Or.inl ⟨by rfl, ?hys34⟩) s9.out ?rests34
            case hys34 => (intro w hSw; (try dsimp only at hSw); go_simp; try with_reducible rfl)
            try simp only [Act.put, List.setIfInBounds_toArray, List.set_cons_zero, List.set_cons_succ]
            refine wpAnyH_take (i := 35) (oi := { dst := some 132, op := Op.pick (Operand.tmp 118) (Operand.const (Value.bool true)) (Operand.tmp 131), type := 4, pos := "law.go:168", after := #[{ on := 21, ground := Ground.data }, { on := 34, ground := Ground.data }], guard := none }) (v := ?vs35) rfl (by kernel_rfl) (by kernel_rfl) (by kernel_rfl) (fun _ _ _ h => h) (Or.inl ⟨by rfl, ?hys35⟩) s9.out ?rests35
            case hys35 => (intro w hSw; (try dsimp only at hSw); go_simp; try with_reducible rfl)
            try simp only [Act.put, List.setIfInBounds_toArray, List.set_cons_zero, List.set_cons_succ]
            refine wpAnyH_done (by kernel_rfl) ?_ _
            clear s7 s8 s9 HA7 HA8 HD
            go_wp2_with fail
            go_roundw
            case rel => exact ⟨j + 1, l', g', G', B.length, p7, by omega, HLL'.out, rfl, by go_num, HA9.out⟩
            case measure => simp [intOf]; omega
          · have h7' : (Kj == 7) = false := by simpa using h7
            go_wp2_with fail
            clear d1 d2
            have HD : Hid (TS w wr.drew gr gL cL B l l l g G cap p u9 u10) := H.out.ok ((Kp.refl _ wr).drew)
            refine wp_region_held_drew (S := (fun w' => (w'.cell? ⟨b, off + j * 2, none⟩ = some (.int .i64 Kj) ∧ w'.cell? ⟨b, off + j * 2 + 1, none⟩ = some (.int .i64 Nj)) ∧ w'.cell? ⟨gr, 0, none⟩ = some (.slice (some ⟨gL, 0, none⟩) T cL))) (by kernel_rfl) ⟨HE.out wr.drew HD.out.k, gr_cell HD.out.pr HT.out⟩ (fun h0 => ?_)
            refine wpAnyH_take (i := 0) (oi := { dst := some 97, op := Op.move (Operand.tmp 6), type := 47, pos := "law.go:168", after := #[], guard := none }) (v := ?vk0) rfl (by kernel_rfl) (by kernel_rfl) (by kernel_rfl) (fun _ _ _ h => h) (Or.inl ⟨by rfl, ?hyk0⟩) h0 ?restk0
            case hyk0 => (intro w hSw; (try dsimp only at hSw); go_simp; try with_reducible rfl)
            try simp only [Act.put, List.setIfInBounds_toArray, List.set_cons_zero, List.set_cons_succ]
            refine wpAnyH_take (i := 1) (oi := { dst := some 98, op := Op.binOp BinOp.eql 47 (Operand.tmp 97) (Operand.const (Value.pointer none)) 47, type := 4, pos := "law.go:168", after := #[{ on := 0, ground := Ground.data }], guard := none }) (v := ?vk1) rfl (by kernel_rfl) (by kernel_rfl) (by kernel_rfl) (fun _ _ _ h => h) (Or.inl ⟨by rfl, ?hyk1⟩) h0 ?restk1
            case hyk1 => (intro w hSw; (try dsimp only at hSw); go_simp; try with_reducible rfl)
            try simp only [Act.put, List.setIfInBounds_toArray, List.set_cons_zero, List.set_cons_succ]
            refine wpAnyH_take (i := 2) (oi := { dst := some 99, op := Op.move (Operand.tmp 98), type := 4, pos := "law.go:168", after := #[{ on := 1, ground := Ground.data }], guard := none }) (v := ?vk2) rfl (by kernel_rfl) (by kernel_rfl) (by kernel_rfl) (fun _ _ _ h => h) (Or.inl ⟨by rfl, ?hyk2⟩) h0 ?restk2
            case hyk2 => (intro w hSw; (try dsimp only at hSw); go_simp; try with_reducible rfl)
            try simp only [Act.put, List.setIfInBounds_toArray, List.set_cons_zero, List.set_cons_succ]
            refine wpAnyH_take (i := 3) (oi := { dst := some 100, op := Op.move (Operand.tmp 6), type := 47, pos := "law.go:168", after := #[{ on := 2, ground := Ground.guard }], guard := some (2, false) }) (v := ?vk3) rfl (by kernel_rfl) (by kernel_rfl) (by kernel_rfl) (fun _ _ _ h => h) (Or.inl ⟨by rfl, ?hyk3⟩) h0 ?restk3
            case hyk3 => (intro w hSw; (try dsimp only at hSw); go_simp; try with_reducible rfl)
            try simp only [Act.put, List.setIfInBounds_toArray, List.set_cons_zero, List.set_cons_succ]
            refine wpAnyH_take (i := 4) (oi := { dst := some 101, op := Op.move (Operand.tmp 8), type := 49, pos := "law.go:168", after := #[{ on := 2, ground := Ground.guard }], guard := some (2, false) }) (v := ?vk4) rfl (by kernel_rfl) (by kernel_rfl) (by kernel_rfl) (fun _ _ _ h => h) (Or.inl ⟨by rfl, ?hyk4⟩) h0 ?restk4
            case hyk4 => (intro w hSw; (try dsimp only at hSw); go_simp; try with_reducible rfl)
            try simp only [Act.put, List.setIfInBounds_toArray, List.set_cons_zero, List.set_cons_succ]
            refine wpAnyH_take (i := 5) (oi := { dst := some 102, op := Op.move (Operand.tmp 1), type := 46, pos := "law.go:168", after := #[{ on := 2, ground := Ground.guard }], guard := some (2, false) }) (v := ?vk5) rfl (by kernel_rfl) (by kernel_rfl) (by kernel_rfl) (fun _ _ _ h => h) (Or.inl ⟨by rfl, ?hyk5⟩) h0 ?restk5
            case hyk5 => (intro w hSw; (try dsimp only at hSw); go_simp; try with_reducible rfl)
            try simp only [Act.put, List.setIfInBounds_toArray, List.set_cons_zero, List.set_cons_succ]
            refine wpAnyH_take (i := 6) (oi := { dst := some 103, op := Op.move (Operand.tmp 11), type := 3, pos := "law.go:168", after := #[{ on := 2, ground := Ground.guard }], guard := some (2, false) }) (v := ?vk6) rfl (by kernel_rfl) (by kernel_rfl) (by kernel_rfl) (fun _ _ _ h => h) (Or.inl ⟨by rfl, ?hyk6⟩) h0 ?restk6
            case hyk6 => (intro w hSw; (try dsimp only at hSw); go_simp; try with_reducible rfl)
            try simp only [Act.put, List.setIfInBounds_toArray, List.set_cons_zero, List.set_cons_succ]
            refine wpAnyH_take (i := 7) (oi := { dst := some 104, op := Op.indexAddr 46 (Operand.tmp 102) (Operand.tmp 103), type := 0, pos := "law.go:168", after := #[{ on := 5, ground := Ground.data }, { on := 6, ground := Ground.data }, { on := 2, ground := Ground.guard }], guard := some (2, false) }) (v := ?vk7) rfl (by kernel_rfl) (by kernel_rfl) (by kernel_rfl) (fun _ _ _ h => h) (Or.inl ⟨by rfl, ?hyk7⟩) h0 ?restk7
            case hyk7 => (intro w hSw; (try dsimp only at hSw); go_simp; try with_reducible rfl)
            try simp only [Act.put, List.setIfInBounds_toArray, List.set_cons_zero, List.set_cons_succ]
            refine wpAnyH_take (i := 8) (oi := { dst := some 105, op := Op.load 55 (Operand.tmp 104), type := 55, pos := "law.go:168", after := #[{ on := 7, ground := Ground.data }, { on := 2, ground := Ground.guard }], guard := some (2, false) }) (v := ?vk8) rfl (by kernel_rfl) (by kernel_rfl) (by kernel_rfl) (fun _ _ _ h => h) (Or.inl ⟨by rfl, ?hyk8⟩) h0 ?restk8
            case hyk8 => (intro w hSw; (try dsimp only at hSw); go_simp; try with_reducible rfl)
            try simp only [Act.put, List.setIfInBounds_toArray, List.set_cons_zero, List.set_cons_succ]
            refine wpAnyH_ready (rs := [9]) (by kernel_rfl) (by simp) ?_
            refine AllReadyH.cons (o := { dst := some 106, op := Op.call { callee := Callee.value (Operand.func 24), args := #[Operand.tmp 100, Operand.tmp 101, Operand.tmp 105], argTypes := #[47, 49, 55] }, type := 4, pos := "law.go:168", after := #[{ on := 3, ground := Ground.data }, { on := 4, ground := Ground.data }, { on := 8, ground := Ground.data }, { on := 2, ground := Ground.chain }, { on := 2, ground := Ground.guard }], guard := some (2, false) }) rfl (fun K hK => ?_) AllReadyH.nil
            go_simp
            (go_at_call 24; refine (ask_any g G cap gr gL cL B p Kj Nj _ HD.out.pr).mono ?_; rintro e w7 ⟨rfl, ⟨p7, hP7⟩, k7⟩; have HA7 : Hid (TS w w7 gr gL cL B l l l g G cap p7 u9 u10) := HD.out.asked k7 hP7; clear hP7 k7; have s7 : Hid (((w7.cell? ⟨b, off + j * 2, none⟩ = some (.int .i64 Kj) ∧ w7.cell? ⟨b, off + j * 2 + 1, none⟩ = some (.int .i64 Nj)) ∧ w7.cell? ⟨gr, 0, none⟩ = some (.slice (some ⟨gL, 0, none⟩) T cL)) ∧ w7.cell? ⟨gr, 1, none⟩ = some (.int .i64 p7)) := ⟨⟨HE.out w7 HA7.out.k, gr_cell HA7.out.pr HT.out⟩, HA7.out.pr.rf.st.cell 1⟩; obtain ⟨q7, hq7, hq7w, hq7e'⟩ := left_num HA7.out.pr HT.out; have hq7e : Hid (8 * B.length - p7 = q7) := hq7e'; clear hq7e')
            go_wp2_with fail
            refine hK.out _ _ s7.out.1 (fun h7 => ?_)
            clear hK K
            try simp only [Act.put, List.setIfInBounds_toArray, List.set_cons_zero, List.set_cons_succ]
            clear h0 h7
            refine wpAnyH_strong (S' := (fun w' => ((w'.cell? ⟨b, off + j * 2, none⟩ = some (.int .i64 Kj) ∧ w'.cell? ⟨b, off + j * 2 + 1, none⟩ = some (.int .i64 Nj)) ∧ w'.cell? ⟨gr, 0, none⟩ = some (.slice (some ⟨gL, 0, none⟩) T cL)) ∧ w'.cell? ⟨gr, 1, none⟩ = some (.int .i64 p7))) (fun w h => h.1) _ _ _ _ ?_
            refine wpAnyH_take (i := 10) (oi := { dst := some 107, op := Op.unOp UnOp.not 4 (Operand.tmp 106), type := 4, pos := "law.go:168", after := #[{ on := 9, ground := Ground.data }, { on := 2, ground := Ground.guard }], guard := some (2, false) }) (v := ?vk10) rfl (by kernel_rfl) (by kernel_rfl) (by kernel_rfl) (fun _ _ _ h => h) (Or.inl ⟨by rfl, ?hyk10⟩) s7.out ?restk10
            case hyk10 => (intro w hSw; (try dsimp only at hSw); go_simp; try with_reducible rfl)
            try simp only [Act.put, List.setIfInBounds_toArray, List.set_cons_zero, List.set_cons_succ]
            refine wpAnyH_take (i := 11) (oi := { dst := some 108, op := Op.pick (Operand.tmp 99) (Operand.const (Value.bool true)) (Operand.tmp 107), type := 4, pos := "law.go:168", after := #[{ on := 2, ground := Ground.data }, { on := 10, ground := Ground.data }], guard := none }) (v := ?vk11) rfl (by kernel_rfl) (by kernel_rfl) (by kernel_rfl) (fun _ _ _ h => h) (Or.inl ⟨by rfl, ?hyk11⟩) s7.out ?restk11
            case hyk11 => (intro w hSw; (try dsimp only at hSw); go_simp; try with_reducible rfl)
            try simp only [Act.put, List.setIfInBounds_toArray, List.set_cons_zero, List.set_cons_succ]
            refine wpAnyH_take (i := 12) (oi := { dst := some 109, op := Op.move (Operand.tmp 108), type := 4, pos := "law.go:168", after := #[{ on := 11, ground := Ground.data }, { on := 9, ground := Ground.chain }], guard := none }) (v := ?vk12) rfl (by kernel_rfl) (by kernel_rfl) (by kernel_rfl) (fun _ _ _ h => h) (Or.inl ⟨by rfl, ?hyk12⟩) s7.out ?restk12
            case hyk12 => (intro w hSw; (try dsimp only at hSw); go_simp; try with_reducible rfl)
            try simp only [Act.put, List.setIfInBounds_toArray, List.set_cons_zero, List.set_cons_succ]
            refine wpAnyH_take (i := 13) (oi := { dst := some 110, op := Op.move (Operand.tmp 6), type := 47, pos := "law.go:168", after := #[{ on := 12, ground := Ground.guard }], guard := some (12, false) }) (v := ?vk13) rfl (by kernel_rfl) (by kernel_rfl) (by kernel_rfl) (fun _ _ _ h => h) (Or.inl ⟨by rfl, ?hyk13⟩) s7.out ?restk13
            case hyk13 => (intro w hSw; (try dsimp only at hSw); go_simp; try with_reducible rfl)
            try simp only [Act.put, List.setIfInBounds_toArray, List.set_cons_zero, List.set_cons_succ]
            refine wpAnyH_take (i := 15) (oi := { dst := some 112, op := Op.move (Operand.tmp 8), type := 49, pos := "law.go:168", after := #[{ on := 12, ground := Ground.guard }], guard := some (12, false) }) (v := ?vk15) rfl (by kernel_rfl) (by kernel_rfl) (by kernel_rfl) (fun _ _ _ h => h) (Or.inl ⟨by rfl, ?hyk15⟩) s7.out ?restk15
            case hyk15 => (intro w hSw; (try dsimp only at hSw); go_simp; try with_reducible rfl)
            try simp only [Act.put, List.setIfInBounds_toArray, List.set_cons_zero, List.set_cons_succ]
            refine wpAnyH_take (i := 16) (oi := { dst := some 113, op := Op.nilCheck (Operand.tmp 112), type := 0, pos := "law.go:168", after := #[{ on := 15, ground := Ground.data }, { on := 12, ground := Ground.guard }], guard := some (12, false) }) (v := ?vk16) rfl (by kernel_rfl) (by kernel_rfl) (by kernel_rfl) (fun _ _ _ h => h) (Or.inl ⟨by rfl, ?hyk16⟩) s7.out ?restk16
            case hyk16 => (intro w hSw; (try dsimp only at hSw); go_simp; try with_reducible rfl)
            try simp only [Act.put, List.setIfInBounds_toArray, List.set_cons_zero, List.set_cons_succ]
            refine wpAnyH_take (i := 17) (oi := { dst := some 114, op := Op.fieldAddr 51 (Operand.tmp 113) 1, type := 0, pos := "law.go:168", after := #[{ on := 16, ground := Ground.data }, { on := 12, ground := Ground.guard }], guard := some (12, false) }) (v := ?vk17) rfl (by kernel_rfl) (by kernel_rfl) (by kernel_rfl) (fun _ _ _ h => h) (Or.inl ⟨by rfl, ?hyk17⟩) s7.out ?restk17
            case hyk17 => (intro w hSw; (try dsimp only at hSw); go_simp; try with_reducible rfl)
            try simp only [Act.put, List.setIfInBounds_toArray, List.set_cons_zero, List.set_cons_succ]
            refine wpAnyH_take (i := 18) (oi := { dst := some 115, op := Op.load 3 (Operand.tmp 114), type := 3, pos := "law.go:168", after := #[{ on := 17, ground := Ground.data }, { on := 12, ground := Ground.guard }], guard := some (12, false) }) (v := ?vk18) rfl (by kernel_rfl) (by kernel_rfl) (by kernel_rfl) (fun _ _ _ h => h) (Or.inl ⟨by rfl, ?hyk18⟩) s7.out ?restk18
            case hyk18 => (intro w hSw; (try dsimp only at hSw); go_simp; try with_reducible rfl)
            try simp only [Act.put, List.setIfInBounds_toArray, List.set_cons_zero, List.set_cons_succ]
            refine wpAnyH_ready (rs := [14]) (by kernel_rfl) (by simp) ?_
            refine AllReadyH.cons (o := { dst := some 111, op := Op.call { callee := Callee.value (Operand.func 25), args := #[Operand.tmp 110], argTypes := #[47] }, type := 3, pos := "law.go:168", after := #[{ on := 13, ground := Ground.data }, { on := 12, ground := Ground.chain }, { on := 12, ground := Ground.guard }], guard := some (12, false) }) rfl (fun K hK => ?_) AllReadyH.nil
            go_simp
            (go_at_call 25; refine (at_k g _ _ B p7 _ HA7.out.pr.rd).mono ?_; rintro e w8 ⟨rfl, k8⟩; have HA8 : Hid (TS w w8 gr gL cL B l l l g G cap p7 u9 u10) := HA7.out.ok k8; clear k8; have s8 : Hid (((w8.cell? ⟨b, off + j * 2, none⟩ = some (.int .i64 Kj) ∧ w8.cell? ⟨b, off + j * 2 + 1, none⟩ = some (.int .i64 Nj)) ∧ w8.cell? ⟨gr, 0, none⟩ = some (.slice (some ⟨gL, 0, none⟩) T cL)) ∧ w8.cell? ⟨gr, 1, none⟩ = some (.int .i64 p7)) := ⟨⟨HE.out w8 HA8.out.k, gr_cell HA8.out.pr HT.out⟩, HA8.out.pr.rf.st.cell 1⟩)
            go_wp2_with fail
            refine hK.out _ _ s8.out (fun h8 => ?_)
            clear hK K
            try simp only [Act.put, List.setIfInBounds_toArray, List.set_cons_zero, List.set_cons_succ]
            clear h8
            refine wpAnyH_take (i := 19) (oi := { dst := some 116, op := Op.binOp BinOp.neq 3 (Operand.tmp 111) (Operand.tmp 115) 3, type := 4, pos := "law.go:168", after := #[{ on := 14, ground := Ground.data }, { on := 18, ground := Ground.data }, { on := 12, ground := Ground.guard }], guard := some (12, false) }) (v := ?vk19) rfl (by kernel_rfl) (by kernel_rfl) (by kernel_rfl) (fun _ _ _ h => h) (Or.inl ⟨by rfl, ?hyk19⟩) s8.out ?restk19
            case hyk19 => (intro w hSw; (try dsimp only at hSw); go_simp; try with_reducible rfl)
            try simp only [Act.put, List.setIfInBounds_toArray, List.set_cons_zero, List.set_cons_succ]
            refine wpAnyH_take (i := 20) (oi := { dst := some 117, op := Op.pick (Operand.tmp 109) (Operand.const (Value.bool true)) (Operand.tmp 116), type := 4, pos := "law.go:168", after := #[{ on := 12, ground := Ground.data }, { on := 19, ground := Ground.data }], guard := none }) (v := ?vk20) rfl (by kernel_rfl) (by kernel_rfl) (by kernel_rfl) (fun _ _ _ h => h) (Or.inl ⟨by rfl, ?hyk20⟩) s8.out ?restk20
            case hyk20 => (intro w hSw; (try dsimp only at hSw); go_simp; try with_reducible rfl)
            try simp only [Act.put, List.setIfInBounds_toArray, List.set_cons_zero, List.set_cons_succ]
            refine wpAnyH_take (i := 21) (oi := { dst := some 118, op := Op.move (Operand.tmp 117), type := 4, pos := "law.go:168", after := #[{ on := 20, ground := Ground.data }, { on := 14, ground := Ground.chain }], guard := none }) (v := ?vk21) rfl (by kernel_rfl) (by kernel_rfl) (by kernel_rfl) (fun _ _ _ h => h) (Or.inl ⟨by rfl, ?hyk21⟩) s8.out ?restk21
            case hyk21 => (intro w hSw; (try dsimp only at hSw); go_simp; try with_reducible rfl)
            try simp only [Act.put, List.setIfInBounds_toArray, List.set_cons_zero, List.set_cons_succ]
            refine wpAnyH_take (i := 22) (oi := { dst := some 119, op := Op.move (Operand.tmp 6), type := 47, pos := "law.go:168", after := #[{ on := 21, ground := Ground.guard }], guard := some (21, false) }) (v := ?vk22) rfl (by kernel_rfl) (by kernel_rfl) (by kernel_rfl) (fun _ _ _ h => h) (Or.inl ⟨by rfl, ?hyk22⟩) s8.out ?restk22
            case hyk22 => (intro w hSw; (try dsimp only at hSw); go_simp; try with_reducible rfl)
            try simp only [Act.put, List.setIfInBounds_toArray, List.set_cons_zero, List.set_cons_succ]
            refine wpAnyH_take (i := 24) (oi := { dst := some 121, op := Op.move (Operand.tmp 8), type := 49, pos := "law.go:168", after := #[{ on := 21, ground := Ground.guard }], guard := some (21, false) }) (v := ?vk24) rfl (by kernel_rfl) (by kernel_rfl) (by kernel_rfl) (fun _ _ _ h => h) (Or.inl ⟨by rfl, ?hyk24⟩) s8.out ?restk24
            case hyk24 => (intro w hSw; (try dsimp only at hSw); go_simp; try with_reducible rfl)
            try simp only [Act.put, List.setIfInBounds_toArray, List.set_cons_zero, List.set_cons_succ]
            refine wpAnyH_take (i := 25) (oi := { dst := some 122, op := Op.nilCheck (Operand.tmp 121), type := 0, pos := "law.go:168", after := #[{ on := 24, ground := Ground.data }, { on := 21, ground := Ground.guard }], guard := some (21, false) }) (v := ?vk25) rfl (by kernel_rfl) (by kernel_rfl) (by kernel_rfl) (fun _ _ _ h => h) (Or.inl ⟨by rfl, ?hyk25⟩) s8.out ?restk25
            case hyk25 => (intro w hSw; (try dsimp only at hSw); go_simp; try with_reducible rfl)
            try simp only [Act.put, List.setIfInBounds_toArray, List.set_cons_zero, List.set_cons_succ]
            refine wpAnyH_take (i := 26) (oi := { dst := some 123, op := Op.fieldAddr 51 (Operand.tmp 122) 0, type := 0, pos := "law.go:168", after := #[{ on := 25, ground := Ground.data }, { on := 21, ground := Ground.guard }], guard := some (21, false) }) (v := ?vk26) rfl (by kernel_rfl) (by kernel_rfl) (by kernel_rfl) (fun _ _ _ h => h) (Or.inl ⟨by rfl, ?hyk26⟩) s8.out ?restk26
            case hyk26 => (intro w hSw; (try dsimp only at hSw); go_simp; try with_reducible rfl)
            try simp only [Act.put, List.setIfInBounds_toArray, List.set_cons_zero, List.set_cons_succ]
            refine wpAnyH_take (i := 27) (oi := { dst := some 124, op := Op.load 26 (Operand.tmp 123), type := 26, pos := "law.go:168", after := #[{ on := 26, ground := Ground.data }, { on := 21, ground := Ground.guard }], guard := some (21, false) }) (v := ?vk27) rfl (by kernel_rfl) (by kernel_rfl) (by kernel_rfl) (fun _ _ _ h => h) (Or.inl ⟨by rfl, ?hyk27⟩) s8.out ?restk27
            case hyk27 => (intro w hSw; (try dsimp only at hSw); go_simp; try with_reducible rfl)
            try simp only [Act.put, List.setIfInBounds_toArray, List.set_cons_zero, List.set_cons_succ]
            refine wpAnyH_take (i := 28) (oi := { dst := some 125, op := Op.call { callee := Callee.builtin Builtin.len, args := #[Operand.tmp 124], argTypes := #[26] }, type := 3, pos := "law.go:168", after := #[{ on := 27, ground := Ground.data }, { on := 21, ground := Ground.guard }], guard := some (21, false) }) (v := ?vk28) rfl (by kernel_rfl) (by kernel_rfl) (by kernel_rfl) (fun _ _ _ h => h) (Or.inl ⟨by rfl, ?hyk28⟩) s8.out ?restk28
            case hyk28 => (intro w hSw; (try dsimp only at hSw); go_simp; try with_reducible rfl)
            try simp only [Act.put, List.setIfInBounds_toArray, List.set_cons_zero, List.set_cons_succ]
            refine wpAnyH_take (i := 29) (oi := { dst := some 126, op := Op.move (Operand.tmp 8), type := 49, pos := "law.go:168", after := #[{ on := 21, ground := Ground.guard }], guard := some (21, false) }) (v := ?vk29) rfl (by kernel_rfl) (by kernel_rfl) (by kernel_rfl) (fun _ _ _ h => h) (Or.inl ⟨by rfl, ?hyk29⟩) s8.out ?restk29
            case hyk29 => (intro w hSw; (try dsimp only at hSw); go_simp; try with_reducible rfl)
            try simp only [Act.put, List.setIfInBounds_toArray, List.set_cons_zero, List.set_cons_succ]
            refine wpAnyH_take (i := 30) (oi := { dst := some 127, op := Op.nilCheck (Operand.tmp 126), type := 0, pos := "law.go:168", after := #[{ on := 29, ground := Ground.data }, { on := 21, ground := Ground.guard }], guard := some (21, false) }) (v := ?vk30) rfl (by kernel_rfl) (by kernel_rfl) (by kernel_rfl) (fun _ _ _ h => h) (Or.inl ⟨by rfl, ?hyk30⟩) s8.out ?restk30
            case hyk30 => (intro w hSw; (try dsimp only at hSw); go_simp; try with_reducible rfl)
            try simp only [Act.put, List.setIfInBounds_toArray, List.set_cons_zero, List.set_cons_succ]
            refine wpAnyH_take (i := 31) (oi := { dst := some 128, op := Op.fieldAddr 51 (Operand.tmp 127) 1, type := 0, pos := "law.go:168", after := #[{ on := 30, ground := Ground.data }, { on := 21, ground := Ground.guard }], guard := some (21, false) }) (v := ?vk31) rfl (by kernel_rfl) (by kernel_rfl) (by kernel_rfl) (fun _ _ _ h => h) (Or.inl ⟨by rfl, ?hyk31⟩) s8.out ?restk31
            case hyk31 => (intro w hSw; (try dsimp only at hSw); go_simp; try with_reducible rfl)
            try simp only [Act.put, List.setIfInBounds_toArray, List.set_cons_zero, List.set_cons_succ]
            refine wpAnyH_take (i := 32) (oi := { dst := some 129, op := Op.load 3 (Operand.tmp 128), type := 3, pos := "law.go:168", after := #[{ on := 31, ground := Ground.data }, { on := 21, ground := Ground.guard }], guard := some (21, false) }) (v := ?vk32) rfl (by kernel_rfl) (by kernel_rfl) (by kernel_rfl) (fun _ _ _ h => h) (Or.inl ⟨by rfl, ?hyk32⟩) s8.out ?restk32
            case hyk32 => (intro w hSw; (try dsimp only at hSw); go_simp; try with_reducible rfl)
            try simp only [Act.put, List.setIfInBounds_toArray, List.set_cons_zero, List.set_cons_succ]
            refine wpAnyH_take (i := 33) (oi := { dst := some 130, op := Op.binOp BinOp.sub 3 (Operand.tmp 125) (Operand.tmp 129) 3, type := 3, pos := "law.go:168", after := #[{ on := 28, ground := Ground.data }, { on := 32, ground := Ground.data }, { on := 21, ground := Ground.guard }], guard := some (21, false) }) (v := ?vk33) rfl (by kernel_rfl) (by kernel_rfl) (by kernel_rfl) (fun _ _ _ h => h) (Or.inl ⟨by rfl, ?hyk33⟩) s8.out ?restk33
            case hyk33 => (intro w hSw; (try dsimp only at hSw); go_simp; try with_reducible rfl)
            try simp only [Act.put, List.setIfInBounds_toArray, List.set_cons_zero, List.set_cons_succ]
            refine wpAnyH_ready (rs := [23]) (by kernel_rfl) (by simp) ?_
            refine AllReadyH.cons (o := { dst := some 120, op := Op.call { callee := Callee.value (Operand.func 26), args := #[Operand.tmp 119], argTypes := #[47] }, type := 3, pos := "law.go:168", after := #[{ on := 22, ground := Ground.data }, { on := 21, ground := Ground.chain }, { on := 21, ground := Ground.guard }], guard := some (21, false) }) rfl (fun K hK => ?_) AllReadyH.nil
            go_simp
            (go_at_call 26; refine (left_q g _ _ B p7 q7 hq7e.out _ HA8.out.pr.rd).mono ?_; rintro e w9 ⟨rfl, k8⟩; have HA9 : Hid (TS w w9 gr gL cL B l l l g G cap p7 u9 u10) := HA8.out.ok k8; clear k8; have s9 : Hid (((w9.cell? ⟨b, off + j * 2, none⟩ = some (.int .i64 Kj) ∧ w9.cell? ⟨b, off + j * 2 + 1, none⟩ = some (.int .i64 Nj)) ∧ w9.cell? ⟨gr, 0, none⟩ = some (.slice (some ⟨gL, 0, none⟩) T cL)) ∧ w9.cell? ⟨gr, 1, none⟩ = some (.int .i64 p7)) := ⟨⟨HE.out w9 HA9.out.k, gr_cell HA9.out.pr HT.out⟩, HA9.out.pr.rf.st.cell 1⟩)
            go_wp2_with fail
            refine hK.out _ _ s9.out (fun h9 => ?_)
            clear hK K
            try simp only [Act.put, List.setIfInBounds_toArray, List.set_cons_zero, List.set_cons_succ]
            clear h9
            refine wpAnyH_take (i := 34) (oi := { dst := some 131, op := Op.binOp BinOp.neq 3 (Operand.tmp 120) (Operand.tmp 130) 3, type := 4, pos := "law.go:168", after := #[{ on := 23, ground := Ground.data }, { on := 33, ground := Ground.data }, { on := 21, ground := Ground.guard }], guard := some (21, false) }) (v := ?vk34) rfl (by kernel_rfl) (by kernel_rfl) (by kernel_rfl) (fun _ _ _ h => h) (Or.inl ⟨by rfl, ?hyk34⟩) s9.out ?restk34
            case hyk34 => (intro w hSw; (try dsimp only at hSw); go_simp; try with_reducible rfl)
            try simp only [Act.put, List.setIfInBounds_toArray, List.set_cons_zero, List.set_cons_succ]
            refine wpAnyH_take (i := 35) (oi := { dst := some 132, op := Op.pick (Operand.tmp 118) (Operand.const (Value.bool true)) (Operand.tmp 131), type := 4, pos := "law.go:168", after := #[{ on := 21, ground := Ground.data }, { on := 34, ground := Ground.data }], guard := none }) (v := ?vk35) rfl (by kernel_rfl) (by kernel_rfl) (by kernel_rfl) (fun _ _ _ h => h) (Or.inl ⟨by rfl, ?hyk35⟩) s9.out ?restk35
            case hyk35 => (intro w hSw; (try dsimp only at hSw); go_simp; try with_reducible rfl)
            try simp only [Act.put, List.setIfInBounds_toArray, List.set_cons_zero, List.set_cons_succ]
            refine wpAnyH_done (by kernel_rfl) ?_ _
            clear s7 s8 s9 HA7 HA8 HD
            go_wp2_with fail
            go_roundw
            case rel => exact ⟨j + 1, l, g, G, cap, p7, by omega, Nat.le_succ_of_le HLL.out, rfl, by go_num, HA9.out⟩
            case measure => simp [intOf]; omega
        · obtain ⟨ao9, co9, hov⟩ := H.out.l3.len1
          have H4 : Hid (L3 w wr gr gL cL B l p (.slice ao9 l.length co9) u10) := by rw [← hov]; exact H.out.l3
          have HP : Hid (p ≤ 8 * B.length) := by show _ ≤ _; exact H.out.pr.rf.hp
          rw [hov]
          have hll60 : l.length ≤ 60 := by have := HLL.out; omega
          clear H hov HLL
          go_wp2_with fail
          go_loopw [12, 13, 14, 15, 16, 17, 18, 19] (fun iv _ _ _ _ _ _ _ wq => ∃ i : Nat, i ≤ l.length ∧ iv = .int .i64 i ∧ L3 w wq gr gL cL B l p (.slice ao9 l.length co9) u10) (fun i _ _ _ _ _ _ _ _ => l.length - (intOf i).toNat)
          case atStart => exact ⟨0, Nat.zero_le _, rfl, H4.out⟩
          case round =>
            clear H4
            obtain ⟨i, hi, rfl, h3⟩ := hrel
            by_cases hil : i < l.length
            · obtain ⟨bo, co, bw, cw, e1, e2⟩ := h3.cells i hil
              cases e1
              have H5 : Hid (L3 w wr gr gL cL B l p (.slice (some ⟨bo, 0, none⟩) l.length co9) (.slice (some ⟨bw, 0, none⟩) l.length cw)) := by rw [← e2]; exact h3
              rw [e2]
              clear h3 e2
              have hq : l[i] ∈ l := List.getElem_mem hil
              have c11 := H5.out.cell1 i hil
              have HQ0 : ∀ wx, L3 w wx gr gL cL B l p (.slice (some ⟨bo, 0, none⟩) l.length co9) (.slice (some ⟨bw, 0, none⟩) l.length cw) → wx.cell? ⟨bo, i, none⟩ = some (.pointer (some ⟨(l[i]).1, 0, none⟩)) ∧ wx.cell? ⟨bw, i, none⟩ = some (.int .i64 ((l[i]).2.2.2 : Int)) := fun wx hx => ⟨hx.cell1 i hil, hx.cell2 i hil⟩
              generalize l[i] = q at hq c11 HQ0
              obtain ⟨qg, qG, qc, qp⟩ := q
              obtain ⟨X, hX⟩ : ∃ X : Nat, X = und 256 B / 2 ^ qp % 2 ^ 57 := ⟨_, rfl⟩
              have T1 : Hid (∀ wx, Rd wx qg (some ⟨qG, 0, none⟩) qc B qp → Calls Try.prog 27 #[.pointer (some ⟨qg, 0, none⟩), .int .i64 57] wx fun e w' => ∃ M : Nat, e = .returned (.tuple #[.int .u64 (X : Int), .int .i64 (M : Int), .int .i64 0]) ∧ Rd w' qg (some ⟨qG, 0, none⟩) qc B qp ∧ Kp (fun i => i = qg) wx w') := fun wx hx => by
                rw [hX]
                exact (peek_ok qg _ qc B qp 57 wx (by omega) hx).mono (fun e w' ⟨h1, h2⟩ => ⟨_, h1, h2⟩)
              have T2 : Hid (∀ wx g2, Rf wx g2 gL cL (und 256 B) (8 * B.length) qp → Calls Try.prog 28 #[.pointer (some ⟨g2, 0, none⟩), .int .i64 57] wx fun e w' => ∃ M : Nat, e = .returned (.tuple #[.int .u64 (X : Int), .int .i64 (M : Int), .int .i64 0]) ∧ Ok' wx w') := fun wx g2 hx => by
                rw [hX]
                exact (rpeek_n g2 gL cL _ _ qp 57 wx (by omega) hx).mono (fun e w' ⟨h1, h2⟩ => ⟨_, h1, h2⟩)
              clear hX
              have HQ : Hid (∀ wx, L3 w wx gr gL cL B l p (.slice (some ⟨bo, 0, none⟩) l.length co9) (.slice (some ⟨bw, 0, none⟩) l.length cw) → wx.cell? ⟨bo, i, none⟩ = some (.pointer (some ⟨qg, 0, none⟩)) ∧ wx.cell? ⟨bw, i, none⟩ = some (.int .i64 (qp : Int))) := HQ0
              have HR : Hid (∀ wx, L3 w wx gr gL cL B l p (.slice (some ⟨bo, 0, none⟩) l.length co9) (.slice (some ⟨bw, 0, none⟩) l.length cw) → Rd wx qg (some ⟨qG, 0, none⟩) qc B qp) := fun wx hx => hx.olds _ hq
              have HK : Hid (∀ wx wy, L3 w wx gr gL cL B l p (.slice (some ⟨bo, 0, none⟩) l.length co9) (.slice (some ⟨bw, 0, none⟩) l.length cw) → Kp (fun i => i = qg) wx wy → Rd wy qg (some ⟨qG, 0, none⟩) qc B qp → L3 w wy gr gL cL B l p (.slice (some ⟨bo, 0, none⟩) l.length co9) (.slice (some ⟨bw, 0, none⟩) l.length cw)) := fun wx wy hx kx hr => hx.peek hq kx hr
              clear hq HQ0
              go_wp2_with fail
              refine (T1.out wr (HR.out wr H5.out)).mono ?_
              rintro e wA ⟨M1, rfl, hrA, kA⟩
              have H6 : Hid (L3 w wA gr gL cL B l p (.slice (some ⟨bo, 0, none⟩) l.length co9) (.slice (some ⟨bw, 0, none⟩) l.length cw)) := HK.out wr wA H5.out kA hrA
              clear hrA kA H5 c11
              have cA0 : wA.cell? ⟨gr, 0, none⟩ = some (.slice (some ⟨gL, 0, none⟩) T cL) := by rw [HT.out]; exact H6.out.rf.st.cell 0
              obtain ⟨cA1, cA2⟩ := HQ.out wA H6.out
              have hAT : T ≤ cL ∧ gL < wA.heap.size := ⟨by rw [HT.out]; exact H6.out.rf.hcap, H6.out.gl⟩
              have HAT : Hid (T ≤ cL ∧ gL < wA.heap.size) := hAT
              clear hAT
              go_wp2_with fail
              go_region_held3 (fun w' => w'.cell? ⟨gr, 0, none⟩ = some (.slice (some ⟨gL, 0, none⟩) T cL) ∧ w'.cell? ⟨bw, i, none⟩ = some (.int .i64 (qp : Int))) (go_keep) (fail)
              go_wp2_with fail
              have RF : Rf (wA.alloc (.cells #[.slice (some ⟨gL, 0, none⟩) T cL, .int .i64 (qp : Int)] 51)).drew wA.heap.size gL cL (und 256 B) (8 * B.length) qp := by
                rw [HT.out]
                exact (rf_box wA gL cL (und 256 B) (8 * B.length) qp H6.out.rf.src HAT.out.2 H6.out.rf.hcap (HR.out wA H6.out).le H6.out.rf.hT H6.out.rf.hV).ok (Kp.refl _ _).drew
              refine (T2.out _ _ RF).mono ?_
              rintro e wB ⟨M2, rfl, kB⟩
              have H7 : Hid (L3 w wB gr gL cL B l p (.slice (some ⟨bo, 0, none⟩) l.length co9) (.slice (some ⟨bw, 0, none⟩) l.length cw)) := (H6.out.ok (((Kp.refl _ wA).alloc _).drew)).ok kB
              clear RF kB H6 cA0 cA1 cA2 HAT
              have H8 : Hid (L3 w wB.drew gr gL cL B l p (.slice (some ⟨bo, 0, none⟩) l.length co9) (.slice (some ⟨bw, 0, none⟩) l.length cw)) := H7.out.ok ((Kp.refl _ wB).drew)
              have s8 := HQ.out _ H8.out
              go_wp2_with fail
              go_region_held3 (fun w' => w'.cell? ⟨bo, i, none⟩ = some (.pointer (some ⟨qg, 0, none⟩)) ∧ w'.cell? ⟨bw, i, none⟩ = some (.int .i64 (qp : Int))) (first | (exact s9) | (exact s8)) (first | (go_at_call 25; refine (at_k qg _ _ B qp _ (HR.out _ H8.out)).mono ?_; rintro e wC ⟨rfl, kC⟩; have H9 : Hid (L3 w wC gr gL cL B l p (.slice (some ⟨bo, 0, none⟩) l.length co9) (.slice (some ⟨bw, 0, none⟩) l.length cw)) := H8.out.ok kC; clear kC; have s9 := HQ.out _ H9.out) | (go_at_call 16; refine (num_any _ _).mono ?_; rintro e w' ⟨rfl, rfl⟩))
              go_wp2_with fail
              go_roundw
              case rel => exact ⟨i + 1, by omega, by go_num, H9.out⟩
              case measure => simp [intOf]; omega
            · have k5 := h3.k
              clear h3
              go_wp2_with fail
              refine (nothing_any _).mono ?_
              rintro e w7 ⟨rfl, k7⟩
              go_wp2_with fail
              refine (works_any _).mono ?_
              rintro e w8 ⟨rfl, k8⟩
              go_wp2_with fail
              go_ret
              exact ⟨rfl, (k5.trans k7 (fun _ _ x => x)).trans k8 (fun _ _ x => x)⟩
end Go.Proofs.Ytfeokjbmobmabaa

