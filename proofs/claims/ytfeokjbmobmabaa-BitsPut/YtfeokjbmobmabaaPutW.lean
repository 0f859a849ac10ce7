/- The walk of BitsPut. -/
import Derived.Test.YtfeokjbmobmabaaPutK
import Derived.Deep.RegionHeld3
import Derived.Deep.CutRange
namespace Go.Proofs.Ytfeokjbmobmabaa
open Go.RowKit

theorem wpAnyH_strong {P : Program} {md : Region.Mode} {ops : Array Oper} {Q : Exit → Act → World → Prop} {S S' : World → Prop} (hS : ∀ w, S' w → S w) : ∀ (fuel : Nat) (listed : Array Bool) (a : Act) (w : World), wpAnyH P md ops Q S' fuel listed a w → wpAnyH P md ops Q S fuel listed a w
  | 0, _, _, _, h => h
  | fuel + 1, _, _, _, h => ⟨h.1, fun i hi => wpOp_mono (fun a' w' h' => ⟨hS _ h'.1, wpAnyH_strong hS fuel _ a' w' h'.2⟩) (h.2 i hi)⟩
theorem Hid.mk' {p : Prop} (h : p) : Hid p := h
theorem Stp.le {w w' : World} {g gl : Nat} {sl u : Value} {a b : Nat} (h : Stp w w' g gl sl u a) (hab : a ≤ b) : Stp w w' g gl sl u b := by
  obtain ⟨sl', u', N', v', h1, h2, h3⟩ := h
  exact ⟨sl', u', N', v', h1, Nat.le_trans h2 hab, h3⟩
theorem far_old {w0 w : World} {gl : Nat} {l lo lw : List OldW} {g : Nat} {sl u : Value} {N v M : Nat} {ov wv : Value} {aB : Option Addr} {B : List Int} (hs : Src w0 aB B) (h : PS w0 w gl l lo lw g sl u N v M ov wv) : 0 < B.length → ∀ b off, aB = some ⟨b, off, none⟩ → b ≠ g ∧ b ≠ gl ∧ sl.ownBlock ≠ some b ∧ b < w.heap.size := by
  intro hl b off e
  obtain ⟨b', off', e', hc⟩ := hs hl
  rw [e] at e'
  cases e'
  have hb := block_lt_of_cell (hc 0 hl)
  have hb : b < w0.heap.size := hb
  have := h.hg.1; have := h.hg.2.1; have := h.k.size
  exact ⟨by omega, by omega, fun e => (by have := h.hg.2.2 b e; omega), by omega⟩
theorem cell_ok' {w w' : World} {a : Addr} {v : Value} (k : Ok' w w') (h : w.cell? a = some v) : w'.cell? a = some v := (cell_ok k h).trans h

theorem wr_zero (w : World) : Wr (w.alloc (.cells #[.slice none 0 0, .int .u64 0, .int .i64 0] 29)) w.heap.size (.slice none 0 0) 0 0 :=
  ⟨by decide, heap_alloc_new w _, OwnI.nil _ _, by simp [Value.ownBlock]⟩
theorem ps_new {w wc : World} {g : Nat} (hg : w.heap.size ≤ g) (hw : Wr wc g (.slice none 0 0) 0 0) (kc : Ok' w wc) : PS w (wc.alloc (.cells #[.slice none 0 0] 26)) wc.heap.size [] [] [] g (.slice none 0 0) (.slice none 0 0) 0 0 (2400 * 0) (.slice none 0 0) (.slice none 0 0) :=
  ⟨⟨hw.ok ((Kp.refl _ wc).alloc _), heap_alloc_new wc _, OwnI.nil _ _, fun b e => by simp [Value.ownBlock] at e⟩, fun q hq => by simp at hq, fun q hq => by simp at hq, List.Pairwise.nil, ⟨Nat.zero_le _, fun q hq => by simp at hq⟩, ⟨hg, kc.size, fun b e => by simp [Value.ownBlock] at e⟩, fun q hq => by simp at hq, kc.alloc _, World.ownsRow_nil _ _ _ _, World.ownsRow_nil _ _ _ _⟩

set_option maxRecDepth 100000 in
set_option maxHeartbeats 4000000 in
theorem put_walk3 (a0 : Option Addr) (c0 L : Nat) (z : Bool) (K Ns : Nat → Int) (X : Nat → Nat) (A : Nat → Option Addr) (Bs : Nat → List Int) (C : Nat → Nat) (w : World) (hL : L ≤ 60) (hscr : Scr4 w a0 L K Ns X A Bs C) :
    Calls Try.prog 3 #[.slice a0 L c0, .bool z] w fun e w' => e = .returned (.bool true) ∧ Ok' w w' := by
  have HS : Hid (Scr4 w a0 L K Ns X A Bs C) := hscr
  clear hscr
  go_enter Try.func3, Try.ntmps3
  go_upto_if 17 with (go_at_call 9; refine (neww_any _).mono ?_; rintro e w1 ⟨rfl, hw1, k1⟩)
  go_cut [5] from 18 to 19 (fun s5 wx => ∃ g, s5 = .pointer (some ⟨g, 0, none⟩) ∧ w.heap.size ≤ g ∧ Wr wx g (.slice none 0 0) 0 0 ∧ Ok' w wx)
  case first =>
    cases z
    · go_wp2_with fail
      go_meet
      case rel => exact ⟨w.heap.size, rfl, Nat.le_refl _, hw1, k1⟩
    · go_wp2_with fail
      go_meet
      case rel => exact ⟨w1.heap.size, rfl, k1.size, wr_zero w1, k1.alloc _⟩
  case rest =>
    obtain ⟨g, rfl, hg, hw, kc⟩ := hcut
    go_wp2_with fail
    have H0 : Hid (PS w (wc.alloc (.cells #[.slice none 0 0] 26)) wc.heap.size [] [] [] g (.slice none 0 0) (.slice none 0 0) 0 0 (2400 * 0) (.slice none 0 0) (.slice none 0 0)) := ps_new hg hw kc
    clear hw kc hg
    generalize hgl : wc.heap.size = gl at H0 ⊢
    generalize wc.alloc (.cells #[.slice none 0 0] 26) = w6 at H0 ⊢
    clear hgl
    go_loopw [5, 7, 8, 9] (fun gv ov wv iv wr => ∃ (j : Nat) (l : List OldW) (g : Nat) (sl u : Value) (N v : Nat), j ≤ L ∧ l.length ≤ j ∧ gv = .pointer (some ⟨g, 0, none⟩) ∧ iv = .int .i64 j ∧ PS w wr gl l l l g sl u N v (2400 * j) ov wv) (fun _ _ _ i _ => L - (intOf i).toNat)
    case atStart => exact ⟨0, [], g, _, _, 0, 0, Nat.zero_le _, Nat.le_refl _, rfl, rfl, H0.out⟩
    case round =>
      clear H0
      obtain ⟨j, l, g, sl, u, N, v, hj, hll, rfl, rfl, hPS⟩ := hrel
      have H : Hid (PS w wr gl l l l g sl u N v (2400 * j) u7 u8) := hPS
      have HLL : Hid (l.length ≤ j) := hll
      clear hPS hll
      by_cases hjL : j < L
      · obtain ⟨b, off, rfl, hcell⟩ := HS.out (by omega)
        obtain ⟨⟨e1, e2, e3, e4⟩, hs1, hs2, hs3⟩ := hcell j hjL
        generalize K j = Kj at e1
        generalize Ns j = Nj at e2
        generalize X j = Xj at e3
        generalize A j = Aj at e4 hs1 hs3
        generalize Bs j = B at e4 hs1 hs2
        generalize C j = Cj at e4 hs3
        have HBB : Hid (Src w Aj B ∧ Byt B ∧ (Aj = none → Cj = 0)) := ⟨hs1, hs2, hs3⟩
        have HE : Hid (∀ wx, Ok' w wx → wx.cell? ⟨b, off + j * 4, none⟩ = some (.int .i64 Kj) ∧ wx.cell? ⟨b, off + j * 4 + 1, none⟩ = some (.int .i64 Nj) ∧ wx.cell? ⟨b, off + j * 4 + 2, none⟩ = some (.int .u64 (Xj : Int)) ∧ wx.cell? ⟨b, off + j * 4 + 3, none⟩ = some (.slice Aj B.length Cj)) := fun wx kx => ⟨cell_ok' kx e1, cell_ok' kx e2, cell_ok' kx e3, cell_ok' kx e4⟩
        obtain ⟨d1, _, _, d4⟩ := HE.out wr H.out.k
        clear e1 e2 e3 e4 hcell hs1 hs2 hs3
        by_cases hB3 : 300 < B.length
        · have kE := H.out.k
          clear H
          go_wp2_with fail
          refine (works_any _).mono ?_
          rintro e w8 ⟨rfl, k8⟩
          go_wp2_with fail
          go_ret
          exact ⟨rfl, kE.trans k8 (fun _ _ x => x)⟩
        · have hB : B.length ≤ 300 := by omega
          clear hB3
          obtain ⟨ao0, cap0, hu, _⟩ := H.out.cur.own.slice
          rw [dig_length] at hu
          subst hu
          by_cases h5 : Kj = 5
          · subst h5
            have c0' : wr.cell? ⟨gl, 0, none⟩ = some (.slice ao0 N cap0) := H.out.cur.st.cell 0
            go_wp2_with (first | (at_builtin; refine wpList_append_1 rfl (.tmp 40) (.tmp 42) 30 24 (.pointer none) (.pointer (some ⟨g, 0, none⟩)) 8 rfl Try.underlying30 info24 rfl (by decide) rfl w.heap.size u7 l.length (wps l) rfl H.out.ho rfl (by have := HLL.out; omega) H.out.k.size ?_; intro ov' w1 ho1 g1; have ho1' : w1.ownsRow w.heap.size 24 1 ov' (l.length + 1) (wps (l ++ [(g, sl, .slice ao0 N cap0, N, v)])) := (by rw [← wps_snoc]; exact ho1); have H1 : Hid (PS w w1 gl l (l ++ [(g, sl, .slice ao0 N cap0, N, v)]) l g sl (.slice ao0 N cap0) N v (2400 * j) ov' u8) := H.out.push1 g1 _ ho1'; clear ho1 ho1' g1; have c1 : w1.cell? ⟨gl, 0, none⟩ = some (.slice ao0 N cap0) := H1.out.cur.st.cell 0) | (at_builtin; refine wpList_append_1 rfl (.tmp 44) (.tmp 46) 31 26 (.slice none 0 0) (.slice ao0 N cap0) 24 rfl Try.underlying31 info26 rfl (by decide) rfl (gl + 1) u8 l.length (wus l) rfl H1.out.hw rfl (by have := HLL.out; omega) H1.out.cur.st.lt ?_; intro wv' w2 hw2 g2; have hw2' : w2.ownsRow (gl + 1) 26 1 wv' (l.length + 1) (wus (l ++ [(g, sl, .slice ao0 N cap0, N, v)])) := (by rw [← wus_snoc]; exact hw2); have H2 : Hid (PS w w2 gl l (l ++ [(g, sl, .slice ao0 N cap0, N, v)]) (l ++ [(g, sl, .slice ao0 N cap0, N, v)]) g sl (.slice ao0 N cap0) N v (2400 * j) ov' wv') := H1.out.push2 g2 _ hw2'; clear hw2 hw2' g2))
            refine (copyW_any g sl N v w2 (by have := H2.out.hM.1; omega) H2.out.cur.wr).mono ?_
            rintro e w3 ⟨g', sl', rfl, hg', hsl', hr', k3⟩
            obtain ⟨l', hl'⟩ : ∃ l', l' = l ++ [(g, sl, .slice ao0 N cap0, N, v)] := ⟨_, rfl⟩
            have H3 : Hid (PS w w3 gl l' l' l' g' sl' (.slice ao0 N cap0) N v (2400 * j) ov' wv') := by rw [hl']; exact H2.out.copy k3 hg' hsl' hr'
            have HLL2 : Hid (l'.length ≤ j + 1) := by show _ ≤ _; rw [hl']; simp; exact HLL.out
            clear hl' hg' hsl' hr' k3 H1 H2 c1 c0' d1 d4
            go_wp2_with fail
            have HD : Hid (PS w w3.drew gl l' l' l' g' sl' (.slice ao0 N cap0) N v (2400 * j) ov' wv') := H3.out.ok ((Kp.refl _ w3).drew)
            have hstep := step_any g' gl sl' (.slice ao0 N cap0) N v 5 Nj Xj Aj B Cj w3.drew HD.out.cur (by have := HD.out.hM.1; omega) hB HBB.out.2.1 (src_if HBB.out.1 HD.out.k (fun _ _ _ _ x => x)) HBB.out.2.2 (far_old HBB.out.1 HD.out)
            have HSTEP := Hid.mk' hstep
            clear hstep
            refine wp_region_held_drew (S := (fun w' => (w'.cell? ⟨b, off + j * 4, none⟩ = some (.int .i64 5) ∧ w'.cell? ⟨b, off + j * 4 + 1, none⟩ = some (.int .i64 Nj) ∧ w'.cell? ⟨b, off + j * 4 + 2, none⟩ = some (.int .u64 (Xj : Int)) ∧ w'.cell? ⟨b, off + j * 4 + 3, none⟩ = some (.slice Aj B.length Cj)))) (by kernel_rfl) (HE.out w3.drew HD.out.k) (fun h0 => ?_)
            refine wpAnyH_take (i := 0) (oi := { dst := some 50, op := Op.move (Operand.tmp 5), type := 24, pos := "law.go:97", after := #[], guard := none }) (v := ?va0) rfl (by kernel_rfl) (by kernel_rfl) (by kernel_rfl) (fun _ _ _ h => h) (Or.inl ⟨by rfl, ?hya0⟩) h0 ?resta0
            case hya0 => (intro w hSw; (try dsimp only at hSw); go_simp; try with_reducible rfl)
            try simp only [Act.put, List.setIfInBounds_toArray, List.set_cons_zero, List.set_cons_succ]
            refine wpAnyH_take (i := 1) (oi := { dst := some 51, op := Op.binOp BinOp.eql 24 (Operand.tmp 50) (Operand.const (Value.pointer none)) 24, type := 4, pos := "law.go:97", after := #[{ on := 0, ground := Ground.data }], guard := none }) (v := ?va1) rfl (by kernel_rfl) (by kernel_rfl) (by kernel_rfl) (fun _ _ _ h => h) (Or.inl ⟨by rfl, ?hya1⟩) h0 ?resta1
            case hya1 => (intro w hSw; (try dsimp only at hSw); go_simp; try with_reducible rfl)
            try simp only [Act.put, List.setIfInBounds_toArray, List.set_cons_zero, List.set_cons_succ]
            refine wpAnyH_take (i := 2) (oi := { dst := some 52, op := Op.move (Operand.tmp 51), type := 4, pos := "law.go:97", after := #[{ on := 1, ground := Ground.data }], guard := none }) (v := ?va2) rfl (by kernel_rfl) (by kernel_rfl) (by kernel_rfl) (fun _ _ _ h => h) (Or.inl ⟨by rfl, ?hya2⟩) h0 ?resta2
            case hya2 => (intro w hSw; (try dsimp only at hSw); go_simp; try with_reducible rfl)
            try simp only [Act.put, List.setIfInBounds_toArray, List.set_cons_zero, List.set_cons_succ]
            refine wpAnyH_take (i := 3) (oi := { dst := some 53, op := Op.move (Operand.tmp 5), type := 24, pos := "law.go:97", after := #[{ on := 2, ground := Ground.guard }], guard := some (2, false) }) (v := ?va3) rfl (by kernel_rfl) (by kernel_rfl) (by kernel_rfl) (fun _ _ _ h => h) (Or.inl ⟨by rfl, ?hya3⟩) h0 ?resta3
            case hya3 => (intro w hSw; (try dsimp only at hSw); go_simp; try with_reducible rfl)
            try simp only [Act.put, List.setIfInBounds_toArray, List.set_cons_zero, List.set_cons_succ]
            refine wpAnyH_take (i := 4) (oi := { dst := some 54, op := Op.move (Operand.tmp 0), type := 22, pos := "law.go:97", after := #[{ on := 2, ground := Ground.guard }], guard := some (2, false) }) (v := ?va4) rfl (by kernel_rfl) (by kernel_rfl) (by kernel_rfl) (fun _ _ _ h => h) (Or.inl ⟨by rfl, ?hya4⟩) h0 ?resta4
            case hya4 => (intro w hSw; (try dsimp only at hSw); go_simp; try with_reducible rfl)
            try simp only [Act.put, List.setIfInBounds_toArray, List.set_cons_zero, List.set_cons_succ]
            refine wpAnyH_take (i := 5) (oi := { dst := some 55, op := Op.move (Operand.tmp 9), type := 3, pos := "law.go:97", after := #[{ on := 2, ground := Ground.guard }], guard := some (2, false) }) (v := ?va5) rfl (by kernel_rfl) (by kernel_rfl) (by kernel_rfl) (fun _ _ _ h => h) (Or.inl ⟨by rfl, ?hya5⟩) h0 ?resta5
            case hya5 => (intro w hSw; (try dsimp only at hSw); go_simp; try with_reducible rfl)
            try simp only [Act.put, List.setIfInBounds_toArray, List.set_cons_zero, List.set_cons_succ]
            refine wpAnyH_take (i := 6) (oi := { dst := some 56, op := Op.indexAddr 22 (Operand.tmp 54) (Operand.tmp 55), type := 0, pos := "law.go:97", after := #[{ on := 4, ground := Ground.data }, { on := 5, ground := Ground.data }, { on := 2, ground := Ground.guard }], guard := some (2, false) }) (v := ?va6) rfl (by kernel_rfl) (by kernel_rfl) (by kernel_rfl) (fun _ _ _ h => h) (Or.inl ⟨by rfl, ?hya6⟩) h0 ?resta6
            case hya6 => (intro w hSw; (try dsimp only at hSw); go_simp; try with_reducible rfl)
            try simp only [Act.put, List.setIfInBounds_toArray, List.set_cons_zero, List.set_cons_succ]
            refine wpAnyH_take (i := 7) (oi := { dst := some 57, op := Op.load 33 (Operand.tmp 56), type := 33, pos := "law.go:97", after := #[{ on := 6, ground := Ground.data }, { on := 2, ground := Ground.guard }], guard := some (2, false) }) (v := ?va7) rfl (by kernel_rfl) (by kernel_rfl) (by kernel_rfl) (fun _ _ _ h => h) (Or.inl ⟨by rfl, ?hya7⟩) h0 ?resta7
            case hya7 => (intro w hSw; (try dsimp only at hSw); go_simp; try with_reducible rfl)
            try simp only [Act.put, List.setIfInBounds_toArray, List.set_cons_zero, List.set_cons_succ]
            refine wpAnyH_ready (rs := [8]) (by kernel_rfl) (by simp) ?_
            refine AllReadyH.cons (o := { dst := some 58, op := Op.call { callee := Callee.value (Operand.func 11), args := #[Operand.tmp 53, Operand.tmp 6, Operand.tmp 57], argTypes := #[24, 35, 33] }, type := 4, pos := "law.go:97", after := #[{ on := 3, ground := Ground.data }, { on := 7, ground := Ground.data }, { on := 2, ground := Ground.chain }, { on := 2, ground := Ground.guard }], guard := some (2, false) }) rfl (fun K hK => ?_) AllReadyH.nil
            go_simp
            (go_at_call 11; refine HSTEP.out.mono ?_; rintro e w7 ⟨rfl, hs⟩; obtain ⟨sl7, u7, N7, v7, hPS⟩ := HD.out.step (hs.le (b := 2400 * (j + 1)) (by have := HD.out.hM.1; omega)) (by omega); obtain ⟨ao7, cap7, MB, zs, hu7, hzl, T12, T14, T15⟩ := hPS.cur.ow.tell (by have := hPS.hM.1; omega); subst hu7; have H7 : Hid (PS w w7 gl l' l' l' g' sl7 (.slice ao7 N7 cap7) N7 v7 (2400 * (j + 1)) ov' wv') := hPS; have s7 : Hid (((w7.cell? ⟨b, off + j * 4, none⟩ = some (.int .i64 5) ∧ w7.cell? ⟨b, off + j * 4 + 1, none⟩ = some (.int .i64 Nj) ∧ w7.cell? ⟨b, off + j * 4 + 2, none⟩ = some (.int .u64 (Xj : Int)) ∧ w7.cell? ⟨b, off + j * 4 + 3, none⟩ = some (.slice Aj B.length Cj)) ∧ w7.cell? ⟨gl, 0, none⟩ = some (.slice ao7 N7 cap7))) := ⟨HE.out w7 H7.out.k, H7.out.cur.st.cell 0⟩; have HZL := Hid.mk' hzl; have HT12 := Hid.mk' T12; have HT14 := Hid.mk' T14; have HT15 := Hid.mk' T15; clear hs hPS hzl T12 T14 T15)
            go_wp2_with fail
            refine hK.out _ _ s7.out.1 (fun h7 => ?_)
            clear hK K
            try simp only [Act.put, List.setIfInBounds_toArray, List.set_cons_zero, List.set_cons_succ]
            clear h0 h7
            refine wpAnyH_strong (S' := (fun w' => ((w'.cell? ⟨b, off + j * 4, none⟩ = some (.int .i64 5) ∧ w'.cell? ⟨b, off + j * 4 + 1, none⟩ = some (.int .i64 Nj) ∧ w'.cell? ⟨b, off + j * 4 + 2, none⟩ = some (.int .u64 (Xj : Int)) ∧ w'.cell? ⟨b, off + j * 4 + 3, none⟩ = some (.slice Aj B.length Cj)) ∧ w'.cell? ⟨gl, 0, none⟩ = some (.slice ao7 N7 cap7)))) (fun w h => h.1) _ _ _ _ ?_
            refine wpAnyH_take (i := 9) (oi := { dst := some 59, op := Op.unOp UnOp.not 4 (Operand.tmp 58), type := 4, pos := "law.go:97", after := #[{ on := 8, ground := Ground.data }, { on := 2, ground := Ground.guard }], guard := some (2, false) }) (v := ?va9) rfl (by kernel_rfl) (by kernel_rfl) (by kernel_rfl) (fun _ _ _ h => h) (Or.inl ⟨by rfl, ?hya9⟩) s7.out ?resta9
            case hya9 => (intro w hSw; (try dsimp only at hSw); go_simp; try with_reducible rfl)
            try simp only [Act.put, List.setIfInBounds_toArray, List.set_cons_zero, List.set_cons_succ]
            refine wpAnyH_take (i := 10) (oi := { dst := some 60, op := Op.pick (Operand.tmp 52) (Operand.const (Value.bool true)) (Operand.tmp 59), type := 4, pos := "law.go:97", after := #[{ on := 2, ground := Ground.data }, { on := 9, ground := Ground.data }], guard := none }) (v := ?va10) rfl (by kernel_rfl) (by kernel_rfl) (by kernel_rfl) (fun _ _ _ h => h) (Or.inl ⟨by rfl, ?hya10⟩) s7.out ?resta10
            case hya10 => (intro w hSw; (try dsimp only at hSw); go_simp; try with_reducible rfl)
            try simp only [Act.put, List.setIfInBounds_toArray, List.set_cons_zero, List.set_cons_succ]
            refine wpAnyH_take (i := 11) (oi := { dst := some 61, op := Op.move (Operand.tmp 60), type := 4, pos := "law.go:97", after := #[{ on := 10, ground := Ground.data }, { on := 8, ground := Ground.chain }], guard := none }) (v := ?va11) rfl (by kernel_rfl) (by kernel_rfl) (by kernel_rfl) (fun _ _ _ h => h) (Or.inl ⟨by rfl, ?hya11⟩) s7.out ?resta11
            case hya11 => (intro w hSw; (try dsimp only at hSw); go_simp; try with_reducible rfl)
            try simp only [Act.put, List.setIfInBounds_toArray, List.set_cons_zero, List.set_cons_succ]
            refine wpAnyH_take (i := 12) (oi := { dst := some 62, op := Op.move (Operand.tmp 5), type := 24, pos := "law.go:97", after := #[{ on := 11, ground := Ground.guard }], guard := some (11, false) }) (v := ?va12) rfl (by kernel_rfl) (by kernel_rfl) (by kernel_rfl) (fun _ _ _ h => h) (Or.inl ⟨by rfl, ?hya12⟩) s7.out ?resta12
            case hya12 => (intro w hSw; (try dsimp only at hSw); go_simp; try with_reducible rfl)
            try simp only [Act.put, List.setIfInBounds_toArray, List.set_cons_zero, List.set_cons_succ]
            refine wpAnyH_take (i := 14) (oi := { dst := some 64, op := Op.load 26 (Operand.tmp 6), type := 26, pos := "law.go:97", after := #[{ on := 11, ground := Ground.guard }], guard := some (11, false) }) (v := ?va14) rfl (by kernel_rfl) (by kernel_rfl) (by kernel_rfl) (fun _ _ _ h => h) (Or.inl ⟨by rfl, ?hya14⟩) s7.out ?resta14
            case hya14 => (intro w hSw; (try dsimp only at hSw); go_simp; try with_reducible rfl)
            try simp only [Act.put, List.setIfInBounds_toArray, List.set_cons_zero, List.set_cons_succ]
            refine wpAnyH_take (i := 15) (oi := { dst := some 65, op := Op.call { callee := Callee.builtin Builtin.len, args := #[Operand.tmp 64], argTypes := #[26] }, type := 3, pos := "law.go:97", after := #[{ on := 14, ground := Ground.data }, { on := 11, ground := Ground.guard }], guard := some (11, false) }) (v := ?va15) rfl (by kernel_rfl) (by kernel_rfl) (by kernel_rfl) (fun _ _ _ h => h) (Or.inl ⟨by rfl, ?hya15⟩) s7.out ?resta15
            case hya15 => (intro w hSw; (try dsimp only at hSw); go_simp; try with_reducible rfl)
            try simp only [Act.put, List.setIfInBounds_toArray, List.set_cons_zero, List.set_cons_succ]
            refine wpAnyH_ready (rs := [13]) (by kernel_rfl) (by simp) ?_
            refine AllReadyH.cons (o := { dst := some 63, op := Op.call { callee := Callee.value (Operand.func 12), args := #[Operand.tmp 62], argTypes := #[24] }, type := 3, pos := "law.go:97", after := #[{ on := 12, ground := Ground.data }, { on := 11, ground := Ground.chain }, { on := 11, ground := Ground.guard }], guard := some (11, false) }) rfl (fun K hK => ?_) AllReadyH.nil
            go_simp
            (go_at_call 12; refine (HT12.out _ H7.out.cur.ow).mono ?_; rintro e w8 ⟨rfl, k8⟩; have H8 : Hid (PS w w8 gl l' l' l' g' sl7 (.slice ao7 N7 cap7) N7 v7 (2400 * (j + 1)) ov' wv') := H7.out.ok k8; have sH8 : Hid (((w8.cell? ⟨b, off + j * 4, none⟩ = some (.int .i64 5) ∧ w8.cell? ⟨b, off + j * 4 + 1, none⟩ = some (.int .i64 Nj) ∧ w8.cell? ⟨b, off + j * 4 + 2, none⟩ = some (.int .u64 (Xj : Int)) ∧ w8.cell? ⟨b, off + j * 4 + 3, none⟩ = some (.slice Aj B.length Cj)) ∧ w8.cell? ⟨gl, 0, none⟩ = some (.slice ao7 N7 cap7))) := ⟨HE.out w8 H8.out.k, H8.out.cur.st.cell 0⟩; clear k8)
            go_wp2_with fail
            refine hK.out _ _ sH8.out (fun h8 => ?_)
            clear hK K
            try simp only [Act.put, List.setIfInBounds_toArray, List.set_cons_zero, List.set_cons_succ]
            clear h8
            refine wpAnyH_take (i := 16) (oi := { dst := some 66, op := Op.binOp BinOp.neq 3 (Operand.tmp 63) (Operand.tmp 65) 3, type := 4, pos := "law.go:97", after := #[{ on := 13, ground := Ground.data }, { on := 15, ground := Ground.data }, { on := 11, ground := Ground.guard }], guard := some (11, false) }) (v := ?va16) rfl (by kernel_rfl) (by kernel_rfl) (by kernel_rfl) (fun _ _ _ h => h) (Or.inl ⟨by rfl, ?hya16⟩) sH8.out ?resta16
            case hya16 => (intro w hSw; (try dsimp only at hSw); go_simp; try with_reducible rfl)
            try simp only [Act.put, List.setIfInBounds_toArray, List.set_cons_zero, List.set_cons_succ]
            refine wpAnyH_take (i := 17) (oi := { dst := some 67, op := Op.pick (Operand.tmp 61) (Operand.const (Value.bool true)) (Operand.tmp 66), type := 4, pos := "law.go:97", after := #[{ on := 11, ground := Ground.data }, { on := 16, ground := Ground.data }], guard := none }) (v := ?va17) rfl (by kernel_rfl) (by kernel_rfl) (by kernel_rfl) (fun _ _ _ h => h) (Or.inl ⟨by rfl, ?hya17⟩) sH8.out ?resta17
            case hya17 => (intro w hSw; (try dsimp only at hSw); go_simp; try with_reducible rfl)
            try simp only [Act.put, List.setIfInBounds_toArray, List.set_cons_zero, List.set_cons_succ]
            refine wpAnyH_take (i := 18) (oi := { dst := some 68, op := Op.move (Operand.tmp 67), type := 4, pos := "law.go:97", after := #[{ on := 17, ground := Ground.data }, { on := 13, ground := Ground.chain }], guard := none }) (v := ?va18) rfl (by kernel_rfl) (by kernel_rfl) (by kernel_rfl) (fun _ _ _ h => h) (Or.inl ⟨by rfl, ?hya18⟩) sH8.out ?resta18
            case hya18 => (intro w hSw; (try dsimp only at hSw); go_simp; try with_reducible rfl)
            try simp only [Act.put, List.setIfInBounds_toArray, List.set_cons_zero, List.set_cons_succ]
            refine wpAnyH_take (i := 19) (oi := { dst := some 69, op := Op.move (Operand.tmp 5), type := 24, pos := "law.go:97", after := #[{ on := 18, ground := Ground.guard }], guard := some (18, false) }) (v := ?va19) rfl (by kernel_rfl) (by kernel_rfl) (by kernel_rfl) (fun _ _ _ h => h) (Or.inl ⟨by rfl, ?hya19⟩) sH8.out ?resta19
            case hya19 => (intro w hSw; (try dsimp only at hSw); go_simp; try with_reducible rfl)
            try simp only [Act.put, List.setIfInBounds_toArray, List.set_cons_zero, List.set_cons_succ]
            refine wpAnyH_take (i := 21) (oi := { dst := some 71, op := Op.load 26 (Operand.tmp 6), type := 26, pos := "law.go:97", after := #[{ on := 18, ground := Ground.guard }], guard := some (18, false) }) (v := ?va21) rfl (by kernel_rfl) (by kernel_rfl) (by kernel_rfl) (fun _ _ _ h => h) (Or.inl ⟨by rfl, ?hya21⟩) sH8.out ?resta21
            case hya21 => (intro w hSw; (try dsimp only at hSw); go_simp; try with_reducible rfl)
            try simp only [Act.put, List.setIfInBounds_toArray, List.set_cons_zero, List.set_cons_succ]
            refine wpAnyH_ready (rs := [20]) (by kernel_rfl) (by simp) ?_
            refine AllReadyH.cons (o := { dst := some 70, op := Op.call { callee := Callee.value (Operand.func 14), args := #[Operand.tmp 69], argTypes := #[24] }, type := 26, pos := "law.go:97", after := #[{ on := 19, ground := Ground.data }, { on := 18, ground := Ground.chain }, { on := 18, ground := Ground.guard }], guard := some (18, false) }) rfl (fun K hK => ?_) AllReadyH.nil
            go_simp
            (go_at_call 14; refine (HT14.out _ H8.out.cur.ow).mono ?_; rintro e w9 ⟨G9, rfl, sG9, k9⟩; have H9 : Hid (PS w w9 gl l' l' l' g' sl7 (.slice ao7 N7 cap7) N7 v7 (2400 * (j + 1)) ov' wv') := H8.out.ok k9; have sH9 : Hid (((w9.cell? ⟨b, off + j * 4, none⟩ = some (.int .i64 5) ∧ w9.cell? ⟨b, off + j * 4 + 1, none⟩ = some (.int .i64 Nj) ∧ w9.cell? ⟨b, off + j * 4 + 2, none⟩ = some (.int .u64 (Xj : Int)) ∧ w9.cell? ⟨b, off + j * 4 + 3, none⟩ = some (.slice Aj B.length Cj)) ∧ w9.cell? ⟨gl, 0, none⟩ = some (.slice ao7 N7 cap7))) := ⟨HE.out w9 H9.out.k, H9.out.cur.st.cell 0⟩; clear k9)
            go_wp2_with fail
            refine hK.out _ _ sH9.out (fun h9 => ?_)
            clear hK K
            try simp only [Act.put, List.setIfInBounds_toArray, List.set_cons_zero, List.set_cons_succ]
            clear h9
            refine wpAnyH_ready (rs := [22]) (by kernel_rfl) (by simp) ?_
            refine AllReadyH.cons (o := { dst := some 72, op := Op.call { callee := Callee.value (Operand.func 15), args := #[Operand.tmp 71], argTypes := #[26] }, type := 26, pos := "law.go:97", after := #[{ on := 21, ground := Ground.data }, { on := 20, ground := Ground.chain }, { on := 18, ground := Ground.guard }], guard := some (18, false) }) rfl (fun K hK => ?_) AllReadyH.nil
            go_simp
            (go_at_call 15; refine (HT15.out _ H9.out.cur.ow).mono ?_; rintro e wA ⟨aA, cA, rfl, sA, kA⟩; have HA : Hid (PS w wA gl l' l' l' g' sl7 (.slice ao7 N7 cap7) N7 v7 (2400 * (j + 1)) ov' wv') := H9.out.ok kA; have sHA : Hid (((wA.cell? ⟨b, off + j * 4, none⟩ = some (.int .i64 5) ∧ wA.cell? ⟨b, off + j * 4 + 1, none⟩ = some (.int .i64 Nj) ∧ wA.cell? ⟨b, off + j * 4 + 2, none⟩ = some (.int .u64 (Xj : Int)) ∧ wA.cell? ⟨b, off + j * 4 + 3, none⟩ = some (.slice Aj B.length Cj)) ∧ wA.cell? ⟨gl, 0, none⟩ = some (.slice ao7 N7 cap7))) := ⟨HE.out wA HA.out.k, HA.out.cur.st.cell 0⟩; have sGA := sG9.kp kA (fun _ _ _ x => x); clear kA sG9)
            go_wp2_with fail
            refine hK.out _ _ sHA.out (fun hA => ?_)
            clear hK K
            try simp only [Act.put, List.setIfInBounds_toArray, List.set_cons_zero, List.set_cons_succ]
            clear hA
            refine wpAnyH_ready (rs := [23]) (by kernel_rfl) (by simp) ?_
            refine AllReadyH.cons (o := { dst := some 73, op := Op.call { callee := Callee.value (Operand.func 13), args := #[Operand.tmp 70, Operand.tmp 72], argTypes := #[26, 26] }, type := 4, pos := "law.go:97", after := #[{ on := 20, ground := Ground.data }, { on := 22, ground := Ground.data }, { on := 22, ground := Ground.chain }, { on := 18, ground := Ground.guard }], guard := some (18, false) }) rfl (fun K hK => ?_) AllReadyH.nil
            go_simp
            (go_at_call 13; refine (same_eq (some ⟨G9, 0, none⟩) aA MB cA MB zs _ HZL.out sGA sA).mono ?_; rintro e w' ⟨rfl, rfl⟩)
            go_wp2_with fail
            refine hK.out _ _ sHA.out (fun hB2 => ?_)
            clear hK K
            try simp only [Act.put, List.setIfInBounds_toArray, List.set_cons_zero, List.set_cons_succ]
            clear hB2 sGA sA
            refine wpAnyH_take (i := 24) (oi := { dst := some 74, op := Op.unOp UnOp.not 4 (Operand.tmp 73), type := 4, pos := "law.go:97", after := #[{ on := 23, ground := Ground.data }, { on := 18, ground := Ground.guard }], guard := some (18, false) }) (v := ?va24) rfl (by kernel_rfl) (by kernel_rfl) (by kernel_rfl) (fun _ _ _ h => h) (Or.inl ⟨by rfl, ?hya24⟩) sHA.out ?resta24
            case hya24 => (intro w hSw; (try dsimp only at hSw); go_simp; try with_reducible rfl)
            try simp only [Act.put, List.setIfInBounds_toArray, List.set_cons_zero, List.set_cons_succ]
            refine wpAnyH_take (i := 25) (oi := { dst := some 75, op := Op.pick (Operand.tmp 68) (Operand.const (Value.bool true)) (Operand.tmp 74), type := 4, pos := "law.go:97", after := #[{ on := 18, ground := Ground.data }, { on := 24, ground := Ground.data }], guard := none }) (v := ?va25) rfl (by kernel_rfl) (by kernel_rfl) (by kernel_rfl) (fun _ _ _ h => h) (Or.inl ⟨by rfl, ?hya25⟩) sHA.out ?resta25
            case hya25 => (intro w hSw; (try dsimp only at hSw); go_simp; try with_reducible rfl)
            try simp only [Act.put, List.setIfInBounds_toArray, List.set_cons_zero, List.set_cons_succ]
            refine wpAnyH_done (by kernel_rfl) ?_ _
            clear s7 sH8 sH9 sHA H7 H8 H9 HD HT12 HT14 HT15 HSTEP
            go_wp2_with fail
            go_roundw
            case rel => exact ⟨j + 1, l', g', sl7, (.slice ao7 N7 cap7), N7, v7, by omega, HLL2.out, rfl, by go_num, HA.out⟩
            case measure => simp [intOf]; omega
          · have h5' : (Kj == 5) = false := by simpa using h5
            go_wp2_with fail
            clear d1 d4
            have HD : Hid (PS w wr.drew gl l l l g sl (.slice ao0 N cap0) N v (2400 * j) u7 u8) := H.out.ok ((Kp.refl _ wr).drew)
            have hstep := step_any g gl sl (.slice ao0 N cap0) N v Kj Nj Xj Aj B Cj wr.drew HD.out.cur (by have := HD.out.hM.1; omega) hB HBB.out.2.1 (src_if HBB.out.1 HD.out.k (fun _ _ _ _ x => x)) HBB.out.2.2 (far_old HBB.out.1 HD.out)
            have HSTEP := Hid.mk' hstep
            clear hstep
            refine wp_region_held_drew (S := (fun w' => (w'.cell? ⟨b, off + j * 4, none⟩ = some (.int .i64 Kj) ∧ w'.cell? ⟨b, off + j * 4 + 1, none⟩ = some (.int .i64 Nj) ∧ w'.cell? ⟨b, off + j * 4 + 2, none⟩ = some (.int .u64 (Xj : Int)) ∧ w'.cell? ⟨b, off + j * 4 + 3, none⟩ = some (.slice Aj B.length Cj)))) (by kernel_rfl) (HE.out wr.drew HD.out.k) (fun h0 => ?_)
            refine wpAnyH_take (i := 0) (oi := { dst := some 50, op := Op.move (Operand.tmp 5), type := 24, pos := "law.go:97", after := #[], guard := none }) (v := ?vb0) rfl (by kernel_rfl) (by kernel_rfl) (by kernel_rfl) (fun _ _ _ h => h) (Or.inl ⟨by rfl, ?hyb0⟩) h0 ?restb0
            case hyb0 => (intro w hSw; (try dsimp only at hSw); go_simp; try with_reducible rfl)
            try simp only [Act.put, List.setIfInBounds_toArray, List.set_cons_zero, List.set_cons_succ]
            refine wpAnyH_take (i := 1) (oi := { dst := some 51, op := Op.binOp BinOp.eql 24 (Operand.tmp 50) (Operand.const (Value.pointer none)) 24, type := 4, pos := "law.go:97", after := #[{ on := 0, ground := Ground.data }], guard := none }) (v := ?vb1) rfl (by kernel_rfl) (by kernel_rfl) (by kernel_rfl) (fun _ _ _ h => h) (Or.inl ⟨by rfl, ?hyb1⟩) h0 ?restb1
            case hyb1 => (intro w hSw; (try dsimp only at hSw); go_simp; try with_reducible rfl)
            try simp only [Act.put, List.setIfInBounds_toArray, List.set_cons_zero, List.set_cons_succ]
            refine wpAnyH_take (i := 2) (oi := { dst := some 52, op := Op.move (Operand.tmp 51), type := 4, pos := "law.go:97", after := #[{ on := 1, ground := Ground.data }], guard := none }) (v := ?vb2) rfl (by kernel_rfl) (by kernel_rfl) (by kernel_rfl) (fun _ _ _ h => h) (Or.inl ⟨by rfl, ?hyb2⟩) h0 ?restb2
            case hyb2 => (intro w hSw; (try dsimp only at hSw); go_simp; try with_reducible rfl)
            try simp only [Act.put, List.setIfInBounds_toArray, List.set_cons_zero, List.set_cons_succ]
            refine wpAnyH_take (i := 3) (oi := { dst := some 53, op := Op.move (Operand.tmp 5), type := 24, pos := "law.go:97", after := #[{ on := 2, ground := Ground.guard }], guard := some (2, false) }) (v := ?vb3) rfl (by kernel_rfl) (by kernel_rfl) (by kernel_rfl) (fun _ _ _ h => h) (Or.inl ⟨by rfl, ?hyb3⟩) h0 ?restb3
            case hyb3 => (intro w hSw; (try dsimp only at hSw); go_simp; try with_reducible rfl)
            try simp only [Act.put, List.setIfInBounds_toArray, List.set_cons_zero, List.set_cons_succ]
            refine wpAnyH_take (i := 4) (oi := { dst := some 54, op := Op.move (Operand.tmp 0), type := 22, pos := "law.go:97", after := #[{ on := 2, ground := Ground.guard }], guard := some (2, false) }) (v := ?vb4) rfl (by kernel_rfl) (by kernel_rfl) (by kernel_rfl) (fun _ _ _ h => h) (Or.inl ⟨by rfl, ?hyb4⟩) h0 ?restb4
            case hyb4 => (intro w hSw; (try dsimp only at hSw); go_simp; try with_reducible rfl)
            try simp only [Act.put, List.setIfInBounds_toArray, List.set_cons_zero, List.set_cons_succ]
            refine wpAnyH_take (i := 5) (oi := { dst := some 55, op := Op.move (Operand.tmp 9), type := 3, pos := "law.go:97", after := #[{ on := 2, ground := Ground.guard }], guard := some (2, false) }) (v := ?vb5) rfl (by kernel_rfl) (by kernel_rfl) (by kernel_rfl) (fun _ _ _ h => h) (Or.inl ⟨by rfl, ?hyb5⟩) h0 ?restb5
            case hyb5 => (intro w hSw; (try dsimp only at hSw); go_simp; try with_reducible rfl)
            try simp only [Act.put, List.setIfInBounds_toArray, List.set_cons_zero, List.set_cons_succ]
            refine wpAnyH_take (i := 6) (oi := { dst := some 56, op := Op.indexAddr 22 (Operand.tmp 54) (Operand.tmp 55), type := 0, pos := "law.go:97", after := #[{ on := 4, ground := Ground.data }, { on := 5, ground := Ground.data }, { on := 2, ground := Ground.guard }], guard := some (2, false) }) (v := ?vb6) rfl (by kernel_rfl) (by kernel_rfl) (by kernel_rfl) (fun _ _ _ h => h) (Or.inl ⟨by rfl, ?hyb6⟩) h0 ?restb6
            case hyb6 => (intro w hSw; (try dsimp only at hSw); go_simp; try with_reducible rfl)
            try simp only [Act.put, List.setIfInBounds_toArray, List.set_cons_zero, List.set_cons_succ]
            refine wpAnyH_take (i := 7) (oi := { dst := some 57, op := Op.load 33 (Operand.tmp 56), type := 33, pos := "law.go:97", after := #[{ on := 6, ground := Ground.data }, { on := 2, ground := Ground.guard }], guard := some (2, false) }) (v := ?vb7) rfl (by kernel_rfl) (by kernel_rfl) (by kernel_rfl) (fun _ _ _ h => h) (Or.inl ⟨by rfl, ?hyb7⟩) h0 ?restb7
            case hyb7 => (intro w hSw; (try dsimp only at hSw); go_simp; try with_reducible rfl)
            try simp only [Act.put, List.setIfInBounds_toArray, List.set_cons_zero, List.set_cons_succ]
            refine wpAnyH_ready (rs := [8]) (by kernel_rfl) (by simp) ?_
            refine AllReadyH.cons (o := { dst := some 58, op := Op.call { callee := Callee.value (Operand.func 11), args := #[Operand.tmp 53, Operand.tmp 6, Operand.tmp 57], argTypes := #[24, 35, 33] }, type := 4, pos := "law.go:97", after := #[{ on := 3, ground := Ground.data }, { on := 7, ground := Ground.data }, { on := 2, ground := Ground.chain }, { on := 2, ground := Ground.guard }], guard := some (2, false) }) rfl (fun K hK => ?_) AllReadyH.nil
            go_simp
            (go_at_call 11; refine HSTEP.out.mono ?_; rintro e w7 ⟨rfl, hs⟩; obtain ⟨sl7, u7, N7, v7, hPS⟩ := HD.out.step (hs.le (b := 2400 * (j + 1)) (by have := HD.out.hM.1; omega)) (by omega); obtain ⟨ao7, cap7, MB, zs, hu7, hzl, T12, T14, T15⟩ := hPS.cur.ow.tell (by have := hPS.hM.1; omega); subst hu7; have H7 : Hid (PS w w7 gl l l l g sl7 (.slice ao7 N7 cap7) N7 v7 (2400 * (j + 1)) u7 u8) := hPS; have s7 : Hid (((w7.cell? ⟨b, off + j * 4, none⟩ = some (.int .i64 Kj) ∧ w7.cell? ⟨b, off + j * 4 + 1, none⟩ = some (.int .i64 Nj) ∧ w7.cell? ⟨b, off + j * 4 + 2, none⟩ = some (.int .u64 (Xj : Int)) ∧ w7.cell? ⟨b, off + j * 4 + 3, none⟩ = some (.slice Aj B.length Cj)) ∧ w7.cell? ⟨gl, 0, none⟩ = some (.slice ao7 N7 cap7))) := ⟨HE.out w7 H7.out.k, H7.out.cur.st.cell 0⟩; have HZL := Hid.mk' hzl; have HT12 := Hid.mk' T12; have HT14 := Hid.mk' T14; have HT15 := Hid.mk' T15; clear hs hPS hzl T12 T14 T15)
            go_wp2_with fail
            refine hK.out _ _ s7.out.1 (fun h7 => ?_)
            clear hK K
            try simp only [Act.put, List.setIfInBounds_toArray, List.set_cons_zero, List.set_cons_succ]
            clear h0 h7
            refine wpAnyH_strong (S' := (fun w' => ((w'.cell? ⟨b, off + j * 4, none⟩ = some (.int .i64 Kj) ∧ w'.cell? ⟨b, off + j * 4 + 1, none⟩ = some (.int .i64 Nj) ∧ w'.cell? ⟨b, off + j * 4 + 2, none⟩ = some (.int .u64 (Xj : Int)) ∧ w'.cell? ⟨b, off + j * 4 + 3, none⟩ = some (.slice Aj B.length Cj)) ∧ w'.cell? ⟨gl, 0, none⟩ = some (.slice ao7 N7 cap7)))) (fun w h => h.1) _ _ _ _ ?_
            refine wpAnyH_take (i := 9) (oi := { dst := some 59, op := Op.unOp UnOp.not 4 (Operand.tmp 58), type := 4, pos := "law.go:97", after := #[{ on := 8, ground := Ground.data }, { on := 2, ground := Ground.guard }], guard := some (2, false) }) (v := ?vb9) rfl (by kernel_rfl) (by kernel_rfl) (by kernel_rfl) (fun _ _ _ h => h) (Or.inl ⟨by rfl, ?hyb9⟩) s7.out ?restb9
            case hyb9 => (intro w hSw; (try dsimp only at hSw); go_simp; try with_reducible rfl)
            try simp only [Act.put, List.setIfInBounds_toArray, List.set_cons_zero, List.set_cons_succ]
            refine wpAnyH_take (i := 10) (oi := { dst := some 60, op := Op.pick (Operand.tmp 52) (Operand.const (Value.bool true)) (Operand.tmp 59), type := 4, pos := "law.go:97", after := #[{ on := 2, ground := Ground.data }, { on := 9, ground := Ground.data }], guard := none }) (v := ?vb10) rfl (by kernel_rfl) (by kernel_rfl) (by kernel_rfl) (fun _ _ _ h => h) (Or.inl ⟨by rfl, ?hyb10⟩) s7.out ?restb10
            case hyb10 => (intro w hSw; (try dsimp only at hSw); go_simp; try with_reducible rfl)
            try simp only [Act.put, List.setIfInBounds_toArray, List.set_cons_zero, List.set_cons_succ]
            refine wpAnyH_take (i := 11) (oi := { dst := some 61, op := Op.move (Operand.tmp 60), type := 4, pos := "law.go:97", after := #[{ on := 10, ground := Ground.data }, { on := 8, ground := Ground.chain }], guard := none }) (v := ?vb11) rfl (by kernel_rfl) (by kernel_rfl) (by kernel_rfl) (fun _ _ _ h => h) (Or.inl ⟨by rfl, ?hyb11⟩) s7.out ?restb11
            case hyb11 => (intro w hSw; (try dsimp only at hSw); go_simp; try with_reducible rfl)
            try simp only [Act.put, List.setIfInBounds_toArray, List.set_cons_zero, List.set_cons_succ]
            refine wpAnyH_take (i := 12) (oi := { dst := some 62, op := Op.move (Operand.tmp 5), type := 24, pos := "law.go:97", after := #[{ on := 11, ground := Ground.guard }], guard := some (11, false) }) (v := ?vb12) rfl (by kernel_rfl) (by kernel_rfl) (by kernel_rfl) (fun _ _ _ h => h) (Or.inl ⟨by rfl, ?hyb12⟩) s7.out ?restb12
            case hyb12 => (intro w hSw; (try dsimp only at hSw); go_simp; try with_reducible rfl)
            try simp only [Act.put, List.setIfInBounds_toArray, List.set_cons_zero, List.set_cons_succ]
            refine wpAnyH_take (i := 14) (oi := { dst := some 64, op := Op.load 26 (Operand.tmp 6), type := 26, pos := "law.go:97", after := #[{ on := 11, ground := Ground.guard }], guard := some (11, false) }) (v := ?vb14) rfl (by kernel_rfl) (by kernel_rfl) (by kernel_rfl) (fun _ _ _ h => h) (Or.inl ⟨by rfl, ?hyb14⟩) s7.out ?restb14
            case hyb14 => (intro w hSw; (try dsimp only at hSw); go_simp; try with_reducible rfl)
            try simp only [Act.put, List.setIfInBounds_toArray, List.set_cons_zero, List.set_cons_succ]
            refine wpAnyH_take (i := 15) (oi := { dst := some 65, op := Op.call { callee := Callee.builtin Builtin.len, args := #[Operand.tmp 64], argTypes := #[26] }, type := 3, pos := "law.go:97", after := #[{ on := 14, ground := Ground.data }, { on := 11, ground := Ground.guard }], guard := some (11, false) }) (v := ?vb15) rfl (by kernel_rfl) (by kernel_rfl) (by kernel_rfl) (fun _ _ _ h => h) (Or.inl ⟨by rfl, ?hyb15⟩) s7.out ?restb15
            case hyb15 => (intro w hSw; (try dsimp only at hSw); go_simp; try with_reducible rfl)
            try simp only [Act.put, List.setIfInBounds_toArray, List.set_cons_zero, List.set_cons_succ]
            refine wpAnyH_ready (rs := [13]) (by kernel_rfl) (by simp) ?_
            refine AllReadyH.cons (o := { dst := some 63, op := Op.call { callee := Callee.value (Operand.func 12), args := #[Operand.tmp 62], argTypes := #[24] }, type := 3, pos := "law.go:97", after := #[{ on := 12, ground := Ground.data }, { on := 11, ground := Ground.chain }, { on := 11, ground := Ground.guard }], guard := some (11, false) }) rfl (fun K hK => ?_) AllReadyH.nil
            go_simp
            (go_at_call 12; refine (HT12.out _ H7.out.cur.ow).mono ?_; rintro e w8 ⟨rfl, k8⟩; have H8 : Hid (PS w w8 gl l l l g sl7 (.slice ao7 N7 cap7) N7 v7 (2400 * (j + 1)) u7 u8) := H7.out.ok k8; have sH8 : Hid (((w8.cell? ⟨b, off + j * 4, none⟩ = some (.int .i64 Kj) ∧ w8.cell? ⟨b, off + j * 4 + 1, none⟩ = some (.int .i64 Nj) ∧ w8.cell? ⟨b, off + j * 4 + 2, none⟩ = some (.int .u64 (Xj : Int)) ∧ w8.cell? ⟨b, off + j * 4 + 3, none⟩ = some (.slice Aj B.length Cj)) ∧ w8.cell? ⟨gl, 0, none⟩ = some (.slice ao7 N7 cap7))) := ⟨HE.out w8 H8.out.k, H8.out.cur.st.cell 0⟩; clear k8)
            go_wp2_with fail
            refine hK.out _ _ sH8.out (fun h8 => ?_)
            clear hK K
            try simp only [Act.put, List.setIfInBounds_toArray, List.set_cons_zero, List.set_cons_succ]
            clear h8
            refine wpAnyH_take (i := 16) (oi := { dst := some 66, op := Op.binOp BinOp.neq 3 (Operand.tmp 63) (Operand.tmp 65) 3, type := 4, pos := "law.go:97", after := #[{ on := 13, ground := Ground.data }, { on := 15, ground := Ground.data }, { on := 11, ground := Ground.guard }], guard := some (11, false) }) (v := ?vb16) rfl (by kernel_rfl) (by kernel_rfl) (by kernel_rfl) (fun _ _ _ h => h) (Or.inl ⟨by rfl, ?hyb16⟩) sH8.out ?restb16
            case hyb16 => (intro w hSw; (try dsimp only at hSw); go_simp; try with_reducible rfl)
            try simp only [Act.put, List.setIfInBounds_toArray, List.set_cons_zero, List.set_cons_succ]
            refine wpAnyH_take (i := 17) (oi := { dst := some 67, op := Op.pick (Operand.tmp 61) (Operand.const (Value.bool true)) (Operand.tmp 66), type := 4, pos := "law.go:97", after := #[{ on := 11, ground := Ground.data }, { on := 16, ground := Ground.data }], guard := none }) (v := ?vb17) rfl (by kernel_rfl) (by kernel_rfl) (by kernel_rfl) (fun _ _ _ h => h) (Or.inl ⟨by rfl, ?hyb17⟩) sH8.out ?restb17
            case hyb17 => (intro w hSw; (try dsimp only at hSw); go_simp; try with_reducible rfl)
            try simp only [Act.put, List.setIfInBounds_toArray, List.set_cons_zero, List.set_cons_succ]
            refine wpAnyH_take (i := 18) (oi := { dst := some 68, op := Op.move (Operand.tmp 67), type := 4, pos := "law.go:97", after := #[{ on := 17, ground := Ground.data }, { on := 13, ground := Ground.chain }], guard := none }) (v := ?vb18) rfl (by kernel_rfl) (by kernel_rfl) (by kernel_rfl) (fun _ _ _ h => h) (Or.inl ⟨by rfl, ?hyb18⟩) sH8.out ?restb18
            case hyb18 => (intro w hSw; (try dsimp only at hSw); go_simp; try with_reducible rfl)
            try simp only [Act.put, List.setIfInBounds_toArray, List.set_cons_zero, List.set_cons_succ]
            refine wpAnyH_take (i := 19) (oi := { dst := some 69, op := Op.move (Operand.tmp 5), type := 24, pos := "law.go:97", after := #[{ on := 18, ground := Ground.guard }], guard := some (18, false) }) (v := ?vb19) rfl (by kernel_rfl) (by kernel_rfl) (by kernel_rfl) (fun _ _ _ h => h) (Or.inl ⟨by rfl, ?hyb19⟩) sH8.out ?restb19
            case hyb19 => (intro w hSw; (try dsimp only at hSw); go_simp; try with_reducible rfl)
            try simp only [Act.put, List.setIfInBounds_toArray, List.set_cons_zero, List.set_cons_succ]
            refine wpAnyH_take (i := 21) (oi := { dst := some 71, op := Op.load 26 (Operand.tmp 6), type := 26, pos := "law.go:97", after := #[{ on := 18, ground := Ground.guard }], guard := some (18, false) }) (v := ?vb21) rfl (by kernel_rfl) (by kernel_rfl) (by kernel_rfl) (fun _ _ _ h => h) (Or.inl ⟨by rfl, ?hyb21⟩) sH8.out ?restb21
            case hyb21 => (intro w hSw; (try dsimp only at hSw); go_simp; try with_reducible rfl)
            try simp only [Act.put, List.setIfInBounds_toArray, List.set_cons_zero, List.set_cons_succ]
            refine wpAnyH_ready (rs := [20]) (by kernel_rfl) (by simp) ?_
            refine AllReadyH.cons (o := { dst := some 70, op := Op.call { callee := Callee.value (Operand.func 14), args := #[Operand.tmp 69], argTypes := #[24] }, type := 26, pos := "law.go:97", after := #[{ on := 19, ground := Ground.data }, { on := 18, ground := Ground.chain }, { on := 18, ground := Ground.guard }], guard := some (18, false) }) rfl (fun K hK => ?_) AllReadyH.nil
            go_simp
            (go_at_call 14; refine (HT14.out _ H8.out.cur.ow).mono ?_; rintro e w9 ⟨G9, rfl, sG9, k9⟩; have H9 : Hid (PS w w9 gl l l l g sl7 (.slice ao7 N7 cap7) N7 v7 (2400 * (j + 1)) u7 u8) := H8.out.ok k9; have sH9 : Hid (((w9.cell? ⟨b, off + j * 4, none⟩ = some (.int .i64 Kj) ∧ w9.cell? ⟨b, off + j * 4 + 1, none⟩ = some (.int .i64 Nj) ∧ w9.cell? ⟨b, off + j * 4 + 2, none⟩ = some (.int .u64 (Xj : Int)) ∧ w9.cell? ⟨b, off + j * 4 + 3, none⟩ = some (.slice Aj B.length Cj)) ∧ w9.cell? ⟨gl, 0, none⟩ = some (.slice ao7 N7 cap7))) := ⟨HE.out w9 H9.out.k, H9.out.cur.st.cell 0⟩; clear k9)
            go_wp2_with fail
            refine hK.out _ _ sH9.out (fun h9 => ?_)
            clear hK K
            try simp only [Act.put, List.setIfInBounds_toArray, List.set_cons_zero, List.set_cons_succ]
            clear h9
            refine wpAnyH_ready (rs := [22]) (by kernel_rfl) (by simp) ?_
            refine AllReadyH.cons (o := { dst := some 72, op := Op.call { callee := Callee.value (Operand.func 15), args := #[Operand.tmp 71], argTypes := #[26] }, type := 26, pos := "law.go:97", after := #[{ on := 21, ground := Ground.data }, { on := 20, ground := Ground.chain }, { on := 18, ground := Ground.guard }], guard := some (18, false) }) rfl (fun K hK => ?_) AllReadyH.nil
            go_simp
            (go_at_call 15; refine (HT15.out _ H9.out.cur.ow).mono ?_; rintro e wA ⟨aA, cA, rfl, sA, kA⟩; have HA : Hid (PS w wA gl l l l g sl7 (.slice ao7 N7 cap7) N7 v7 (2400 * (j + 1)) u7 u8) := H9.out.ok kA; have sHA : Hid (((wA.cell? ⟨b, off + j * 4, none⟩ = some (.int .i64 Kj) ∧ wA.cell? ⟨b, off + j * 4 + 1, none⟩ = some (.int .i64 Nj) ∧ wA.cell? ⟨b, off + j * 4 + 2, none⟩ = some (.int .u64 (Xj : Int)) ∧ wA.cell? ⟨b, off + j * 4 + 3, none⟩ = some (.slice Aj B.length Cj)) ∧ wA.cell? ⟨gl, 0, none⟩ = some (.slice ao7 N7 cap7))) := ⟨HE.out wA HA.out.k, HA.out.cur.st.cell 0⟩; have sGA := sG9.kp kA (fun _ _ _ x => x); clear kA sG9)
            go_wp2_with fail
            refine hK.out _ _ sHA.out (fun hA => ?_)
            clear hK K
            try simp only [Act.put, List.setIfInBounds_toArray, List.set_cons_zero, List.set_cons_succ]
            clear hA
            refine wpAnyH_ready (rs := [23]) (by kernel_rfl) (by simp) ?_
            refine AllReadyH.cons (o := { dst := some 73, op := Op.call { callee := Callee.value (Operand.func 13), args := #[Operand.tmp 70, Operand.tmp 72], argTypes := #[26, 26] }, type := 4, pos := "law.go:97", after := #[{ on := 20, ground := Ground.data }, { on := 22, ground := Ground.data }, { on := 22, ground := Ground.chain }, { on := 18, ground := Ground.guard }], guard := some (18, false) }) rfl (fun K hK => ?_) AllReadyH.nil
            go_simp
            (go_at_call 13; refine (same_eq (some ⟨G9, 0, none⟩) aA MB cA MB zs _ HZL.out sGA sA).mono ?_; rintro e w' ⟨rfl, rfl⟩)
            go_wp2_with fail
            refine hK.out _ _ sHA.out (fun hB2 => ?_)
            clear hK K
            try simp only [Act.put, List.setIfInBounds_toArray, List.set_cons_zero, List.set_cons_succ]
            clear hB2 sGA sA
            refine wpAnyH_take (i := 24) (oi := { dst := some 74, op := Op.unOp UnOp.not 4 (Operand.tmp 73), type := 4, pos := "law.go:97", after := #[{ on := 23, ground := Ground.data }, { on := 18, ground := Ground.guard }], guard := some (18, false) }) (v := ?vb24) rfl (by kernel_rfl) (by kernel_rfl) (by kernel_rfl) (fun _ _ _ h => h) (Or.inl ⟨by rfl, ?hyb24⟩) sHA.out ?restb24
            case hyb24 => (intro w hSw; (try dsimp only at hSw); go_simp; try with_reducible rfl)
            try simp only [Act.put, List.setIfInBounds_toArray, List.set_cons_zero, List.set_cons_succ]
            refine wpAnyH_take (i := 25) (oi := { dst := some 75, op := Op.pick (Operand.tmp 68) (Operand.const (Value.bool true)) (Operand.tmp 74), type := 4, pos := "law.go:97", after := #[{ on := 18, ground := Ground.data }, { on := 24, ground := Ground.data }], guard := none }) (v := ?vb25) rfl (by kernel_rfl) (by kernel_rfl) (by kernel_rfl) (fun _ _ _ h => h) (Or.inl ⟨by rfl, ?hyb25⟩) sHA.out ?restb25
            case hyb25 => (intro w hSw; (try dsimp only at hSw); go_simp; try with_reducible rfl)
            try simp only [Act.put, List.setIfInBounds_toArray, List.set_cons_zero, List.set_cons_succ]
            refine wpAnyH_done (by kernel_rfl) ?_ _
            clear s7 sH8 sH9 sHA H7 H8 H9 HD HT12 HT14 HT15 HSTEP
            go_wp2_with fail
            go_roundw
            case rel => exact ⟨j + 1, l, g, sl7, (.slice ao7 N7 cap7), N7, v7, by omega, Nat.le_succ_of_le HLL.out, rfl, by go_num, HA.out⟩
            case measure => simp [intOf]; omega
      · obtain ⟨ao9, co9, hov⟩ := H.out.p2.len1
        obtain rfl : j = L := by omega
        have H4 : Hid (P2 w wr gl l l g sl u N v (2400 * j) (.slice ao9 l.length co9) u8) := by rw [← hov]; exact H.out.p2
        rw [hov]
        have hll60 : l.length ≤ 60 := by have := HLL.out; omega
        clear H hov HLL
        go_wp2_with fail
        go_loopw [10] (fun iv wq => ∃ i : Nat, i ≤ l.length ∧ iv = .int .i64 i ∧ P2 w wq gl l (l.drop i) g sl u N v (2400 * j) (.slice ao9 l.length co9) u8) (fun i _ => l.length - (intOf i).toNat)
        case atStart => exact ⟨0, Nat.zero_le _, rfl, H4.out⟩
        case round =>
          clear H4
          obtain ⟨i, hi, rfl, h3⟩ := hrel
          by_cases hil : i < l.length
          · obtain ⟨bo, co, bw, cw, e1, e2⟩ := h3.cells (by omega)
            cases e1
            rw [e2] at h3 ⊢
            have hdr := List.drop_eq_getElem_cons hil
            rw [hdr] at h3
            have HQ0 : ∀ wx r, P2 w wx gl l r g sl u N v (2400 * j) (.slice (some ⟨bo, 0, none⟩) l.length co9) (.slice (some ⟨bw, 0, none⟩) l.length cw) → wx.cell? ⟨bo, i, none⟩ = some (.pointer (some ⟨(l[i]).1, 0, none⟩)) ∧ wx.cell? ⟨bw, i, none⟩ = some (l[i]).2.2.1 := fun wx r hx => ⟨hx.cell1 i hil, hx.cell2 i hil⟩
            generalize l[i] = q at h3 HQ0
            obtain ⟨qg, qsl, qu, qN, qv⟩ := q
            obtain ⟨r, hr⟩ : ∃ r, r = l.drop (i + 1) := ⟨_, rfl⟩
            rw [← hr] at h3
            have HR : Hid (r = l.drop (i + 1)) := hr
            have hq0 : OW wr qg qsl qu qN qv := h3.old _ (List.mem_cons_self ..)
            have hqN : qN ≤ 2400 * j := h3.hM.2 _ (List.mem_cons_self ..)
            obtain ⟨qa, qc, MB, zs, hqu, hzl, T12, T14, T15⟩ := hq0.tell (by omega)
            subst hqu
            have T17 : ∀ wx, OW wx qg qsl (.slice qa qN qc) qN qv → Calls Try.prog 17 #[.pointer (some ⟨qg, 0, none⟩), .int .u64 90, .int .i64 8] wx fun e w' => e = .returned (.int .i64 0) ∧ Kp (fun i => i = qg ∨ qsl.ownBlock = some i) wx w' := fun wx hx =>
              (put_ok qg qsl 90 8 qN qv wx (by omega) (by omega) (by decide) hx.wr).mono (fun e w' ⟨h1, h2⟩ => ⟨h1, h2.keep⟩)
            have H5 := Hid.mk' h3
            have HZL := Hid.mk' hzl
            have HT12 := Hid.mk' T12
            have HT14 := Hid.mk' T14
            have HT15 := Hid.mk' T15
            have HT17 := Hid.mk' T17
            have HQ := Hid.mk' HQ0
            have hc1 := (HQ0 wr _ h3).1
            clear h3 e2 hdr HQ0 hr hq0 hqN hzl T12 T14 T15 T17 hc1
            go_wp2_with fail
            have HD : Hid (P2 w wr.drew gl l ((qg, qsl, .slice qa qN qc, qN, qv) :: r) g sl u N v (2400 * j) (.slice (some ⟨bo, 0, none⟩) l.length co9) (.slice (some ⟨bw, 0, none⟩) l.length cw)) := H5.out.ok ((Kp.refl _ wr).drew)
            have s0 : Hid ((wr.drew.cell? ⟨bo, i, none⟩ = some (.pointer (some ⟨qg, 0, none⟩)) ∧ wr.drew.cell? ⟨bw, i, none⟩ = some (.slice qa qN qc))) := HQ.out _ _ HD.out
            refine wp_region_held_drew (S := (fun w' => (w'.cell? ⟨bo, i, none⟩ = some (.pointer (some ⟨qg, 0, none⟩)) ∧ w'.cell? ⟨bw, i, none⟩ = some (.slice qa qN qc)))) (by kernel_rfl) s0.out (fun h0 => ?_)
            refine wpAnyH_take (i := 0) (oi := { dst := some 82, op := Op.move (Operand.tmp 7), type := 30, pos := "law.go:102", after := #[], guard := none }) (v := ?vt0) rfl (by kernel_rfl) (by kernel_rfl) (by kernel_rfl) (fun _ _ _ h => h) (Or.inl ⟨by rfl, ?hyt0⟩) h0 ?restt0
            case hyt0 => (intro w hSw; (try dsimp only at hSw); go_simp; try with_reducible rfl)
            try simp only [Act.put, List.setIfInBounds_toArray, List.set_cons_zero, List.set_cons_succ]
            refine wpAnyH_take (i := 1) (oi := { dst := some 83, op := Op.move (Operand.tmp 10), type := 3, pos := "law.go:102", after := #[], guard := none }) (v := ?vt1) rfl (by kernel_rfl) (by kernel_rfl) (by kernel_rfl) (fun _ _ _ h => h) (Or.inl ⟨by rfl, ?hyt1⟩) h0 ?restt1
            case hyt1 => (intro w hSw; (try dsimp only at hSw); go_simp; try with_reducible rfl)
            try simp only [Act.put, List.setIfInBounds_toArray, List.set_cons_zero, List.set_cons_succ]
            refine wpAnyH_take (i := 2) (oi := { dst := some 84, op := Op.indexAddr 30 (Operand.tmp 82) (Operand.tmp 83), type := 0, pos := "law.go:102", after := #[{ on := 0, ground := Ground.data }, { on := 1, ground := Ground.data }], guard := none }) (v := ?vt2) rfl (by kernel_rfl) (by kernel_rfl) (by kernel_rfl) (fun _ _ _ h => h) (Or.inl ⟨by rfl, ?hyt2⟩) h0 ?restt2
            case hyt2 => (intro w hSw; (try dsimp only at hSw); go_simp; try with_reducible rfl)
            try simp only [Act.put, List.setIfInBounds_toArray, List.set_cons_zero, List.set_cons_succ]
            refine wpAnyH_take (i := 3) (oi := { dst := some 85, op := Op.load 24 (Operand.tmp 84), type := 24, pos := "law.go:102", after := #[{ on := 2, ground := Ground.data }], guard := none }) (v := ?vt3) rfl (by kernel_rfl) (by kernel_rfl) (by kernel_rfl) (fun _ _ _ h => h) (Or.inl ⟨by rfl, ?hyt3⟩) h0 ?restt3
            case hyt3 => (intro w hSw; (try dsimp only at hSw); go_simp; try with_reducible rfl)
            try simp only [Act.put, List.setIfInBounds_toArray, List.set_cons_zero, List.set_cons_succ]
            refine wpAnyH_take (i := 5) (oi := { dst := some 87, op := Op.move (Operand.tmp 8), type := 31, pos := "law.go:102", after := #[], guard := none }) (v := ?vt5) rfl (by kernel_rfl) (by kernel_rfl) (by kernel_rfl) (fun _ _ _ h => h) (Or.inl ⟨by rfl, ?hyt5⟩) h0 ?restt5
            case hyt5 => (intro w hSw; (try dsimp only at hSw); go_simp; try with_reducible rfl)
            try simp only [Act.put, List.setIfInBounds_toArray, List.set_cons_zero, List.set_cons_succ]
            refine wpAnyH_take (i := 6) (oi := { dst := some 88, op := Op.move (Operand.tmp 10), type := 3, pos := "law.go:102", after := #[], guard := none }) (v := ?vt6) rfl (by kernel_rfl) (by kernel_rfl) (by kernel_rfl) (fun _ _ _ h => h) (Or.inl ⟨by rfl, ?hyt6⟩) h0 ?restt6
            case hyt6 => (intro w hSw; (try dsimp only at hSw); go_simp; try with_reducible rfl)
            try simp only [Act.put, List.setIfInBounds_toArray, List.set_cons_zero, List.set_cons_succ]
            refine wpAnyH_take (i := 7) (oi := { dst := some 89, op := Op.indexAddr 31 (Operand.tmp 87) (Operand.tmp 88), type := 0, pos := "law.go:102", after := #[{ on := 5, ground := Ground.data }, { on := 6, ground := Ground.data }], guard := none }) (v := ?vt7) rfl (by kernel_rfl) (by kernel_rfl) (by kernel_rfl) (fun _ _ _ h => h) (Or.inl ⟨by rfl, ?hyt7⟩) h0 ?restt7
            case hyt7 => (intro w hSw; (try dsimp only at hSw); go_simp; try with_reducible rfl)
            try simp only [Act.put, List.setIfInBounds_toArray, List.set_cons_zero, List.set_cons_succ]
            refine wpAnyH_take (i := 8) (oi := { dst := some 90, op := Op.load 26 (Operand.tmp 89), type := 26, pos := "law.go:102", after := #[{ on := 7, ground := Ground.data }], guard := none }) (v := ?vt8) rfl (by kernel_rfl) (by kernel_rfl) (by kernel_rfl) (fun _ _ _ h => h) (Or.inl ⟨by rfl, ?hyt8⟩) h0 ?restt8
            case hyt8 => (intro w hSw; (try dsimp only at hSw); go_simp; try with_reducible rfl)
            try simp only [Act.put, List.setIfInBounds_toArray, List.set_cons_zero, List.set_cons_succ]
            refine wpAnyH_take (i := 9) (oi := { dst := some 91, op := Op.call { callee := Callee.builtin Builtin.len, args := #[Operand.tmp 90], argTypes := #[26] }, type := 3, pos := "law.go:102", after := #[{ on := 8, ground := Ground.data }], guard := none }) (v := ?vt9) rfl (by kernel_rfl) (by kernel_rfl) (by kernel_rfl) (fun _ _ _ h => h) (Or.inl ⟨by rfl, ?hyt9⟩) h0 ?restt9
            case hyt9 => (intro w hSw; (try dsimp only at hSw); go_simp; try with_reducible rfl)
            try simp only [Act.put, List.setIfInBounds_toArray, List.set_cons_zero, List.set_cons_succ]
            refine wpAnyH_ready (rs := [4]) (by kernel_rfl) (by simp) ?_
            refine AllReadyH.cons (o := { dst := some 86, op := Op.call { callee := Callee.value (Operand.func 12), args := #[Operand.tmp 85], argTypes := #[24] }, type := 3, pos := "law.go:102", after := #[{ on := 3, ground := Ground.data }], guard := none }) rfl (fun K hK => ?_) AllReadyH.nil
            go_simp
            (go_at_call 12; refine (HT12.out _ (HD.out.old _ (List.mem_cons_self ..))).mono ?_; rintro e w8 ⟨rfl, k8⟩; have H8 : Hid (P2 w w8 gl l ((qg, qsl, .slice qa qN qc, qN, qv) :: r) g sl u N v (2400 * j) (.slice (some ⟨bo, 0, none⟩) l.length co9) (.slice (some ⟨bw, 0, none⟩) l.length cw)) := HD.out.ok k8; have sH8 : Hid ((w8.cell? ⟨bo, i, none⟩ = some (.pointer (some ⟨qg, 0, none⟩)) ∧ w8.cell? ⟨bw, i, none⟩ = some (.slice qa qN qc))) := HQ.out _ _ H8.out; clear k8)
            go_wp2_with fail
            refine hK.out _ _ sH8.out (fun h8 => ?_)
            clear hK K
            try simp only [Act.put, List.setIfInBounds_toArray, List.set_cons_zero, List.set_cons_succ]
            clear h8 h0
            refine wpAnyH_take (i := 10) (oi := { dst := some 92, op := Op.binOp BinOp.neq 3 (Operand.tmp 86) (Operand.tmp 91) 3, type := 4, pos := "law.go:102", after := #[{ on := 4, ground := Ground.data }, { on := 9, ground := Ground.data }], guard := none }) (v := ?vt10) rfl (by kernel_rfl) (by kernel_rfl) (by kernel_rfl) (fun _ _ _ h => h) (Or.inl ⟨by rfl, ?hyt10⟩) sH8.out ?restt10
            case hyt10 => (intro w hSw; (try dsimp only at hSw); go_simp; try with_reducible rfl)
            try simp only [Act.put, List.setIfInBounds_toArray, List.set_cons_zero, List.set_cons_succ]
            refine wpAnyH_take (i := 11) (oi := { dst := some 93, op := Op.move (Operand.tmp 92), type := 4, pos := "law.go:102", after := #[{ on := 10, ground := Ground.data }, { on := 4, ground := Ground.chain }], guard := none }) (v := ?vt11) rfl (by kernel_rfl) (by kernel_rfl) (by kernel_rfl) (fun _ _ _ h => h) (Or.inl ⟨by rfl, ?hyt11⟩) sH8.out ?restt11
            case hyt11 => (intro w hSw; (try dsimp only at hSw); go_simp; try with_reducible rfl)
            try simp only [Act.put, List.setIfInBounds_toArray, List.set_cons_zero, List.set_cons_succ]
            refine wpAnyH_take (i := 12) (oi := { dst := some 94, op := Op.move (Operand.tmp 7), type := 30, pos := "law.go:102", after := #[{ on := 11, ground := Ground.guard }], guard := some (11, false) }) (v := ?vt12) rfl (by kernel_rfl) (by kernel_rfl) (by kernel_rfl) (fun _ _ _ h => h) (Or.inl ⟨by rfl, ?hyt12⟩) sH8.out ?restt12
            case hyt12 => (intro w hSw; (try dsimp only at hSw); go_simp; try with_reducible rfl)
            try simp only [Act.put, List.setIfInBounds_toArray, List.set_cons_zero, List.set_cons_succ]
            refine wpAnyH_take (i := 13) (oi := { dst := some 95, op := Op.move (Operand.tmp 10), type := 3, pos := "law.go:102", after := #[{ on := 11, ground := Ground.guard }], guard := some (11, false) }) (v := ?vt13) rfl (by kernel_rfl) (by kernel_rfl) (by kernel_rfl) (fun _ _ _ h => h) (Or.inl ⟨by rfl, ?hyt13⟩) sH8.out ?restt13
            case hyt13 => (intro w hSw; (try dsimp only at hSw); go_simp; try with_reducible rfl)
            try simp only [Act.put, List.setIfInBounds_toArray, List.set_cons_zero, List.set_cons_succ]
            refine wpAnyH_take (i := 14) (oi := { dst := some 96, op := Op.indexAddr 30 (Operand.tmp 94) (Operand.tmp 95), type := 0, pos := "law.go:102", after := #[{ on := 12, ground := Ground.data }, { on := 13, ground := Ground.data }, { on := 11, ground := Ground.guard }], guard := some (11, false) }) (v := ?vt14) rfl (by kernel_rfl) (by kernel_rfl) (by kernel_rfl) (fun _ _ _ h => h) (Or.inl ⟨by rfl, ?hyt14⟩) sH8.out ?restt14
            case hyt14 => (intro w hSw; (try dsimp only at hSw); go_simp; try with_reducible rfl)
            try simp only [Act.put, List.setIfInBounds_toArray, List.set_cons_zero, List.set_cons_succ]
            refine wpAnyH_take (i := 15) (oi := { dst := some 97, op := Op.load 24 (Operand.tmp 96), type := 24, pos := "law.go:102", after := #[{ on := 14, ground := Ground.data }, { on := 11, ground := Ground.guard }], guard := some (11, false) }) (v := ?vt15) rfl (by kernel_rfl) (by kernel_rfl) (by kernel_rfl) (fun _ _ _ h => h) (Or.inl ⟨by rfl, ?hyt15⟩) sH8.out ?restt15
            case hyt15 => (intro w hSw; (try dsimp only at hSw); go_simp; try with_reducible rfl)
            try simp only [Act.put, List.setIfInBounds_toArray, List.set_cons_zero, List.set_cons_succ]
            refine wpAnyH_take (i := 17) (oi := { dst := some 99, op := Op.move (Operand.tmp 8), type := 31, pos := "law.go:102", after := #[{ on := 11, ground := Ground.guard }], guard := some (11, false) }) (v := ?vt17) rfl (by kernel_rfl) (by kernel_rfl) (by kernel_rfl) (fun _ _ _ h => h) (Or.inl ⟨by rfl, ?hyt17⟩) sH8.out ?restt17
            case hyt17 => (intro w hSw; (try dsimp only at hSw); go_simp; try with_reducible rfl)
            try simp only [Act.put, List.setIfInBounds_toArray, List.set_cons_zero, List.set_cons_succ]
            refine wpAnyH_take (i := 18) (oi := { dst := some 100, op := Op.move (Operand.tmp 10), type := 3, pos := "law.go:102", after := #[{ on := 11, ground := Ground.guard }], guard := some (11, false) }) (v := ?vt18) rfl (by kernel_rfl) (by kernel_rfl) (by kernel_rfl) (fun _ _ _ h => h) (Or.inl ⟨by rfl, ?hyt18⟩) sH8.out ?restt18
            case hyt18 => (intro w hSw; (try dsimp only at hSw); go_simp; try with_reducible rfl)
            try simp only [Act.put, List.setIfInBounds_toArray, List.set_cons_zero, List.set_cons_succ]
            refine wpAnyH_take (i := 19) (oi := { dst := some 101, op := Op.indexAddr 31 (Operand.tmp 99) (Operand.tmp 100), type := 0, pos := "law.go:102", after := #[{ on := 17, ground := Ground.data }, { on := 18, ground := Ground.data }, { on := 11, ground := Ground.guard }], guard := some (11, false) }) (v := ?vt19) rfl (by kernel_rfl) (by kernel_rfl) (by kernel_rfl) (fun _ _ _ h => h) (Or.inl ⟨by rfl, ?hyt19⟩) sH8.out ?restt19
            case hyt19 => (intro w hSw; (try dsimp only at hSw); go_simp; try with_reducible rfl)
            try simp only [Act.put, List.setIfInBounds_toArray, List.set_cons_zero, List.set_cons_succ]
            refine wpAnyH_take (i := 20) (oi := { dst := some 102, op := Op.load 26 (Operand.tmp 101), type := 26, pos := "law.go:102", after := #[{ on := 19, ground := Ground.data }, { on := 11, ground := Ground.guard }], guard := some (11, false) }) (v := ?vt20) rfl (by kernel_rfl) (by kernel_rfl) (by kernel_rfl) (fun _ _ _ h => h) (Or.inl ⟨by rfl, ?hyt20⟩) sH8.out ?restt20
            case hyt20 => (intro w hSw; (try dsimp only at hSw); go_simp; try with_reducible rfl)
            try simp only [Act.put, List.setIfInBounds_toArray, List.set_cons_zero, List.set_cons_succ]
            refine wpAnyH_ready (rs := [16]) (by kernel_rfl) (by simp) ?_
            refine AllReadyH.cons (o := { dst := some 98, op := Op.call { callee := Callee.value (Operand.func 14), args := #[Operand.tmp 97], argTypes := #[24] }, type := 26, pos := "law.go:102", after := #[{ on := 15, ground := Ground.data }, { on := 11, ground := Ground.chain }, { on := 11, ground := Ground.guard }], guard := some (11, false) }) rfl (fun K hK => ?_) AllReadyH.nil
            go_simp
            (go_at_call 14; refine (HT14.out _ (H8.out.old _ (List.mem_cons_self ..))).mono ?_; rintro e w9 ⟨G9, rfl, sG9, k9⟩; have H9 : Hid (P2 w w9 gl l ((qg, qsl, .slice qa qN qc, qN, qv) :: r) g sl u N v (2400 * j) (.slice (some ⟨bo, 0, none⟩) l.length co9) (.slice (some ⟨bw, 0, none⟩) l.length cw)) := H8.out.ok k9; have sH9 : Hid ((w9.cell? ⟨bo, i, none⟩ = some (.pointer (some ⟨qg, 0, none⟩)) ∧ w9.cell? ⟨bw, i, none⟩ = some (.slice qa qN qc))) := HQ.out _ _ H9.out; clear k9)
            go_wp2_with fail
            refine hK.out _ _ sH9.out (fun h9 => ?_)
            clear hK K
            try simp only [Act.put, List.setIfInBounds_toArray, List.set_cons_zero, List.set_cons_succ]
            clear h9
            refine wpAnyH_ready (rs := [21]) (by kernel_rfl) (by simp) ?_
            refine AllReadyH.cons (o := { dst := some 103, op := Op.call { callee := Callee.value (Operand.func 15), args := #[Operand.tmp 102], argTypes := #[26] }, type := 26, pos := "law.go:102", after := #[{ on := 20, ground := Ground.data }, { on := 16, ground := Ground.chain }, { on := 11, ground := Ground.guard }], guard := some (11, false) }) rfl (fun K hK => ?_) AllReadyH.nil
            go_simp
            (go_at_call 15; refine (HT15.out _ (H9.out.old _ (List.mem_cons_self ..))).mono ?_; rintro e wA ⟨aA, cA, rfl, sA, kA⟩; have HA : Hid (P2 w wA gl l ((qg, qsl, .slice qa qN qc, qN, qv) :: r) g sl u N v (2400 * j) (.slice (some ⟨bo, 0, none⟩) l.length co9) (.slice (some ⟨bw, 0, none⟩) l.length cw)) := H9.out.ok kA; have sHA : Hid ((wA.cell? ⟨bo, i, none⟩ = some (.pointer (some ⟨qg, 0, none⟩)) ∧ wA.cell? ⟨bw, i, none⟩ = some (.slice qa qN qc))) := HQ.out _ _ HA.out; have sGA := sG9.kp kA (fun _ _ _ x => x); clear kA sG9)
            go_wp2_with fail
            refine hK.out _ _ sHA.out (fun hA => ?_)
            clear hK K
            try simp only [Act.put, List.setIfInBounds_toArray, List.set_cons_zero, List.set_cons_succ]
            clear hA
            refine wpAnyH_ready (rs := [22]) (by kernel_rfl) (by simp) ?_
            refine AllReadyH.cons (o := { dst := some 104, op := Op.call { callee := Callee.value (Operand.func 13), args := #[Operand.tmp 98, Operand.tmp 103], argTypes := #[26, 26] }, type := 4, pos := "law.go:102", after := #[{ on := 16, ground := Ground.data }, { on := 21, ground := Ground.data }, { on := 21, ground := Ground.chain }, { on := 11, ground := Ground.guard }], guard := some (11, false) }) rfl (fun K hK => ?_) AllReadyH.nil
            go_simp
            (go_at_call 13; refine (same_eq (some ⟨G9, 0, none⟩) aA MB cA MB zs _ HZL.out sGA sA).mono ?_; rintro e w' ⟨rfl, rfl⟩)
            go_wp2_with fail
            refine hK.out _ _ sHA.out (fun hB2 => ?_)
            clear hK K
            try simp only [Act.put, List.setIfInBounds_toArray, List.set_cons_zero, List.set_cons_succ]
            clear hB2 sGA sA
            refine wpAnyH_take (i := 23) (oi := { dst := some 105, op := Op.unOp UnOp.not 4 (Operand.tmp 104), type := 4, pos := "law.go:102", after := #[{ on := 22, ground := Ground.data }, { on := 11, ground := Ground.guard }], guard := some (11, false) }) (v := ?vt23) rfl (by kernel_rfl) (by kernel_rfl) (by kernel_rfl) (fun _ _ _ h => h) (Or.inl ⟨by rfl, ?hyt23⟩) sHA.out ?restt23
            case hyt23 => (intro w hSw; (try dsimp only at hSw); go_simp; try with_reducible rfl)
            try simp only [Act.put, List.setIfInBounds_toArray, List.set_cons_zero, List.set_cons_succ]
            refine wpAnyH_take (i := 24) (oi := { dst := some 106, op := Op.pick (Operand.tmp 93) (Operand.const (Value.bool true)) (Operand.tmp 105), type := 4, pos := "law.go:102", after := #[{ on := 11, ground := Ground.data }, { on := 23, ground := Ground.data }], guard := none }) (v := ?vt24) rfl (by kernel_rfl) (by kernel_rfl) (by kernel_rfl) (fun _ _ _ h => h) (Or.inl ⟨by rfl, ?hyt24⟩) sHA.out ?restt24
            case hyt24 => (intro w hSw; (try dsimp only at hSw); go_simp; try with_reducible rfl)
            try simp only [Act.put, List.setIfInBounds_toArray, List.set_cons_zero, List.set_cons_succ]
            refine wpAnyH_take (i := 25) (oi := { dst := some 107, op := Op.move (Operand.tmp 106), type := 4, pos := "law.go:102", after := #[{ on := 24, ground := Ground.data }, { on := 22, ground := Ground.chain }], guard := none }) (v := ?vt25) rfl (by kernel_rfl) (by kernel_rfl) (by kernel_rfl) (fun _ _ _ h => h) (Or.inl ⟨by rfl, ?hyt25⟩) sHA.out ?restt25
            case hyt25 => (intro w hSw; (try dsimp only at hSw); go_simp; try with_reducible rfl)
            try simp only [Act.put, List.setIfInBounds_toArray, List.set_cons_zero, List.set_cons_succ]
            refine wpAnyH_take (i := 26) (oi := { dst := some 108, op := Op.move (Operand.tmp 7), type := 30, pos := "law.go:102", after := #[{ on := 25, ground := Ground.guard }], guard := some (25, false) }) (v := ?vt26) rfl (by kernel_rfl) (by kernel_rfl) (by kernel_rfl) (fun _ _ _ h => h) (Or.inl ⟨by rfl, ?hyt26⟩) sHA.out ?restt26
            case hyt26 => (intro w hSw; (try dsimp only at hSw); go_simp; try with_reducible rfl)
            try simp only [Act.put, List.setIfInBounds_toArray, List.set_cons_zero, List.set_cons_succ]
            refine wpAnyH_take (i := 27) (oi := { dst := some 109, op := Op.move (Operand.tmp 10), type := 3, pos := "law.go:102", after := #[{ on := 25, ground := Ground.guard }], guard := some (25, false) }) (v := ?vt27) rfl (by kernel_rfl) (by kernel_rfl) (by kernel_rfl) (fun _ _ _ h => h) (Or.inl ⟨by rfl, ?hyt27⟩) sHA.out ?restt27
            case hyt27 => (intro w hSw; (try dsimp only at hSw); go_simp; try with_reducible rfl)
            try simp only [Act.put, List.setIfInBounds_toArray, List.set_cons_zero, List.set_cons_succ]
            refine wpAnyH_take (i := 28) (oi := { dst := some 110, op := Op.indexAddr 30 (Operand.tmp 108) (Operand.tmp 109), type := 0, pos := "law.go:102", after := #[{ on := 26, ground := Ground.data }, { on := 27, ground := Ground.data }, { on := 25, ground := Ground.guard }], guard := some (25, false) }) (v := ?vt28) rfl (by kernel_rfl) (by kernel_rfl) (by kernel_rfl) (fun _ _ _ h => h) (Or.inl ⟨by rfl, ?hyt28⟩) sHA.out ?restt28
            case hyt28 => (intro w hSw; (try dsimp only at hSw); go_simp; try with_reducible rfl)
            try simp only [Act.put, List.setIfInBounds_toArray, List.set_cons_zero, List.set_cons_succ]
            refine wpAnyH_take (i := 29) (oi := { dst := some 111, op := Op.load 24 (Operand.tmp 110), type := 24, pos := "law.go:102", after := #[{ on := 28, ground := Ground.data }, { on := 25, ground := Ground.guard }], guard := some (25, false) }) (v := ?vt29) rfl (by kernel_rfl) (by kernel_rfl) (by kernel_rfl) (fun _ _ _ h => h) (Or.inl ⟨by rfl, ?hyt29⟩) sHA.out ?restt29
            case hyt29 => (intro w hSw; (try dsimp only at hSw); go_simp; try with_reducible rfl)
            try simp only [Act.put, List.setIfInBounds_toArray, List.set_cons_zero, List.set_cons_succ]
            refine wpAnyH_ready (rs := [30]) (by kernel_rfl) (by simp) ?_
            refine AllReadyH.cons (o := { dst := some 112, op := Op.call { callee := Callee.value (Operand.func 17), args := #[Operand.tmp 111, Operand.const (Value.int IntKind.u64 90), Operand.const (Value.int IntKind.i64 8)], argTypes := #[24, 27, 3] }, type := 41, pos := "law.go:102", after := #[{ on := 29, ground := Ground.data }, { on := 25, ground := Ground.chain }, { on := 25, ground := Ground.guard }], guard := some (25, false) }) rfl (fun K hK => ?_) AllReadyH.nil
            go_simp
            (go_at_call 17; refine (HT17.out _ (HA.out.old _ (List.mem_cons_self ..))).mono ?_; rintro e wB ⟨rfl, kB⟩; have HB : Hid (P2 w wB gl l r g sl u N v (2400 * j) (.slice (some ⟨bo, 0, none⟩) l.length co9) (.slice (some ⟨bw, 0, none⟩) l.length cw)) := HA.out.put (q := (qg, qsl, .slice qa qN qc, qN, qv)) kB; clear kB; have sHB : Hid ((wB.cell? ⟨bo, i, none⟩ = some (.pointer (some ⟨qg, 0, none⟩)) ∧ wB.cell? ⟨bw, i, none⟩ = some (.slice qa qN qc))) := HQ.out _ _ HB.out)
            go_wp2_with fail
            refine hK.out _ _ sHB.out (fun hB3 => ?_)
            clear hK K
            try simp only [Act.put, List.setIfInBounds_toArray, List.set_cons_zero, List.set_cons_succ]
            clear hB3
            refine wpAnyH_ready (rs := [31]) (by kernel_rfl) (by simp) ?_
            refine AllReadyH.cons (o := { dst := some 113, op := Op.call { callee := Callee.value (Operand.func 16), args := #[Operand.tmp 112], argTypes := #[41] }, type := 3, pos := "law.go:102", after := #[{ on := 30, ground := Ground.data }, { on := 30, ground := Ground.chain }, { on := 25, ground := Ground.guard }], guard := some (25, false) }) rfl (fun K hK => ?_) AllReadyH.nil
            go_simp
            (go_at_call 16; refine (num_any _ _).mono ?_; rintro e w' ⟨rfl, rfl⟩)
            go_wp2_with fail
            refine hK.out _ _ sHB.out (fun hB4 => ?_)
            clear hK K
            try simp only [Act.put, List.setIfInBounds_toArray, List.set_cons_zero, List.set_cons_succ]
            clear hB4
            refine wpAnyH_take (i := 32) (oi := { dst := some 114, op := Op.binOp BinOp.neq 3 (Operand.tmp 113) (Operand.const (Value.int IntKind.i64 0)) 3, type := 4, pos := "law.go:102", after := #[{ on := 31, ground := Ground.data }, { on := 25, ground := Ground.guard }], guard := some (25, false) }) (v := ?vt32) rfl (by kernel_rfl) (by kernel_rfl) (by kernel_rfl) (fun _ _ _ h => h) (Or.inl ⟨by rfl, ?hyt32⟩) sHB.out ?restt32
            case hyt32 => (intro w hSw; (try dsimp only at hSw); go_simp; try with_reducible rfl)
            try simp only [Act.put, List.setIfInBounds_toArray, List.set_cons_zero, List.set_cons_succ]
            refine wpAnyH_take (i := 33) (oi := { dst := some 115, op := Op.pick (Operand.tmp 107) (Operand.const (Value.bool true)) (Operand.tmp 114), type := 4, pos := "law.go:102", after := #[{ on := 25, ground := Ground.data }, { on := 32, ground := Ground.data }], guard := none }) (v := ?vt33) rfl (by kernel_rfl) (by kernel_rfl) (by kernel_rfl) (fun _ _ _ h => h) (Or.inl ⟨by rfl, ?hyt33⟩) sHB.out ?restt33
            case hyt33 => (intro w hSw; (try dsimp only at hSw); go_simp; try with_reducible rfl)
            try simp only [Act.put, List.setIfInBounds_toArray, List.set_cons_zero, List.set_cons_succ]
            refine wpAnyH_done (by kernel_rfl) ?_ _
            clear sH8 sH9 sHA s0 HD H8 H9 HA HT12 HT14 HT15 HT17
            go_wp2_with fail
            go_roundw
            case rel => exact ⟨i + 1, by omega, by go_num, by rw [← HR.out]; exact HB.out⟩
            case measure => simp [intOf]; omega
          · obtain rfl : i = l.length := by omega
            rw [List.drop_length] at h3
            obtain ⟨ao7, cap7, MB, zs, hu7, hzl, T12, T14, T15⟩ := h3.cur.ow.tell (by have := h3.hM.1; omega)
            subst hu7
            have H5 := Hid.mk' h3
            have HZL := Hid.mk' hzl
            have HT12 := Hid.mk' T12
            have HT14 := Hid.mk' T14
            have HT15 := Hid.mk' T15
            clear h3 hzl T12 T14 T15
            go_wp2_with fail
            have HD : Hid (P2 w wr.drew gl l [] g sl (.slice ao7 N cap7) N v (2400 * j) (.slice ao9 l.length co9) u8) := H5.out.ok ((Kp.refl _ wr).drew)
            have s0 : Hid ((wr.drew.cell? ⟨gl, 0, none⟩ = some (.slice ao7 N cap7))) := HD.out.cur.st.cell 0
            refine wp_region_held_drew (S := (fun w' => (w'.cell? ⟨gl, 0, none⟩ = some (.slice ao7 N cap7)))) (by kernel_rfl) s0.out (fun h0 => ?_)
            refine wpAnyH_take (i := 0) (oi := { dst := some 116, op := Op.move (Operand.tmp 5), type := 24, pos := "law.go:106", after := #[], guard := none }) (v := ?vf0) rfl (by kernel_rfl) (by kernel_rfl) (by kernel_rfl) (fun _ _ _ h => h) (Or.inl ⟨by rfl, ?hyf0⟩) h0 ?restf0
            case hyf0 => (intro w hSw; (try dsimp only at hSw); go_simp; try with_reducible rfl)
            try simp only [Act.put, List.setIfInBounds_toArray, List.set_cons_zero, List.set_cons_succ]
            refine wpAnyH_take (i := 1) (oi := { dst := some 117, op := Op.binOp BinOp.eql 24 (Operand.tmp 116) (Operand.const (Value.pointer none)) 24, type := 4, pos := "law.go:106", after := #[{ on := 0, ground := Ground.data }], guard := none }) (v := ?vf1) rfl (by kernel_rfl) (by kernel_rfl) (by kernel_rfl) (fun _ _ _ h => h) (Or.inl ⟨by rfl, ?hyf1⟩) h0 ?restf1
            case hyf1 => (intro w hSw; (try dsimp only at hSw); go_simp; try with_reducible rfl)
            try simp only [Act.put, List.setIfInBounds_toArray, List.set_cons_zero, List.set_cons_succ]
            refine wpAnyH_take (i := 2) (oi := { dst := some 118, op := Op.move (Operand.tmp 117), type := 4, pos := "law.go:106", after := #[{ on := 1, ground := Ground.data }], guard := none }) (v := ?vf2) rfl (by kernel_rfl) (by kernel_rfl) (by kernel_rfl) (fun _ _ _ h => h) (Or.inl ⟨by rfl, ?hyf2⟩) h0 ?restf2
            case hyf2 => (intro w hSw; (try dsimp only at hSw); go_simp; try with_reducible rfl)
            try simp only [Act.put, List.setIfInBounds_toArray, List.set_cons_zero, List.set_cons_succ]
            refine wpAnyH_take (i := 3) (oi := { dst := some 119, op := Op.move (Operand.tmp 5), type := 24, pos := "law.go:106", after := #[{ on := 2, ground := Ground.guard }], guard := some (2, false) }) (v := ?vf3) rfl (by kernel_rfl) (by kernel_rfl) (by kernel_rfl) (fun _ _ _ h => h) (Or.inl ⟨by rfl, ?hyf3⟩) h0 ?restf3
            case hyf3 => (intro w hSw; (try dsimp only at hSw); go_simp; try with_reducible rfl)
            try simp only [Act.put, List.setIfInBounds_toArray, List.set_cons_zero, List.set_cons_succ]
            refine wpAnyH_take (i := 5) (oi := { dst := some 121, op := Op.load 26 (Operand.tmp 6), type := 26, pos := "law.go:106", after := #[{ on := 2, ground := Ground.guard }], guard := some (2, false) }) (v := ?vf5) rfl (by kernel_rfl) (by kernel_rfl) (by kernel_rfl) (fun _ _ _ h => h) (Or.inl ⟨by rfl, ?hyf5⟩) h0 ?restf5
            case hyf5 => (intro w hSw; (try dsimp only at hSw); go_simp; try with_reducible rfl)
            try simp only [Act.put, List.setIfInBounds_toArray, List.set_cons_zero, List.set_cons_succ]
            refine wpAnyH_ready (rs := [4]) (by kernel_rfl) (by simp) ?_
            refine AllReadyH.cons (o := { dst := some 120, op := Op.call { callee := Callee.value (Operand.func 14), args := #[Operand.tmp 119], argTypes := #[24] }, type := 26, pos := "law.go:106", after := #[{ on := 3, ground := Ground.data }, { on := 2, ground := Ground.chain }, { on := 2, ground := Ground.guard }], guard := some (2, false) }) rfl (fun K hK => ?_) AllReadyH.nil
            go_simp
            (go_at_call 14; refine (HT14.out _ HD.out.cur.ow).mono ?_; rintro e w9 ⟨G9, rfl, sG9, k9⟩; have H9 : Hid (P2 w w9 gl l [] g sl (.slice ao7 N cap7) N v (2400 * j) (.slice ao9 l.length co9) u8) := HD.out.ok k9; have sH9 : Hid ((w9.cell? ⟨gl, 0, none⟩ = some (.slice ao7 N cap7))) := H9.out.cur.st.cell 0; clear k9)
            go_wp2_with fail
            refine hK.out _ _ sH9.out (fun h9 => ?_)
            clear hK K
            try simp only [Act.put, List.setIfInBounds_toArray, List.set_cons_zero, List.set_cons_succ]
            clear h9
            refine wpAnyH_ready (rs := [6]) (by kernel_rfl) (by simp) ?_
            refine AllReadyH.cons (o := { dst := some 122, op := Op.call { callee := Callee.value (Operand.func 15), args := #[Operand.tmp 121], argTypes := #[26] }, type := 26, pos := "law.go:106", after := #[{ on := 5, ground := Ground.data }, { on := 4, ground := Ground.chain }, { on := 2, ground := Ground.guard }], guard := some (2, false) }) rfl (fun K hK => ?_) AllReadyH.nil
            go_simp
            (go_at_call 15; refine (HT15.out _ H9.out.cur.ow).mono ?_; rintro e wA ⟨aA, cA, rfl, sA, kA⟩; have HA : Hid (P2 w wA gl l [] g sl (.slice ao7 N cap7) N v (2400 * j) (.slice ao9 l.length co9) u8) := H9.out.ok kA; have sHA : Hid ((wA.cell? ⟨gl, 0, none⟩ = some (.slice ao7 N cap7))) := HA.out.cur.st.cell 0; have sGA := sG9.kp kA (fun _ _ _ x => x); clear kA sG9)
            go_wp2_with fail
            refine hK.out _ _ sHA.out (fun hA => ?_)
            clear hK K
            try simp only [Act.put, List.setIfInBounds_toArray, List.set_cons_zero, List.set_cons_succ]
            clear hA
            refine wpAnyH_ready (rs := [7]) (by kernel_rfl) (by simp) ?_
            refine AllReadyH.cons (o := { dst := some 123, op := Op.call { callee := Callee.value (Operand.func 13), args := #[Operand.tmp 120, Operand.tmp 122], argTypes := #[26, 26] }, type := 4, pos := "law.go:106", after := #[{ on := 4, ground := Ground.data }, { on := 6, ground := Ground.data }, { on := 6, ground := Ground.chain }, { on := 2, ground := Ground.guard }], guard := some (2, false) }) rfl (fun K hK => ?_) AllReadyH.nil
            go_simp
            (go_at_call 13; refine (same_eq (some ⟨G9, 0, none⟩) aA MB cA MB zs _ HZL.out sGA sA).mono ?_; rintro e w' ⟨rfl, rfl⟩)
            go_wp2_with fail
            refine hK.out _ _ sHA.out (fun hB2 => ?_)
            clear hK K
            try simp only [Act.put, List.setIfInBounds_toArray, List.set_cons_zero, List.set_cons_succ]
            clear hB2 sGA sA
            refine wpAnyH_take (i := 8) (oi := { dst := some 124, op := Op.unOp UnOp.not 4 (Operand.tmp 123), type := 4, pos := "law.go:106", after := #[{ on := 7, ground := Ground.data }, { on := 2, ground := Ground.guard }], guard := some (2, false) }) (v := ?vf8) rfl (by kernel_rfl) (by kernel_rfl) (by kernel_rfl) (fun _ _ _ h => h) (Or.inl ⟨by rfl, ?hyf8⟩) sHA.out ?restf8
            case hyf8 => (intro w hSw; (try dsimp only at hSw); go_simp; try with_reducible rfl)
            try simp only [Act.put, List.setIfInBounds_toArray, List.set_cons_zero, List.set_cons_succ]
            refine wpAnyH_take (i := 9) (oi := { dst := some 125, op := Op.pick (Operand.tmp 118) (Operand.const (Value.bool true)) (Operand.tmp 124), type := 4, pos := "law.go:106", after := #[{ on := 2, ground := Ground.data }, { on := 8, ground := Ground.data }], guard := none }) (v := ?vf9) rfl (by kernel_rfl) (by kernel_rfl) (by kernel_rfl) (fun _ _ _ h => h) (Or.inl ⟨by rfl, ?hyf9⟩) sHA.out ?restf9
            case hyf9 => (intro w hSw; (try dsimp only at hSw); go_simp; try with_reducible rfl)
            try simp only [Act.put, List.setIfInBounds_toArray, List.set_cons_zero, List.set_cons_succ]
            refine wpAnyH_done (by kernel_rfl) ?_ _
            have kE := HA.out.k
            clear s0 sH9 sHA HD H9 HA H5 HT12 HT14 HT15
            go_wp2_with (first | (go_at_call 17; refine (put_nil 0 99 _).mono ?_; rintro e w' ⟨rfl, rfl⟩) | (go_at_call 18; refine (code_nil 0 99 _).mono ?_; rintro e w' ⟨rfl, rfl⟩) | (go_at_call 19; refine (align_nil _).mono ?_; rintro e w' ⟨rfl, rfl⟩) | (go_at_call 20; refine (rawW_nil _ _ _ _).mono ?_; rintro e w' ⟨rfl, rfl⟩) | (go_at_call 12; refine (len_nil _).mono ?_; rintro e w' ⟨rfl, rfl⟩) | (go_at_call 14; refine (bytes_nil _).mono ?_; rintro e w' ⟨rfl, rfl⟩) | (go_at_call 10; refine (copyW_nil _).mono ?_; rintro e w' ⟨rfl, rfl⟩) | (go_at_call 16; refine (num_any _ _).mono ?_; rintro e w' ⟨rfl, rfl⟩) | (go_at_call 8; refine (works_any _).mono ?_; rintro e wZ ⟨rfl, kZ⟩))
            go_ret
            exact ⟨rfl, kE.trans kZ (fun _ _ x => x)⟩
end Go.Proofs.Ytfeokjbmobmabaa
