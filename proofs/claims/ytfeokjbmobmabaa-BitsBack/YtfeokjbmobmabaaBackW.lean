/- The walk of BitsBack: it answers true, and nothing that was there has turned. -/
import Derived.Test.YtfeokjbmobmabaaPack
namespace Go.Proofs.Ytfeokjbmobmabaa
open Go.RowKit

def us (l : List (Nat × Nat)) : List Value := l.map fun p => .int .u64 (p.1 : Int)
def ks (l : List (Nat × Nat)) : List Value := l.map fun p => .int .i64 (p.2 : Int)
theorem us_snoc (l : List (Nat × Nat)) (x n : Nat) : us (l ++ [(x, n)]) = us l ++ [.int .u64 (x : Int)] := by simp [us]
theorem ks_snoc (l : List (Nat × Nat)) (x n : Nat) : ks (l ++ [(x, n)]) = ks l ++ [.int .i64 (n : Int)] := by simp [ks]
/-- A width out of any number. -/
theorem width_any (z : Int) : ∃ n : Nat, n ≤ 57 ∧ (wrap64 (z.tmod 58 + 58)).tmod 58 = (n : Int) := by
  have h : -58 < z.tmod 58 ∧ z.tmod 58 < 58 := by
    by_cases hz : 0 ≤ z
    · rw [Int.tmod_eq_emod_of_nonneg hz]; omega
    · rw [show z = -(-z) by omega, Int.neg_tmod, Int.tmod_eq_emod_of_nonneg (show 0 ≤ -z by omega)]; omega
  generalize z.tmod 58 = t at h
  have e : wrap64 (t + 58) = t + 58 := by
    unfold wrap64; omega
  rw [e, Int.tmod_eq_emod_of_nonneg (by omega)]
  exact ⟨((t + 58) % 58).toNat, by omega, by omega⟩
theorem part_any (x0 n : Nat) (hx : x0 < 18446744073709551616) (hn : n ≤ 57) : ∃ X : Nat, X < 2 ^ n ∧ (x0 : Int) / 2 ^ (63 - n) / 2 = (X : Int) := by
  refine ⟨x0 / 2 ^ (63 - n) / 2, ?_, by rw [div_nat]; omega⟩
  rw [Nat.div_div_eq_div_mul, ← Nat.pow_succ, Nat.div_lt_iff_lt_mul (Nat.pow_pos (by omega)), ← Nat.pow_add, show n + (63 - n).succ = 64 by omega]
  exact Nat.lt_of_lt_of_le hx (by decide)
theorem wk_row {w w' : World} {base : Nat} {e : TypeId} {v : Value} {n : Nat} {xs : List Value} (h : w.ownsRow base e 1 v n xs) (k : Wk w w') (h29 : e ≠ 29) (h5 : e ≠ 5) : w'.ownsRow base e 1 v n xs :=
  ownsRow_kp h k (fun _ hb ht => by
    rcases hb with hb | hb
    · exact h29 (Ty.ne ht hb)
    · exact h5 (Ty.ne ht hb))
theorem rk_row {w w' : World} {base : Nat} {e : TypeId} {v : Value} {n : Nat} {xs : List Value} (h : w.ownsRow base e 1 v n xs) (k : Rk w w') (h80 : e ≠ 80) : w'.ownsRow base e 1 v n xs :=
  ownsRow_kp h k (fun _ hb ht => h80 (Ty.ne ht hb))
theorem ok_row {w w' : World} {base : Nat} {e : TypeId} {v : Value} {n : Nat} {xs : List Value} (h : w.ownsRow base e 1 v n xs) (k : Ok' w w') : w'.ownsRow base e 1 v n xs := ownsRow_kp h k (fun _ hb => hb.elim)
theorem ty_own {w : World} {base : Nat} {e : TypeId} {v : Value} {n : Nat} {xs : List Value} (h : w.ownsRow base e 1 v n xs) {b : Nat} (hb : v.ownBlock = some b) : Ty w b e := by
  rcases h.2 with ⟨rfl, _⟩ | ⟨g, cap, cur, rfl, _, hgg, _⟩
  · simp [Value.ownBlock] at hb
  · simp [Value.ownBlock] at hb
    subst hb
    exact ⟨_, _, hgg⟩
/-- A row of one's own is grown: rows of another kind, and a writer, are kept. -/
theorem row_grow {w w' : World} {base : Nat} {e f : TypeId} {v v2 : Value} {n m : Nat} {xs ys : List Value} {u : Value} (h : w.ownsRow base e 1 v n xs) (hf : w.ownsRow base f 1 v2 m ys) (hne : f ≠ e) (hg : (w.alloc (.cells #[u] e)).grownBy w' v.ownBlock) : w'.ownsRow base f 1 v2 m ys := by
  have K : Kp (fun i => v.ownBlock = some i) w w' := ((Kp.refl _ w).alloc _).grown hg (fun _ _ x => x)
  exact ownsRow_kp hf K (fun b hb ht => hne (Ty.ne ht (ty_own h hb)))
theorem wr_grow {w0 w w' : World} {e : TypeId} {v : Value} {n g N x : Nat} {xs : List Value} {u : Value} (h : w.ownsRow w0.heap.size e 1 v n xs) (hw : WrO w0 w g N x) (h29 : e ≠ 29) (h5 : e ≠ 5) (hg : (w.alloc (.cells #[u] e)).grownBy w' v.ownBlock) : WrO w0 w' g N x := by
  have K : Kp (fun i => v.ownBlock = some i) w w' := ((Kp.refl _ w).alloc _).grown hg (fun _ _ x => x)
  obtain ⟨sl, hr, k0, h1, h2⟩ := hw
  refine ⟨sl, hr.kp K (fun x => h29 (Ty.ne (ty_own h x) hr.ty)) (fun b hb x => h5 (Ty.ne (ty_own h x) (hr.tyb hb))), k0.trans K (fun i hi x => ?_), h1, h2⟩
  have := (World.ownsRow.lt h i x).1
  omega

theorem own_form {w : World} {base : Nat} {e : TypeId} {v : Value} {n : Nat} {xs : List Value} (h : w.ownsRow base e 1 v n xs) : ∃ ao cap, v = .slice ao n cap ∧ n ≤ cap ∧ (0 < n → ∃ G, ao = some ⟨G, 0, none⟩) := by
  rcases h.2 with ⟨rfl, rfl⟩ | ⟨g, cap, cur, rfl, _, _, h4, _⟩
  · exact ⟨none, 0, rfl, Nat.le_refl _, fun h => absurd h (by omega)⟩
  · exact ⟨_, cap, rfl, h4, fun _ => ⟨g, rfl⟩⟩
theorem own_cell {w : World} {base : Nat} {e : TypeId} {G n cap : Nat} {xs : List Value} (h : w.ownsRow base e 1 (.slice (some ⟨G, 0, none⟩) n cap) n xs) (j : Nat) (u : Value) (hu : xs[j]? = some u) : w.cell? ⟨G, j, none⟩ = some u := by
  have := World.ownsRow.cells h (g := G) rfl j u hu
  rw [add_z] at this
  exact this
theorem us_get (l : List (Nat × Nat)) (j : Nat) (hj : j < l.length) : (us l)[j]? = some (.int .u64 ((l[j]).1 : Int)) := by simp [us, hj]
theorem ks_get (l : List (Nat × Nat)) (j : Nat) (hj : j < l.length) : (ks l)[j]? = some (.int .i64 ((l[j]).2 : Int)) := by simp [ks, hj]
theorem ownsRow_cell_kp {w w' : World} {base : Nat} {e : TypeId} {G n cap : Nat} {xs : List Value} (h : w.ownsRow base e 1 (.slice (some ⟨G, 0, none⟩) n cap) n xs) (h' : w'.ownsRow base e 1 (.slice (some ⟨G, 0, none⟩) n cap) n xs) (j : Nat) (hj : j < n := by omega) : w'.cell? ⟨G, j, none⟩ = w.cell? ⟨G, j, none⟩ := by
  have hl := h.1
  have hx : xs[j]? = some xs[j] := by simp
  rw [own_cell h' j _ hx, own_cell h j _ hx]
theorem SH (w0 w : World) (g : Nat) (D : List Int) (p : Nat) (h : RdO w0 w g D p) (hl : 8 * D.length ≤ p) : Calls Try.prog 32 #[.pointer (some ⟨g, 0, none⟩), .int .i64 1] w fun e w' => e = .returned (.tuple #[.int .u64 0, .int .i64 120]) ∧ RdO w0 w' g D p ∧ Rk w w' := shortT w0 w g D p 1 (by omega) h (by omega)
/-- The whole of it: the numbers, noughts up to a byte's beginning, the bytes. -/
theorem whole_lt (l : List (Nat × Nat)) (h : Its l) (B : List Int) (hb : Byt B) : pv l + und 256 B * 2 ^ (8 * ((pn l + 7) / 8)) < 256 ^ ((pn l + 7) / 8 + B.length) := by
  rw [pow_256, Nat.mul_add]
  exact raw_lt _ _ B (Nat.lt_of_lt_of_le (pv_lt l h) (Nat.pow_le_pow_right (by omega) (by omega))) hb
theorem whole_raw (l : List (Nat × Nat)) (h : Its l) (B : List Int) (hb : Byt B) : ((dig 256 (pv l + und 256 B * 2 ^ (8 * ((pn l + 7) / 8))) ((pn l + 7) / 8 + B.length)).drop ((pn l + 7) / 8)).take B.length = B := by
  have hlt : pv l < 256 ^ ((pn l + 7) / 8) := by rw [pow_256]; exact Nat.lt_of_lt_of_le (pv_lt l h) (Nat.pow_le_pow_right (by omega) (by omega))
  rw [← pow_256, dig_join 256 _ _ _ _ (by omega) hlt, List.drop_append_of_le_length (by rw [dig_length]; omega), List.drop_of_length_le (by rw [dig_length]; omega), List.nil_append, dig_und 256 B (byt_range hb), List.take_length]

set_option maxRecDepth 100000 in
set_option maxHeartbeats 4000000 in
theorem back_walk (a0 a1 a2 : Option Addr) (c0 c1 c2 : Nat) (zs0 zs1 B : List Int) (w : World) (hl : zs0.length ≤ 200) (hB : B.length ≤ 2000) (hl1 : zs1.length ≤ 9223372036854775807) (h0 : ∀ z ∈ zs0, 0 ≤ z ∧ z < 18446744073709551616)
    (hb : Byt B) (s0 : SrcK .u64 w a0 zs0) (s1 : SrcK .i64 w a1 zs1) (s2 : Src w a2 B) (hnil : a2 = none → c2 = 0) :
    Calls Try.prog 6 #[.slice a0 zs0.length c0, .slice a1 zs1.length c1, .slice a2 B.length c2] w fun e w' => e = .returned (.bool true) ∧ Ok' w w' := by
  have HNIL : Hid (a2 = none → c2 = 0) := hnil
  have H0 : Hid (∀ z ∈ zs0, 0 ≤ z ∧ z < 18446744073709551616) := h0
  clear hnil h0
  go_enter Try.func6, Try.ntmps6
  go_wp2_with fail
  refine (newO w).mono ?_
  rintro e w1 ⟨g, rfl, h1⟩
  go_wp2_with fail
  go_loopw [8, 9, 10, 11, 12, 13] (fun lv kv iv _ _ _ wr => ∃ (its : List (Nat × Nat)) (j : Nat), Its its ∧ its.length ≤ 2 * j ∧ j ≤ zs0.length ∧ iv = .int .i64 j ∧ WrO w wr g (pn its) (pv its) ∧ wr.ownsRow w.heap.size 27 1 lv its.length (us its) ∧ wr.ownsRow w.heap.size 3 1 kv its.length (ks its)) (fun _ _ i _ _ _ _ => zs0.length - (intOf i).toNat)
  case atStart => exact ⟨[], 0, fun p hp => by simp at hp, by simp, Nat.zero_le _, rfl, h1, World.ownsRow_nil _ _ _ _, World.ownsRow_nil _ _ _ _⟩
  case round =>
    clear h1
    obtain ⟨its, j, hits, hlen, hj, rfl, hw, hl8, hl9⟩ := hrel
    by_cases hjl : j < zs0.length ∧ j < zs1.length
    · obtain ⟨hj0, hj1⟩ := hjl
      have k0 : Ok' w wr := by obtain ⟨_, _, k, _⟩ := hw; exact k
      obtain ⟨b0, o0, rfl, hc0⟩ := s0.ok k0 (by omega)
      obtain ⟨b1, o1, rfl, hc1⟩ := s1.ok k0 (by omega)
      have e0 := hc0 j hj0
      have e1 := hc1 j hj1
      have hz0 := H0.out (zs0.getD j 0) (by rw [getD_lt _ _ _ hj0]; exact List.getElem_mem hj0)
      obtain ⟨x0, hx0⟩ : ∃ x0 : Nat, (x0 : Int) = zs0.getD j 0 := ⟨(zs0.getD j 0).toNat, by omega⟩
      rw [← hx0] at e0 hz0
      generalize zs1.getD j 0 = z1 at e1
      clear hc0 hc1 hx0
      obtain ⟨n, hn, hwid⟩ := width_any z1
      obtain ⟨X, hX, hXe⟩ := part_any x0 n (by omega) hn
      have hpl := pn_le its hits
      have HL : Hid (its.length ≤ 400) := by show _ ≤ _; omega
      have HN : Hid (pn its ≤ 1000000 ∧ pn its + n ≤ 1000000) := by show _ ∧ _; omega
      have HI2 := hits.snoc X n hn hX
      have HI3 := HI2.snoc (turn X n) n hn (turn_lt X n)
      have T1 : Hid (∀ w, Calls Try.prog 30 #[.int .u64 X, .int .i64 n] w fun e w' => e = .returned (.int .u64 (turn X n)) ∧ w = w') := by
        intro w
        have := turned_any X n w (Nat.lt_of_lt_of_le hX (Nat.pow_le_pow_right (n := 2) (j := 64) (by omega) (by omega)))
        rw [Int.toNat_natCast, show min n 64 = n by omega] at this
        exact this
      go_wp2_with (first | (at_builtin; refine wpList_append_1 rfl (.tmp 66) (.tmp 68) 65 27 (.int .u64 0) (.int .u64 X) 8 rfl Try.underlying65 Try.info27 rfl (by decide) rfl w.heap.size u8 its.length (us its) rfl hl8 rfl (by have := HL.out; omega) k0.size ?_; intro l2 w2 hl82 g2; have hw2 := wr_grow hl8 hw (by decide) (by decide) g2; have hl92 := row_grow hl8 hl9 (by decide) g2; rw [← us_snoc its X n] at hl82; have k2 : Ok' w w2 := by (obtain ⟨_, _, k, _⟩ := hw2; exact k)) | (at_builtin; refine wpList_append_1 rfl (.tmp 70) (.tmp 72) 53 3 (.int .i64 0) (.int .i64 n) 8 rfl Try.underlying53 Try.info3 rfl (by decide) rfl w.heap.size u9 its.length (ks its) rfl hl92 rfl (by have := HL.out; omega) k2.size ?_; intro l3 w3 hl93 g3; have hw3 := wr_grow hl92 hw2 (by decide) (by decide) g3; have hl83 := row_grow hl92 hl82 (by decide) g3; rw [← ks_snoc its X n] at hl93))
      refine (putT w _ g X n (pn its) (pv its) (by have := HN.out; omega) hn hX hw3).mono ?_
      rintro e w4 ⟨rfl, hw4, k4⟩
      rw [← pn_snoc its X n, ← pv_snoc its X n] at hw4
      have hl84 := wk_row hl83 k4 (by decide) (by decide)
      have hl94 := wk_row hl93 k4 (by decide) (by decide)
      have HN2 : Hid (pn (its ++ [(X, n)]) ≤ 1000000 ∧ (its ++ [(X, n)]).length = its.length + 1) := by show _ ∧ _; rw [pn_snoc]; exact ⟨HN.out.2, by simp⟩
      obtain ⟨it2, hit2⟩ : ∃ it2, it2 = its ++ [(X, n)] := ⟨_, rfl⟩
      rw [← HN2.out.2] at hl84 hl94
      rw [← hit2] at hw4 hl84 hl94 HI2 HI3 HN2
      clear hl8 hl9 hw g2 g3 hw2 hl92 hl82 hw3 hl83 hl93 k4 hit2 k2 hits HN hXe hwid e0 e1 k0
      by_cases hodd : j % 2 = 1
      · have hodd2 : ((j : Int) % 2 == 1) = true := by simp; omega
        clear hodd
        go_wp2_with (go_at_call 16; refine (num_any _ _).mono ?_; rintro e w' ⟨rfl, rfl⟩)
        refine (codeT w _ g X n (pn it2) (pv it2) (by have := HN2.out; omega) hn hX hw4).mono ?_
        rintro e w5 ⟨rfl, hw5, k5⟩
        rw [← pn_snoc it2 (turn X n) n, ← pv_snoc it2 (turn X n) n] at hw5
        have hl85 := wk_row hl84 k5 (by decide) (by decide)
        have hl95 := wk_row hl94 k5 (by decide) (by decide)
        have k5' : Ok' w w5 := by obtain ⟨_, _, k, _⟩ := hw5; exact k
        clear hw4 hl84 hl94 k5
        obtain ⟨TX, hTX⟩ : ∃ TX, TX = turn X n := ⟨_, rfl⟩
        rw [← hTX] at hw5 T1 HI3
        clear hTX
        go_wp2_with (first | (go_at_call 16; refine (num_any _ _).mono ?_; rintro e w' ⟨rfl, rfl⟩) | (go_at_call 30; refine (T1.out _).mono ?_; rintro e w' ⟨rfl, rfl⟩) | (at_builtin; refine wpList_append_1 rfl (.tmp 88) (.tmp 92) 65 27 (.int .u64 0) (.int .u64 TX) 8 rfl Try.underlying65 Try.info27 rfl (by decide) rfl w.heap.size l2 it2.length (us it2) rfl hl85 rfl (by have := HL.out; have := HN2.out; omega) k5'.size ?_; intro l6 w6 hl86 g6; have hw6 := wr_grow hl85 hw5 (by decide) (by decide) g6; have hl96 := row_grow hl85 hl95 (by decide) g6; rw [← us_snoc it2 TX n] at hl86; have k6 : Ok' w w6 := by (obtain ⟨_, _, k, _⟩ := hw6; exact k)) | (at_builtin; refine wpList_append_1 rfl (.tmp 94) (.tmp 96) 53 3 (.int .i64 0) (.int .i64 n) 8 rfl Try.underlying53 Try.info3 rfl (by decide) rfl w.heap.size l3 it2.length (ks it2) rfl hl96 rfl (by have := HL.out; have := HN2.out; omega) k6.size ?_; intro l7 w7 hl97 g7; have hw7 := wr_grow hl96 hw6 (by decide) (by decide) g7; have hl87 := row_grow hl96 hl86 (by decide) g7; rw [← ks_snoc it2 TX n] at hl97))
        go_roundw
        case rel =>
          have e3 : (it2 ++ [(TX, n)]).length = it2.length + 1 := by simp
          rw [← e3] at hl87 hl97
          exact ⟨it2 ++ [(TX, n)], j + 1, HI3, by have := HN2.out; omega, by omega, by go_num, hw7, hl87, hl97⟩
        case measure => simp [intOf]; omega
      · have hodd2 : ((j : Int) % 2 == 1) = false := by simp; omega
        clear hodd
        go_wp2_with (go_at_call 16; refine (num_any _ _).mono ?_; rintro e w' ⟨rfl, rfl⟩)
        go_roundw
        case rel => exact ⟨it2, j + 1, HI2, by have := HN2.out; omega, by omega, by go_num, hw4, hl84, hl94⟩
        case measure => simp [intOf]; omega
    · by_cases hj0 : j < zs0.length
      · have hj1 : zs1.length ≤ j := by omega
        clear hjl
        clear s0 s1 H0 hl1
        have hP := pn_le its hits
        obtain ⟨aL, cL, rfl, hcL, hGL⟩ := own_form hl8
        obtain ⟨aK, cK, rfl, hcK, hGK⟩ := own_form hl9
        obtain ⟨P, hPe⟩ : ∃ P, P = pn its := ⟨_, rfl⟩
        obtain ⟨M, hMe⟩ : ∃ M, M = (P + 7) / 8 := ⟨_, rfl⟩
        obtain ⟨T, hTe⟩ : ∃ T, T = M + B.length := ⟨_, rfl⟩
        obtain ⟨V, hVe⟩ : ∃ V, V = pv its + und 256 B * 2 ^ (8 * M) := ⟨_, rfl⟩
        have hPM : ((P : Int) + 7) / 8 = (M : Int) := by omega
        have hPb : P ≤ 40000 := by omega
        have hMb : M ≤ 10000 := by omega
        have hTb : T ≤ 100000 := by omega
        have hits200 : its.length ≤ 400 := by omega
        have hTM : ((T : Int) != (M : Int) + (B.length : Int)) = false := by simp; omega
        have HV : Hid (und 256 (dig 256 V T) = V) := by
          show _ = _
          rw [und_dig, Nat.mod_eq_of_lt]
          have := whole_lt its hits B hb
          rw [← hPe, ← hMe, ← hTe, ← hVe] at this
          exact this
        have HR : Hid (((dig 256 V T).drop M).take B.length = B) := by
          have := whole_raw its hits B hb
          rw [← hPe, ← hMe, ← hTe, ← hVe] at this
          exact this
        have HE : Hid (P = pn its ∧ M = (P + 7) / 8 ∧ T = M + B.length ∧ V = pv its + und 256 B * 2 ^ (8 * M)) := ⟨hPe, hMe, hTe, hVe⟩
        have HX : Hid (Its its) := hits
        rw [← hPe] at hw
        clear hPe hMe hTe hVe hP hits hlen
        go_wp2_with fail
        refine (lenT w _ g P (pv its) (by omega) hw).mono ?_
        rintro e w2 ⟨rfl, hw2, k2⟩
        have r8 := ok_row hl8 k2
        have r9 := ok_row hl9 k2
        clear hw hl8 hl9 k2
        go_wp2_with fail
        refine (alignT w _ g P (pv its) (by omega) hw2).mono ?_
        rintro e w3 ⟨rfl, hw3, k3⟩
        have r83 := wk_row r8 k3 (by decide) (by decide)
        have r93 := wk_row r9 k3 (by decide) (by decide)
        rw [← HE.out.2.1] at hw3
        clear hw2 r8 r9 k3
        go_wp2_with (go_at_call 16; refine (num_any _ _).mono ?_; rintro e w' ⟨rfl, rfl⟩)
        have k3' : Ok' w w3 := by obtain ⟨_, _, k, _⟩ := hw3; exact k
        refine (rawT w _ g (8 * M) (pv its) a2 c2 B (by omega) (by omega) (by omega) hb (s2.kp k3' (fun _ _ _ x => x)) HNIL.out hw3).mono ?_
        rintro e w4 ⟨rfl, hw4, k4⟩
        rw [← HE.out.2.2.2, show 8 * M + 8 * B.length = 8 * T by have := HE.out; omega] at hw4
        have r84 := wk_row r83 k4 (by decide) (by decide)
        have r94 := wk_row r93 k4 (by decide) (by decide)
        clear hw3 r83 r93 k4 k3'
        go_wp2_with (go_at_call 16; refine (num_any _ _).mono ?_; rintro e w' ⟨rfl, rfl⟩)
        have BT := bytesT w w4 g (8 * T) V (by omega) hw4
        rw [show (8 * T + 7) / 8 = T by omega] at BT
        refine BT.mono ?_
        rintro e w5 ⟨G5, rfl, hG5, rw5, hw5, k5⟩
        have r85 := ok_row r84 k5
        have r95 := ok_row r94 k5
        have k5' : Ok' w w5 := by obtain ⟨_, _, k, _⟩ := hw5; exact k
        clear BT hw4 r84 r94 k5 hw5
        go_wp2_with fail
        refine (newrO w w5 k5' _ T T (dig 256 V T) (dig_length _ _ _) (by rw [dig_length]; omega) (dig_byt _ _) rw5.src).mono ?_
        rintro e w6 ⟨g6, rfl, h6, k6⟩
        have r86 := ok_row r85 k6
        have r96 := ok_row r95 k6
        clear rw5 r85 r95 k5' k6 hG5
        obtain ⟨D, hD⟩ : ∃ D, D = dig 256 V T := ⟨_, rfl⟩
        have HD : Hid (D.length = T) := by show _ = _; rw [hD]; exact dig_length _ _ _
        rw [← hD] at h6 HV HR
        clear hD
        go_wp2_with fail
        go_loopw [17, 18, 19, 20, 21, 22] (fun iv _ _ _ _ _ wr => ∃ j : Nat, j ≤ its.length ∧ iv = .int .i64 j ∧ RdO w wr g6 D (pn (its.take j)) ∧ wr.ownsRow w.heap.size 27 1 (.slice aL its.length cL) its.length (us its) ∧ wr.ownsRow w.heap.size 3 1 (.slice aK its.length cK) its.length (ks its)) (fun i _ _ _ _ _ _ => its.length - (intOf i).toNat)
        case atStart => exact ⟨0, Nat.zero_le _, rfl, h6, r86, r96⟩
        case round =>
          clear h6 r86 r96 hPM hTM
          obtain ⟨j2, hj2, rfl, h6, r86, r96⟩ := hrel
          by_cases hjl2 : j2 < its.length
          · obtain ⟨GL, rfl⟩ := hGL (by omega)
            obtain ⟨GK, rfl⟩ := hGK (by omega)
            have hi := HX.out its[j2] (List.getElem_mem hjl2)
            have hps := pn_take_succ its j2 hjl2
            have hpr := pv_read its HX.out j2 hjl2 (8 * M) (und 256 B) (by have := HE.out; omega)
            have hpl : pn (its.take (j2 + 1)) ≤ pn its := by
              have := pn_append (its.take (j2 + 1)) (its.drop (j2 + 1))
              rw [List.take_append_drop] at this
              omega
            have cK2 := own_cell r96 j2 _ (ks_get its j2 hjl2)
            have cL2 := own_cell r86 j2 _ (us_get its j2 hjl2)
            rw [← HE.out.2.2.2, ← HV.out] at hpr
            obtain ⟨x, hx⟩ : ∃ x, x = (its[j2]).1 := ⟨_, rfl⟩
            obtain ⟨n, hn⟩ : ∃ n, n = (its[j2]).2 := ⟨_, rfl⟩
            obtain ⟨q, hq⟩ : ∃ q, q = pn (its.take j2) := ⟨_, rfl⟩
            rw [← hn] at cK2 hi hps hpr
            rw [← hx] at cL2 hi hpr
            rw [← hq] at h6 hps hpr
            have hqn : q + n ≤ 8 * D.length := by have := HE.out; have := HD.out; omega
            have hmin : min n (8 * D.length - q) = n := by omega
            have PK := peekT w wr g6 D q n hi.1 h6
            rw [hpr, hmin] at PK
            have TK : Hid (∀ w', RdO w w' g6 D q → Calls Try.prog 32 #[.pointer (some ⟨g6, 0, none⟩), .int .i64 n] w' fun e w'' => e = .returned (.tuple #[.int .u64 x, .int .i64 0]) ∧ RdO w w'' g6 D (q + n) ∧ Rk w' w'') := by
              intro w' h'
              have := takeT w w' g6 D q n hi.1 h' hqn
              rw [hpr] at this
              exact this
            have HQ : Hid (q + n = pn (its.take (j2 + 1))) := hps.symm
            clear hx hn hq hps hpr hpl hqn hmin hi hGL hGK
            go_wp2_with fail
            refine PK.mono ?_
            rintro e w7 ⟨rfl, h7, k7⟩
            have r87 := rk_row r86 k7 (by decide)
            have r97 := rk_row r96 k7 (by decide)
            have cK7 : w7.cell? ⟨GK, j2, none⟩ = some (.int .i64 n) := (ownsRow_cell_kp r96 r97 j2).trans cK2
            have cL7 : w7.cell? ⟨GL, j2, none⟩ = some (.int .u64 x) := (ownsRow_cell_kp r86 r87 j2).trans cL2
            clear PK h6 r86 r96 cK2 cL2 k7
            go_wp2_with fail
            refine (TK.out _ h7).mono ?_
            rintro e w8 ⟨rfl, h8, k8⟩
            have r88 := rk_row r87 k8 (by decide)
            have r98 := rk_row r97 k8 (by decide)
            have cK8 : w8.cell? ⟨GK, j2, none⟩ = some (.int .i64 n) := (ownsRow_cell_kp r97 r98 j2).trans cK7
            have cL8 : w8.cell? ⟨GL, j2, none⟩ = some (.int .u64 x) := (ownsRow_cell_kp r87 r88 j2).trans cL7
            clear h7 r87 r97 cK7 cL7 k8 TK
            rw [HQ.out] at h8
            go_wp2_with (go_at_call 16; refine (num_any _ _).mono ?_; rintro e w' ⟨rfl, rfl⟩)
            go_roundw
            case rel =>
              exact ⟨j2 + 1, by omega, by go_num, h8, r88, r98⟩
            case measure => simp [intOf]; omega
          · obtain rfl : j2 = its.length := by omega
            rw [List.take_length, ← HE.out.1] at h6
            clear r86 r96 hGL hGK hj2
            go_wp2_with fail
            refine (atO w _ g6 D P h6).mono ?_
            rintro e w7 ⟨rfl, h7⟩
            clear h6
            go_wp2_with fail
            refine (alignRT w _ g6 D P h7).mono ?_
            rintro e w8 ⟨rfl, h8, k8⟩
            rw [← HE.out.2.1] at h8
            clear h7 k8
            go_wp2_with (go_at_call 16; refine (num_any _ _).mono ?_; rintro e w' ⟨rfl, rfl⟩)
            refine (rawRT w _ g6 D (8 * M) B.length (by omega) (by have := HE.out; have := HD.out; omega) h8).mono ?_
            rintro e w9 ⟨G9, rfl, hG9, rw9, h9, k9⟩
            rw [show 8 * M / 8 = M by omega, HR.out] at rw9
            rw [show 8 * M + 8 * B.length = 8 * T by have := HE.out; omega] at h9
            clear h8 k9 hG9
            go_wp2_with fail
            refine (SH w w9 g6 D (8 * T) h9 (by have := HD.out; omega)).mono ?_
            rintro e w10 ⟨rfl, h10, k10⟩
            have rw10 : Rw 5 w10 G9 B := rw9.kp k10 (fun ht => by have : (80 : TypeId) = 5 := Ty.ne ht ⟨_, _, rw9⟩; exact absurd this (by decide))
            have k10' : Ok' w w10 := by obtain ⟨_, _, _, k, _⟩ := h10; exact k
            clear h9 rw9 k10
            go_wp2_with fail
            refine (same_eq _ _ B.length c2 B.length B _ rfl rw10.src (s2.kp k10' (fun _ _ _ x => x))).mono ?_
            rintro e w' ⟨rfl, rfl⟩
            have hz0 : 8 * D.length - 8 * T = 0 := by have := HD.out; omega
            have LO := leftO w w10 g6 D (8 * T) h10
            rw [hz0] at LO
            clear rw10 k10' hz0
            go_wp2_with (go_at_call 16; refine (num_any _ _).mono ?_; rintro e w' ⟨rfl, rfl⟩)
            refine LO.mono ?_
            rintro e w11 ⟨rfl, h11⟩
            clear LO h10
            go_wp2_with fail
            refine (works_any _).mono ?_
            rintro e w12 ⟨rfl, k12⟩
            go_wp2_with fail
            go_ret
            exact ⟨rfl, by obtain ⟨_, _, _, k, _⟩ := h11; exact k.trans k12 (fun _ _ x => x)⟩
      · clear hjl
        clear s0 s1 H0 hl1
        have hP := pn_le its hits
        obtain ⟨aL, cL, rfl, hcL, hGL⟩ := own_form hl8
        obtain ⟨aK, cK, rfl, hcK, hGK⟩ := own_form hl9
        obtain ⟨P, hPe⟩ : ∃ P, P = pn its := ⟨_, rfl⟩
        obtain ⟨M, hMe⟩ : ∃ M, M = (P + 7) / 8 := ⟨_, rfl⟩
        obtain ⟨T, hTe⟩ : ∃ T, T = M + B.length := ⟨_, rfl⟩
        obtain ⟨V, hVe⟩ : ∃ V, V = pv its + und 256 B * 2 ^ (8 * M) := ⟨_, rfl⟩
        have hPM : ((P : Int) + 7) / 8 = (M : Int) := by omega
        have hPb : P ≤ 40000 := by omega
        have hMb : M ≤ 10000 := by omega
        have hTb : T ≤ 100000 := by omega
        have hits200 : its.length ≤ 400 := by omega
        have hTM : ((T : Int) != (M : Int) + (B.length : Int)) = false := by simp; omega
        have HV : Hid (und 256 (dig 256 V T) = V) := by
          show _ = _
          rw [und_dig, Nat.mod_eq_of_lt]
          have := whole_lt its hits B hb
          rw [← hPe, ← hMe, ← hTe, ← hVe] at this
          exact this
        have HR : Hid (((dig 256 V T).drop M).take B.length = B) := by
          have := whole_raw its hits B hb
          rw [← hPe, ← hMe, ← hTe, ← hVe] at this
          exact this
        have HE : Hid (P = pn its ∧ M = (P + 7) / 8 ∧ T = M + B.length ∧ V = pv its + und 256 B * 2 ^ (8 * M)) := ⟨hPe, hMe, hTe, hVe⟩
        have HX : Hid (Its its) := hits
        rw [← hPe] at hw
        clear hPe hMe hTe hVe hP hits hlen
        go_wp2_with fail
        refine (lenT w _ g P (pv its) (by omega) hw).mono ?_
        rintro e w2 ⟨rfl, hw2, k2⟩
        have r8 := ok_row hl8 k2
        have r9 := ok_row hl9 k2
        clear hw hl8 hl9 k2
        go_wp2_with fail
        refine (alignT w _ g P (pv its) (by omega) hw2).mono ?_
        rintro e w3 ⟨rfl, hw3, k3⟩
        have r83 := wk_row r8 k3 (by decide) (by decide)
        have r93 := wk_row r9 k3 (by decide) (by decide)
        rw [← HE.out.2.1] at hw3
        clear hw2 r8 r9 k3
        go_wp2_with (go_at_call 16; refine (num_any _ _).mono ?_; rintro e w' ⟨rfl, rfl⟩)
        have k3' : Ok' w w3 := by obtain ⟨_, _, k, _⟩ := hw3; exact k
        refine (rawT w _ g (8 * M) (pv its) a2 c2 B (by omega) (by omega) (by omega) hb (s2.kp k3' (fun _ _ _ x => x)) HNIL.out hw3).mono ?_
        rintro e w4 ⟨rfl, hw4, k4⟩
        rw [← HE.out.2.2.2, show 8 * M + 8 * B.length = 8 * T by have := HE.out; omega] at hw4
        have r84 := wk_row r83 k4 (by decide) (by decide)
        have r94 := wk_row r93 k4 (by decide) (by decide)
        clear hw3 r83 r93 k4 k3'
        go_wp2_with (go_at_call 16; refine (num_any _ _).mono ?_; rintro e w' ⟨rfl, rfl⟩)
        have BT := bytesT w w4 g (8 * T) V (by omega) hw4
        rw [show (8 * T + 7) / 8 = T by omega] at BT
        refine BT.mono ?_
        rintro e w5 ⟨G5, rfl, hG5, rw5, hw5, k5⟩
        have r85 := ok_row r84 k5
        have r95 := ok_row r94 k5
        have k5' : Ok' w w5 := by obtain ⟨_, _, k, _⟩ := hw5; exact k
        clear BT hw4 r84 r94 k5 hw5
        go_wp2_with fail
        refine (newrO w w5 k5' _ T T (dig 256 V T) (dig_length _ _ _) (by rw [dig_length]; omega) (dig_byt _ _) rw5.src).mono ?_
        rintro e w6 ⟨g6, rfl, h6, k6⟩
        have r86 := ok_row r85 k6
        have r96 := ok_row r95 k6
        clear rw5 r85 r95 k5' k6 hG5
        obtain ⟨D, hD⟩ : ∃ D, D = dig 256 V T := ⟨_, rfl⟩
        have HD : Hid (D.length = T) := by show _ = _; rw [hD]; exact dig_length _ _ _
        rw [← hD] at h6 HV HR
        clear hD
        go_wp2_with fail
        go_loopw [17, 18, 19, 20, 21, 22] (fun iv _ _ _ _ _ wr => ∃ j : Nat, j ≤ its.length ∧ iv = .int .i64 j ∧ RdO w wr g6 D (pn (its.take j)) ∧ wr.ownsRow w.heap.size 27 1 (.slice aL its.length cL) its.length (us its) ∧ wr.ownsRow w.heap.size 3 1 (.slice aK its.length cK) its.length (ks its)) (fun i _ _ _ _ _ _ => its.length - (intOf i).toNat)
        case atStart => exact ⟨0, Nat.zero_le _, rfl, h6, r86, r96⟩
        case round =>
          clear h6 r86 r96 hPM hTM
          obtain ⟨j2, hj2, rfl, h6, r86, r96⟩ := hrel
          by_cases hjl2 : j2 < its.length
          · obtain ⟨GL, rfl⟩ := hGL (by omega)
            obtain ⟨GK, rfl⟩ := hGK (by omega)
            have hi := HX.out its[j2] (List.getElem_mem hjl2)
            have hps := pn_take_succ its j2 hjl2
            have hpr := pv_read its HX.out j2 hjl2 (8 * M) (und 256 B) (by have := HE.out; omega)
            have hpl : pn (its.take (j2 + 1)) ≤ pn its := by
              have := pn_append (its.take (j2 + 1)) (its.drop (j2 + 1))
              rw [List.take_append_drop] at this
              omega
            have cK2 := own_cell r96 j2 _ (ks_get its j2 hjl2)
            have cL2 := own_cell r86 j2 _ (us_get its j2 hjl2)
            rw [← HE.out.2.2.2, ← HV.out] at hpr
            obtain ⟨x, hx⟩ : ∃ x, x = (its[j2]).1 := ⟨_, rfl⟩
            obtain ⟨n, hn⟩ : ∃ n, n = (its[j2]).2 := ⟨_, rfl⟩
            obtain ⟨q, hq⟩ : ∃ q, q = pn (its.take j2) := ⟨_, rfl⟩
            rw [← hn] at cK2 hi hps hpr
            rw [← hx] at cL2 hi hpr
            rw [← hq] at h6 hps hpr
            have hqn : q + n ≤ 8 * D.length := by have := HE.out; have := HD.out; omega
            have hmin : min n (8 * D.length - q) = n := by omega
            have PK := peekT w wr g6 D q n hi.1 h6
            rw [hpr, hmin] at PK
            have TK : Hid (∀ w', RdO w w' g6 D q → Calls Try.prog 32 #[.pointer (some ⟨g6, 0, none⟩), .int .i64 n] w' fun e w'' => e = .returned (.tuple #[.int .u64 x, .int .i64 0]) ∧ RdO w w'' g6 D (q + n) ∧ Rk w' w'') := by
              intro w' h'
              have := takeT w w' g6 D q n hi.1 h' hqn
              rw [hpr] at this
              exact this
            have HQ : Hid (q + n = pn (its.take (j2 + 1))) := hps.symm
            clear hx hn hq hps hpr hpl hqn hmin hi hGL hGK
            go_wp2_with fail
            refine PK.mono ?_
            rintro e w7 ⟨rfl, h7, k7⟩
            have r87 := rk_row r86 k7 (by decide)
            have r97 := rk_row r96 k7 (by decide)
            have cK7 : w7.cell? ⟨GK, j2, none⟩ = some (.int .i64 n) := (ownsRow_cell_kp r96 r97 j2).trans cK2
            have cL7 : w7.cell? ⟨GL, j2, none⟩ = some (.int .u64 x) := (ownsRow_cell_kp r86 r87 j2).trans cL2
            clear PK h6 r86 r96 cK2 cL2 k7
            go_wp2_with fail
            refine (TK.out _ h7).mono ?_
            rintro e w8 ⟨rfl, h8, k8⟩
            have r88 := rk_row r87 k8 (by decide)
            have r98 := rk_row r97 k8 (by decide)
            have cK8 : w8.cell? ⟨GK, j2, none⟩ = some (.int .i64 n) := (ownsRow_cell_kp r97 r98 j2).trans cK7
            have cL8 : w8.cell? ⟨GL, j2, none⟩ = some (.int .u64 x) := (ownsRow_cell_kp r87 r88 j2).trans cL7
            clear h7 r87 r97 cK7 cL7 k8 TK
            rw [HQ.out] at h8
            go_wp2_with (go_at_call 16; refine (num_any _ _).mono ?_; rintro e w' ⟨rfl, rfl⟩)
            go_roundw
            case rel =>
              exact ⟨j2 + 1, by omega, by go_num, h8, r88, r98⟩
            case measure => simp [intOf]; omega
          · obtain rfl : j2 = its.length := by omega
            rw [List.take_length, ← HE.out.1] at h6
            clear r86 r96 hGL hGK hj2
            go_wp2_with fail
            refine (atO w _ g6 D P h6).mono ?_
            rintro e w7 ⟨rfl, h7⟩
            clear h6
            go_wp2_with fail
            refine (alignRT w _ g6 D P h7).mono ?_
            rintro e w8 ⟨rfl, h8, k8⟩
            rw [← HE.out.2.1] at h8
            clear h7 k8
            go_wp2_with (go_at_call 16; refine (num_any _ _).mono ?_; rintro e w' ⟨rfl, rfl⟩)
            refine (rawRT w _ g6 D (8 * M) B.length (by omega) (by have := HE.out; have := HD.out; omega) h8).mono ?_
            rintro e w9 ⟨G9, rfl, hG9, rw9, h9, k9⟩
            rw [show 8 * M / 8 = M by omega, HR.out] at rw9
            rw [show 8 * M + 8 * B.length = 8 * T by have := HE.out; omega] at h9
            clear h8 k9 hG9
            go_wp2_with fail
            refine (SH w w9 g6 D (8 * T) h9 (by have := HD.out; omega)).mono ?_
            rintro e w10 ⟨rfl, h10, k10⟩
            have rw10 : Rw 5 w10 G9 B := rw9.kp k10 (fun ht => by have : (80 : TypeId) = 5 := Ty.ne ht ⟨_, _, rw9⟩; exact absurd this (by decide))
            have k10' : Ok' w w10 := by obtain ⟨_, _, _, k, _⟩ := h10; exact k
            clear h9 rw9 k10
            go_wp2_with fail
            refine (same_eq _ _ B.length c2 B.length B _ rfl rw10.src (s2.kp k10' (fun _ _ _ x => x))).mono ?_
            rintro e w' ⟨rfl, rfl⟩
            have hz0 : 8 * D.length - 8 * T = 0 := by have := HD.out; omega
            have LO := leftO w w10 g6 D (8 * T) h10
            rw [hz0] at LO
            clear rw10 k10' hz0
            go_wp2_with (go_at_call 16; refine (num_any _ _).mono ?_; rintro e w' ⟨rfl, rfl⟩)
            refine LO.mono ?_
            rintro e w11 ⟨rfl, h11⟩
            clear LO h10
            go_wp2_with fail
            refine (works_any _).mono ?_
            rintro e w12 ⟨rfl, k12⟩
            go_wp2_with fail
            go_ret
            exact ⟨rfl, by obtain ⟨_, _, _, k, _⟩ := h11; exact k.trans k12 (fun _ _ x => x)⟩
end Go.Proofs.Ytfeokjbmobmabaa
