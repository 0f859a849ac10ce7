/- LzBack: bytes come back from their tokens, and no match could be longer, or nearer. -/
import Derived.Test.YtofmoggejfopiaaBst
import Derived.Test.YtofmoggejfopiaaWks
namespace Go.Proofs.Ytofmoggejfopiaa
open Go.RowKit

theorem parse_n (zs : List Int) (N : Nat) (hNe : N = zs.length) (ao : Option Addr) (cap : Nat) (a : Bool) (w : World) (hB : Byt zs) (hN : N ≤ 1048576) (hc : N ≤ cap) (hc2 : cap ≤ maxLen) (hS : Src .u8 w ao zs) :
    Calls Try.prog 12 #[.slice ao N cap, .bool a] w fun e w' => ∃ aoT capT K, e = .returned (.tuple #[.slice aoT K capT, .int .i64 0]) ∧ Many (bf zs) zs.length a K ∧ TSrc w' aoT (tks (bf zs) zs.length a K) ∧ K ≤ zs.length ∧ Below w.heap.size w w' := by
  subst hNe
  refine (parse_any zs ao cap a w hB hN hc hc2 hS).mono ?_
  rintro e w' ⟨v, K, rfl, hK, hrow, b1⟩
  obtain ⟨aoT, capT, rfl, _, _, hts, _⟩ := tsrc_of_owns hrow (tks_len _ _ _ _)
  obtain ⟨k, hk, hk2⟩ := many_ex (bf zs) zs.length a
  exact ⟨aoT, capT, K, rfl, hK, hts, by rw [hK.uniq hk2]; exact hk, b1⟩
set_option maxRecDepth 100000 in
set_option maxHeartbeats 3000000 in
theorem back_walk (zs : List Int) (ao : Option Addr) (N cap : Nat) (a : Bool) (n : Int) (w : World) (hNe : N = zs.length) (hN : N ≤ 3000) (hc : N ≤ cap) (hc2 : cap ≤ maxLen) (hB : Byt zs) (hS : Src .u8 w ao zs) :
    Calls Try.prog 7 #[.slice ao N cap, .bool a, .int .i64 n] w fun e w' => e = .returned (.bool true) ∧ Below w.heap.size w w' := by
  have HNE : Hid (N = zs.length) := hNe
  have HB : Hid (Byt zs) := hB
  have HS : Hid (Src .u8 w ao zs) := hS
  have hgt : ¬ (3000 : Int) < (N : Int) := by omega
  clear hNe hB hS
  go_enter Try.func7, Try.ntmps7
  go_wp2_with fail
  refine (parse_n zs N HNE.out ao cap a w HB.out (by omega) hc hc2 HS.out).mono ?_
  rintro e w1 ⟨aoT, capT, K, rfl, hK, hts, hKN, b1⟩
  obtain ⟨ts, hte⟩ : ∃ ts, ts = tks (bf zs) zs.length a K := ⟨_, rfl⟩
  rw [← hte] at hts
  have hKN2 : K ≤ N := by have := HNE.out; omega
  have HTL : Hid (K = ts.length) := by rw [hte, tks_len]; rfl
  have HTE : Hid (ts = tks (bf zs) zs.length a K) := hte
  have HOK : Hid (okK ts K) := by rw [hte]; exact toks_ok zs a K
  have HX : Hid (xpR (N : Int) ts = (zs, (K : Int), 0)) := by rw [hte]; exact toks_exp zs a K hK (N : Int) (by have := HNE.out; omega)
  have HX1 : Hid (0 < N → ∃ m : Int, xpR ((N : Int) - 1) ts = ([], m, 141)) := fun h => by
    rw [hte]
    have := toks_less zs a K hK (by have := HNE.out; omega)
    rw [← HNE.out] at this ⊢
    exact this
  have HK : Hid (Many (bf zs) zs.length a K) := hK
  have HTS : Hid (TSrc w1 aoT ts) := hts
  have HB1 : Hid (Below w.heap.size w w1) := b1
  clear hK hts hKN b1 hte
  go_wp2_with fail
  refine (expand_ok ts aoT K capT (N : Int) w1 HTL.out (by omega) (by omega) (by omega) HTS.out HOK.out).mono ?_
  rintro e w2 ⟨v, rfl, ho, b2⟩
  rw [HX.out] at ho ⊢
  dsimp only at ho ⊢
  obtain ⟨a2, c2, rfl, _, _, hs2, _⟩ := ho.parts
  have hcv1 := cv (c := c2) (rfl : zs.length = zs.length) hs2
  have hcv2 := cv (c := cap) HNE.out.symm ((HS.out.below HB1.out).below (b2.mono (Nat.le_refl _)))
  have HB2 : Hid (Below w.heap.size w w2) := HB1.out.trans (b2.mono HB1.out.size)
  have HTS2 : Hid (TSrc w2 aoT ts) := HTS.out.below b2
  clear ho b2 hs2
  have hkk : ¬ (N : Int) < (K : Int) := by omega
  rcases Nat.lt_or_ge 0 N with hN0 | hN0
  · go_wp2_with (first | (go_at_call 14; refine (num_any _ _).mono ?_; rintro e w' ⟨rfl, rfl⟩))
    refine (expand_ok ts aoT K capT ((N : Int) - 1) _ HTL.out (by omega) (by omega) (by omega) HTS2.out HOK.out).mono ?_
    rintro e w3 ⟨v, rfl, ho, b3⟩
    obtain ⟨m, hm⟩ := HX1.out hN0
    rw [hm] at ho ⊢
    dsimp only at ho ⊢
    obtain ⟨a3, c3, rfl, _, _, _, _⟩ := ho.parts
    have HB3 : Hid (Below w.heap.size w w3) := HB2.out.trans (b3.mono HB2.out.size)
    have HTS3 : Hid (TSrc w3 aoT ts) := HTS2.out.below b3
    clear ho b3 hm
    go_wp2_with (first | (go_at_call 14; refine (num_any _ _).mono ?_; rintro e w' ⟨rfl, rfl⟩))
    refine at_worldp (R := fun X => Below w.heap.size w X ∧ TSrc X aoT ts) ⟨HB3.out, HTS3.out⟩ ?_
    rintro X ⟨hbX, htX⟩
    have HBX : Hid (Below w.heap.size w X) := hbX
    have HTX : Hid (TSrc X aoT ts) := htX
    clear hbX htX hcv1 hcv2
    go_loopw [15, 16] (fun u15 u16 wr => ∃ k : Nat, k ≤ K ∧ u16 = .int .i64 (k : Int) ∧ u15 = .int .i64 (ps (bf zs) zs.length a k : Int) ∧ Below w.heap.size w wr ∧ TSrc wr aoT ts) (fun _ u16 _ => K - (intOf u16).toNat)
    case atStart => exact ⟨0, Nat.zero_le _, rfl, rfl, HBX.out, HTX.out⟩
    case round =>
      clear HBX HTX
      obtain ⟨k, hk, rfl, rfl, hb, ht⟩ := hrel
      have HBW : Hid (Below w.heap.size w wr) := hb
      have HTW : Hid (TSrc wr aoT ts) := ht
      clear hb ht
      by_cases hlt : k < K
      · try (exfalso; omega)
        all_goals
        obtain ⟨p, hp⟩ : ∃ p, p = ps (bf zs) zs.length a k := ⟨_, rfl⟩
        have hpN : p < N := by
          have h1 := ps_mono (bf zs) zs.length a (show k + 1 ≤ K by omega)
          have h2 := ps_lt (bf zs) zs.length a k
          have h3 := HK.out
          have h4 := HNE.out
          unfold Many at h3
          omega
        obtain ⟨gT, offT, hao, hcs⟩ := HTW.out (by have := HTL.out; omega)
        subst hao
        obtain ⟨x0, x1, x2⟩ := hcs k (by have := HTL.out; omega)
        rw [HTE.out, tks_get _ _ _ _ _ hlt, ← hp] at x0 x1 x2
        have hl := tokAt_len (bf zs) zs.length a p
        obtain ⟨d, hd⟩ : ∃ d : Nat, (tokAt (bf zs) zs.length a p).2.2 = (d : Int) := by
          unfold tokAt
          split
          · exact ⟨0, rfl⟩
          · exact ⟨_, rfl⟩
        obtain ⟨l, hll⟩ : ∃ l, l = (tk (bf zs) zs.length a p).1 := ⟨_, rfl⟩
        obtain ⟨y, hy⟩ : ∃ y, y = (tokAt (bf zs) zs.length a p).1 := ⟨_, rfl⟩
        rw [← hll] at hl
        rw [← hy] at x0
        rw [hl] at x1
        rw [hd] at x2
        have HTT : Hid (tokAt (bf zs) zs.length a p = (y, (l : Int), (d : Int))) := by
          show _ = _
          rw [hy, ← hl, ← hd]
        have hl258 : l ≤ 258 := by rw [hll]; exact (tk_le _ _ _ _).1
        have h3l : l = 0 ∨ 3 ≤ l := by
          rw [hll]
          rcases tk_cases (bf zs) zs.length a p with h | ⟨h, h1, _⟩
          · rw [h]; exact .inl rfl
          · rw [h]; exact .inr h1
        obtain ⟨r, hr⟩ : ∃ r, r = p + max 1 l := ⟨_, rfl⟩
        have HR : Hid (r = ps (bf zs) zs.length a (k + 1)) := by show _ = _; rw [hr, hll, hp]; rfl
        have e9 : IntKind.i64.wrap ((p : Int) + max 1 (l : Int)) = (r : Int) := by rw [IntKind.wrap_i64, hr]; omega
        have e10 : l = 0 → IntKind.i64.wrap ((p : Int) + 1) = (r : Int) := fun h => by rw [IntKind.wrap_i64, hr]; omega
        have e11 : 1 ≤ l → IntKind.i64.wrap ((p : Int) + (l : Int)) = (r : Int) := fun h => by rw [IntKind.wrap_i64, hr]; omega
        rw [← hp]
        clear hcs hl hd hll hy hr hp
        go_wp2_with fail
        refine (best_any zs ao N cap p a y l d wr HNE.out (by omega) hpN (HS.out.below HBW.out) HTT.out).mono ?_
        rintro e w4 ⟨rfl, b4⟩
        have z1 : w4.cell? ⟨gT, offT + k * 3 + 1, none⟩ = some (.int .i64 (l : Int)) := (b4.cell (block_lt_of_cell x1)).trans x1
        have HB4 : Hid (Below w.heap.size w w4) := HBW.out.trans (b4.mono HBW.out.size)
        have HT4 : Hid (TSrc w4 (some ⟨gT, offT, none⟩) ts) := HTW.out.below b4
        clear b4 x0 x1 x2
        rcases h3l with hl0 | hl0
        · have e12 := e10 hl0
          subst hl0
          clear e9 e10 e11
          go_wp2
          exact ⟨⟨k + 1, hlt, by simp, by rw [← HR.out], HB4.out, HT4.out⟩, by simp [intOf]; omega⟩
        · have e12 := e11 (by omega)
          have hl1 : (1 : Int) < (l : Int) := by omega
          clear e9 e10 e11
          go_wp2
          exact ⟨⟨k + 1, hlt, by simp, by rw [← HR.out], HB4.out, HT4.out⟩, by simp [intOf]; omega⟩
      · obtain rfl : k = K := by omega
        by_cases hn : n < 0 ∨ 200000 < n
        · rcases hn with hn | hn
          · go_wp2_with (first | (go_at_call 9; refine (works_any _).mono ?_; rintro e w9 ⟨rfl, b9⟩))
            go_ret
            exact ⟨rfl, HBW.out.trans (b9.mono HBW.out.size)⟩
          · have hn2 : ¬ n < 0 := by omega
            go_wp2_with (first | (go_at_call 9; refine (works_any _).mono ?_; rintro e w9 ⟨rfl, b9⟩))
            go_ret
            exact ⟨rfl, HBW.out.trans (b9.mono HBW.out.size)⟩
        · obtain ⟨j, rfl⟩ := Int.eq_ofNat_of_zero_le (show 0 ≤ n by omega)
          have hj : j ≤ 200000 := by omega
          have hj1 : ¬ (j : Int) < 0 := by omega
          have hj2 : ¬ (200000 : Int) < (j : Int) := by omega
          clear hn
          go_wp2_with (first | (at_make; refine wpList_make_rw (κ := .u8) 22 5 1 Try.underlying22 Try.info5 (by decide) rfl (.tmp 111) (.tmp 111) rfl j rfl rfl (by omega) ?_; intro w5 r5 b5))
          refine (parse_n (List.replicate j 0) j (by simp) (some ⟨wr.heap.size, 0, none⟩) j a w5 (fun z hz => by have := List.eq_of_mem_replicate hz; omega) (by omega) (Nat.le_refl _) (by unfold maxLen; omega) r5.src).mono ?_
          rintro e w6 ⟨ao6, cap6, K6, rfl, hK6, _, _, b6⟩
          rw [List.length_replicate] at hK6
          have hfew := few_zeros j a K6 hK6
          obtain ⟨q, hq⟩ : ∃ q, q = j / 258 := ⟨_, rfl⟩
          rw [← hq] at hfew
          have hq2 : (j : Int) / 258 = (q : Int) := by rw [hq]; exact (Int.natCast_ediv j 258).symm ▸ by simp
          have hq3 : q ≤ 1000 := by omega
          have HB6 : Hid (Below w.heap.size w w6) := (HBW.out.trans (b5.mono HBW.out.size)).trans (b6.mono (Nat.le_trans HBW.out.size b5.size))
          have hf2 : (K6 : Int) ≤ 3 + (q : Int) := by omega
          clear hK6 b5 b6 r5 hq
          go_wp2_with (first | (go_at_call 14; refine (num_any _ _).mono ?_; rintro e w' ⟨rfl, rfl⟩) | (go_at_call 9; refine (works_any _).mono ?_; rintro e w9 ⟨rfl, b9⟩))
          go_ret
          exact ⟨rfl, HB6.out.trans (b9.mono HB6.out.size)⟩
  · have hN1 : ¬ (0 : Int) < (N : Int) := by omega
    go_wp2_with (first | (go_at_call 14; refine (num_any _ _).mono ?_; rintro e w' ⟨rfl, rfl⟩))
    refine at_worldp (R := fun X => Below w.heap.size w X ∧ TSrc X aoT ts) ⟨HB2.out, HTS2.out⟩ ?_
    rintro X ⟨hbX, htX⟩
    have HBX : Hid (Below w.heap.size w X) := hbX
    have HTX : Hid (TSrc X aoT ts) := htX
    clear hbX htX hcv1 hcv2
    go_loopw [15, 16] (fun u15 u16 wr => ∃ k : Nat, k ≤ K ∧ u16 = .int .i64 (k : Int) ∧ u15 = .int .i64 (ps (bf zs) zs.length a k : Int) ∧ Below w.heap.size w wr ∧ TSrc wr aoT ts) (fun _ u16 _ => K - (intOf u16).toNat)
    case atStart => exact ⟨0, Nat.zero_le _, rfl, rfl, HBX.out, HTX.out⟩
    case round =>
      clear HBX HTX
      obtain ⟨k, hk, rfl, rfl, hb, ht⟩ := hrel
      have HBW : Hid (Below w.heap.size w wr) := hb
      have HTW : Hid (TSrc wr aoT ts) := ht
      clear hb ht
      by_cases hlt : k < K
      · try (exfalso; omega)
        all_goals
        obtain ⟨p, hp⟩ : ∃ p, p = ps (bf zs) zs.length a k := ⟨_, rfl⟩
        have hpN : p < N := by
          have h1 := ps_mono (bf zs) zs.length a (show k + 1 ≤ K by omega)
          have h2 := ps_lt (bf zs) zs.length a k
          have h3 := HK.out
          have h4 := HNE.out
          unfold Many at h3
          omega
        obtain ⟨gT, offT, hao, hcs⟩ := HTW.out (by have := HTL.out; omega)
        subst hao
        obtain ⟨x0, x1, x2⟩ := hcs k (by have := HTL.out; omega)
        rw [HTE.out, tks_get _ _ _ _ _ hlt, ← hp] at x0 x1 x2
        have hl := tokAt_len (bf zs) zs.length a p
        obtain ⟨d, hd⟩ : ∃ d : Nat, (tokAt (bf zs) zs.length a p).2.2 = (d : Int) := by
          unfold tokAt
          split
          · exact ⟨0, rfl⟩
          · exact ⟨_, rfl⟩
        obtain ⟨l, hll⟩ : ∃ l, l = (tk (bf zs) zs.length a p).1 := ⟨_, rfl⟩
        obtain ⟨y, hy⟩ : ∃ y, y = (tokAt (bf zs) zs.length a p).1 := ⟨_, rfl⟩
        rw [← hll] at hl
        rw [← hy] at x0
        rw [hl] at x1
        rw [hd] at x2
        have HTT : Hid (tokAt (bf zs) zs.length a p = (y, (l : Int), (d : Int))) := by
          show _ = _
          rw [hy, ← hl, ← hd]
        have hl258 : l ≤ 258 := by rw [hll]; exact (tk_le _ _ _ _).1
        have h3l : l = 0 ∨ 3 ≤ l := by
          rw [hll]
          rcases tk_cases (bf zs) zs.length a p with h | ⟨h, h1, _⟩
          · rw [h]; exact .inl rfl
          · rw [h]; exact .inr h1
        obtain ⟨r, hr⟩ : ∃ r, r = p + max 1 l := ⟨_, rfl⟩
        have HR : Hid (r = ps (bf zs) zs.length a (k + 1)) := by show _ = _; rw [hr, hll, hp]; rfl
        have e9 : IntKind.i64.wrap ((p : Int) + max 1 (l : Int)) = (r : Int) := by rw [IntKind.wrap_i64, hr]; omega
        have e10 : l = 0 → IntKind.i64.wrap ((p : Int) + 1) = (r : Int) := fun h => by rw [IntKind.wrap_i64, hr]; omega
        have e11 : 1 ≤ l → IntKind.i64.wrap ((p : Int) + (l : Int)) = (r : Int) := fun h => by rw [IntKind.wrap_i64, hr]; omega
        rw [← hp]
        clear hcs hl hd hll hy hr hp
        go_wp2_with fail
        refine (best_any zs ao N cap p a y l d wr HNE.out (by omega) hpN (HS.out.below HBW.out) HTT.out).mono ?_
        rintro e w4 ⟨rfl, b4⟩
        have z1 : w4.cell? ⟨gT, offT + k * 3 + 1, none⟩ = some (.int .i64 (l : Int)) := (b4.cell (block_lt_of_cell x1)).trans x1
        have HB4 : Hid (Below w.heap.size w w4) := HBW.out.trans (b4.mono HBW.out.size)
        have HT4 : Hid (TSrc w4 (some ⟨gT, offT, none⟩) ts) := HTW.out.below b4
        clear b4 x0 x1 x2
        rcases h3l with hl0 | hl0
        · have e12 := e10 hl0
          subst hl0
          clear e9 e10 e11
          go_wp2
          exact ⟨⟨k + 1, hlt, by simp, by rw [← HR.out], HB4.out, HT4.out⟩, by simp [intOf]; omega⟩
        · have e12 := e11 (by omega)
          have hl1 : (1 : Int) < (l : Int) := by omega
          clear e9 e10 e11
          go_wp2
          exact ⟨⟨k + 1, hlt, by simp, by rw [← HR.out], HB4.out, HT4.out⟩, by simp [intOf]; omega⟩
      · obtain rfl : k = K := by omega
        by_cases hn : n < 0 ∨ 200000 < n
        · rcases hn with hn | hn
          · go_wp2_with (first | (go_at_call 9; refine (works_any _).mono ?_; rintro e w9 ⟨rfl, b9⟩))
            go_ret
            exact ⟨rfl, HBW.out.trans (b9.mono HBW.out.size)⟩
          · have hn2 : ¬ n < 0 := by omega
            go_wp2_with (first | (go_at_call 9; refine (works_any _).mono ?_; rintro e w9 ⟨rfl, b9⟩))
            go_ret
            exact ⟨rfl, HBW.out.trans (b9.mono HBW.out.size)⟩
        · obtain ⟨j, rfl⟩ := Int.eq_ofNat_of_zero_le (show 0 ≤ n by omega)
          have hj : j ≤ 200000 := by omega
          have hj1 : ¬ (j : Int) < 0 := by omega
          have hj2 : ¬ (200000 : Int) < (j : Int) := by omega
          clear hn
          go_wp2_with (first | (at_make; refine wpList_make_rw (κ := .u8) 22 5 1 Try.underlying22 Try.info5 (by decide) rfl (.tmp 111) (.tmp 111) rfl j rfl rfl (by omega) ?_; intro w5 r5 b5))
          refine (parse_n (List.replicate j 0) j (by simp) (some ⟨wr.heap.size, 0, none⟩) j a w5 (fun z hz => by have := List.eq_of_mem_replicate hz; omega) (by omega) (Nat.le_refl _) (by unfold maxLen; omega) r5.src).mono ?_
          rintro e w6 ⟨ao6, cap6, K6, rfl, hK6, _, _, b6⟩
          rw [List.length_replicate] at hK6
          have hfew := few_zeros j a K6 hK6
          obtain ⟨q, hq⟩ : ∃ q, q = j / 258 := ⟨_, rfl⟩
          rw [← hq] at hfew
          have hq2 : (j : Int) / 258 = (q : Int) := by rw [hq]; exact (Int.natCast_ediv j 258).symm ▸ by simp
          have hq3 : q ≤ 1000 := by omega
          have HB6 : Hid (Below w.heap.size w w6) := (HBW.out.trans (b5.mono HBW.out.size)).trans (b6.mono (Nat.le_trans HBW.out.size b5.size))
          have hf2 : (K6 : Int) ≤ 3 + (q : Int) := by omega
          clear hK6 b5 b6 r5 hq
          go_wp2_with (first | (go_at_call 14; refine (num_any _ _).mono ?_; rintro e w' ⟨rfl, rfl⟩) | (go_at_call 9; refine (works_any _).mono ?_; rintro e w9 ⟨rfl, b9⟩))
          go_ret
          exact ⟨rfl, HB6.out.trans (b9.mono HB6.out.size)⟩
end Go.Proofs.Ytofmoggejfopiaa
