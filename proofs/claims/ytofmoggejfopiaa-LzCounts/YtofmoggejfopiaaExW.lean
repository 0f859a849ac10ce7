/- LzExpands: what tokens tell. -/
import Derived.Test.YtofmoggejfopiaaRxp
import Derived.Test.YtofmoggejfopiaaRck
import Derived.Test.YtofmoggejfopiaaBst
import Derived.Test.YtofmoggejfopiaaWks
import Derived.Test.YtofmoggejfopiaaTks
import Derived.Laws.AppendOwnNone
namespace Go.Proofs.Ytofmoggejfopiaa
open Go.RowKit

/-- What Expand answers. -/
def XR (most : Int) (ts : List Tok) : List Int × Int × Int := if most < 0 then ([], 0, 2) else if refN ts = 0 then xpR most ts else ([], 0, refN ts)
theorem okK_of_refN {ts : List Tok} (h : refN ts = 0) : okK ts ts.length := by
  unfold refN at h
  split at h
  · rename_i h2
    intro j hj
    rw [getD_lt _ _ _ hj]
    exact h2 _ (List.getElem_mem hj)
  · cases h
theorem expand_all (ts : List Tok) (ao : Option Addr) (N cap : Nat) (most : Int) (w : World) (hNe : N = ts.length) (hN : N ≤ 1048576) (hm2 : most ≤ 9223372036854775807) (hS : TSrc w ao ts) :
    Calls Try.prog 18 #[.int .i64 most, .slice ao N cap] w fun e w' => ∃ aoB capB, e = .returned (.tuple #[.slice aoB (XR most ts).1.length capB, .int .i64 (XR most ts).2.1, .int .i64 (XR most ts).2.2]) ∧ Src .u8 w' aoB (XR most ts).1 ∧ Below w.heap.size w w' := by
  by_cases hm : most < 0
  · have hx : XR most ts = ([], 0, 2) := by unfold XR; rw [if_pos hm]
    rw [hx]
    refine (expand_neg ao N cap most w hm).mono ?_
    rintro e w' ⟨rfl, rfl⟩
    exact ⟨none, 0, rfl, Src.nil _ _ _, Below.refl _ _⟩
  · by_cases hr : refN ts = 0
    · have hx : XR most ts = xpR most ts := by unfold XR; rw [if_neg hm, if_pos hr]
      rw [hx]
      refine (expand_ok ts ao N cap most w hNe hN (by omega) hm2 hS (by rw [hNe]; exact okK_of_refN hr)).mono ?_
      rintro e w' ⟨v, rfl, ho, hb⟩
      obtain ⟨aoB, capB, rfl, _, _, hs, _⟩ := ho.parts
      exact ⟨aoB, capB, rfl, hs, hb⟩
    · have hx : XR most ts = ([], 0, refN ts) := by unfold XR; rw [if_neg hm, if_neg hr]
      rw [hx]
      refine (expand_bad ts ao N cap most (refN ts) w hNe (by omega) (by omega) hS rfl hr).mono ?_
      rintro e w' ⟨rfl, hb⟩
      exact ⟨none, 0, rfl, Src.nil _ _ _, hb⟩
theorem tsrc_cells {w : World} {b off : Nat} {ts : List Tok} (h : ∀ i, i < ts.length → w.cell? ⟨b, off + i * 3, none⟩ = some (.int .u8 (ts.getD i zt).1) ∧ w.cell? ⟨b, off + i * 3 + 1, none⟩ = some (.int .i64 (ts.getD i zt).2.1) ∧ w.cell? ⟨b, off + i * 3 + 2, none⟩ = some (.int .i64 (ts.getD i zt).2.2)) :
    ∀ j u, (tcs ts)[j]? = some u → w.cell? ((⟨b, off, none⟩ : Addr).add j) = some u := by
  intro j u hu
  have hj : j < (tcs ts).length := (List.getElem?_eq_some_iff.1 hu).1
  rw [tcs_len] at hj
  have hi : j / 3 < ts.length := by omega
  obtain ⟨h0, h1, h2⟩ := h (j / 3) hi
  obtain ⟨g0, g1, g2⟩ := tcs_get ts (j / 3) hi
  have ha : (⟨b, off, none⟩ : Addr).add j = ⟨b, off + j, none⟩ := by unfold Addr.add; simp
  rw [ha]
  have hr : j % 3 = 0 ∨ j % 3 = 1 ∨ j % 3 = 2 := by omega
  rcases hr with hr | hr | hr
  · have e : j = j / 3 * 3 := by omega
    rw [← e] at g0
    rw [g0] at hu
    cases hu
    rw [show off + j = off + j / 3 * 3 by omega]
    exact h0
  · have e : j = j / 3 * 3 + 1 := by omega
    rw [← e] at g1
    rw [g1] at hu
    cases hu
    rw [show off + j = off + j / 3 * 3 + 1 by omega]
    exact h1
  · have e : j = j / 3 * 3 + 2 := by omega
    rw [← e] at g2
    rw [g2] at hu
    cases hu
    rw [show off + j = off + j / 3 * 3 + 2 by omega]
    exact h2
theorem tcs_one (ts : List Tok) : ∀ u ∈ tcs ts, u.oneCell' = true := by
  intro u hu
  simp only [tcs, List.mem_flatMap] at hu
  obtain ⟨t, _, ht⟩ := hu
  simp at ht
  rcases ht with rfl | rfl | rfl <;> rfl
theorem empty_row (w : World) : (w.alloc (.cells #[] 25)).ownsRow w.heap.size 25 3 (.slice (some ⟨w.heap.size, 0, none⟩) 0 0) 0 [] :=
  ⟨rfl, .inr ⟨w.heap.size, 0, #[], rfl, Nat.le_refl _, St.new 25 w #[], Nat.le_refl _, by unfold maxLen; omega, rfl, rfl⟩⟩

theorem wpList_append_toks {w : World} {ops : Array Oper} {rest : List Oper} {o : Oper} {a : Act} {Q : Exit → Act → World → Prop} (hgd : o.guard = none) (s x : Operand)
    (ho : o.op = .call { callee := .builtin .append, args := #[s, x], argTypes := #[28, 28] }) (base : Nat)
    (v : Value) (n : Nat) (xs : List Value) (hs : a.eval s = v) (hown : w.ownsRow base 25 3 v n xs)
    (ao : Option Addr) (m c : Nat) (ts : List Tok) (hx : a.eval x = .slice ao m c) (hl : m = ts.length) (hnone : ao = none → m = 0 ∧ c = 0) (hS : TSrc w ao ts)
    (h63 : n + m ≤ 1000000) (hbase : base ≤ w.heap.size)
    (h : ∀ v' w', w'.ownsRow base 25 3 v' (n + m) (xs ++ tcs ts) → Kp (fun i => v.ownBlock = some i) w w' → wpList Try.prog ops Q rest (a.put o.dst v') w') : wpList Try.prog ops Q (o :: rest) a w := by
  obtain ⟨i0, hi, hz0, hz1, hz2⟩ := info_parts Try.info25
  cases ao with
  | none =>
    obtain ⟨hm, hc⟩ := hnone rfl
    subst hm hc
    obtain rfl : ts = [] := List.eq_nil_of_length_eq_zero hl.symm
    refine wpList_append_own_none hgd s x 28 ho base 25 i0 3 Try.underlying28 hi v n xs hs hown hx (h v w ?_ (Kp.refl _ _))
    simpa [tcs] using hown
  | some ad =>
    refine wpList_append_own w hgd s x 28 ho base 25 i0 (.agg #[.int .u8 0, .int .i64 0, .int .i64 0]) 3 24 Try.underlying28 hi hz0 hz1 hz2 rfl (by decide) v n xs hs hown ad m c (tcs ts) hx (by rw [tcs_len, hl]) ?_ (tcs_one ts) (by unfold maxLen; omega) (by omega) hbase ?_
    · intro j u hu
      have hj : j < (tcs ts).length := (List.getElem?_eq_some_iff.1 hu).1
      rw [tcs_len] at hj
      obtain ⟨b, off, e, hcs⟩ := hS (by omega)
      cases e
      exact tsrc_cells hcs j u hu
    · intro v' w' h2 h3 h4
      exact h v' w' h2 (Kp.of_grown h3 (fun i e => e))
theorem tsrc_new (W : World) (y l d : Int) : TSrc (W.alloc (.cells #[.int .u8 y, .int .i64 l, .int .i64 d] 25)) (some ⟨W.heap.size, 0, none⟩) [(y, l, d)] := by
  intro _
  refine ⟨W.heap.size, 0, rfl, fun i hi => ?_⟩
  have hi0 : i = 0 := by simp at hi; omega
  subst hi0
  have h := St.new 25 W #[.int .u8 y, .int .i64 l, .int .i64 d]
  exact ⟨h.cell 0, h.cell 1, h.cell 2⟩
theorem appended {w w1 w2 : World} {N : Nat} {v1 v2 : Value} {ts : List Tok} {o : Obj} (hN : N = ts.length) (hB : Below w.heap.size w w1) (hO : w1.ownsRow w.heap.size 25 3 v1 (0 + N) ([] ++ tcs ts)) (h : w2.ownsRow w.heap.size 25 3 v2 (0 + N + 1) (([] ++ tcs ts) ++ tcs [(77, 0, 0)])) (k : Kp (fun i => v1.ownBlock = some i) (w1.alloc o) w2) :
    ∃ g cap, v2 = .slice (some ⟨g, 0, none⟩) (N + 1) cap ∧ N + 1 ≤ cap ∧ cap ≤ maxLen ∧ Hid (TSrc w2 (some ⟨g, 0, none⟩) (ts ++ [(77, 0, 0)])) ∧ Hid (Below w.heap.size w w2) := by
  rw [Nat.zero_add, List.nil_append, ← tcs_append] at h
  obtain ⟨ao, cap, rfl, h1, h2, h3, h4⟩ := tsrc_of_owns h (by simp [hN])
  obtain ⟨b, off, rfl, _⟩ := h3 (by simp)
  obtain ⟨rfl, _⟩ := h4 b off rfl
  have b1 : Below w.heap.size w (w1.alloc o) := hB.alloc hB.size _
  exact ⟨b, cap, rfl, h1, h2, h3, b1.trans (k.below b1.size (fun i e => (hO.lt i e).1))⟩
theorem tsrc_pre {w : World} {ao : Option Addr} {ts us : List Tok} (h : TSrc w ao (ts ++ us)) : TSrc w ao ts := by
  intro hp
  obtain ⟨b, off, e, hc⟩ := h (by simp; omega)
  refine ⟨b, off, e, fun i hi => ?_⟩
  have h1 := hc i (by simp; omega)
  have h2 : (ts ++ us).getD i zt = ts.getD i zt := by simp [List.getD, List.getElem?_append_left hi]
  rwa [h2] at h1
theorem tsrc_m {w : World} {g : Nat} {ts us : List Tok} (h : TSrc w (some ⟨g, 0, none⟩) (ts ++ us)) (i : Nat) (hi : i < ts.length) : w.cell? ⟨g, i * 3, none⟩ = some (.int .u8 (ts.getD i zt).1) ∧ w.cell? ⟨g, i * 3 + 1, none⟩ = some (.int .i64 (ts.getD i zt).2.1) ∧ w.cell? ⟨g, i * 3 + 2, none⟩ = some (.int .i64 (ts.getD i zt).2.2) := by
  obtain ⟨b, off, e, hc⟩ := (tsrc_pre h) (by omega)
  cases e
  have := hc i hi
  rwa [Nat.zero_add] at this
theorem tsrc_end {w : World} {g : Nat} {ts : List Tok} {t : Tok} (h : TSrc w (some ⟨g, 0, none⟩) (ts ++ [t])) : w.cell? ⟨g, ts.length * 3, none⟩ = some (.int .u8 t.1) := by
  obtain ⟨b, off, e, hc⟩ := h (by simp)
  cases e
  have := (hc ts.length (by simp)).1
  rw [Nat.zero_add] at this
  simpa [List.getD] using this
set_option maxRecDepth 100000 in
set_option maxHeartbeats 3000000 in
theorem expands_walk (ts : List Tok) (ao : Option Addr) (N cap : Nat) (most : Int) (w : World) (hNe : N = ts.length) (hN : N ≤ 300) (hm2 : most ≤ 9223372036854775807) (hnone : ao = none → N = 0 ∧ cap = 0) (hS : TSrc w ao ts) :
    Calls Try.prog 4 #[.int .i64 most, .slice ao N cap] w fun e w' => e = .returned (.bool true) ∧ Below w.heap.size w w' := by
  have HNE : Hid (N = ts.length) := hNe
  have HS : Hid (TSrc w ao ts) := hS
  have hgt : ¬ (300 : Int) < (N : Int) := by omega
  have HNO : Hid (ao = none → N = 0 ∧ cap = 0) := hnone
  have HB0 : Hid (Below w.heap.size w (w.alloc (.cells #[] 25))) := (Below.refl _ _).alloc (Nat.le_refl _) _
  have HE : Hid ((w.alloc (.cells #[] 25)).ownsRow w.heap.size 25 3 (.slice (some ⟨w.heap.size, 0, none⟩) 0 0) 0 []) := empty_row w
  clear hNe hS hnone
  go_enter Try.func4, Try.ntmps4
  go_wp2_with (first | (at_builtin; refine wpList_append_toks rfl (.tmp 17) (.tmp 18) rfl w.heap.size (.slice (some ⟨w.heap.size, 0, none⟩) 0 0) 0 [] rfl HE.out ao N cap ts rfl HNE.out HNO.out (HS.out.below HB0.out) (by omega) (by simp) ?_; intro v1 w1 o1 k1; have O1 : Hid (w1.ownsRow w.heap.size 25 3 v1 (0 + N) ([] ++ tcs ts)) := o1; have B1 : Hid (Below w.heap.size w w1) := HB0.out.trans (k1.below HB0.out.size (fun i e => by simp [Value.ownBlock] at e; omega)); clear o1 k1) | (at_builtin; refine wpList_append_toks rfl (.tmp 19) (.tmp 21) rfl w.heap.size v1 (0 + N) ([] ++ tcs ts) rfl (O1.out.alloc _) (some ⟨w1.heap.size, 0, none⟩) 1 1 [(77, 0, 0)] rfl rfl (fun e => by cases e) (tsrc_new w1 77 0 0) (by omega) (by have := B1.out.size; simp; omega) ?_; intro v2 w2 o2 k2; obtain ⟨g, capM, rfl, hcm, hcm2, O2, B2⟩ := appended HNE.out B1.out O1.out o2 k2; clear o2 k2; have hcm3 : N ≤ capM := by omega))
  refine (expand_all ts (some ⟨g, 0, none⟩) N capM most w2 HNE.out (by omega) hm2 (tsrc_pre O2.out)).mono ?_
  rintro e w3 ⟨aoB, capB, rfl, hsb, b3⟩
  obtain ⟨⟨xs, xn, xe⟩, hX⟩ : ∃ X, X = XR most ts := ⟨_, rfl⟩
  rw [← hX] at hsb ⊢
  dsimp only at hsb ⊢
  obtain ⟨L, hL⟩ : ∃ L, L = xs.length := ⟨_, rfl⟩
  rw [← hL]
  have HX : Hid ((xs, xn, xe) = XR most ts) := hX
  have HL : Hid (L = xs.length) := hL
  have HB3 : Hid (Below w.heap.size w w3) := B2.out.trans (b3.mono B2.out.size)
  have HM3 : Hid (TSrc w3 (some ⟨g, 0, none⟩) (ts ++ [(77, 0, 0)])) := O2.out.below b3
  have HSB : Hid (Src .u8 w3 aoB xs) := hsb
  clear hX hL hsb b3 O1 B1 O2 B2 HB0 HE
  go_wp2_with fail
  go_loopw [9] (fun u9 wr => ∃ k : Nat, k ≤ N ∧ u9 = .int .i64 (k : Int) ∧ Below w.heap.size w wr ∧ TSrc wr (some ⟨g, 0, none⟩) (ts ++ [(77, 0, 0)]) ∧ Src .u8 wr aoB xs) (fun u9 _ => N - (intOf u9).toNat)
  case atStart => exact ⟨0, Nat.zero_le _, rfl, HB3.out, HM3.out, HSB.out⟩
  case round =>
    clear HB3 HM3 HSB
    obtain ⟨k, hk, rfl, hb, hm, hs⟩ := hrel
    have HBW : Hid (Below w.heap.size w wr) := hb
    have HMW : Hid (TSrc wr (some ⟨g, 0, none⟩) (ts ++ [(77, 0, 0)])) := hm
    have HSB : Hid (Src .u8 wr aoB xs) := hs
    clear hb hm hs
    by_cases hlt : k < N
    · obtain ⟨gb, off, hao, hcs⟩ := (HS.out.below HBW.out) (by have := HNE.out; omega)
      subst hao
      obtain ⟨x0, x1, x2⟩ := hcs k (by have := HNE.out; omega)
      obtain ⟨z0, z1, z2⟩ := tsrc_m HMW.out k (by have := HNE.out; omega)
      obtain ⟨⟨y, l, d⟩, ht⟩ : ∃ t, t = ts.getD k zt := ⟨_, rfl⟩
      rw [← ht] at x0 x1 x2 z0 z1 z2
      dsimp only at x0 x1 x2 z0 z1 z2
      have hkm : k < capM := by omega
      clear hcs ht
      go_wp2_with fail
      go_region_held3 (fun w' => w'.cell? ⟨gb, off + k * 3, none⟩ = some (.int .u8 y) ∧ w'.cell? ⟨gb, off + k * 3 + 1, none⟩ = some (.int .i64 l) ∧ w'.cell? ⟨gb, off + k * 3 + 2, none⟩ = some (.int .i64 d) ∧ w'.cell? ⟨g, k * 3, none⟩ = some (.int .u8 y) ∧ w'.cell? ⟨g, k * 3 + 1, none⟩ = some (.int .i64 l) ∧ w'.cell? ⟨g, k * 3 + 2, none⟩ = some (.int .i64 d)) (first | (exact ⟨x0, x1, x2, z0, z1, z2⟩) | (exact S1) | (exact S2) | go_keep) (first | (go_at_call 19; refine (check_any y l d _).mono ?_; rintro e w4 ⟨rfl, b4⟩; have S1 : w4.cell? ⟨gb, off + k * 3, none⟩ = some (.int .u8 y) ∧ w4.cell? ⟨gb, off + k * 3 + 1, none⟩ = some (.int .i64 l) ∧ w4.cell? ⟨gb, off + k * 3 + 2, none⟩ = some (.int .i64 d) ∧ w4.cell? ⟨g, k * 3, none⟩ = some (.int .u8 y) ∧ w4.cell? ⟨g, k * 3 + 1, none⟩ = some (.int .i64 l) ∧ w4.cell? ⟨g, k * 3 + 2, none⟩ = some (.int .i64 d) := ⟨(b4.cell (block_lt_of_cell x0)).trans x0, (b4.cell (block_lt_of_cell x1)).trans x1, (b4.cell (block_lt_of_cell x2)).trans x2, (b4.cell (block_lt_of_cell z0)).trans z0, (b4.cell (block_lt_of_cell z1)).trans z1, (b4.cell (block_lt_of_cell z2)).trans z2⟩) | (go_at_call 14; refine (num_any _ _).mono ?_; rintro e w' ⟨rfl, rfl⟩) | (go_at_call 20; refine (rcheck_any y l d _).mono ?_; rintro e w5 ⟨rfl, b5⟩; have S2 : w5.cell? ⟨gb, off + k * 3, none⟩ = some (.int .u8 y) ∧ w5.cell? ⟨gb, off + k * 3 + 1, none⟩ = some (.int .i64 l) ∧ w5.cell? ⟨gb, off + k * 3 + 2, none⟩ = some (.int .i64 d) ∧ w5.cell? ⟨g, k * 3, none⟩ = some (.int .u8 y) ∧ w5.cell? ⟨g, k * 3 + 1, none⟩ = some (.int .i64 l) ∧ w5.cell? ⟨g, k * 3 + 2, none⟩ = some (.int .i64 d) := ⟨(b5.cell (block_lt_of_cell S1.1)).trans S1.1, (b5.cell (block_lt_of_cell S1.2.1)).trans S1.2.1, (b5.cell (block_lt_of_cell S1.2.2.1)).trans S1.2.2.1, (b5.cell (block_lt_of_cell S1.2.2.2.1)).trans S1.2.2.2.1, (b5.cell (block_lt_of_cell S1.2.2.2.2.1)).trans S1.2.2.2.2.1, (b5.cell (block_lt_of_cell S1.2.2.2.2.2)).trans S1.2.2.2.2.2⟩))
      have hb5 : Below wr.heap.size wr w5 := ((Below.refl wr.heap.size wr).drew.trans b4).trans (b5.mono b4.size)
      have HB5 : Hid (Below w.heap.size w w5) := HBW.out.trans (hb5.mono HBW.out.size)
      have HM5 : Hid (TSrc w5 (some ⟨g, 0, none⟩) (ts ++ [(77, 0, 0)])) := HMW.out.below hb5
      have HS5 : Hid (Src .u8 w5 aoB xs) := HSB.out.below hb5
      clear S1 S2 b4 b5 hb5 x0 x1 x2 z0 z1 z2
      go_wp2
      exact ⟨⟨k + 1, hlt, by simp, HB5.out, HM5.out, HS5.out⟩, by simp [intOf]; omega⟩
    · obtain rfl : k = N := by omega
      have z0 := tsrc_end HMW.out
      rw [← HNE.out] at z0
      dsimp only at z0
      have e1 : IntKind.i64.wrap ((k : Int) + 1) = ((k + 1 : Nat) : Int) := by rw [IntKind.wrap_i64]; omega
      have HXX := HX.out
      by_cases hm : most < 0
      · have hx : XR most ts = ([], 0, 2) := by unfold XR; rw [if_pos hm]
        rw [hx] at HXX
        obtain ⟨rfl, rfl, rfl⟩ : xs = [] ∧ xn = 0 ∧ xe = 2 := by simpa using HXX
        have hl0 : L = 0 := HL.out
        subst hl0
        clear HXX hx HX HL
        go_wp2_with (first | (go_at_call 14; refine (num_any _ _).mono ?_; rintro e w' ⟨rfl, rfl⟩) | (go_at_call 9; refine (works_any _).mono ?_; rintro e w9 ⟨rfl, b9⟩))
        go_ret
        exact ⟨rfl, HBW.out.trans (b9.mono HBW.out.size)⟩
      · by_cases hr : refN ts = 0
        · have hx : XR most ts = xpR most ts := by unfold XR; rw [if_neg hm, if_pos hr]
          have HR : Hid (refN ts = 0) := hr
          have HXP : Hid ((xs, xn, xe) = xpR most ts) := by rw [← hx]; exact HX.out
          clear hx hr HXX HX
          have hm0 : 0 ≤ most := by omega
          clear hm
          have hm1 : ¬ most < 0 := by omega
          go_wp2_with fail
          refine (checks_any ts ao k cap wr HNE.out (by omega) (HS.out.below HBW.out)).mono ?_
          rintro e w4 ⟨rfl, b4⟩
          rw [HR.out]
          have HB4 : Hid (Below w.heap.size w w4) := HBW.out.trans (b4.mono HBW.out.size)
          have HS4 : Hid (Src .u8 w4 aoB xs) := HSB.out.below b4
          clear b4 z0
          go_wp2_with fail
          refine (rexpand_ok ts ao k cap most w4 HNE.out (by omega) hm0 hm2 (HS.out.below HB4.out) (by rw [HNE.out]; exact okK_of_refN HR.out)).mono ?_
          rintro e w5 ⟨v5, rfl, o5, b5⟩
          rw [← HXP.out] at o5 ⊢
          dsimp only at o5 ⊢
          obtain ⟨ao5, cap5, rfl, _, _, hs5, _⟩ := o5.parts
          rw [← HL.out]
          have hcv1 := cv (c := capB) HL.out.symm (HS4.out.below b5)
          have hcv2 := cv (c := cap5) HL.out.symm hs5
          have HB5 : Hid (Below w.heap.size w w5) := HB4.out.trans (b5.mono HB4.out.size)
          clear o5 b5 hs5
          go_wp2_with (first | (go_at_call 14; refine (num_any _ _).mono ?_; rintro e w' ⟨rfl, rfl⟩) | (go_at_call 9; refine (works_any _).mono ?_; rintro e w9 ⟨rfl, b9⟩))
          go_ret
          exact ⟨rfl, HB5.out.trans (b9.mono HB5.out.size)⟩
        · have hr2 : refN ts = 2 := by
            revert hr
            unfold refN
            have := HNE.out
            split
            · rw [if_neg (by omega)]; intro h; exact absurd rfl h
            · intro _; rfl
          have hx : XR most ts = ([], 0, 2) := by unfold XR; rw [if_neg hm, if_neg hr, hr2]
          rw [hx] at HXX
          obtain ⟨rfl, rfl, rfl⟩ : xs = [] ∧ xn = 0 ∧ xe = 2 := by simpa using HXX
          have hl0 : L = 0 := HL.out
          subst hl0
          have HR : Hid (refN ts = 2) := hr2
          clear HXX hx HX HL hr hr2
          go_wp2_with fail
          refine (checks_any ts ao k cap wr HNE.out (by omega) (HS.out.below HBW.out)).mono ?_
          rintro e w4 ⟨rfl, b4⟩
          rw [HR.out]
          have HB4 : Hid (Below w.heap.size w w4) := HBW.out.trans (b4.mono HBW.out.size)
          clear b4 z0
          go_wp2_with (first | (go_at_call 14; refine (num_any _ _).mono ?_; rintro e w' ⟨rfl, rfl⟩) | (go_at_call 9; refine (works_any _).mono ?_; rintro e w9 ⟨rfl, b9⟩))
          go_ret
          exact ⟨rfl, HB4.out.trans (b9.mono HB4.out.size)⟩
set_option maxRecDepth 100000 in
set_option maxHeartbeats 1000000 in
theorem expands_long (ao : Option Addr) (N cap : Nat) (most : Int) (w : World) (hN : 300 < N) (hN2 : N ≤ maxLen) :
    Calls Try.prog 4 #[.int .i64 most, .slice ao N cap] w fun e w' => e = .returned (.bool true) ∧ Below w.heap.size w w' := by
  have hgt : (300 : Int) < (N : Int) := by omega
  have HN2 : Hid (N ≤ maxLen) := hN2
  clear hN2
  go_enter Try.func4, Try.ntmps4
  go_wp2_with (first | (go_at_call 9; refine (works_any _).mono ?_; rintro e w9 ⟨rfl, b9⟩))
  go_ret
  exact ⟨rfl, b9⟩
end Go.Proofs.Ytofmoggejfopiaa
