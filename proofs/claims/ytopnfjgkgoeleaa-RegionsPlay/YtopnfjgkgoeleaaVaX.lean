/- RegionsPlay: the law's put. -/
import Derived.Test.YtopnfjgkgoeleaaVeX
import Derived.Test.YtopnfjgkgoeleaaCy
import Derived.Test.YtopnfjgkgoeleaaQa
namespace Go.Proofs.Ytopnfjgkgoeleaa
open Go.RowKit
set_option linter.unusedVariables false
set_option linter.unusedSimpArgs false
theorem apart_types {w : World} {g : Nat} {t u : TypeId} {cs ds : Array Value} (h : St t w g cs) (k : St u w g ds) (hn : t ≠ u) : False := by
  unfold St at h k
  rw [h] at k
  simp only [Option.some.injEq, Obj.cells.injEq] at k
  exact hn k.2.1
/-- The block of a list that has something, or room for it. -/
def blk (ao : Option Addr) (c k : Nat) : Prop := 0 < c ∧ ∃ off, ao = some ⟨k, off, none⟩
theorem rmb_blk {ao : Option Addr} {n c k : Nat} (h : Rmb ao n c k) : blk ao c k := ⟨by have := h.1; omega, h.2⟩
theorem fro_blk {ao ao' : Option Addr} {n c n' c' S k : Nat} (h : Fro ao n c ao' n' c' S) (hb : blk ao' c' k) : S ≤ k ∨ blk ao c k := by
  obtain ⟨h0, off, e⟩ := hb
  rcases h k off e with h1 | ⟨e2, _, h3⟩
  · exact .inl h1
  · exact .inr ⟨h3 h0, e2⟩
theorem Lst.blk_lt {w : World} {ao : Option Addr} {c k : Nat} {L : List Rn} (h : Lst w ao c L) (hb : blk ao c k) : k < w.heap.size := by
  obtain ⟨h0, off, e2⟩ := hb
  by_cases hl : L.length < c
  · obtain ⟨g, cur, e, _, _, _, hg⟩ := h.own hl
    rw [e] at e2
    cases e2
    exact hg
  · have h1 := h.2.1
    obtain ⟨b, off, e, hb2, _⟩ := h.1 (by omega)
    rw [e] at e2
    cases e2
    exact hb2
theorem Lst.kpb {F : Nat → Prop} {w w' : World} {ao : Option Addr} {c : Nat} {L : List Rn} (h : Lst w ao c L) (k : Kp F w w') (hf : ∀ b, blk ao c b → ¬ F b) : Lst w' ao c L := by
  by_cases h0 : 0 < c
  · exact h.kp k (fun b off e _ => hf b ⟨h0, off, e⟩)
  · obtain rfl : c = 0 := by omega
    have h1 := h.2.1
    obtain rfl : L = [] := List.length_eq_zero_iff.1 (by omega)
    exact ⟨Srcr.nil _ _, Nat.le_refl _, by unfold maxLen; omega, fun _ => rfl, fun h => by simp at h⟩
theorem Rg.kpb {F : Nat → Prop} {w w' : World} {B : Nat} {ao : Option Addr} {c : Nat} {L : List Rn} (h : Rg w B ao c L) (k : Kp F w w') (hB : ¬ F B) (hf : ∀ b, blk ao c b → ¬ F b) : Rg w' B ao c L := ⟨St.kp h.rb k hB, h.lst.kpb k hf, h.srt, h.len⟩
theorem Rg.kp0 {w w' : World} {B : Nat} {ao : Option Addr} {c : Nat} {L : List Rn} (h : Rg w B ao c L) (k : Kp (fun _ => False) w w') : Rg w' B ao c L := h.kpb k (fun x => x) (fun _ _ x => x)
theorem Rg.room {w : World} {B k : Nat} {ao : Option Addr} {c : Nat} {L : List Rn} (h : Rg w B ao c L) (hr : Rmb ao L.length c k) : ∃ cur, St 46 w k cur := by
  obtain ⟨g, cur, e, hg, _⟩ := h.lst.own hr.1
  obtain ⟨_, off, e2⟩ := hr
  rw [e] at e2
  cases e2
  exact ⟨cur, hg⟩
theorem RL.tb {q : Nat} {w : World} {l : List Rn} (h : RL q w l) {b off n cap : Nat} (hc : w.cell? ⟨q, 0, none⟩ = some (.slice (some ⟨b, off, none⟩) n cap)) : ∃ cur, St 46 w b cur := by
  obtain ⟨ao, cap', s, _, t, _⟩ := h.mem
  rw [s.cell 0] at hc
  simp only [List.getElem?_toArray, List.getElem?_cons_zero, Option.some.injEq, Value.slice.injEq] at hc
  exact (t b off none hc.1).2
theorem RL.cell_eq {F : Nat → Prop} {q : Nat} {w w' : World} {l : List Rn} (h : RL q w l) (k : Kp F w w') (hf : ¬ F q) : w'.cell? ⟨q, 0, none⟩ = w.cell? ⟨q, 0, none⟩ := by
  obtain ⟨ao, cap', s, _⟩ := h.mem
  rw [s.cell 0, (s.kp k hf).cell 0]
structure Two (W : World) (B rq : Nat) (ao : Option Addr) (c : Nat) (l : List Rn) : Prop where
  rg : Rg W B ao c l
  rl : RL rq W l
  nq : ¬ blk ao c rq
  ap : Rof rq W (blk ao c)
theorem Two.nB {W : World} {B rq : Nat} {ao : Option Addr} {c : Nat} {l : List Rn} (h : Two W B rq ao c l) : rq ≠ B := by
  rintro rfl
  obtain ⟨_, _, s, _⟩ := h.rl.mem
  exact apart_types h.rg.rb s (by decide)
theorem Two.nR {W : World} {B rq : Nat} {ao : Option Addr} {c : Nat} {l : List Rn} (h : Two W B rq ao c l) : ¬ Rmb ao l.length c rq := fun e => h.nq (rmb_blk e)
theorem Two.row {W : World} {B rq : Nat} {ao : Option Addr} {c : Nat} {l : List Rn} (h : Two W B rq ao c l) : Rof rq W (fun k => k = B ∨ Rmb ao l.length c k) := fun b off n cap hc e => by
  rcases e with rfl | e
  · obtain ⟨cur, s⟩ := h.rl.tb hc
    exact apart_types h.rg.rb s (by decide)
  · exact h.ap b off n cap hc (rmb_blk e)
theorem Two.kp0 {W Y : World} {B rq : Nat} {ao : Option Addr} {c : Nat} {l : List Rn} (h : Two W B rq ao c l) (k : Kp (fun _ => False) W Y) : Two Y B rq ao c l :=
  ⟨h.rg.kp0 k, h.rl.kp k, h.nq, fun b off n cap hc => h.ap b off n cap ((h.rl.cell_eq k (fun x => x)) ▸ hc)⟩
theorem Chg.post {W X Y : World} {B n c : Nat} {ao : Option Addr} {l' : List Rn} (h : Chg W B ao n c l' X) (k : Kp (fun _ => False) X Y) : Chg W B ao n c l' Y := by
  obtain ⟨ao', c', g, kk, f⟩ := h
  exact ⟨ao', c', g.kp0 k, kk.trans k (fun _ _ x => x.elim), f⟩
theorem Cht.chg {W X : World} {B n c : Nat} {ao : Option Addr} {l' : List Rn} (h : Cht W B ao n c l' X) : Chg W B ao n c l' X := by
  obtain ⟨ao', c', g, k, f⟩ := h
  exact ⟨ao', c', g, k.mono (fun _ _ e => .inl e), f⟩
theorem Chg.kk {W X : World} {B n c : Nat} {ao : Option Addr} {l' : List Rn} (h : Chg W B ao n c l' X) : Kp (fun k => k = B ∨ Rmb ao n c k) W X := by
  obtain ⟨ao', c', g, k, f⟩ := h
  exact k
/-- What a step leaves of the two. -/
structure Ch (W : World) (B rq : Nat) (ao : Option Addr) (n c : Nat) (l' : List Rn) (Y : World) : Prop where
  ex : ∃ ao' c', Two Y B rq ao' c' l' ∧ Fro ao n c ao' l'.length c' W.heap.size
  k : Kp (fun k => k = B ∨ Rmb ao n c k ∨ k = rq) W Y
  nr : Nro rq W Y
theorem Ch.pre {W X Y : World} {B rq n c : Nat} {ao : Option Addr} {l l' : List Rn} (t : Two W B rq ao c l) (k : Kp (fun _ => False) W X) (h : Ch X B rq ao n c l' Y) : Ch W B rq ao n c l' Y := by
  obtain ⟨⟨ao', c', h1, h2⟩, h3, h4⟩ := h
  refine ⟨⟨ao', c', h1, h2.lower k.size⟩, (k.mono (fun _ _ x => x.elim)).trans h3 (fun _ _ x => x), fun O g1 g2 => h4 O (fun i hi => Nat.lt_of_lt_of_le (g1 i hi) k.size) (fun b off n cap hc => g2 b off n cap ((t.rl.cell_eq k (fun x => x)) ▸ hc))⟩
theorem Ch.post {W X Y : World} {B rq n c : Nat} {ao : Option Addr} {l' : List Rn} (h : Ch W B rq ao n c l' X) (k : Kp (fun _ => False) X Y) : Ch W B rq ao n c l' Y := by
  obtain ⟨⟨ao', c', h1, h2⟩, h3, h4⟩ := h
  exact ⟨⟨ao', c', h1.kp0 k, h2⟩, h3.trans k (fun _ _ x => x.elim), fun O g1 g2 b off n cap hc => h4 O g1 g2 b off n cap ((h1.rl.cell_eq k (fun x => x)) ▸ hc)⟩
theorem Ch.same {W Y : World} {B rq c : Nat} {ao : Option Addr} {l : List Rn} (t : Two W B rq ao c l) (k : Kp (fun _ => False) W Y) : Ch W B rq ao l.length c l Y :=
  ⟨⟨ao, c, t.kp0 k, Fro.refl _ _ _ _⟩, k.mono (fun _ _ x => x.elim), Nro.cell (t.rl.cell_eq k (fun x => x))⟩
theorem Two.rlU {W X : World} {B rq c : Nat} {ao : Option Addr} {l l' : List Rn} (t : Two W B rq ao c l) (g : Chg W B ao l.length c l' X) : RL rq X l := t.rl.kpo g.kk (fun e => e.elim t.nB t.nR) t.row
theorem Two.done {W X Y : World} {B rq c : Nat} {ao : Option Addr} {l l' : List Rn} (t : Two W B rq ao c l) (g : Chg W B ao l.length c l' X) (k2 : Kp (fun i => i = rq) X Y) (r2 : RL rq Y l') (n2 : Nro rq X Y) : Ch W B rq ao l.length c l' Y := by
  obtain ⟨ao', c', g1, k1, f1⟩ := g
  have hb := t.nB
  have hnr := t.nR
  have hlt := t.rl.lt
  have nq' : ¬ blk ao' c' rq := fun e => by
    rcases fro_blk f1 e with h1 | h1
    · omega
    · exact t.nq h1
  have ce : X.cell? ⟨rq, 0, none⟩ = W.cell? ⟨rq, 0, none⟩ := t.rl.cell_eq k1 (fun e => e.elim hb hnr)
  have ap1 : Rof rq X (blk ao' c') := fun b off n cap hc e => by
    rw [ce] at hc
    rcases fro_blk f1 e with h1 | h1
    · have := t.rl.row_lt hc; omega
    · exact t.ap b off n cap hc h1
  have ap2 : Rof rq Y (blk ao' c') := n2 _ (fun i hi => g1.lst.blk_lt hi) ap1
  exact ⟨⟨ao', c', ⟨g1.kpb k2 (fun e => hb e.symm) (fun b hb2 e => nq' (e ▸ hb2)), r2, nq', ap2⟩, f1⟩, (k1.mono (fun _ _ e => e.imp id .inl)).trans k2 (fun _ _ e => .inr (.inr e)), fun O h1 h2 => n2 O (fun i hi => Nat.lt_of_lt_of_le (h1 i hi) k1.size) (fun b off n cap hc => h2 b off n cap (ce ▸ hc))⟩
theorem take_two {X : World} {B rq c : Nat} {ao : Option Addr} {l : List Rn} (t : Two X B rq ao c l) (p : Int) :
    Calls Try.prog 27 #[.pointer (some ⟨B, 0, none⟩), .int .i64 p] X fun e w1 => ∃ (y : Rn) (er : Int), e = .returned (.tuple #[.agg y.cs, .int .i64 er]) ∧ Kp (fun k => k = B) X w1 ∧
      ∀ U, Kp (fun _ => False) w1 U → Calls Try.prog 35 #[.pointer (some ⟨rq, 0, none⟩), .int .i64 p] U fun e2 w2 => e2 = .returned (.tuple #[.agg y.cs, .int .i64 er]) ∧ Kp (fun i => i = rq) U w2 ∧ ∃ l', Ch X B rq ao l.length c l' w2 := by
  refine (take_any X B ao c l p t.rg).mono ?_
  rintro e w1 ⟨rfl, ch⟩
  have kc : Kp (fun k => k = B) X w1 := by obtain ⟨_, _, _, k, _⟩ := ch; exact k
  refine ⟨_, _, rfl, kc, fun U ku => ?_⟩
  have cg := ch.chg.post ku
  have hU := t.rlU cg
  refine (rtake_any U rq l p hU).mono ?_
  rintro e w2 (⟨h1, rfl, k2⟩ | ⟨h1, rfl, r2, k2, n2⟩)
  · have e1 : tkX l p = zRn := by unfold tkX; rw [if_neg (by rw [h1]; decide)]
    have e2 : tkE l p = 7 := by unfold tkE; rw [if_neg (by rw [h1]; decide)]
    have e3 : tkL l p = l := by unfold tkL; rw [if_neg (by rw [h1]; decide)]
    rw [e3] at cg
    exact ⟨by rw [e1, e2], k2.mono (fun _ _ x => x.elim), l, t.done cg (k2.mono (fun _ _ x => x.elim)) (hU.kp k2) (Nro.cell (hU.cell_eq k2 (fun x => x)))⟩
  · have e1 : tkX l p = l.getD (bey l p) zRn := by unfold tkX; rw [if_pos h1]
    have e2 : tkE l p = 0 := by unfold tkE; rw [if_pos h1]
    have e3 : tkL l p = wo l (bey l p) := by unfold tkL; rw [if_pos h1]
    rw [e3] at cg
    exact ⟨by rw [e1, e2], k2, _, t.done cg k2 r2 (Nro.new n2)⟩
theorem move_two {X : World} {B rq c : Nat} {ao : Option Addr} {l : List Rn} (t : Two X B rq ao c l) (p q : Int) (hq : I6 q) :
    Calls Try.prog 29 #[.pointer (some ⟨B, 0, none⟩), .int .i64 p, .int .i64 q] X fun e w1 => ∃ (er : Int), e = .returned (.int .i64 er) ∧ Kp (fun k => k = B) X w1 ∧
      ∀ U, Kp (fun _ => False) w1 U → Calls Try.prog 36 #[.pointer (some ⟨rq, 0, none⟩), .int .i64 p, .int .i64 q] U fun e2 w2 => e2 = .returned (.int .i64 er) ∧ Kp (fun i => i = rq) U w2 ∧ ∃ l', Ch X B rq ao l.length c l' w2 := by
  refine (move_any X B ao c l p q t.rg hq).mono ?_
  rintro e w1 ⟨rfl, ch⟩
  have kc : Kp (fun k => k = B) X w1 := by obtain ⟨_, _, _, k, _⟩ := ch; exact k
  refine ⟨_, rfl, kc, fun U ku => ?_⟩
  have cg := ch.chg.post ku
  have hU := t.rlU cg
  refine (rmove_any U rq l p q hq hU).mono ?_
  rintro e w2 ⟨rfl, r2, k2, n2⟩
  exact ⟨rfl, k2, _, t.done cg k2 r2 n2⟩
end Go.Proofs.Ytopnfjgkgoeleaa

namespace Go.Proofs.Ytopnfjgkgoeleaa
open Go.RowKit
set_option linter.unusedVariables false
set_option linter.unusedSimpArgs false
theorem eq_of_gd {A B : List Rn} (hl : A.length = B.length) (h : ∀ i, i < A.length → A.getD i zRn = B.getD i zRn) : A = B := by
  apply List.ext_getElem hl
  intro i h1 h2
  have := h i h1
  rw [gd h1, gd h2] at this
  exact this
set_option maxRecDepth 100000 in
set_option maxHeartbeats 8000000 in
theorem rsame_any (w : World) (ao bo : Option Addr) (n m ca cb : Nat) (A B : List Rn) (hA : A.length = n) (hB : B.length = m) (hn : n ≤ 1000000) (hm : m ≤ 1000000) (sA : Srcr w ao A) (sB : Srcr w bo B) :
    Calls Try.prog 17 #[.slice ao n ca, .slice bo m cb] w fun e w' => ∃ r : Bool, e = .returned (.bool r) ∧ (r = true ↔ A = B) ∧ Kp (fun _ => False) w w' := by
  have HA := hid hA
  have HB := hid hB
  have SA := hid sA
  have SB := hid sB
  have HNQ := hid neq_r
  clear hA hB sA sB
  go_enter Try.func17, Try.ntmps17
  by_cases hnm : n = m
  · subst hnm
    go_wp2_with fail
    go_loopw [5] (fun i wr => ∃ (k : Nat), i = .int .i64 (k : Int) ∧ k ≤ n ∧ Hid (Kp (fun _ => False) w wr) ∧ Hid (∀ j, j < k → A.getD j zRn = B.getD j zRn)) (fun i _ => n - (intOf i).toNat)
    case atStart => exact ⟨0, rfl, Nat.zero_le _, Kp.refl _ _, fun j hj => by omega⟩
    case round =>
      obtain ⟨k, rfl, hk, HK, HE⟩ := hrel
      by_cases hlt : k < n
      · have hka : k < A.length := by have := HA.out; omega
        have hkb : k < B.length := by have := HB.out; omega
        obtain ⟨g1, o1, rfl, _, x0, x1, x2⟩ := (SA.out.kp HK.out (fun _ _ _ _ h => h)).at (i := k) hka
        obtain ⟨g2, o2, rfl, _, y0, y1, y2⟩ := (SB.out.kp HK.out (fun _ _ _ _ h => h)).at (i := k) hkb
        have HEN : Hid (A.getD k zRn = B.getD k zRn → ∀ j, j < k + 1 → A.getD j zRn = B.getD j zRn) := fun h j hj => by
          by_cases hj2 : j < k
          · exact HE.out j hj2
          · obtain rfl : j = k := by omega
            exact h
        have HNE : Hid (A.getD k zRn ≠ B.getD k zRn → A ≠ B) := fun h e => h (by rw [e])
        have hnq := HNQ.out (A.getD k zRn) (B.getD k zRn)
        generalize A.getD k zRn = x at *
        generalize B.getD k zRn = y at *
        by_cases hxy : x = y
        · have hq : Rn.eq x y = true := by rw [hxy]; exact Rn.eq_self _
          rw [hq] at hnq
          have HXY := hid hxy
          clear hxy hq
          generalize x.k = xk at *
          generalize x.a = xa at *
          generalize x.n = xn at *
          generalize y.k = yk at *
          generalize y.a = ya at *
          generalize y.n = yn at *
          go_wp2_with fail
          go_quiet (fail)
          go_wp2_with fail
          go_roundw
          case rel => exact ⟨k + 1, by go_num, hlt, HK.out.trans (drewN_kp _ _ _) (fun _ _ h => h), HEN.out HXY.out⟩
          case measure => simp [intOf]; omega
        · have hq : Rn.eq x y = false := Rn.eq_ne hxy
          rw [hq] at hnq
          have HXY := hid hxy
          clear hxy hq
          generalize x.k = xk at *
          generalize x.a = xa at *
          generalize x.n = xn at *
          generalize y.k = yk at *
          generalize y.a = ya at *
          generalize y.n = yn at *
          go_wp2_with fail
          go_quiet (fail)
          go_wp2_with fail
          go_ret
          exact ⟨false, rfl, ⟨fun h => (by cases h), fun h => absurd h (HNE.out HXY.out)⟩, HK.out.trans (drewN_kp _ _ _) (fun _ _ h => h)⟩
      · obtain rfl : k = n := by omega
        go_wp2_with fail
        go_ret
        exact ⟨true, rfl, ⟨fun _ => eq_of_gd (by rw [HA.out, HB.out]) (fun i hi => HE.out i (by have := HA.out; omega)), fun _ => rfl⟩, HK.out⟩
  · have hd : ((n : Int) != (m : Int)) = true := by rw [bne_iff_ne]; omega
    go_wp2_with fail
    go_ret
    exact ⟨false, rfl, ⟨fun h => (by cases h), fun h => absurd (by rw [← HA.out, ← HB.out, h]) hnm⟩, Kp.refl _ _⟩
end Go.Proofs.Ytopnfjgkgoeleaa

namespace Go.Proofs.Ytopnfjgkgoeleaa
open Go.RowKit
set_option linter.unusedVariables false
set_option linter.unusedSimpArgs false
theorem own_form {w : World} {base : Nat} {v : Value} {M : List Rn} {x : Rn} (h : Ownr w base v (M ++ [x])) : ∃ G c, v = .slice (some ⟨G, 0, none⟩) (M.length + 1) c ∧ base ≤ G ∧ M.length + 1 ≤ c ∧ c ≤ maxLen ∧ Srcr w (some ⟨G, 0, none⟩) (M ++ [x]) := by
  obtain ⟨ao, cap, e, s, h1, h2, _⟩ := h.src
  obtain ⟨b, off, rfl, _⟩ := s (by simp)
  rcases h.2 with ⟨_, h0⟩ | ⟨g, cap2, cur, e2, hb, _⟩
  · simp at h0
  · rw [e] at e2
    simp only [Value.slice.injEq, Option.some.injEq, Addr.mk.injEq] at e2
    obtain ⟨⟨rfl, rfl, _⟩, _, rfl⟩ := e2
    refine ⟨b, cap, by rw [e]; simp, hb, by simpa using h1, h2, s⟩
theorem srcr_kp2 {F : Nat → Prop} {w w' : World} {ao : Option Addr} {l : List Rn} (h : Srcr w ao l) (k : Kp F w w') (hf : ∀ b off, ao = some ⟨b, off, none⟩ → 0 < l.length → ¬ F b) : Srcr w' ao l := fun hp => h.kp k (fun b off e _ => hf b off e hp) hp
theorem own_lit0 (w : World) (base : Nat) (hb : base ≤ w.heap.size) : Ownr (w.alloc (.cells #[] 46)) base (.slice (some ⟨w.heap.size, 0, none⟩) 0 0) [] := World.ownsRow_lit w #[] 0 hb (by unfold maxLen; omega) rfl
theorem allM_of {M : List Rn} (h : ∀ j, j < M.length → mayb (M.getD j zRn) = true) : allM M = true := by
  unfold allM
  rw [List.all_eq_true]
  intro x hx
  obtain ⟨j, hj, e⟩ := List.mem_iff_getElem.1 hx
  have := h j hj
  simp only [List.getD, List.getElem?_eq_getElem hj, Option.getD_some] at this
  rw [← e]
  exact this
theorem allM_no {M : List Rn} {j : Nat} (hj : j < M.length) (h : mayb (M.getD j zRn) = false) : allM M = false := by
  cases ha : allM M with
  | false => rfl
  | true =>
    unfold allM at ha
    rw [List.all_eq_true] at ha
    have := ha (M.getD j zRn) (gd_mem hj)
    rw [h] at this
    cases this
set_option maxRecDepth 100000 in
set_option maxHeartbeats 16000000 in
theorem lput_any (W : World) (B rq : Nat) (ao : Option Addr) (c : Nat) (l M : List Rn) (bo : Option Addr) (n cap : Nat) (hM : M.length = n) (hn : n ≤ 40) (h6 : ∀ x ∈ M, x.i6) (hz : bo = none → cap = 0) (hs : Srcr W bo M) (hlow : ∀ b off, bo = some ⟨b, off, none⟩ → 0 < M.length → b ≠ B ∧ ¬ Rmb ao l.length c b ∧ b ≠ rq) (t : Two W B rq ao c l) :
    Calls Try.prog 34 #[.pointer (some ⟨B, 0, none⟩), .pointer (some ⟨rq, 0, none⟩), .slice bo n cap] W fun e w' => e = .returned (.bool true) ∧ ∃ l', Ch W B rq ao l.length c l' w' := by
  have ka : Kp (fun _ => False) W (W.alloc (.cells #[] 46)) := (Kp.refl _ _).alloc _
  obtain ⟨v1, x1, rr, o1, k1⟩ := own_appr2 (ty := 27) (own_lit0 W W.heap.size (Nat.le_refl _)) rfl hz (hs.kp ka (fun _ _ _ _ h => h)) (by simp; omega) ka.size
  rw [hM] at rr
  rw [List.nil_append] at o1
  have K1 : Kp (fun _ => False) W x1 := ka.trans k1 (fun i hi e => by simp [Value.ownBlock] at e; omega)
  have kb : Kp (fun _ => False) x1 (x1.alloc (.cells #[.int .i64 77, .int .i64 0, .int .i64 0] 46)) := (Kp.refl _ _).alloc _
  obtain ⟨v2, x2, rr2, o2, k2⟩ := own_app12 (ty := 27) (x := ⟨77, 0, 0⟩) (o1.kp kb (fun _ _ h => h)) (St.new 46 x1 #[.int .i64 77, .int .i64 0, .int .i64 0]) (by omega) (Nat.le_trans K1.size kb.size)
  have K2 : Kp (fun _ => False) W x2 := (K1.trans kb (fun _ _ h => h)).trans k2 (fun i hi e => by have := (ownr_blk o1 e).1; omega)
  obtain ⟨G, cc, rfl, hG, hcc, hcm, sG⟩ := own_form o2
  rw [hM] at hcc rr2
  have T2 := hid (t.kp0 K2)
  have sM : Srcr x2 (some ⟨G, 0, none⟩) M := sG.pre
  have hGR : ∀ k, Rmb ao l.length c k → k < W.heap.size := fun k hk => t.rg.lst.blk_lt (rmb_blk hk)
  have hBW : B < W.heap.size := St.lt t.rg.rb
  have hnG : ¬ (G = B ∨ Rmb ao l.length c G) := fun e => e.elim (fun e => by omega) (fun e => by have := hGR G e; omega)
  have HPT := hid (put_any x2 B ao (some ⟨G, 0, none⟩) c n cc l M T2.out.rg hM.symm (by omega) (by omega) h6 sM (fun b off e hr => by cases e; exact hnG (.inr hr)))
  have SG := hid sG
  have SA := hid (hs.kp K2 (fun _ _ _ _ h => h))
  have HNG := hid hnG
  have HGQ : Hid (G ≠ rq) := fun e => by have := t.rl.lt; omega
  have HLO := hid hlow
  have HMN := hid hM
  have H6 := hid h6
  have KW := hid K2
  have HT := hid t
  have HNU := hid num_any
  have HRS := hid rsame_any
  have HMY := hid rmay_any
  have HRP := hid rput_any
  clear ka o1 k1 K1 kb o2 k2 K2 sG sM hGR hBW hnG hlow hM h6 hs hz t hG
  unfold maxLen at hcm
  have hc5 : (n : Int) ≤ (cc : Int) := by omega
  have hc6 : (0 : Int) ≤ (n : Int) := by omega
  go_enter Try.func34, Try.ntmps34
  go_wp2_with (first | (at_builtin; refine Lib.wpList_append_run _ rfl _ _ _ _ rfl _ _ rfl rfl _ _ rr ?_; clear rr) | (at_builtin; refine Lib.wpList_append_run _ rfl _ _ _ _ rfl _ _ rfl rfl _ _ rr2 ?_; clear rr2))
  refine HPT.out.mono ?_
  rintro e w1 ⟨rfl, cg⟩
  have CG := hid cg
  have hpn : Hid (((puN l M : Nat) : Int) = if allM M = true then (((wth l M).2.1 : Nat) : Int) else 0) := by unfold Hid puN; split <;> rfl
  have hpe : Hid (puE l M = if allM M = true then (wth l M).2.2 else 2) := rfl
  have hpl : Hid (puL l M = if allM M = true then (wth l M).1 else l) := rfl
  have SG1 : Hid (Srcr w1 (some ⟨G, 0, none⟩) (M ++ [⟨77, 0, 0⟩])) := SG.out.kp cg.kk (fun b off e _ => by cases e; exact HNG.out)
  have SA1 : Hid (Srcr w1 bo M) := srcr_kp2 SA.out cg.kk (fun b off e hp h => by
    obtain ⟨g1, g2, _⟩ := HLO.out b off e hp
    exact h.elim g1 g2)
  have RL1 : Hid (RL rq w1 l) := T2.out.rlU cg
  clear cg HPT SG SA HNG
  generalize ((puN l M : Nat) : Int) = pn at *
  generalize puE l M = pe at *
  have HSM := hid (HRS.out w1 (some ⟨G, 0, none⟩) bo n n cc cap M M HMN.out HMN.out (by omega) (by omega) SG1.out.pre SA1.out)
  have hw1 : IntKind.i64.wrap ((n : Int) + 1) = (n : Int) + 1 := by rw [IntKind.wrap_i64]; omega
  have hc7 : (n : Int) + 1 ≤ (cc : Int) := by omega
  have hc8 : (0 : Int) ≤ (n : Int) + 1 := by omega
  have hc9 : (n : Int) < (n : Int) + 1 := by omega
  have HPR : Hid (∀ U, Kp (fun _ => False) w1 U → U.cell? ⟨G, n * 3, none⟩ = some (.int .i64 77)) := fun U k => by
    obtain ⟨b, off, e, _, y0, _⟩ := (SG1.out.kp k (fun _ _ _ _ h => h)).at (i := n) (by have := HMN.out; simp; omega)
    cases e
    rw [Nat.zero_add] at y0
    rw [y0]
    have : (M ++ [(⟨77, 0, 0⟩ : Rn)]).getD n zRn = ⟨77, 0, 0⟩ := by rw [← HMN.out]; simp [List.getD]
    rw [this]
  clear HRS SG1
  go_wp2_with fail
  refine HSM.out.mono ?_
  rintro e w2 ⟨r, rfl, hr, k2⟩
  obtain rfl : r = true := by first | exact hr.2 rfl | exact hr.2 trivial
  have y77 := HPR.out w2 k2
  have K2 := hid k2
  clear k2 hr HSM HPR
  go_wp2_with fail
  clear y77
  go_loopw [10] (fun i wr => ∃ (k : Nat), i = .int .i64 (k : Int) ∧ k ≤ n ∧ Hid (Kp (fun _ => False) w2 wr) ∧ Hid (∀ j, j < k → mayb (M.getD j zRn) = true)) (fun i _ => n - (intOf i).toNat)
  case atStart => exact ⟨0, rfl, Nat.zero_le _, Kp.refl _ _, fun j hj => by omega⟩
  case round =>
    obtain ⟨k, rfl, hk, HK, HE⟩ := hrel
    by_cases hlt : k < n
    · have hkm : k < M.length := by have := HMN.out; omega
      have HK1 := hid (K2.out.trans HK.out (fun _ _ h => h))
      obtain ⟨g1, o1, rfl, _, x0, x1', x2'⟩ := (SA1.out.kp HK1.out (fun _ _ _ _ h => h)).at (i := k) hkm
      have HEN : Hid (mayb (M.getD k zRn) = true → ∀ j, j < k + 1 → mayb (M.getD j zRn) = true) := fun h j hj => by
        by_cases hj2 : j < k
        · exact HE.out j hj2
        · obtain rfl : j = k := by omega
          exact h
      have HNE : Hid (mayb (M.getD k zRn) = false → allM M = false) := allM_no hkm
      have HM1 : Hid (Calls Try.prog 19 #[.agg #[.int .i64 (M.getD k zRn).k, .int .i64 (M.getD k zRn).a, .int .i64 (M.getD k zRn).n]] wr fun e w' => e = .returned (.bool (mayb (M.getD k zRn))) ∧ Below wr.heap.size wr w') := HMY.out (M.getD k zRn) wr (H6.out _ (gd_mem hkm))
      generalize M.getD k zRn = x at *
      generalize x.k = xk at *
      generalize x.a = xa at *
      generalize x.n = xn at *
      have hki : (k : Int) < (n : Int) := by omega
      have hk0 : (0 : Int) ≤ (k : Int) := by omega
      by_cases hmb : mayb x = true
      · have HE2 := hid (HEN.out hmb)
        rw [hmb] at HM1
        clear HEN HNE hmb
        go_wp2_with fail
        refine HM1.out.mono ?_
        rintro e w3 ⟨rfl, b3⟩
        have K3 := hid (HK.out.trans (Kp.of_below (F := fun _ => False) b3) (fun _ _ h => h))
        clear b3 HM1
        go_wp2_with fail
        go_roundw
        case rel => exact ⟨k + 1, by go_num, hlt, K3, HE2⟩
        case measure => simp [intOf]; omega
      · have hmf : mayb x = false := by simpa using hmb
        have HAM := hid (HNE.out hmf)
        rw [hmf] at HM1
        obtain rfl : pn = 0 := by rw [hpn.out, HAM.out]; rfl
        obtain rfl : pe = 2 := by rw [hpe.out, HAM.out]; rfl
        have e1 : puL l M = l := by rw [hpl.out, HAM.out]; rfl
        have HC1 : Hid (Ch W B rq ao l.length c l w1) := by
          have c1 := CG.out
          rw [e1] at c1
          exact Ch.pre HT.out KW.out (T2.out.done c1 (Kp.refl _ _) RL1.out (Nro.cell rfl))
        clear HEN HNE hmb hmf e1 hpn hpe hpl
        go_wp2_with fail
        refine HM1.out.mono ?_
        rintro e w3 ⟨rfl, b3⟩
        have K3 := hid (HK1.out.trans (Kp.of_below (F := fun _ => False) b3) (fun _ _ h => h))
        clear b3 HM1
        go_wp2_with (first | (go_at_call 22; refine (HNU.out _ _).mono ?_; rintro e1 w9 ⟨rfl, rfl⟩))
        go_ret
        exact ⟨rfl, l, HC1.out.post K3.out⟩
    · obtain rfl : k = n := by omega
      have hki : ¬ (k : Int) < (k : Int) := by omega
      have HAM : Hid (allM M = true) := allM_of (fun j hj => HE.out j (by have := HMN.out; omega))
      have HK1 := hid (K2.out.trans HK.out (fun _ _ h => h))
      have CG1 : Hid (Chg x2 B ao l.length c (wth l M).1 wr) := by
        have c1 := CG.out
        rw [show puL l M = (wth l M).1 by rw [hpl.out, HAM.out]; rfl] at c1
        exact c1.post HK1.out
      have PN : Hid (pn = (((wth l M).2.1 : Nat) : Int)) := by rw [Hid, hpn.out, HAM.out]; rfl
      have PE : Hid (pe = (wth l M).2.2) := by rw [Hid, hpe.out, HAM.out]; rfl
      have HMR : Hid (∀ x ∈ M, Mayr x) := allM_may HAM.out
      have RL2 := hid (RL1.out.kp HK1.out)
      have SA2 := hid (SA1.out.kp HK1.out (fun _ _ _ _ h => h))
      clear HK HE hlt hpn hpe hpl CG K2 HK1 RL1 SA1 HMY H6
      go_wp2_with fail
      obtain ⟨V, hV⟩ : ∃ V, V = wr := ⟨_, rfl⟩
      subst hV
      go_loopw [11, 12] (fun i f wr => ∃ (j : Nat) (Lj : List Rn), i = .int .i64 (j : Int) ∧ j ≤ k ∧ Hid (RL rq wr Lj ∧ Kp (fun i => i = rq) V wr ∧ Nro rq V wr ∧ wth l M = sh j (wth Lj (M.drop j)))) (fun i _ _ => k - (intOf i).toNat)
      case atStart => exact ⟨0, l, rfl, Nat.zero_le _, RL2.out, Kp.refl _ _, Nro.cell rfl, by rw [sh_zero]; rfl⟩
      case round =>
        obtain ⟨j, Lj, rfl, hj, HJ⟩ := hrel
        by_cases hlt : j < k
        · have hkm : j < M.length := by have := HMN.out; omega
          have SA3 : Srcr wr bo M := srcr_kp2 SA2.out HJ.out.2.1 (fun b off e hp => (HLO.out b off e hp).2.2)
          obtain ⟨g1, o1, rfl, _, x0, x1', x2'⟩ := SA3.at (i := j) hkm
          have HP1 := hid (HRP.out wr rq Lj (M.getD j zRn) (HMR.out _ (gd_mem hkm)) HJ.out.1)
          have HST := hid (fun h => sh_step (L := Lj) (M := M) hkm rfl h)
          have HER := hid (fun h => sh_err (L := Lj) (M := M) hkm rfl h)
          clear SA3
          generalize M.getD j zRn = x at *
          generalize x.k = xk at *
          generalize x.a = xa at *
          generalize x.n = xn at *
          have hki : (j : Int) < (k : Int) := by omega
          have hk0 : (0 : Int) ≤ (j : Int) := by omega
          go_wp2_with fail
          refine HP1.out.mono ?_
          rintro e w3 ⟨rfl, hor⟩
          clear HP1
          by_cases hp0 : plE Lj x = 0
          · have H3 : Hid (RL rq w3 (ins Lj x) ∧ Kp (fun i => i = rq) V w3 ∧ Nro rq V w3 ∧ wth l M = sh (j + 1) (wth (ins Lj x) (M.drop (j + 1)))) := by
              obtain ⟨g1, g2, g3, g4⟩ := HJ.out
              rcases hor with ⟨h1, _⟩ | ⟨_, h2, h3, h4⟩
              · exact absurd hp0 h1
              · exact ⟨h2, g2.trans h3 (fun _ _ e => e), fun O a1 a2 => Nro.new h4 O (fun i hi => Nat.lt_of_lt_of_le (a1 i hi) g2.size) (g3 O a1 a2), g4.trans (HST.out hp0)⟩
            rw [hp0]
            clear hor hp0 HJ HST HER
            go_wp2_with fail
            go_roundw
            case rel => exact ⟨j + 1, ins Lj x, by go_num, hlt, H3⟩
            case measure => simp [intOf]; omega
          · have hke : Kp (fun _ => False) wr w3 := by
              rcases hor with ⟨_, h2⟩ | ⟨h1, _⟩
              · exact h2
              · exact absurd h1 hp0
            obtain ⟨g1, g2, g3, g4⟩ := HJ.out
            rw [HER.out hp0] at g4
            obtain rfl : pn = (j : Int) := by rw [PN.out, g4]
            obtain rfl : pe = plE Lj x := by rw [PE.out, g4]
            have c1 := CG1.out
            rw [g4] at c1
            have HC := hid ((Ch.pre HT.out KW.out (T2.out.done c1 g2 g1 g3)).post hke)
            clear hor hke g1 g2 g3 g4 c1 HST HER PN PE CG1
            have hpb : (plE Lj x != 0) = true := by simpa using hp0
            clear hp0
            generalize plE Lj x = pe at *
            go_wp2_with (first | (go_at_call 22; refine (HNU.out _ _).mono ?_; rintro e1 w9 ⟨rfl, rfl⟩))
            go_ret
            exact ⟨by simp, _, HC.out⟩
        · obtain rfl : j = k := by omega
          have hki : ¬ (j : Int) < (j : Int) := by omega
          obtain ⟨g1, g2, g3, g4⟩ := HJ.out
          rw [sh_end HMN.out.symm] at g4
          obtain rfl : pn = (j : Int) := by rw [PN.out, g4]
          obtain rfl : pe = 0 := by rw [PE.out, g4]
          have c1 := CG1.out
          rw [g4] at c1
          have HC := hid (Ch.pre HT.out KW.out (T2.out.done c1 g2 g1 g3))
          clear g1 g2 g3 g4 c1 PN PE CG1 hlt
          go_wp2_with (first | (go_at_call 22; refine (HNU.out _ _).mono ?_; rintro e1 w9 ⟨rfl, rfl⟩))
          go_ret
          exact ⟨by simp, _, HC.out⟩
end Go.Proofs.Ytopnfjgkgoeleaa
