/- play, without fates. -/
import Derived.Test.YtalicohflfildaaVs
import Derived.Test.YtalicohflfildaaNw
namespace Go.Proofs.Ytalicohflfildaa
open Go.RowKit

theorem Pl.comb {D0 D : Nat → Prop} {w0 w w' : World} {own0 own : List Nat} {g fm K : Nat} (h : Wk D0 w0 own0 w D own) (p : Pl D w own g fm K w') : Pl D0 w0 own0 g fm K w' := by
  obtain ⟨D', fv, st, fs, es, c, h1, h2, h3, h4⟩ := p
  exact ⟨D', fv, st, fs, es, c, h1, h2, h3, h.trans h4⟩
/-- What the next step of a script meets. -/
structure Nx (D0 : Nat → Prop) (w0 : World) (own0 : List Nat) (g fm K : Nat) (D : Nat → Prop) (W : World) (fv : Value) (steps : Nat) (fs : List Fe) (es : List (ByteArray × Value × Nat)) (c : Nat) : Prop where
  sr : Sr D W g fm fv steps fs [] es c
  st : steps ≤ K
  kb : K ≤ 100000
  ps : ∀ f ∈ fs, f.2.2.ps.length ≤ 3000 * K
  wk : Wk D0 w0 own0 W D (ownS g fm fv fs)
/-- What play leaves. -/
def PyP (w : World) (e : Ending) (w' : World) : Prop := ∃ g fm D fv steps fs es c, e = .returned (.pointer (some ⟨g, 0, none⟩)) ∧ Sr D w' g fm fv steps fs [] es c ∧ steps ≤ 120 ∧ (∀ i, i ∈ ownS g fm fv fs → w.heap.size ≤ i) ∧ Kp (fun _ => False) w w'
set_option maxRecDepth 100000 in
set_option maxHeartbeats 8000000 in
theorem play_any (ts : List Stp) (ao : Option Addr) (N cap : Nat) (w : World) (hN : N = ts.length) (hN120 : N ≤ 120) (hS : SSrc w ao ts) (hw : ∀ t ∈ ts, Swf w.heap.size w t) (hbl : ∀ t ∈ ts, blen t ≤ 3000) (h7 : ∀ t ∈ ts, t.kind ≠ 7) :
    Calls Try.prog 9 #[.slice none 0 0, .slice ao N cap] w fun e w' => PyP w e w' := by
  have HN : Hid (N = ts.length) := hN
  have HS : Hid (SSrc w ao ts) := hS
  have HW : Hid (∀ t ∈ ts, Swf w.heap.size w t) := hw
  have HBL : Hid (∀ t ∈ ts, blen t ≤ 3000) := hbl
  have H7 : Hid (∀ t ∈ ts, t.kind ≠ 7) := h7
  clear hN hS hw hbl h7
  go_enter Try.func9, Try.ntmps9
  go_wp2_with fail
  refine (new_none w).mono ?_
  rintro e w1 ⟨rfl, hs1, k1⟩
  obtain ⟨g, hg⟩ : ∃ g, g = w.heap.size + 1 := ⟨_, rfl⟩
  obtain ⟨fm, hfm⟩ : ∃ fm, fm = w.heap.size := ⟨_, rfl⟩
  obtain ⟨D0, hD0⟩ : ∃ D0 : Nat → Prop, D0 = (fun i => i < w.heap.size) := ⟨_, rfl⟩
  rw [← hD0, ← hg, ← hfm] at hs1
  rw [← hg]
  have HOW : Hid (∀ i, i ∈ ownS g fm (.slice none 0 0) [] → w.heap.size ≤ i) := by
    intro i hi
    rcases mem_ownS.1 hi with h | h | h | ⟨f, hf, _⟩
    · omega
    · omega
    · cases h
    · cases hf
  have HS1 : Hid (Pl D0 w1 (ownS g fm (.slice none 0 0) []) g fm 0 w1) := ⟨D0, .slice none 0 0, 0, [], [], 0, hs1, Nat.le_refl _, fun f hf => (by cases hf), Wk.refl _ _ _⟩
  have K1 : Hid (Kp (fun _ => False) w w1) := k1
  clear hs1 k1 hg hfm hD0
  generalize ownS g fm (.slice none 0 0) [] = own0 at *
  go_wp2_with fail
  go_loopw [7, 8] (fun iv _ wr => ∃ k : Nat, k ≤ N ∧ iv = .int .i64 k ∧ Pl D0 w1 own0 g fm k wr) (fun iv _ _ => N - (intOf iv).toNat)
  case atStart => exact ⟨0, Nat.zero_le _, rfl, HS1.out⟩
  case round =>
    clear HS1
    obtain ⟨k, hk, rfl, hpl⟩ := hrel
    by_cases hlt : k < N
    · have hlt2 : k < ts.length := by have := HN.out; omega
      obtain ⟨D, fv, steps, fs, es, c, hsr, hst, hps, hwk⟩ := hpl
      have kw : Kp (fun i => i ∈ own0) w wr := (K1.out.mono (fun _ _ h => h.elim)).trans hwk.k (fun _ _ h => h)
      obtain ⟨b, off, hao, hb, y0, y1, y2, y3, y4, y5, y6⟩ := (HS.out.kp kw (fun b off e hb hm => by have := HOW.out b hm; omega)).at hlt2
      obtain ⟨t, ht⟩ : ∃ t, t = ts.getD k zst := ⟨_, rfl⟩
      have htm := HW.out _ (getD_memS ts k hlt2)
      have hbl := HBL.out _ (getD_memS ts k hlt2)
      have hk7 := H7.out _ (getD_memS ts k hlt2)
      rw [← ht] at y0 y1 y2 y3 y4 y5 y6 htm hbl hk7
      clear ht
      obtain ⟨kd, n, a0, nm, bv, fvv, pv⟩ := t
      obtain ⟨⟨ba, bc, xs, e1, hbc, hsr0, -, hbB⟩, ⟨fa, fl, fc, e2, hfl⟩, ⟨pa, pl, pc, e3, hpl⟩, hnm, ha1, ha2⟩ := htm
      dsimp only at e1 e2 e3 y0 y1 y2 y3 y4 y5 y6 hnm ha1 ha2 hk7
      subst e1 e2 e3 hao
      have hbl2 : xs.length ≤ 3000 := hbl
      have hown : ∀ i, i ∈ ownS g fm fv fs → w.heap.size ≤ i := fun i hi => (hwk.o i hi).elim (fun h => HOW.out i h) (fun h => Nat.le_trans K1.out.size h)
      have hdis : 0 < xs.length → ∀ b off, ba = some ⟨b, off, none⟩ → b ∉ ownS g fm fv fs := fun h0 b off e hm => by have := hown b hm; have := hbB b off e h0; omega
      have hsrW : Src .u8 wr ba xs := fun h0 => (hsr0.kp kw (fun b off e hm => by have := HOW.out b hm; have := hbB b off e h0; omega)) h0
      clear hbl hbB hsr0 kw hown
      have HX : Hid (Nx D0 w1 own0 g fm k D wr fv steps fs es c) := ⟨hsr, hst, by omega, hps, hwk⟩
      have HSX : Hid (Src .u8 wr ba xs) := hsrW
      have HDI : Hid (0 < xs.length → ∀ b off, ba = some ⟨b, off, none⟩ → b ∉ ownS g fm fv fs) := hdis
      clear hsr hst hps hwk hsrW hdis
      obtain ⟨xl, hxl⟩ : ∃ xl, xl = xs.length := ⟨_, rfl⟩
      rw [← hxl] at y4 hbc hbl2 HDI
      have HXL : Hid (xl = xs.length) := hxl
      clear hxl
      have Q := St.new 47 wr #[.int .i64 kd, .int .i64 n, .int .i64 a0, .string nm, .slice ba xl bc, .slice fa fl fc, .slice pa pl pc]
      have q0 := Q.cell 0
      have q1 := Q.cell 1
      have q2 := Q.cell 2
      have q3 := Q.cell 3
      have q4 := Q.cell 4
      simp only [List.getElem?_toArray, List.getElem?_cons_zero, List.getElem?_cons_succ] at q0 q1 q2 q3 q4
      have KA : Hid (Kp (fun _ => False) wr (wr.alloc (.cells #[.int .i64 kd, .int .i64 n, .int .i64 a0, .string nm, .slice ba xl bc, .slice fa fl fc, .slice pa pl pc] 47))) := (Kp.refl _ _).alloc _
      have HXA : Hid (Nx D0 w1 own0 g fm k D (wr.alloc (.cells #[.int .i64 kd, .int .i64 n, .int .i64 a0, .string nm, .slice ba xl bc, .slice fa fl fc, .slice pa pl pc] 47)) fv steps fs es c) := ⟨HX.out.sr.kp KA.out (fun _ _ h => h) (fun _ _ h => h), HX.out.st, HX.out.kb, HX.out.ps, HX.out.wk.kp KA.out⟩
      have HSA : Hid (Src .u8 (wr.alloc (.cells #[.int .i64 kd, .int .i64 n, .int .i64 a0, .string nm, .slice ba xl bc, .slice fa fl fc, .slice pa pl pc] 47)) ba xs) := HSX.out.kp KA.out (fun _ _ _ h => h)
      clear Q HX HSX KA
      by_cases k1 : kd = 1
      · subst k1
        go_wp2_with fail
        refine (create_pl D _ g fm fv steps fs es c k HXA.out.sr HXA.out.st HXA.out.kb HXA.out.ps nm hnm).mono ?_
        rintro e w' ⟨⟨z, rfl⟩, hp⟩
        have HP : Hid (Pl D0 w1 own0 g fm (k + 1) w') := Pl.comb HXA.out.wk hp
        clear hp
        go_wp2
        exact ⟨⟨k + 1, hlt, rfl, HP.out⟩, by simp only [intOf]; omega⟩
      by_cases k2 : kd = 2
      · subst k2
        go_wp2_with fail
        refine (remove_pl D _ g fm fv steps fs es c k HXA.out.sr HXA.out.st HXA.out.kb HXA.out.ps nm hnm).mono ?_
        rintro e w' ⟨⟨z, rfl⟩, hp⟩
        have HP : Hid (Pl D0 w1 own0 g fm (k + 1) w') := Pl.comb HXA.out.wk hp
        clear hp
        go_wp2
        exact ⟨⟨k + 1, hlt, rfl, HP.out⟩, by simp only [intOf]; omega⟩
      by_cases k3 : kd = 3
      · subst k3
        go_wp2_with fail
        refine (write_pl D _ g fm fv steps fs es c k HXA.out.sr HXA.out.st HXA.out.kb HXA.out.ps nm hnm a0 ha2 xl bc ba xs HXL.out hbl2 hbc HSA.out HDI.out).mono ?_
        rintro e w' ⟨⟨z, rfl⟩, hp⟩
        have HP : Hid (Pl D0 w1 own0 g fm (k + 1) w') := Pl.comb HXA.out.wk hp
        clear hp
        go_wp2
        exact ⟨⟨k + 1, hlt, rfl, HP.out⟩, by simp only [intOf]; omega⟩
      by_cases k4 : kd = 4
      · subst k4
        go_wp2_with fail
        refine (flush_pl D _ g fm fv steps fs es c k HXA.out.sr HXA.out.st HXA.out.kb HXA.out.ps nm hnm).mono ?_
        rintro e w' ⟨⟨z, rfl⟩, hp⟩
        have HP : Hid (Pl D0 w1 own0 g fm (k + 1) w') := Pl.comb HXA.out.wk hp
        clear hp
        go_wp2
        exact ⟨⟨k + 1, hlt, rfl, HP.out⟩, by simp only [intOf]; omega⟩
      by_cases k5 : kd = 5
      · subst k5
        go_wp2_with fail
        refine (resize_pl D _ g fm fv steps fs es c k HXA.out.sr HXA.out.st HXA.out.kb HXA.out.ps nm hnm n).mono ?_
        rintro e w' ⟨⟨z, rfl⟩, hp⟩
        have HP : Hid (Pl D0 w1 own0 g fm (k + 1) w') := Pl.comb HXA.out.wk hp
        clear hp
        go_wp2
        exact ⟨⟨k + 1, hlt, rfl, HP.out⟩, by simp only [intOf]; omega⟩
      have HP : Hid (Pl D0 w1 own0 g fm (k + 1) (wr.alloc (.cells #[.int .i64 kd, .int .i64 n, .int .i64 a0, .string nm, .slice ba xl bc, .slice fa fl fc, .slice pa pl pc] 47))) := ⟨D, fv, steps, fs, es, c, HXA.out.sr, Nat.le_succ_of_le HXA.out.st, fun f hf => Nat.le_trans (HXA.out.ps f hf) (Nat.mul_le_mul_left _ (Nat.le_succ _)), HXA.out.wk⟩
      go_wp2
      exact ⟨⟨k + 1, hlt, rfl, HP.out⟩, by simp only [intOf]; omega⟩
    · have hnl : ¬ (k : Int) < (N : Int) := by omega
      have hkN : k = N := by omega
      obtain ⟨D, fv, steps, fs, es, c, hsr, hst, -, hwk⟩ := hpl
      have HR : Hid (Sr D wr g fm fv steps fs [] es c) := hsr
      have HK : Hid (Wk D0 w1 own0 wr D (ownS g fm fv fs)) := hwk
      clear hsr hwk
      go_wp2
      go_ret
      refine ⟨g, fm, D, fv, steps, fs, es, c, rfl, HR.out, by omega, fun i hi => (HK.out.o i hi).elim (fun h => HOW.out i h) (fun h => Nat.le_trans K1.out.size h), ?_⟩
      exact ((K1.out.mono (fun _ _ h => h.elim)).trans HK.out.k (fun _ _ h => h)).mono (fun i hi hm => by have := HOW.out i hm; omega)
end Go.Proofs.Ytalicohflfildaa
