/- play, with fates. -/
import Derived.Test.YtalicohflfildaaVs
import Derived.Test.YtalicohflfildaaPm
namespace Go.Proofs.Ytalicohflfildaa
open Go.RowKit

theorem Pm.comb {D0 D : Nat → Prop} {w0 w w' : World} {own0 own : List Nat} {g fm K : Nat} (h : Wk D0 w0 own0 w D own) (p : Pm D w own g fm K w') : Pm D0 w0 own0 g fm K w' := by
  obtain ⟨D', fv, st, fs, ft, es, c, h1, h2, h3, h5, h4⟩ := p
  exact ⟨D', fv, st, fs, ft, es, c, h1, h2, h3, h5, h.trans h4⟩
/-- What the next step of a script meets. -/
structure Ny (D0 : Nat → Prop) (w0 : World) (own0 : List Nat) (g fm K : Nat) (D : Nat → Prop) (W : World) (fv : Value) (steps : Nat) (fs : List Fe) (ft : List (Int × Int)) (es : List (ByteArray × Value × Nat)) (c : Nat) : Prop where
  sr : Sr D W g fm fv steps fs ft es c
  st : steps ≤ K
  kb : K ≤ 10000
  ft : ft.length ≤ 100 + 60 * K
  ps : ∀ f ∈ fs, f.2.2.ps.length ≤ 3000 * K
  wk : Wk D0 w0 own0 W D (ownS g fm fv fs)
/-- A step whose fates read, too. -/
structure Swg (B : Nat) (w : World) (t : Stp) : Prop where
  wf : Swf B w t
  fa : ∃ ao l c fts, t.fv = .slice ao l c ∧ l = (fts : List (Int × Int)).length ∧ (ao = none → l = 0 ∧ c = 0) ∧ FSrc w ao fts ∧ (∀ b off, ao = some ⟨b, off, none⟩ → 0 < l → b < B)
/-- What play leaves. -/
def PzP (w : World) (e : Ending) (w' : World) : Prop := ∃ g fm D fv steps fs ft es c, e = .returned (.pointer (some ⟨g, 0, none⟩)) ∧ Sr D w' g fm fv steps fs ft es c ∧ (∀ f ∈ fs, f.2.2.ps.length ≤ 360000) ∧ (∀ i, i ∈ ownS g fm fv fs → w.heap.size ≤ i) ∧ Kp (fun _ => False) w w'
set_option maxRecDepth 100000 in
set_option maxHeartbeats 8000000 in
theorem play_m (ga : Option Addr) (gn gc : Nat) (gts : List (Int × Int)) (ts : List Stp) (ao : Option Addr) (N cap : Nat) (w : World) (hN : N = ts.length) (hN120 : N ≤ 120) (hS : SSrc w ao ts) (hw : ∀ t ∈ ts, Swg w.heap.size w t) (hbl : ∀ t ∈ ts, blen t ≤ 3000 ∧ flen t ≤ 60) (hgn : gn = gts.length) (hg100 : gn ≤ 100) (hgno : ga = none → gn = 0 ∧ gc = 0) (hgS : FSrc w ga gts) (hgo : okk gts) :
    Calls Try.prog 9 #[.slice ga gn gc, .slice ao N cap] w fun e w' => PzP w e w' := by
  have HN : Hid (N = ts.length) := hN
  have HS : Hid (SSrc w ao ts) := hS
  have HW : Hid (∀ t ∈ ts, Swg w.heap.size w t) := hw
  have HBL : Hid (∀ t ∈ ts, blen t ≤ 3000 ∧ flen t ≤ 60) := hbl
  have HGN : Hid (gn = gts.length) := hgn
  have HGO : Hid (ga = none → gn = 0 ∧ gc = 0) := hgno
  have HGS : Hid (FSrc w ga gts) := hgS
  have HGK : Hid (okk gts) := hgo
  clear hN hS hw hbl hgn hgno hgS hgo
  go_enter Try.func9, Try.ntmps9
  go_wp2_with fail
  refine (new_any w ga gn gc gts HGN.out HGO.out HGS.out (by omega) HGK.out).mono ?_
  rintro e w1 ⟨rfl, fv0, hs1, ho1, k1⟩
  obtain ⟨g, hg⟩ : ∃ g, g = w.heap.size + 1 := ⟨_, rfl⟩
  obtain ⟨fm, hfm⟩ : ∃ fm, fm = w.heap.size := ⟨_, rfl⟩
  obtain ⟨D0, hD0⟩ : ∃ D0 : Nat → Prop, D0 = (fun i => i < w.heap.size) := ⟨_, rfl⟩
  rw [← hD0, ← hg, ← hfm] at hs1
  rw [← hg]
  rw [← hg, ← hfm] at ho1
  have HOW : Hid (∀ i, i ∈ ownS g fm fv0 [] → fm ≤ i) := ho1
  have HS1 : Hid (Pm D0 w1 (ownS g fm fv0 []) g fm 0 w1) := ⟨D0, fv0, 0, [], gts, [], 0, hs1, Nat.le_refl _, fun f hf => (by cases hf), by have := HGN.out; omega, Wk.refl _ _ _⟩
  have K1 : Hid (Kp (fun _ => False) w w1) := k1
  have HFM : Hid (fm = w.heap.size) := hfm
  clear hs1 k1 hg hfm hD0 ho1
  generalize ownS g fm fv0 [] = own0 at *
  go_wp2_with fail
  go_loopw [7, 8] (fun iv _ wr => ∃ k : Nat, k ≤ N ∧ iv = .int .i64 k ∧ Pm D0 w1 own0 g fm k wr) (fun iv _ _ => N - (intOf iv).toNat)
  case atStart => exact ⟨0, Nat.zero_le _, rfl, HS1.out⟩
  case round =>
    clear HS1
    obtain ⟨k, hk, rfl, hpl⟩ := hrel
    by_cases hlt : k < N
    · have hlt2 : k < ts.length := by have := HN.out; omega
      obtain ⟨D, fv, steps, fs, ft, es, c, hsr, hst, hps, hft, hwk⟩ := hpl
      have kw : Kp (fun i => i ∈ own0) w wr := (K1.out.mono (fun _ _ h => h.elim)).trans hwk.k (fun _ _ h => h)
      obtain ⟨b, off, hao, hb, y0, y1, y2, y3, y4, y5, y6⟩ := (HS.out.kp kw (fun b off e hb hm => by have := HOW.out b hm; have := HFM.out; omega)).at hlt2
      obtain ⟨t, ht⟩ : ∃ t, t = ts.getD k zst := ⟨_, rfl⟩
      have htm := HW.out _ (getD_memS ts k hlt2)
      have hbl := HBL.out _ (getD_memS ts k hlt2)
      rw [← ht] at y0 y1 y2 y3 y4 y5 y6 htm hbl
      clear ht
      obtain ⟨kd, n, a0, nm, bv, fvv, pv⟩ := t
      obtain ⟨⟨⟨ba, bc, xs, e1, hbc, hsr0, -, hbB⟩, -, ⟨pa, pl, pc, e3, hpl⟩, hnm, ha1, ha2⟩, ⟨fa, fl, fc, fts, e2, hfq, hfno, hfS, hfB⟩⟩ := htm
      dsimp only at e1 e2 e3 y0 y1 y2 y3 y4 y5 y6 hnm ha1 ha2 hfq
      subst e1 e2 e3 hao
      have hbl2 : xs.length ≤ 3000 := hbl.1
      have hfl2 : fl ≤ 60 := hbl.2
      have hown : ∀ i, i ∈ ownS g fm fv fs → w.heap.size ≤ i := fun i hi => (hwk.o i hi).elim (fun h => HFM.out ▸ HOW.out i h) (fun h => Nat.le_trans K1.out.size h)
      have hdis : 0 < xs.length → ∀ b off, ba = some ⟨b, off, none⟩ → b ∉ ownS g fm fv fs := fun h0 b off e hm => by have := hown b hm; have := hbB b off e h0; omega
      have hsrW : Src .u8 wr ba xs := fun h0 => (hsr0.kp kw (fun b off e hm => by have := HOW.out b hm; have := hbB b off e h0; have := HFM.out; omega)) h0
      have hfsW : FSrc wr fa fts := hfS.kp kw (fun b off e hb hm => by have := HOW.out b hm; have := HFM.out; omega)
      have HFQ : Hid (fl = fts.length) := hfq
      have HFN : Hid (fa = none → fl = 0 ∧ fc = 0) := hfno
      have HFW : Hid (FSrc wr fa fts) := hfsW
      clear hbl hbB hsr0 kw hown hfq hfno hfS hfB hfsW
      have HX : Hid (Ny D0 w1 own0 g fm k D wr fv steps fs ft es c) := ⟨hsr, hst, by omega, hft, hps, hwk⟩
      have HSX : Hid (Src .u8 wr ba xs) := hsrW
      have HDI : Hid (0 < xs.length → ∀ b off, ba = some ⟨b, off, none⟩ → b ∉ ownS g fm fv fs) := hdis
      clear hsr hst hps hwk hsrW hdis hft
      obtain ⟨xl, hxl⟩ : ∃ xl, xl = xs.length := ⟨_, rfl⟩
      rw [← hxl] at y4 hbc hbl2 HDI
      have HXL : Hid (xl = xs.length) := hxl
      clear hxl
      have Q := St.new 47 wr #[.int .i64 kd, .int .i64 n, .int .i64 a0, .string nm, .slice ba xl bc, .slice fa fl fc, .slice pa pl pc]
      have q0 := Q.cell 0
      have q1 := Q.cell 1
      have q2 := Q.cell 2
      have q3 := Q.cell 3
      have q4 := Q.cell 4
      simp only [List.getElem?_toArray, List.getElem?_cons_zero, List.getElem?_cons_succ] at q0 q1 q2 q3 q4
      have KA : Hid (Kp (fun _ => False) wr (wr.alloc (.cells #[.int .i64 kd, .int .i64 n, .int .i64 a0, .string nm, .slice ba xl bc, .slice fa fl fc, .slice pa pl pc] 47))) := (Kp.refl _ _).alloc _
      have HXA : Hid (Ny D0 w1 own0 g fm k D (wr.alloc (.cells #[.int .i64 kd, .int .i64 n, .int .i64 a0, .string nm, .slice ba xl bc, .slice fa fl fc, .slice pa pl pc] 47)) fv steps fs ft es c) := ⟨HX.out.sr.kp KA.out (fun _ _ h => h) (fun _ _ h => h), HX.out.st, HX.out.kb, HX.out.ft, HX.out.ps, HX.out.wk.kp KA.out⟩
      have HSA : Hid (Src .u8 (wr.alloc (.cells #[.int .i64 kd, .int .i64 n, .int .i64 a0, .string nm, .slice ba xl bc, .slice fa fl fc, .slice pa pl pc] 47)) ba xs) := HSX.out.kp KA.out (fun _ _ _ h => h)
      have HFA : Hid (FSrc (wr.alloc (.cells #[.int .i64 kd, .int .i64 n, .int .i64 a0, .string nm, .slice ba xl bc, .slice fa fl fc, .slice pa pl pc] 47)) fa fts) := HFW.out.kp KA.out (fun _ _ _ _ h => h)
      have q5 := Q.cell 5
      simp only [List.getElem?_toArray, List.getElem?_cons_zero, List.getElem?_cons_succ] at q5
      clear Q HX HSX KA HFW
      by_cases k1 : kd = 1
      · subst k1
        go_wp2_with fail
        refine (create_pm D _ g fm fv steps fs ft es c k HXA.out.sr HXA.out.st (Nat.le_trans HXA.out.kb (by omega)) HXA.out.ps HXA.out.ft nm hnm).mono ?_
        rintro e w' ⟨⟨z, rfl⟩, hp⟩
        have HP : Hid (Pm D0 w1 own0 g fm (k + 1) w') := Pm.comb HXA.out.wk hp
        clear hp
        go_wp2
        exact ⟨⟨k + 1, hlt, rfl, HP.out⟩, by simp only [intOf]; omega⟩
      by_cases k2 : kd = 2
      · subst k2
        go_wp2_with fail
        refine (remove_pm D _ g fm fv steps fs ft es c k HXA.out.sr HXA.out.st (Nat.le_trans HXA.out.kb (by omega)) HXA.out.ps HXA.out.ft nm hnm).mono ?_
        rintro e w' ⟨⟨z, rfl⟩, hp⟩
        have HP : Hid (Pm D0 w1 own0 g fm (k + 1) w') := Pm.comb HXA.out.wk hp
        clear hp
        go_wp2
        exact ⟨⟨k + 1, hlt, rfl, HP.out⟩, by simp only [intOf]; omega⟩
      by_cases k3 : kd = 3
      · subst k3
        go_wp2_with fail
        refine (write_pm D _ g fm fv steps fs ft es c k HXA.out.sr HXA.out.st (Nat.le_trans HXA.out.kb (by omega)) HXA.out.ps HXA.out.ft nm hnm a0 ha2 xl bc ba xs HXL.out hbl2 hbc HSA.out HDI.out).mono ?_
        rintro e w' ⟨⟨z, rfl⟩, hp⟩
        have HP : Hid (Pm D0 w1 own0 g fm (k + 1) w') := Pm.comb HXA.out.wk hp
        clear hp
        go_wp2
        exact ⟨⟨k + 1, hlt, rfl, HP.out⟩, by simp only [intOf]; omega⟩
      by_cases k4 : kd = 4
      · subst k4
        go_wp2_with fail
        refine (flush_pm D _ g fm fv steps fs ft es c k HXA.out.sr HXA.out.st (Nat.le_trans HXA.out.kb (by omega)) HXA.out.ps HXA.out.ft nm hnm).mono ?_
        rintro e w' ⟨⟨z, rfl⟩, hp⟩
        have HP : Hid (Pm D0 w1 own0 g fm (k + 1) w') := Pm.comb HXA.out.wk hp
        clear hp
        go_wp2
        exact ⟨⟨k + 1, hlt, rfl, HP.out⟩, by simp only [intOf]; omega⟩
      by_cases k5 : kd = 5
      · subst k5
        go_wp2_with fail
        refine (resize_pm D _ g fm fv steps fs ft es c k HXA.out.sr HXA.out.st (Nat.le_trans HXA.out.kb (by omega)) HXA.out.ps HXA.out.ft nm hnm n).mono ?_
        rintro e w' ⟨⟨z, rfl⟩, hp⟩
        have HP : Hid (Pm D0 w1 own0 g fm (k + 1) w') := Pm.comb HXA.out.wk hp
        clear hp
        go_wp2
        exact ⟨⟨k + 1, hlt, rfl, HP.out⟩, by simp only [intOf]; omega⟩
      by_cases k7 : kd = 7
      · subst k7
        go_wp2_with fail
        refine (feed_pm D _ g fm fv steps fs ft es c k HXA.out.sr HXA.out.st HXA.out.kb HXA.out.ps HXA.out.ft fa fl fc fts HFQ.out hfl2 HFN.out HFA.out).mono ?_
        rintro e w' ⟨⟨z, rfl⟩, hp⟩
        have HP : Hid (Pm D0 w1 own0 g fm (k + 1) w') := Pm.comb HXA.out.wk hp
        clear hp
        go_wp2
        exact ⟨⟨k + 1, hlt, rfl, HP.out⟩, by simp only [intOf]; omega⟩
      have HP : Hid (Pm D0 w1 own0 g fm (k + 1) (wr.alloc (.cells #[.int .i64 kd, .int .i64 n, .int .i64 a0, .string nm, .slice ba xl bc, .slice fa fl fc, .slice pa pl pc] 47))) := ⟨D, fv, steps, fs, ft, es, c, HXA.out.sr, Nat.le_succ_of_le HXA.out.st, fun f hf => Nat.le_trans (HXA.out.ps f hf) (Nat.mul_le_mul_left _ (Nat.le_succ _)), Nat.le_trans HXA.out.ft (by omega), HXA.out.wk⟩
      go_wp2
      exact ⟨⟨k + 1, hlt, rfl, HP.out⟩, by simp only [intOf]; omega⟩
    · have hnl : ¬ (k : Int) < (N : Int) := by omega
      have hkN : k = N := by omega
      obtain ⟨D, fv, steps, fs, ft, es, c, hsr, hst, hps, -, hwk⟩ := hpl
      have HR : Hid (Sr D wr g fm fv steps fs ft es c) := hsr
      have HPS : Hid (∀ f ∈ fs, f.2.2.ps.length ≤ 360000) := fun f hf => by have := hps f hf; omega
      have HK : Hid (Wk D0 w1 own0 wr D (ownS g fm fv fs)) := hwk
      clear hsr hwk hps
      go_wp2
      go_ret
      refine ⟨g, fm, D, fv, steps, fs, ft, es, c, rfl, HR.out, HPS.out, fun i hi => (HK.out.o i hi).elim (fun h => HFM.out ▸ HOW.out i h) (fun h => Nat.le_trans K1.out.size h), ?_⟩
      exact ((K1.out.mono (fun _ _ h => h.elim)).trans HK.out.k (fun _ _ h => h)).mono (fun i hi hm => by have := HOW.out i hm; have := HFM.out; omega)
end Go.Proofs.Ytalicohflfildaa
