/- granules: masks; set, reset. -/
import Derived.Test.YteenlifdamhffaaDoorNc
import Derived.Test.YteenlifdamhffaaDoorNx
namespace Go.Proofs.YteenlifdamhffaaDoor
open Go.RowKit Go.Shelf
attribute [local go_sem] Oper.semAt_some
set_option linter.unusedVariables false
set_option linter.unusedSimpArgs false
def wMasks (w : World) (fr to : Int) : World := (w.alloc (.cells #[.int .i64 fr] 2)).alloc (.cells #[.int .i64 to] 2)
set_option maxRecDepth 100000 in
theorem masks_any (fr to : Int) (w : World) : Calls Tryd.prog 78 #[.int .i64 fr, .int .i64 to] w fun e w' => e = .returned (.func (.func 84) #[] #[.pointer (some ⟨w.heap.size, 0, none⟩), .pointer (some ⟨w.heap.size + 1, 0, none⟩)]) ∧ w' = wMasks w fr to := by
  go_enter Tryd.func78, Tryd.ntmps78
  go_wp2_with fail
  go_ret
  exact ⟨rfl, rfl⟩
theorem masks_st (fr to : Int) (w : World) : St 2 (wMasks w fr to) w.heap.size #[.int .i64 fr] ∧ St 2 (wMasks w fr to) (w.heap.size + 1) #[.int .i64 to] ∧ Kp (fun _ => False) w (wMasks w fr to) := by
  have h1 := St.new 2 w #[.int .i64 fr]
  have h2 := St.new 2 (w.alloc (.cells #[.int .i64 fr] 2)) #[.int .i64 to]
  rw [World.size_alloc] at h2
  exact ⟨h1.kp ((Kp.refl (fun _ => False) _).alloc _) (fun h => h), h2, ((Kp.refl _ _).alloc _).alloc _⟩
theorem results_t1 {P : Program} {fn : Func} {p : Tmp} (h : fn.results = #[.tmp p]) (tmps : Array Value) (w : World) {v : Value} (hp : tmps.getD p undef = v) : (results fn tmps).run P w = .ok v w := by
  subst hp
  simp [results, h]
/-- What a granule is behind a call. -/
def app (op d inn : Bool) : Bool := if op then d || inn else d && !inn
/-- Which granules a call counts. -/
def cs (op : Bool) (ws : List Nat) (g : Nat) : Bool := if op then !dty ws g else dty ws g
theorem app_out (op d : Bool) : app op d false = d := by cases op <;> simp [app]
theorem app_app (op d a b : Bool) : app op (app op d a) b = app op d (a || b) := by cases op <;> cases d <;> cases a <;> cases b <;> rfl
theorem kp_put (W : World) (l : Nat) (o' : Obj) : Kp (fun i => i = l) W (W.putObj l o') := ⟨rfl, rfl, rfl, by simp, fun k _ hk => World.putObj_heap_other hk⟩
/-- What the range holds. -/
structure SI (w : World) (r Bx Cb b1 b2 B : Nat) (v : Value) (op : Bool) (ws : List Nat) (fr e : Nat) (O : Nat → Prop) (W : World) : Prop where
  row : ∃ ws', ws'.length = ws.length ∧ W64 ws' ∧ (∀ g, dty ws' g = app op (dty ws g) (decide (fr ≤ g ∧ g < e))) ∧ Rw .u64 102 W r (up ws')
  cb : St 3 W Cb #[.int .i64 (cnt (cs op ws) fr (e - fr) : Nat)]
  bx : St 84 W Bx #[v]
  kp : Kp (fun i => i = r) w W
  oo : ∀ i, O i → i = b1 ∨ i = b2 ∨ B ≤ i
  sz : B ≤ W.heap.size
theorem SI.step {w : World} {r Bx Cb b1 b2 B : Nat} {v : Value} {op : Bool} {ws : List Nat} {fr e : Nat} {O O' : Nat → Prop} {X Y : World} {G : Nat → Prop} (h : SI w r Bx Cb b1 b2 B v op ws fr e O X) (hr : r < B) (hx : Bx < B) (hc : Cb < B) (hw : w.heap.size ≤ B) (k : Kp G X Y) (hG : ∀ i, G i → B ≤ i) (hO : ∀ i, O' i → O i ∨ B ≤ i) : SI w r Bx Cb b1 b2 B v op ws fr e O' Y := by
  obtain ⟨ws', h1, h2, h3, h4⟩ := h.row
  refine ⟨⟨ws', h1, h2, h3, h4.kp k (fun e => by have := hG _ e; omega)⟩, h.cb.kp k (fun e => by have := hG _ e; omega), h.bx.kp k (fun e => by have := hG _ e; omega), h.kp.trans k (fun i hi e => by have := hG _ e; omega), fun i hi => ?_, Nat.le_trans h.sz k.size⟩
  rcases hO i hi with h5 | h5
  · exact h.oo i h5
  · exact .inr (.inr h5)
theorem SI.abd {w : World} {r Bx Cb b1 b2 B : Nat} {v : Value} {op : Bool} {ws : List Nat} {fr e : Nat} {O : Nat → Prop} {X Y : World} (h : SI w r Bx Cb b1 b2 B v op ws fr e O X) (hr : r < B) (hx : Bx < B) (hc : Cb < B) (hw : w.heap.size ≤ B) (k : Kp (fun i => O i ∧ B ≤ i) X Y) : SI w r Bx Cb b1 b2 B v op ws fr e (fun i => O i ∨ (X.heap.size ≤ i ∧ i < Y.heap.size)) Y :=
  h.step hr hx hc hw k (fun i e => e.2) (fun i e => e.elim .inl (fun e => .inr (Nat.le_trans h.sz e.1)))
theorem Rw.ltS {k : IntKind} {t : TypeId} {w : World} {b : Nat} {L : List Int} (h : Rw k t w b L) : b < w.heap.size := (Array.getElem?_eq_some_iff.1 h).1
/-- What a word counts, and what it becomes. -/
def wcount (op : Bool) (y mk : Nat) : Nat := if op then pc (anN mk y) else pc (mk &&& y)
def wnew (op : Bool) (y mk : Nat) : Nat := if op then y ||| mk else anN y mk
theorem wnew_lt {op : Bool} {y mk : Nat} (hy : y < T64) (hm : mk < T64) : wnew op y mk < T64 := by
  cases op
  · exact anN_lt _ _
  · exact or_lt hy hm
theorem word_step {op : Bool} {ws ws' : List Nat} {fr x to : Nat} (hl : ws'.length = ws.length) (hW : W64 ws') (hd : ∀ g, dty ws' g = app op (dty ws g) (decide (fr ≤ g ∧ g < x))) (hfx : fr ≤ x) (hx : x < to) (hto : to ≤ 64 * ws.length) :
    (∀ g, dty (ws'.set (x / 64) (wnew op (ws'.getD (x / 64) 0) (msk (x % 64) (cw x to)))) g = app op (dty ws g) (decide (fr ≤ g ∧ g < nxt x to))) ∧ cnt (cs op ws) fr (nxt x to - fr) = cnt (cs op ws) fr (x - fr) + wcount op (ws'.getD (x / 64) 0) (msk (x % 64) (cw x to)) := by
  have hc := cw_fact hx
  refine ⟨fun g => ?_, ?_⟩
  · have e1 : (decide (fr ≤ g ∧ g < x) || decide (x ≤ g ∧ g < nxt x to)) = decide (fr ≤ g ∧ g < nxt x to) := by
      rw [← Bool.decide_or]
      apply decide_eq_decide.2
      omega
    rw [← e1, ← app_app, ← hd g]
    cases op
    · show dty (ws'.set _ (anN _ _)) g = (dty ws' g && !_)
      exact reset_word hW hx (by omega) g
    · show dty (ws'.set _ (_ ||| _)) g = (dty ws' g || _)
      exact set_word hW hx (by omega) g
  · have e1 : nxt x to - fr = (x - fr) + cw x to := by omega
    rw [e1, cnt_add, show fr + (x - fr) = x by omega]
    congr 1
    have key : ∀ j, j < 64 → x % 64 ≤ j → j < x % 64 + cw x to → (ws'.getD (x / 64) 0).testBit j = dty ws (x + j - x % 64) := by
      intro j hj h1 h2
      have h3 := hd (x + j - x % 64)
      have h4 : decide (fr ≤ x + j - x % 64 ∧ x + j - x % 64 < x) = false := decide_eq_false (by omega)
      rw [h4, app_out] at h3
      rw [← h3]
      unfold dty
      rw [show (x + j - x % 64) / 64 = x / 64 by omega, show (x + j - x % 64) % 64 = j by omega]
    cases op
    · symm
      show pc (_ &&& _) = _
      refine pc_cut (f := x % 64) hc.2.2.1 (fun j hj => ?_)
      rw [Nat.testBit_and, msk_bit]
      by_cases hin : x % 64 ≤ j ∧ j < x % 64 + cw x to
      · rw [key j hj hin.1 hin.2]
        rfl
      · rw [decide_eq_false hin]
        rfl
    · symm
      show pc (anN _ _) = _
      refine pc_cut (f := x % 64) hc.2.2.1 (fun j hj => ?_)
      rw [anN_bit _ _ _ hj, msk_bit]
      by_cases hin : x % 64 ≤ j ∧ j < x % 64 + cw x to
      · rw [key j hj hin.1 hin.2]
        rfl
      · rw [decide_eq_false hin]
        rfl
/-- Behind the row's last word. -/
theorem fin_pos {fr to : Nat} {xs : List Nat} (hc : Chn fr to xs) (hs : to ≤ pos fr to xs.length) : pos fr to xs.length - fr = to - fr ∧ ∀ g, decide (fr ≤ g ∧ g < pos fr to xs.length) = decide (fr ≤ g ∧ g < to) := by
  by_cases h : fr ≤ to
  · have := pos_le (j := xs.length) h
    have e : pos fr to xs.length = to := by omega
    rw [e]
    exact ⟨rfl, fun _ => rfl⟩
  · have hx : xs = [] := by
      cases xs with
      | nil => rfl
      | cons y ys =>
        have h1 := (hc 0 (by simp)).2
        have h2 : pos fr to 0 = fr := rfl
        omega
    subst hx
    have h2 : pos fr to ([] : List Nat).length = fr := rfl
    rw [h2]
    refine ⟨by omega, fun g => decide_eq_decide.2 (by omega)⟩
set_option maxRecDepth 100000 in
set_option maxHeartbeats 8000000 in
theorem set_in (r L c fr to : Nat) (ws : List Nat) (w : World) (hL : L = ws.length) (hW : W64 ws) (hto : to ≤ 64 * ws.length) (hfr : fr ≤ 4611686018427387904) (hb : ws.length ≤ 1000000000) (hr : Rw .u64 102 w r (up ws)) :
    CallsIn Fence.wide 8 Tryd.prog 59 #[.slice (some ⟨r, 0, none⟩) L c, .int .i64 fr, .int .i64 to] w fun e w' => e = .returned (.int .i64 (cnt (cs true ws) fr (to - fr) : Nat)) ∧ Kp (fun i => i = r) w w' ∧ ∃ ws', ws'.length = ws.length ∧ W64 ws' ∧ (∀ g, dty ws' g = app true (dty ws g) (decide (fr ≤ g ∧ g < to))) ∧ Rw .u64 102 w' r (up ws') := by
  have hrl := hr.ltS
  have s1 := St.new 84 w #[.slice (some ⟨r, 0, none⟩) L c]
  have s2 := St.new 3 (w.alloc (.cells #[.slice (some ⟨r, 0, none⟩) L c] 84)) #[.int .i64 0]
  rw [World.size_alloc] at s2
  have k1 : Kp (fun _ => False) w ((w.alloc (.cells #[.slice (some ⟨r, 0, none⟩) L c] 84)).alloc (.cells #[.int .i64 0] 3)) := ((Kp.refl _ _).alloc _).alloc _
  have s1b := s1.kp ((Kp.refl (fun _ => False) (w.alloc (.cells #[.slice (some ⟨r, 0, none⟩) L c] 84))).alloc (.cells #[.int .i64 0] 3)) (fun h => h)
  have hz : ((w.alloc (.cells #[.slice (some ⟨r, 0, none⟩) L c] 84)).alloc (.cells #[.int .i64 0] 3)).heap.size = w.heap.size + 1 + 1 := by simp
  have HX := hid s1b
  have HC := hid s2
  have HK := hid k1
  have HZ := hid hz
  have HR := hid hr
  have HL := hid hL
  clear s1 s2 k1 s1b hz hr hL
  refine callsIn_of_wp_marks Tryd.func59 rfl trivial ?_ rfl
  simp only [Tryd.ntmps59, List.size_toArray, List.length_cons, List.length_nil, Nat.reduceAdd, Nat.reduceSub, Array.replicate_succ, Array.replicate_zero, List.push_toArray, List.append_toArray, List.nil_append, List.cons_append]
  have HM := hid (fun fr to w => masks_any fr to w)
  gi_wp2_with fail
  refine ⟨trivial, (callsIn_wide.2 (HM.out _ _ _)).mono ?_⟩
  rintro _ w3 ⟨rfl, hw3⟩
  clear HM
  gi_wp2_with fail
  obtain ⟨w2, hw2⟩ : ∃ w2, (w.alloc (.cells #[.slice (some ⟨r, 0, none⟩) L c] 84)).alloc (.cells #[.int .i64 0] 3) = w2 := ⟨_, rfl⟩
  rw [hw2] at HX HC HK HZ
  rw [hw2]
  obtain ⟨m1, m2, m3⟩ := masks_st (fr : Int) (to : Int) w2
  rw [HZ.out] at m1 m2
  have hzz : (wMasks w2 (fr : Int) (to : Int)).heap.size = w.heap.size + 1 + 1 + 1 + 1 := by
    unfold wMasks
    simp [HZ.out]
  obtain ⟨X, hX⟩ : ∃ X, wMasks w2 (fr : Int) (to : Int) = X := ⟨_, rfl⟩
  rw [hX] at m1 m2 m3 hzz
  rw [hX]
  have kX := HK.out.trans m3 (fun _ _ h => h)
  have HSI : Hid (∀ O, (∀ i, O i → i = w.heap.size + 1 + 1 ∨ i = w.heap.size + 1 + 1 + 1 ∨ X.heap.size ≤ i) → SI w r w.heap.size (w.heap.size + 1) (w.heap.size + 1 + 1) (w.heap.size + 1 + 1 + 1) X.heap.size (.slice (some ⟨r, 0, none⟩) L c) true ws fr fr O X) := fun O hO => by
    refine ⟨⟨ws, rfl, hW, fun g => ?_, HR.out.kp kX (fun h => h)⟩, ?_, HX.out.kp m3 (fun h => h), kX.mono (fun _ _ h => h.elim), hO, Nat.le_refl _⟩
    · rw [decide_eq_false (by omega), app_out]
    · rw [Nat.sub_self]
      exact HC.out.kp m3 (fun h => h)
  have HSQ := hid (masks_seq (8 - 1) (by decide) (w.heap.size + 1 + 1) (w.heap.size + 1 + 1 + 1) fr to X (by omega) hfr m1 m2)
  have HLT : Hid (r < X.heap.size ∧ w.heap.size < X.heap.size ∧ w.heap.size + 1 < X.heap.size ∧ w.heap.size ≤ X.heap.size ∧ X.heap.size = w.heap.size + 1 + 1 + 1 + 1) := by
    show _ ∧ _
    omega
  have HWS := hid hW
  have HTO := hid hto
  have HRL := hid hrl
  have HFR := hid hfr
  have HWB := hid hb
  clear HX HC HK HZ m1 m2 m3 hw2 hX kX hW hto hrl hzz hfr hb HR
  unfold ptr at HSQ
  refine wpIn_rangeFunc_P rfl (by omega) (gf := 84) (pb := #[]) (lb := #[.pointer (some ⟨w.heap.size + 1 + 1, 0, none⟩), .pointer (some ⟨w.heap.size + 1 + 1 + 1, 0, none⟩)]) rfl trivial (enters_of Tryd.func84 (by kernel_rfl) rfl) HSQ.out
    (fun i h => by have := HLT.out; rcases h with rfl | rfl <;> omega) (Below.refl _ _) (fun _ => rfl)
    (fun pre O Y => SI w r w.heap.size (w.heap.size + 1) (w.heap.size + 1 + 1) (w.heap.size + 1 + 1 + 1) X.heap.size (.slice (some ⟨r, 0, none⟩) L c) true ws fr (pos fr to pre.length) O Y) (fun _ _ _ _ => False) ?hI ?hIx ?hI2 ?hIx2 ?h0
    (fun x a' _ => a' = { tmps := #[.slice (some ⟨r, 0, none⟩) L c, .int .i64 (fr : Int), .int .i64 (to : Int), .pointer (some ⟨w.heap.size, 0, none⟩), undef, undef, .int .i64 0, .pointer (some ⟨w.heap.size + 1, 0, none⟩), .int .i64 ((x / 64 : Nat) : Int), .int .u64 ((msk (x % 64) (cw x to) : Nat) : Int), .int .i64 (fr : Int), .int .i64 (to : Int), .func (.func 84) #[] #[.pointer (some ⟨w.heap.size + 1 + 1, 0, none⟩), .pointer (some ⟨w.heap.size + 1 + 1 + 1, 0, none⟩)], .int .i64 ((x / 64 : Nat) : Int), .int .u64 ((msk (x % 64) (cw x to) : Nat) : Int), undef, undef, undef, undef, undef, undef, undef, undef, undef, undef, undef, undef, undef, undef, undef, undef, undef], defers := [] }) ?hAx ?assign ?body ?done ?stop
  case hI => exact fun s O X1 Y h k => h.abd HLT.out.1 HLT.out.2.1 HLT.out.2.2.1 HLT.out.2.2.2.1 k
  case hIx => exact fun _ _ _ _ _ h _ => h.elim
  case hI2 => exact fun s O X1 o' h hl => h.step HLT.out.1 HLT.out.2.1 HLT.out.2.2.1 HLT.out.2.2.2.1 (kp_put X1 _ o') (fun i e => by rw [e]; omega) (fun i e => .inl e)
  case hIx2 => exact fun _ _ _ _ _ h _ => h.elim
  case h0 =>
    intro r0
    exact (HSI.out _ (fun i h => h.elim .inl (fun h => .inr (.inl h)))).step HLT.out.1 HLT.out.2.1 HLT.out.2.2.1 HLT.out.2.2.2.1 (((Kp.refl (fun _ => False) X).alloc _).alloc _) (fun i e => e.elim) (fun i e => .inl e)
  case hAx => exact fun x a' X1 o' h => h
  case assign =>
    intro l' pre O x Y Kk hll hsz hi hK
    unfold menc
    gi_wp2
    exact hK _ _ (Kp.refl _ _) hi (by kernel_rfl)
  case body =>
    rintro l' pre O x a' Y hll hsz n1 n2 hi rfl hlen hsp
    obtain ⟨hxp, hxt⟩ := hsp.last
    rw [← hxp] at hi hxt
    obtain ⟨ws', w1, w2', w3', w4⟩ := hi.row
    have hc := cw_fact hxt
    have hfx : fr ≤ x := by
      have := (Chn.len (fr := fr) (to := to) (pre := pre) (fun j hj => by
        have h := hsp j (by simp; omega)
        rw [List.getD_eq_getElem?_getD, List.getElem?_append_left hj, ← List.getD_eq_getElem?_getD] at h
        exact h))
      rcases this with h | h
      · rw [← hxp] at h; omega
      · subst h
        have : pos fr to ([] : List Nat).length = fr := rfl
        omega
    have hto := HTO.out
    obtain ⟨g1, g2⟩ := word_step (to := to) w1 w2' w3' hfx hxt hto
    have hmk := msk_lt hc.2.2.1
    have hy := w2'.get (x / 64)
    have hix : x / 64 < ws.length := by omega
    have hnx : nxt x to = pos fr to (pre ++ [x]).length := by
      rw [List.length_append]
      show nxt x to = nxt (pos fr to pre.length) to
      rw [← hxp]
    have yc := w4.cell (x / 64) (by rw [up_len]; omega)
    rw [up_get] at yc
    have yf := w4.frozen (x / 64)
    have hcb := cnt_le (cs true ws) fr (x - fr)
    obtain ⟨i, hi0⟩ : ∃ i, x / 64 = i := ⟨_, rfl⟩
    obtain ⟨mk, hm0⟩ : ∃ mk, msk (x % 64) (cw x to) = mk := ⟨_, rfl⟩
    rw [hi0] at yc yf hy hix g1 g2
    rw [hm0] at hmk g1 g2
    obtain ⟨y, hy0⟩ : ∃ y, ws'.getD i 0 = y := ⟨_, rfl⟩
    rw [hy0] at yc hy g1 g2
    have hop1 : bits .andNot .u64 ((mk : Nat) : Int) ((y : Nat) : Int) = ((anN mk y : Nat) : Int) := an_u64 mk y hmk hy
    have hpcl : pc (anN mk y) ≤ 64 := pc_le _
    have hop2 : bits .or .u64 ((y : Nat) : Int) ((mk : Nat) : Int) = ((y ||| mk : Nat) : Int) := bits_or_u64_nat y mk hy hmk
    have HOC := hid (fun w => oc_any (anN mk y) (anN_lt mk y) w)
    have xb := hi.bx.cell 0
    have xc := hi.cb.cell 0
    have fc := hi.cb.frozen 0
    simp at xb xc
    have hlt := HLT.out
    have h62 : x ≤ 64000000000 := by have := HWB.out; omega
    have HI := hid hi
    have HG1 := hid g1
    have HG2 := hid g2
    have HW4 := hid w4
    have HNX := hid hnx
    have hil : ¬ L ≤ i := by have := HL.out; omega
    obtain ⟨k, hk⟩ : ∃ k, cnt (cs true ws) fr (x - fr) = k := ⟨_, rfl⟩
    have HKC := hid hk
    rw [hk] at xc hcb
    have hkb : k ≤ 64000000000 := by omega
    obtain ⟨p, hp⟩ : ∃ p, pc (anN mk y) = p := ⟨_, rfl⟩
    have HPC := hid hp
    rw [hp] at hpcl HOC
    have HWN : Hid (wnew true y mk < T64) := wnew_lt hy hmk
    have HLW : Hid (ws'.length = ws.length ∧ W64 ws') := ⟨w1, w2'⟩
    have HO1 : Hid (¬ O r ∧ ¬ O (w.heap.size + 1)) := by
      have h1 := HLT.out
      have h2 := HRL.out
      refine ⟨fun e => ?_, fun e => ?_⟩
      · have := HI.out.oo _ e; omega
      · have := HI.out.oo _ e; omega
    rw [hi0, hm0]
    clear hi g1 g2 w4 hnx w1 w2' w3' hsp hxp hlen hy hmk hk hp hc hcb hfx
    gi_wp2_with fail
    refine wpIn_region_tail hmix (by kernel_rfl) ?_
    dsimp only [List.dropLast, List.getLast]
    repeat (gi_big_quiet_step (fail))
    refine wpQuietIn_step (fun _ _ _ _ => trivial) (fun K hK => ?_)
    go_simp
    apply Exists.intro
    refine ⟨fun n => ?_, hK _ ?_⟩
    · exact CallsIn.quiet_of_same ((callsIn_wide.2 (HOC.out _)).inRound l')
    clear hK K
    repeat (gi_big_quiet_step (fail))
    refine wpQuietIn_nil ?_
    intro U hU
    obtain ⟨nq, hU2⟩ := hU
    subst hU2
    have kq := drewN_kp (fun _ => False) Y nq
    generalize Y.drewN nq = Z at kq ⊢
    replace xc := kq.cell xc
    replace xb := kq.cell xb
    replace yc := kq.cell yc
    replace yf : Z.frozen? ⟨r, i, none⟩ = false := (kp_frozen kq HW4.out.ltS (fun h => h)).trans yf
    replace fc : Z.frozen? ⟨w.heap.size + 1, 0, none⟩ = false := (kp_frozen kq (HI.out.cb.lt) (fun h => h)).trans fc
    have HQ := hid kq
    have hrne : ¬ r = w.heap.size + 1 := by have := HRL.out; omega
    have hrne2 : ¬ w.heap.size + 1 = r := by have := HRL.out; omega
    clear kq HOC
    gi_wp2_with fail
    have k1 := kp_setCell Z (w.heap.size + 1) 0 (.int .i64 ((k : Int) + (p : Int))) (fun j => j = w.heap.size + 1) rfl
    have k2 := kp_setCell (Z.setCell ⟨w.heap.size + 1, 0, none⟩ (.int .i64 ((k : Int) + (p : Int)))) r i (.int .u64 ((y ||| mk : Nat) : Int)) (fun j => j = r) rfl
    have hcb2 := (HI.out.cb.kp HQ.out (fun h => h)).set 0 (.int .i64 ((k : Int) + (p : Int)))
    have hbx2 := (HI.out.bx.kp HQ.out (fun h => h)).kp k1 (fun h => by omega)
    have hrw2 := ((HW4.out.kp HQ.out (fun h => h)).kp k1 (fun h => hrne h)).set i ((y ||| mk : Nat) : Int)
    rw [up_set] at hrw2
    refine ⟨((HQ.out.mono (G := fun j => j = r ∨ j = w.heap.size + 1) (fun _ _ h => h.elim)).trans k1 (fun _ _ h => .inr h)).trans k2 (fun _ _ h => .inl h) |>.mono (fun j hj h => ?_), ⟨_, ?_, HLW.out.2.set i HWN.out, fun g => ?_, hrw2⟩, ?_, hbx2.kp k2 (fun h => by have := HRL.out; omega), ?_, HI.out.oo, ?_⟩
    · have := HRL.out
      have := HLT.out
      rcases h with rfl | rfl
      · exact ⟨HO1.out.1, by omega, by omega⟩
      · exact ⟨HO1.out.2, by omega, by omega⟩
    · rw [List.length_set]; exact HLW.out.1
    · rw [← HNX.out]; exact HG1.out g
    · rw [← HNX.out, HG2.out, HKC.out]
      have e : ((k + wcount true y mk : Nat) : Int) = (k : Int) + (p : Int) := by
        rw [← HPC.out]
        exact Int.natCast_add _ _
      rw [e]
      refine St.kp ?_ k2 (fun h => hrne h.symm)
      simpa using hcb2
    · exact ((HI.out.kp.trans HQ.out (fun _ _ h => h.elim)).trans k1 (fun j hj h => by omega)).trans k2 (fun _ _ h => h)
    · exact Nat.le_trans HI.out.sz (Nat.le_trans HQ.out.size (Nat.le_trans k1.size k2.size))
  case done =>
    intro D xs O Y hD hS hi hd
    subst hD
    obtain ⟨f1, f2⟩ := fin_pos hS.1 hS.2
    have xc := hi.cb.cell 0
    simp at xc
    rw [f1] at xc
    obtain ⟨ws', w1, w2', w3', w4⟩ := hi.row
    have hcb := cnt_le (cs true ws) fr (to - fr)
    have HFIN : Hid (Kp (fun j => j = r) w Y ∧ ∃ ws', ws'.length = ws.length ∧ W64 ws' ∧ (∀ g, dty ws' g = app true (dty ws g) (decide (fr ≤ g ∧ g < to))) ∧ Rw .u64 102 Y r (up ws')) := ⟨hi.kp, ws', w1, w2', fun g => by rw [w3' g, f2 g], w4⟩
    have HD := hid hd
    obtain ⟨k, hk⟩ : ∃ k, cnt (cs true ws) fr (to - fr) = k := ⟨_, rfl⟩
    rw [hk] at xc hcb
    have HKK := hid hk
    clear hi hS hd f1 f2 w1 w2' w3' w4 hk
    gi_wp2_with fail
    refine ⟨by simp, .inl ⟨_, _, rfl, run_takeDeferred HD.out, ?_⟩⟩
    have kd := kp_put Y X.heap.size (.deferred none)
    obtain ⟨g1, ws', g2, g3, g4, g5⟩ := HFIN.out
    have hlt := HLT.out
    exact ⟨_, results_t1 Tryd.results59 _ _ rfl, (by rw [HKK.out]; kernel_rfl), g1.trans kd (fun j hj h => by omega), ws', g2, g3, g4, g5.kp kd (fun h => by omega)⟩
  case stop => exact fun D c pre O Y hD hsp hi hd => hi.elim
set_option maxRecDepth 100000 in
set_option maxHeartbeats 8000000 in
theorem reset_in (r L c fr to : Nat) (ws : List Nat) (w : World) (hL : L = ws.length) (hW : W64 ws) (hto : to ≤ 64 * ws.length) (hfr : fr ≤ 4611686018427387904) (hb : ws.length ≤ 1000000000) (hr : Rw .u64 102 w r (up ws)) :
    CallsIn Fence.wide 8 Tryd.prog 66 #[.slice (some ⟨r, 0, none⟩) L c, .int .i64 fr, .int .i64 to] w fun e w' => e = .returned (.int .i64 (cnt (cs false ws) fr (to - fr) : Nat)) ∧ Kp (fun i => i = r) w w' ∧ ∃ ws', ws'.length = ws.length ∧ W64 ws' ∧ (∀ g, dty ws' g = app false (dty ws g) (decide (fr ≤ g ∧ g < to))) ∧ Rw .u64 102 w' r (up ws') := by
  have hrl := hr.ltS
  have s1 := St.new 84 w #[.slice (some ⟨r, 0, none⟩) L c]
  have s2 := St.new 3 (w.alloc (.cells #[.slice (some ⟨r, 0, none⟩) L c] 84)) #[.int .i64 0]
  rw [World.size_alloc] at s2
  have k1 : Kp (fun _ => False) w ((w.alloc (.cells #[.slice (some ⟨r, 0, none⟩) L c] 84)).alloc (.cells #[.int .i64 0] 3)) := ((Kp.refl _ _).alloc _).alloc _
  have s1b := s1.kp ((Kp.refl (fun _ => False) (w.alloc (.cells #[.slice (some ⟨r, 0, none⟩) L c] 84))).alloc (.cells #[.int .i64 0] 3)) (fun h => h)
  have hz : ((w.alloc (.cells #[.slice (some ⟨r, 0, none⟩) L c] 84)).alloc (.cells #[.int .i64 0] 3)).heap.size = w.heap.size + 1 + 1 := by simp
  have HX := hid s1b
  have HC := hid s2
  have HK := hid k1
  have HZ := hid hz
  have HR := hid hr
  have HL := hid hL
  clear s1 s2 k1 s1b hz hr hL
  refine callsIn_of_wp_marks Tryd.func66 rfl trivial ?_ rfl
  simp only [Tryd.ntmps66, List.size_toArray, List.length_cons, List.length_nil, Nat.reduceAdd, Nat.reduceSub, Array.replicate_succ, Array.replicate_zero, List.push_toArray, List.append_toArray, List.nil_append, List.cons_append]
  have HM := hid (fun fr to w => masks_any fr to w)
  gi_wp2_with fail
  refine ⟨trivial, (callsIn_wide.2 (HM.out _ _ _)).mono ?_⟩
  rintro _ w3 ⟨rfl, hw3⟩
  clear HM
  gi_wp2_with fail
  obtain ⟨w2, hw2⟩ : ∃ w2, (w.alloc (.cells #[.slice (some ⟨r, 0, none⟩) L c] 84)).alloc (.cells #[.int .i64 0] 3) = w2 := ⟨_, rfl⟩
  rw [hw2] at HX HC HK HZ
  rw [hw2]
  obtain ⟨m1, m2, m3⟩ := masks_st (fr : Int) (to : Int) w2
  rw [HZ.out] at m1 m2
  have hzz : (wMasks w2 (fr : Int) (to : Int)).heap.size = w.heap.size + 1 + 1 + 1 + 1 := by
    unfold wMasks
    simp [HZ.out]
  obtain ⟨X, hX⟩ : ∃ X, wMasks w2 (fr : Int) (to : Int) = X := ⟨_, rfl⟩
  rw [hX] at m1 m2 m3 hzz
  rw [hX]
  have kX := HK.out.trans m3 (fun _ _ h => h)
  have HSI : Hid (∀ O, (∀ i, O i → i = w.heap.size + 1 + 1 ∨ i = w.heap.size + 1 + 1 + 1 ∨ X.heap.size ≤ i) → SI w r w.heap.size (w.heap.size + 1) (w.heap.size + 1 + 1) (w.heap.size + 1 + 1 + 1) X.heap.size (.slice (some ⟨r, 0, none⟩) L c) false ws fr fr O X) := fun O hO => by
    refine ⟨⟨ws, rfl, hW, fun g => ?_, HR.out.kp kX (fun h => h)⟩, ?_, HX.out.kp m3 (fun h => h), kX.mono (fun _ _ h => h.elim), hO, Nat.le_refl _⟩
    · rw [decide_eq_false (by omega), app_out]
    · rw [Nat.sub_self]
      exact HC.out.kp m3 (fun h => h)
  have HSQ := hid (masks_seq (8 - 1) (by decide) (w.heap.size + 1 + 1) (w.heap.size + 1 + 1 + 1) fr to X (by omega) hfr m1 m2)
  have HLT : Hid (r < X.heap.size ∧ w.heap.size < X.heap.size ∧ w.heap.size + 1 < X.heap.size ∧ w.heap.size ≤ X.heap.size ∧ X.heap.size = w.heap.size + 1 + 1 + 1 + 1) := by
    show _ ∧ _
    omega
  have HWS := hid hW
  have HTO := hid hto
  have HRL := hid hrl
  have HFR := hid hfr
  have HWB := hid hb
  clear HX HC HK HZ m1 m2 m3 hw2 hX kX hW hto hrl hzz hfr hb HR
  unfold ptr at HSQ
  refine wpIn_rangeFunc_P rfl (by omega) (gf := 84) (pb := #[]) (lb := #[.pointer (some ⟨w.heap.size + 1 + 1, 0, none⟩), .pointer (some ⟨w.heap.size + 1 + 1 + 1, 0, none⟩)]) rfl trivial (enters_of Tryd.func84 (by kernel_rfl) rfl) HSQ.out
    (fun i h => by have := HLT.out; rcases h with rfl | rfl <;> omega) (Below.refl _ _) (fun _ => rfl)
    (fun pre O Y => SI w r w.heap.size (w.heap.size + 1) (w.heap.size + 1 + 1) (w.heap.size + 1 + 1 + 1) X.heap.size (.slice (some ⟨r, 0, none⟩) L c) false ws fr (pos fr to pre.length) O Y) (fun _ _ _ _ => False) ?hI ?hIx ?hI2 ?hIx2 ?h0
    (fun x a' _ => a' = { tmps := #[.slice (some ⟨r, 0, none⟩) L c, .int .i64 (fr : Int), .int .i64 (to : Int), .pointer (some ⟨w.heap.size, 0, none⟩), undef, undef, .int .i64 0, .pointer (some ⟨w.heap.size + 1, 0, none⟩), .int .i64 ((x / 64 : Nat) : Int), .int .u64 ((msk (x % 64) (cw x to) : Nat) : Int), .int .i64 (fr : Int), .int .i64 (to : Int), .func (.func 84) #[] #[.pointer (some ⟨w.heap.size + 1 + 1, 0, none⟩), .pointer (some ⟨w.heap.size + 1 + 1 + 1, 0, none⟩)], .int .i64 ((x / 64 : Nat) : Int), .int .u64 ((msk (x % 64) (cw x to) : Nat) : Int), undef, undef, undef, undef, undef, undef, undef, undef, undef, undef, undef, undef, undef, undef, undef, undef, undef], defers := [] }) ?hAx ?assign ?body ?done ?stop
  case hI => exact fun s O X1 Y h k => h.abd HLT.out.1 HLT.out.2.1 HLT.out.2.2.1 HLT.out.2.2.2.1 k
  case hIx => exact fun _ _ _ _ _ h _ => h.elim
  case hI2 => exact fun s O X1 o' h hl => h.step HLT.out.1 HLT.out.2.1 HLT.out.2.2.1 HLT.out.2.2.2.1 (kp_put X1 _ o') (fun i e => by rw [e]; omega) (fun i e => .inl e)
  case hIx2 => exact fun _ _ _ _ _ h _ => h.elim
  case h0 =>
    intro r0
    exact (HSI.out _ (fun i h => h.elim .inl (fun h => .inr (.inl h)))).step HLT.out.1 HLT.out.2.1 HLT.out.2.2.1 HLT.out.2.2.2.1 (((Kp.refl (fun _ => False) X).alloc _).alloc _) (fun i e => e.elim) (fun i e => .inl e)
  case hAx => exact fun x a' X1 o' h => h
  case assign =>
    intro l' pre O x Y Kk hll hsz hi hK
    unfold menc
    gi_wp2
    exact hK _ _ (Kp.refl _ _) hi (by kernel_rfl)
  case body =>
    rintro l' pre O x a' Y hll hsz n1 n2 hi rfl hlen hsp
    obtain ⟨hxp, hxt⟩ := hsp.last
    rw [← hxp] at hi hxt
    obtain ⟨ws', w1, w2', w3', w4⟩ := hi.row
    have hc := cw_fact hxt
    have hfx : fr ≤ x := by
      have := (Chn.len (fr := fr) (to := to) (pre := pre) (fun j hj => by
        have h := hsp j (by simp; omega)
        rw [List.getD_eq_getElem?_getD, List.getElem?_append_left hj, ← List.getD_eq_getElem?_getD] at h
        exact h))
      rcases this with h | h
      · rw [← hxp] at h; omega
      · subst h
        have : pos fr to ([] : List Nat).length = fr := rfl
        omega
    have hto := HTO.out
    obtain ⟨g1, g2⟩ := word_step (to := to) w1 w2' w3' hfx hxt hto
    have hmk := msk_lt hc.2.2.1
    have hy := w2'.get (x / 64)
    have hix : x / 64 < ws.length := by omega
    have hnx : nxt x to = pos fr to (pre ++ [x]).length := by
      rw [List.length_append]
      show nxt x to = nxt (pos fr to pre.length) to
      rw [← hxp]
    have yc := w4.cell (x / 64) (by rw [up_len]; omega)
    rw [up_get] at yc
    have yf := w4.frozen (x / 64)
    have hcb := cnt_le (cs false ws) fr (x - fr)
    obtain ⟨i, hi0⟩ : ∃ i, x / 64 = i := ⟨_, rfl⟩
    obtain ⟨mk, hm0⟩ : ∃ mk, msk (x % 64) (cw x to) = mk := ⟨_, rfl⟩
    rw [hi0] at yc yf hy hix g1 g2
    rw [hm0] at hmk g1 g2
    obtain ⟨y, hy0⟩ : ∃ y, ws'.getD i 0 = y := ⟨_, rfl⟩
    rw [hy0] at yc hy g1 g2
    have hop1 : bits .and .u64 ((mk : Nat) : Int) ((y : Nat) : Int) = ((mk &&& y : Nat) : Int) := bits_and_u64_nat mk y hmk hy
    have hpcl : pc (mk &&& y) ≤ 64 := pc_le _
    have hop2 : bits .andNot .u64 ((y : Nat) : Int) ((mk : Nat) : Int) = ((anN y mk : Nat) : Int) := an_u64 y mk hy hmk
    have HOC := hid (fun w => oc_any (mk &&& y) (Nat.lt_of_le_of_lt Nat.and_le_left hmk) w)
    have xb := hi.bx.cell 0
    have xc := hi.cb.cell 0
    have fc := hi.cb.frozen 0
    simp at xb xc
    have hlt := HLT.out
    have h62 : x ≤ 64000000000 := by have := HWB.out; omega
    have HI := hid hi
    have HG1 := hid g1
    have HG2 := hid g2
    have HW4 := hid w4
    have HNX := hid hnx
    have hil : ¬ L ≤ i := by have := HL.out; omega
    obtain ⟨k, hk⟩ : ∃ k, cnt (cs false ws) fr (x - fr) = k := ⟨_, rfl⟩
    have HKC := hid hk
    rw [hk] at xc hcb
    have hkb : k ≤ 64000000000 := by omega
    obtain ⟨p, hp⟩ : ∃ p, pc (mk &&& y) = p := ⟨_, rfl⟩
    have HPC := hid hp
    rw [hp] at hpcl HOC
    have HWN : Hid (wnew false y mk < T64) := wnew_lt hy hmk
    have HLW : Hid (ws'.length = ws.length ∧ W64 ws') := ⟨w1, w2'⟩
    have HO1 : Hid (¬ O r ∧ ¬ O (w.heap.size + 1)) := by
      have h1 := HLT.out
      have h2 := HRL.out
      refine ⟨fun e => ?_, fun e => ?_⟩
      · have := HI.out.oo _ e; omega
      · have := HI.out.oo _ e; omega
    rw [hi0, hm0]
    clear hi g1 g2 w4 hnx w1 w2' w3' hsp hxp hlen hy hmk hk hp hc hcb hfx
    gi_wp2_with fail
    refine wpIn_region_tail hmix (by kernel_rfl) ?_
    dsimp only [List.dropLast, List.getLast]
    repeat (gi_big_quiet_step (fail))
    refine wpQuietIn_step (fun _ _ _ _ => trivial) (fun K hK => ?_)
    go_simp
    apply Exists.intro
    refine ⟨fun n => ?_, hK _ ?_⟩
    · exact CallsIn.quiet_of_same ((callsIn_wide.2 (HOC.out _)).inRound l')
    clear hK K
    repeat (gi_big_quiet_step (fail))
    refine wpQuietIn_nil ?_
    intro U hU
    obtain ⟨nq, hU2⟩ := hU
    subst hU2
    have kq := drewN_kp (fun _ => False) Y nq
    generalize Y.drewN nq = Z at kq ⊢
    replace xc := kq.cell xc
    replace xb := kq.cell xb
    replace yc := kq.cell yc
    replace yf : Z.frozen? ⟨r, i, none⟩ = false := (kp_frozen kq HW4.out.ltS (fun h => h)).trans yf
    replace fc : Z.frozen? ⟨w.heap.size + 1, 0, none⟩ = false := (kp_frozen kq (HI.out.cb.lt) (fun h => h)).trans fc
    have HQ := hid kq
    have hrne : ¬ r = w.heap.size + 1 := by have := HRL.out; omega
    have hrne2 : ¬ w.heap.size + 1 = r := by have := HRL.out; omega
    clear kq HOC
    gi_wp2_with fail
    have k1 := kp_setCell Z (w.heap.size + 1) 0 (.int .i64 ((k : Int) + (p : Int))) (fun j => j = w.heap.size + 1) rfl
    have k2 := kp_setCell (Z.setCell ⟨w.heap.size + 1, 0, none⟩ (.int .i64 ((k : Int) + (p : Int)))) r i (.int .u64 ((anN y mk : Nat) : Int)) (fun j => j = r) rfl
    have hcb2 := (HI.out.cb.kp HQ.out (fun h => h)).set 0 (.int .i64 ((k : Int) + (p : Int)))
    have hbx2 := (HI.out.bx.kp HQ.out (fun h => h)).kp k1 (fun h => by omega)
    have hrw2 := ((HW4.out.kp HQ.out (fun h => h)).kp k1 (fun h => hrne h)).set i ((anN y mk : Nat) : Int)
    rw [up_set] at hrw2
    refine ⟨((HQ.out.mono (G := fun j => j = r ∨ j = w.heap.size + 1) (fun _ _ h => h.elim)).trans k1 (fun _ _ h => .inr h)).trans k2 (fun _ _ h => .inl h) |>.mono (fun j hj h => ?_), ⟨_, ?_, HLW.out.2.set i HWN.out, fun g => ?_, hrw2⟩, ?_, hbx2.kp k2 (fun h => by have := HRL.out; omega), ?_, HI.out.oo, ?_⟩
    · have := HRL.out
      have := HLT.out
      rcases h with rfl | rfl
      · exact ⟨HO1.out.1, by omega, by omega⟩
      · exact ⟨HO1.out.2, by omega, by omega⟩
    · rw [List.length_set]; exact HLW.out.1
    · rw [← HNX.out]; exact HG1.out g
    · rw [← HNX.out, HG2.out, HKC.out]
      have e : ((k + wcount false y mk : Nat) : Int) = (k : Int) + (p : Int) := by
        rw [← HPC.out]
        exact Int.natCast_add _ _
      rw [e]
      refine St.kp ?_ k2 (fun h => hrne h.symm)
      simpa using hcb2
    · exact ((HI.out.kp.trans HQ.out (fun _ _ h => h.elim)).trans k1 (fun j hj h => by omega)).trans k2 (fun _ _ h => h)
    · exact Nat.le_trans HI.out.sz (Nat.le_trans HQ.out.size (Nat.le_trans k1.size k2.size))
  case done =>
    intro D xs O Y hD hS hi hd
    subst hD
    obtain ⟨f1, f2⟩ := fin_pos hS.1 hS.2
    have xc := hi.cb.cell 0
    simp at xc
    rw [f1] at xc
    obtain ⟨ws', w1, w2', w3', w4⟩ := hi.row
    have hcb := cnt_le (cs false ws) fr (to - fr)
    have HFIN : Hid (Kp (fun j => j = r) w Y ∧ ∃ ws', ws'.length = ws.length ∧ W64 ws' ∧ (∀ g, dty ws' g = app false (dty ws g) (decide (fr ≤ g ∧ g < to))) ∧ Rw .u64 102 Y r (up ws')) := ⟨hi.kp, ws', w1, w2', fun g => by rw [w3' g, f2 g], w4⟩
    have HD := hid hd
    obtain ⟨k, hk⟩ : ∃ k, cnt (cs false ws) fr (to - fr) = k := ⟨_, rfl⟩
    rw [hk] at xc hcb
    have HKK := hid hk
    clear hi hS hd f1 f2 w1 w2' w3' w4 hk
    gi_wp2_with fail
    refine ⟨by simp, .inl ⟨_, _, rfl, run_takeDeferred HD.out, ?_⟩⟩
    have kd := kp_put Y X.heap.size (.deferred none)
    obtain ⟨g1, ws', g2, g3, g4, g5⟩ := HFIN.out
    have hlt := HLT.out
    exact ⟨_, results_t1 Tryd.results66 _ _ rfl, (by rw [HKK.out]; kernel_rfl), g1.trans kd (fun j hj h => by omega), ws', g2, g3, g4, g5.kp kd (fun h => by omega)⟩
  case stop => exact fun D c pre O Y hD hsp hi hd => hi.elim
/-- What set and reset leave. -/
def SetP (op : Bool) (r fr to : Nat) (ws : List Nat) (w : World) (e : Ending) (w' : World) : Prop :=
  e = .returned (.int .i64 (cnt (cs op ws) fr (to - fr) : Nat)) ∧ Kp (fun i => i = r) w w' ∧ ∃ ws', ws'.length = ws.length ∧ W64 ws' ∧ (∀ g, dty ws' g = app op (dty ws g) (decide (fr ≤ g ∧ g < to))) ∧ Rw .u64 102 w' r (up ws')
theorem set_any (r L c fr to : Nat) (ws : List Nat) (w : World) (hL : L = ws.length) (hW : W64 ws) (hto : to ≤ 64 * ws.length) (hfr : fr ≤ 4611686018427387904) (hb : ws.length ≤ 1000000000) (hr : Rw .u64 102 w r (up ws)) :
    Calls Tryd.prog 59 #[.slice (some ⟨r, 0, none⟩) L c, .int .i64 fr, .int .i64 to] w (SetP true r fr to ws w) := callsIn_wide.1 (set_in r L c fr to ws w hL hW hto hfr hb hr)
theorem reset_any (r L c fr to : Nat) (ws : List Nat) (w : World) (hL : L = ws.length) (hW : W64 ws) (hto : to ≤ 64 * ws.length) (hfr : fr ≤ 4611686018427387904) (hb : ws.length ≤ 1000000000) (hr : Rw .u64 102 w r (up ws)) :
    Calls Tryd.prog 66 #[.slice (some ⟨r, 0, none⟩) L c, .int .i64 fr, .int .i64 to] w (SetP false r fr to ws w) := callsIn_wide.1 (reset_in r L c fr to ws w hL hW hto hfr hb hr)
end Go.Proofs.YteenlifdamhffaaDoor
