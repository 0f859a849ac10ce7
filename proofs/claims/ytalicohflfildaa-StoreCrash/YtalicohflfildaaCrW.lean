/- StoreCrash's walk. -/
import Derived.Test.YtalicohflfildaaCx
import Derived.BigQuiet
namespace Go.Proofs.Ytalicohflfildaa
open Go.RowKit Go.Shelf
attribute [local go_sem] Oper.semAt_some

/-- Another store lies beside what was made behind it. -/
theorem Sr.besidew {D D' : Nat → Prop} {w W : World} {g fm : Nat} {fv : Value} {steps : Nat} {fs : List Fe} {ft : List (Int × Int)} {es : List (ByteArray × Value × Nat)} {c : Nat} (h : Sr D w g fm fv steps fs ft es c) (k : Kp (fun _ => False) w W) (hd : ∀ i, D i → D' i) (he : ∀ i, D' i → D i ∨ w.heap.size ≤ i) (hb : ∀ i, D' i → i < W.heap.size) : Sr D' W g fm fv steps fs ft es c := by
  refine (h.kp k (fun _ _ h => h) (fun _ _ h => h)).mono hd (fun i hi hm => ?_) hb
  rcases he i hi with h1 | h1
  · exact h.dn i h1 hm
  · have := h.lt i hm; omega
set_option maxRecDepth 100000 in
set_option maxHeartbeats 1000000 in
theorem crash_badw (D : Nat → Prop) (w : World) (g fm : Nat) (fv : Value) (steps : Nat) (fs : List Fe) (ft : List (Int × Int)) (es : List (ByteArray × Value × Nat)) (c : Nat) (hs : Sr D w g fm fv steps fs ft es c) (ao : Option Addr) (zs : List Int) (n cap : Nat) (hn : n = zs.length) (hb : n ≤ 1000000000000) (hz : ¬ ∀ z ∈ zs, 0 ≤ z) (hS : Src .i64 w ao zs) :
    Calls Try.prog 11 #[.pointer (some ⟨g, 0, none⟩), .slice ao n cap] w fun e w' => e = .returned (.tuple #[.pointer none, .int .i64 2]) ∧ w' = w := by
  have c0 : w.cell? ⟨g, 0, none⟩ = some (.map (some fm)) := hs.st.cell 0
  have hany : zs.any (fun z => decide (z < 0)) = true := by
    cases hq : zs.any (fun z => decide (z < 0)) with
    | true => rfl
    | false =>
      rw [List.any_eq_false] at hq
      exact absurd (fun z hz' => by have := hq z hz'; simp at this; omega) hz
  have HN : Hid (n = zs.length) := hn
  have HSR : Hid (Src .i64 w ao zs) := hS
  clear hs hn hz hS
  go_enter Try.func11, Try.ntmps11
  go_wp2_with (first | (go_at_call 25; refine (none_live _ _ _ c0).mono ?_; rintro e w' ⟨rfl, h⟩; replace h := h.symm; subst h) | (go_at_call 26; refine (containsf_any ao zs n cap w HN.out hb HSR.out).mono ?_; rintro e w' ⟨rfl, h⟩; replace h := h.symm; subst h; rw [hany]))
  go_ret2
  exact ⟨rfl, rfl⟩
theorem Swf.kpw {B B' : Nat} {w w' : World} {t : Stp} (h : Swf B w t) (k : Kp (fun _ => False) w w') (hb : B ≤ B') : Swf B' w' t := by
  obtain ⟨⟨ao, cap, xs, e, h1, h2, h3, h4⟩, h5, h6, h7, h8, h9⟩ := h
  exact ⟨⟨ao, cap, xs, e, h1, h2.kp k (fun _ _ _ h => h), h3, fun b off e h0 => Nat.lt_of_lt_of_le (h4 b off e h0) hb⟩, h5, h6, h7, h8, h9⟩
theorem Swg.kpw {B B' : Nat} {w w' : World} {t : Stp} (h : Swg B w t) (k : Kp (fun _ => False) w w') (hb : B ≤ B') : Swg B' w' t := by
  obtain ⟨ao, l, c, fts, e, h1, h2, h3, h4⟩ := h.fa
  exact ⟨h.wf.kpw k hb, ao, l, c, fts, e, h1, h2, h3.kp k (fun _ _ _ _ h => h), fun b off e h0 => Nat.lt_of_lt_of_le (h4 b off e h0) hb⟩
theorem info3 : (Try.prog.info? 3).map (fun i => (i.zero, i.size, i.bytes)) = some (some (.int .i64 0), 1, 8) := by kernel_rfl
theorem own_ones {w : World} {base n : Nat} {v : Value} (h : w.ownsRow base 3 1 v n (List.replicate n (.int .i64 1))) : ∃ ao cap, v = .slice ao n cap ∧ Src .i64 w ao (List.replicate n 1) := by
  rcases h.2 with ⟨rfl, h1⟩ | ⟨g, cap, cur, rfl, h1, h2, h3, h4, h5, h6⟩
  · subst h1
    exact ⟨none, 0, rfl, fun hp => by simp at hp⟩
  · refine ⟨_, _, rfl, fun hp => ⟨g, 0, rfl, fun i hi => ?_⟩⟩
    rw [List.length_replicate] at hi
    have e1 : (List.replicate n (Value.int .i64 1))[i]? = some (.int .i64 1) := by simp [hi]
    rw [← h6, List.getElem?_take, if_pos (by omega)] at e1
    refine (cell_of_row w g _ _ 3 _ h2).trans ?_
    rw [Nat.zero_add]
    have e2 : (List.replicate n (1 : Int)).getD i 0 = 1 := by simp [List.getD, hi]
    rw [e2]
    simpa using e1
theorem pnd_le {fs : List Fe} (h : ∀ f ∈ fs, f.2.2.ps.length ≤ 360000) (hl : fs.length ≤ 256) : pnd fs ≤ 92160000 := by
  have : pnd fs ≤ fs.length * 360000 := by
    clear hl
    unfold pnd
    induction fs with
    | nil => simp
    | cons f fs ih =>
      rw [List.map_cons, List.sum_cons, List.length_cons, Nat.add_mul]
      have h1 := h f (by simp)
      have h2 := ih (fun x hx => h x (by simp [hx]))
      omega
  have h2 : fs.length * 360000 ≤ 256 * 360000 := Nat.mul_le_mul_right _ hl
  omega
def rdl (sz : Nat) (F : Nat → Int) : List Int := (List.range sz).map F
theorem rdl_len (sz : Nat) (F : Nat → Int) : (rdl sz F).length = sz := by simp [rdl]
theorem rdl_get (sz : Nat) (F : Nat → Int) (i : Nat) (h : i < sz) : (rdl sz F).getD i 0 = F i := by simp [rdl, List.getD, h]
theorem read_at {D : Nat → Prop} {W : World} {g fm : Nat} {fv : Value} {st : Nat} {fs : List Fe} {ft : List (Int × Int)} {es : List (ByteArray × Value × Nat)} {c : Nat} (h : Sr D W g fm fv st fs ft es c) (s : ByteArray) (hn : nmd s = true) (f : Fe) (hf : fget fs s = some f) (F : Nat → Int) (hF : ovs f.2.2.L f.2.2.ps = F) (sz : Nat) (hsz : f.2.2.sz = sz) :
    Calls Try.prog 13 #[.pointer (some ⟨g, 0, none⟩), .string s, .int .i64 0, .int .i64 268435456] W fun e w' => ∃ b, e = .returned (.tuple #[.slice (some ⟨b, 0, none⟩) sz sz, .int .i64 0]) ∧ W.heap.size ≤ b ∧ Rw .u8 5 w' b (rdl sz F) ∧ Kp (fun _ => False) W w' := by
  have hfr := h.fr f (fget_mem hf)
  have hsb := hfr.sb
  have hr : rdn f.2.2.sz 0 268435456 = sz := by unfold rdn; omega
  refine (read_some s (.pointer (some ⟨g, 0, none⟩)) 0 268435456 D f.2.1.fb f.2.1.lm f.2.1.om f.2.1.pv f.2.2.sz f.2.2.L f.2.2.ps W (h.file_some s hn f hf) hfr (Nat.zero_le _)).mono ?_
  rintro e w' ⟨b, rfl, hb, hrw, hbel⟩
  rw [hr] at hrw ⊢
  refine ⟨b, rfl, hb, ?_, Kp.of_below hbel⟩
  have : (List.range sz).map (fun i => ovs f.2.2.L f.2.2.ps (0 + i)) = rdl sz F := by rw [hF]; simp [rdl]
  rw [← this]
  exact hrw
theorem cvw {w : World} {ao : Option Addr} {len c : Nat} {xs : List Int} (hl : xs.length = len) (h : Src .u8 w ao xs) : (convert 36 9 (.slice ao len c)).run Try.prog w = .ok (.string (strOfNums xs)) w := by
  subst hl
  exact run_convert_rw w 36 9 5 Try.underlying36 Try.underlying5 Try.underlying9 ao _ c xs rfl h
theorem quo512 (z : Int) (q : Nat) (h0 : 0 ≤ z) (hb : z ≤ 1000000000) (hq : z / 512 = (q : Int)) (w : World) : (binOp .quo 2 (.int .i64 z) (.int .i64 512)).run Try.prog w = .ok (.int .i64 (q : Int)) w := by
  have h1 : Int.tdiv z 512 = (q : Int) := by rw [Int.tdiv_eq_ediv_of_nonneg h0, hq]
  have h2 : IntKind.i64.wrap (q : Int) = (q : Int) := by rw [IntKind.wrap_i64]; omega
  rw [binOp_quo]
  unfold Op.intDiv
  rw [if_neg (by decide)]
  simp only [h1, h2]
  rfl
theorem act_end {I : Act → World → Prop} {E : Value → (Nat → Value) → Array Value} {C : Value → List Deferred → World → Prop} (hI : I = fun a' w' => ∃ (ds : List Deferred) (iv : Value) (x : Nat → Value), C iv ds w' ∧ a' = { tmps := E iv x, defers := ds }) (a : Act) (w : World) (iv : Value) (ds : List Deferred) (hc : C iv ds w) (ht : a.tmps = E iv (fun i => a.tmps.getD i undef)) (hd : a.defers = ds) : I a w := by
  rw [hI]
  refine ⟨ds, iv, fun i => a.tmps.getD i undef, hc, ?_⟩
  cases a
  simp only at ht hd
  rw [← ht, hd]
theorem pnd_left {fs fs' : List Fe} {zs : List Int} (h : fs'.map (fun f => (f.1, f.2.2)) = crl fs zs 0 (nms fs)) : pnd fs' = 0 := by
  have h1 : ∀ f ∈ fs', f.2.2.ps = [] := by
    intro f hf
    have hm : (f.1, f.2.2) ∈ crl fs zs 0 (nms fs) := by rw [← h]; exact List.mem_map.2 ⟨f, hf, rfl⟩
    obtain ⟨K, _, _, h3⟩ := crl_mem hm
    rw [h3]
    unfold crf
    split <;> rfl
  clear h
  unfold pnd
  induction fs' with
  | nil => rfl
  | cons f fs ih =>
    rw [List.map_cons, List.sum_cons, h1 f (by simp), ih (fun x hx => h1 x (by simp [hx]))]
    rfl
structure CwI (w7 : World) (n k : Nat) (Ds : List Nat) (W : World) : Prop where
  k : k ≤ n
  nd : Ds.Nodup
  mr : ∀ D ∈ Ds, w7.heap.size ≤ D ∧ W.heap[D]? = some (.deferred (some []))
  kp : Kp (fun _ => False) w7 W
/-- What the loop over the names keeps. -/
def CwR (w7 : World) (n : Nat) (iv : Value) (ds : List Deferred) (W : World) : Prop := ∃ (k : Nat) (Ds : List Nat), iv = .int .i64 k ∧ ds = Ds.map mrk ∧ CwI w7 n k Ds W
theorem fin3 {F : Fence} {n : Nat} {tmps : Array Value} {R : Ending → World → Prop} {w : World} {b : Nat} (h6 : tmps.getD 6 undef = .pointer (some ⟨b, 0, none⟩)) (hc : w.cell? ⟨b, 0, none⟩ = some (.bool true)) (hR : R (.returned (.bool true)) w) : LeavesInM F n Try.prog Try.f3 tmps R [] .returning w := by
  have hl : (loadVar 4 ⟨b, 0, none⟩).run Try.prog w = .ok (.bool true) w := by go_simp
  exact ⟨_, results_cell1w Try.results3 _ _ _ h6 hl, hR⟩
theorem kp_res {w w1 w2 : World} {b : Nat} (hb : w.heap.size ≤ b) (k1 : Kp (fun _ => False) w w1) (k2 : Kp (fun _ => False) w1 w2) (v : Value) : Kp (fun _ => False) w (w2.setCell ⟨b, 0, none⟩ v) :=
  ((((k1.trans k2 (fun _ _ h => h)).mono (G := fun i => i = b) (fun _ _ h => h.elim)).trans (kp_setCell w2 b 0 v (fun i => i = b) rfl) (fun _ _ h => h))).mono (fun i hi h => by omega)
set_option maxRecDepth 100000 in
set_option maxHeartbeats 8000000 in
theorem crash_in (ga : Option Addr) (gn gc : Nat) (gts : List (Int × Int)) (ts : List Stp) (ao : Option Addr) (N cap : Nat) (pa : Option Addr) (pn pc : Nat) (us : List Int) (w : World) (hN : N = ts.length) (hS : SSrc w ao ts) (hw : ∀ t ∈ ts, Swg w.heap.size w t)
    (hgn : gn = gts.length) (hgno : ga = none → gn = 0 ∧ gc = 0) (hgS : FSrc w ga gts) (h2 : pn = us.length) (s2 : Src .i64 w pa us) :
    CallsIn Fence.wide 8 Try.prog 3 #[.slice ga gn gc, .slice ao N cap, .slice pa pn pc] w fun e w' => e = .returned (.bool true) ∧ Kp (fun _ => False) w w' := by
  have HN : Hid (N = ts.length) := hN
  have HS : Hid (SSrc w ao ts) := hS
  have HW : Hid (∀ t ∈ ts, Swg w.heap.size w t) := hw
  have HGN : Hid (gn = gts.length) := hgn
  have HGO : Hid (ga = none → gn = 0 ∧ gc = 0) := hgno
  have HGS : Hid (FSrc w ga gts) := hgS
  have H2 : Hid (pn = us.length) := h2
  have S2 : Hid (Src .i64 w pa us) := s2
  have STW0 : Hid (St 4 (w.alloc (.cells #[.bool false] 4)) w.heap.size #[.bool false]) := St.new 4 w _
  have KW0 : Hid (Kp (fun _ => False) w (w.alloc (.cells #[.bool false] 4))) := (Kp.refl _ _).alloc _
  clear hN hS hw hgn hgno hgS h2 s2
  by_cases h100 : 100 < gn
  · have hi : (100 : Int) < (gn : Int) := by omega
    have hid : decide ((100 : Int) < (gn : Int)) = true := by simpa using hi
    refine callsIn_of_wp_marks Try.func3 rfl trivial ?_ rfl
    simp only [Try.ntmps3, List.size_toArray, List.length_cons, List.length_nil, Nat.reduceAdd, Nat.reduceSub, Array.replicate_succ, Array.replicate_zero, List.push_toArray, List.append_toArray, List.nil_append, List.cons_append]
    gi_wp2_with fail
    generalize w.alloc (.cells #[.bool false] 4) = W0 at STW0 KW0 ⊢
    repeat (rename_i hk; refine ⟨trivial, hk _ _ ?_⟩; clear hk; gi_wp2_with fail)
    refine ⟨trivial, (callsIn_wide.2 (known_any W0)).mono ?_⟩
    rintro e w' ⟨rfl, k2⟩
    have K2 : Hid (Kp (fun _ => False) W0 w') := k2
    have st := STW0.out.kp k2 (fun h => h)
    have fz := st.frozen 0
    have cz : w'.cell? ⟨w.heap.size, 0, none⟩ = some (.bool false) := st.cell 0
    have HT : Hid (St 4 (w'.setCell ⟨w.heap.size, 0, none⟩ (.bool true)) w.heap.size #[.bool true]) := by show St 4 _ _ _; have := st.set 0 (.bool true); simpa using this
    clear st k2
    gi_wp2_with fail
    exact fin3 rfl (HT.out.cell 0) ⟨rfl, kp_res (Nat.le_refl _) KW0.out K2.out _⟩
  have hi : ¬ (100 : Int) < (gn : Int) := by omega
  have hid : decide ((100 : Int) < (gn : Int)) = false := by simpa using hi
  refine callsIn_of_wp_marks Try.func3 rfl trivial ?_ rfl
  simp only [Try.ntmps3, List.size_toArray, List.length_cons, List.length_nil, Nat.reduceAdd, Nat.reduceSub, Array.replicate_succ, Array.replicate_zero, List.push_toArray, List.append_toArray, List.nil_append, List.cons_append]
  gi_wp2_with fail
  generalize w.alloc (.cells #[.bool false] 4) = W0 at STW0 KW0 ⊢
  refine ⟨trivial, (callsIn_wide.2 (vast_any w.heap.size ts ao N cap W0 HN.out (HS.out.kp KW0.out (fun _ _ _ _ h => h)) (fun t ht => (HW.out t ht).wf.kpw KW0.out (Nat.le_refl _)))).mono ?_⟩
  rintro e w1 ⟨b, rfl, hb, k1⟩
  have Kw1 : Hid (Kp (fun _ => False) w w1) := KW0.out.trans k1 (fun _ _ h => h)
  have STw1 : Hid (St 4 w1 w.heap.size #[.bool false]) := STW0.out.kp k1 (fun h => h)
  clear k1 STW0 KW0
  cases b with
  | true =>
    clear hb
    gi_wp2_with fail
    repeat (rename_i hk; refine ⟨trivial, hk _ _ ?_⟩; clear hk; gi_wp2_with fail)
    refine ⟨trivial, (callsIn_wide.2 (known_any w1)).mono ?_⟩
    rintro e w' ⟨rfl, k2⟩
    have K2 : Hid (Kp (fun _ => False) w1 w') := k2
    have st := STw1.out.kp k2 (fun h => h)
    have fz := st.frozen 0
    have cz : w'.cell? ⟨w.heap.size, 0, none⟩ = some (.bool false) := st.cell 0
    have HT : Hid (St 4 (w'.setCell ⟨w.heap.size, 0, none⟩ (.bool true)) w.heap.size #[.bool true]) := by show St 4 _ _ _; have := st.set 0 (.bool true); simpa using this
    clear st k2
    gi_wp2_with fail
    exact fin3 rfl (HT.out.cell 0) ⟨rfl, kp_res (Nat.le_refl _) Kw1.out K2.out _⟩
  | false =>
    obtain ⟨hb1, hb2⟩ := hb rfl
    have HB2 : Hid (∀ t ∈ ts, blen t ≤ 3000 ∧ flen t ≤ 60) := hb2
    clear hb hb2
    gi_wp2_with fail
    refine ⟨trivial, (callsIn_wide.2 (right_any ga gts gn gc w1 HGN.out (by omega) (HGS.out.kp Kw1.out (fun _ _ _ _ h => h)))).mono ?_⟩
    rintro e w' ⟨b, rfl, hb, hw'⟩
    replace hw' := hw'.symm
    subst hw'
    cases b with
    | false =>
      clear hb
      gi_wp2_with fail
      repeat (rename_i hk; refine ⟨trivial, hk _ _ ?_⟩; clear hk; gi_wp2_with fail)
      refine ⟨trivial, (callsIn_wide.2 (known_any w1)).mono ?_⟩
      rintro e w' ⟨rfl, k2⟩
      have K2 : Hid (Kp (fun _ => False) w1 w') := k2
      have st := STw1.out.kp k2 (fun h => h)
      have fz := st.frozen 0
      have cz : w'.cell? ⟨w.heap.size, 0, none⟩ = some (.bool false) := st.cell 0
      have HT : Hid (St 4 (w'.setCell ⟨w.heap.size, 0, none⟩ (.bool true)) w.heap.size #[.bool true]) := by show St 4 _ _ _; have := st.set 0 (.bool true); simpa using this
      clear st k2
      gi_wp2_with fail
      exact fin3 rfl (HT.out.cell 0) ⟨rfl, kp_res (Nat.le_refl _) Kw1.out K2.out _⟩
    | true =>
      have HOK : Hid (okk gts) := hb rfl
      clear hb
      by_cases hpn : 300 < pn
      · have hpn' : (300 : Int) < (pn : Int) := by omega
        have hpd : decide ((300 : Int) < (pn : Int)) = true := by simpa using hpn'
        gi_wp2_with fail
        repeat (rename_i hk; refine ⟨trivial, hk _ _ ?_⟩; clear hk; gi_wp2_with fail)
        refine ⟨trivial, (callsIn_wide.2 (known_any w1)).mono ?_⟩
        rintro e w' ⟨rfl, k2⟩
        have K2 : Hid (Kp (fun _ => False) w1 w') := k2
        have st := STw1.out.kp k2 (fun h => h)
        have fz := st.frozen 0
        have cz : w'.cell? ⟨w.heap.size, 0, none⟩ = some (.bool false) := st.cell 0
        have HT : Hid (St 4 (w'.setCell ⟨w.heap.size, 0, none⟩ (.bool true)) w.heap.size #[.bool true]) := by show St 4 _ _ _; have := st.set 0 (.bool true); simpa using this
        clear st k2
        gi_wp2_with fail
        exact fin3 rfl (HT.out.cell 0) ⟨rfl, kp_res (Nat.le_refl _) Kw1.out K2.out _⟩
      have hpn' : ¬ (300 : Int) < (pn : Int) := by omega
      have hpd : decide ((300 : Int) < (pn : Int)) = false := by simpa using hpn'
      gi_wp2_with fail
      refine ⟨trivial, (callsIn_wide.2 (play_m ga gn gc gts ts ao N cap w1 HN.out (by omega) (HS.out.kp Kw1.out (fun _ _ _ _ h => h)) (fun t ht => (HW.out t ht).kpw Kw1.out Kw1.out.size) HB2.out HGN.out (by omega) HGO.out (HGS.out.kp Kw1.out (fun _ _ _ _ h => h)) HOK.out)).mono ?_⟩
      rintro e w2 ⟨g, fm, D, fv, steps, fs, ft, es, c, rfl, hsr, hps, hown, k2⟩
      have HSR : Hid (Sr D w2 g fm fv steps fs ft es c) := hsr
      have HPS : Hid (∀ f ∈ fs, f.2.2.ps.length ≤ 360000) := hps
      have Kw2 : Hid (Kp (fun _ => False) w w2) := Kw1.out.trans k2 (fun _ _ h => h)
      have STw2 : Hid (St 4 w2 w.heap.size #[.bool false]) := STw1.out.kp k2 (fun h => h)
      have hpnd := pnd_le hps hsr.nf
      have HON : Hid (w.heap.size < w2.heap.size) := STw2.out.lt
      clear hsr hps hown k2 STw1 Kw1 HB2 HOK HGN HGO HGS HW HS HN
      obtain ⟨i3, hi3, hz0, hz1, hz2⟩ := info_parts info3
      gi_wp2_with fail
      gi_loopw [8, 9] (fun v iv wr => ∃ k : Nat, k ≤ pnd fs ∧ iv = .int .i64 k ∧ wr.ownsRow w2.heap.size 3 1 v k (List.replicate k (.int .i64 1)) ∧ Kp (fun _ => False) w2 wr) (fun _ iv _ => pnd fs - (intOf iv).toNat)
      case atStart => exact ⟨0, Nat.zero_le _, rfl, ⟨rfl, .inl ⟨rfl, rfl⟩⟩, Kp.refl _ _⟩
      case round =>
        obtain ⟨k, hk, rfl, hro, hkr⟩ := hrel
        have HRO : Hid (wr.ownsRow w2.heap.size 3 1 u8 k (List.replicate k (.int .i64 1))) := hro
        have KR2 : Hid (Kp (fun _ => False) w2 wr) := hkr
        clear hro hkr
        gi_wp2_with fail
        refine ⟨trivial, (callsIn_wide.2 (pending_any D wr g fm fv steps fs ft es c (HSR.out.kp KR2.out (fun _ _ h => h) (fun _ _ h => h)))).mono ?_⟩
        rintro e w3 ⟨rfl, k3⟩
        obtain ⟨va, vc, hv⟩ := ownsRow_shape HRO.out
        subst hv
        have KR3 : Hid (Kp (fun _ => False) w2 w3) := KR2.out.trans k3 (fun _ _ h => h)
        have HRO3 : Hid (w3.ownsRow w2.heap.size 3 1 (.slice va k vc) k (List.replicate k (.int .i64 1))) := by
          refine ⟨HRO.out.1, ?_⟩
          rcases HRO.out.2 with h1 | ⟨gg, cap, cur, h1, h2, h3, h4⟩
          · exact .inl h1
          · exact .inr ⟨gg, cap, cur, h1, h2, (k3.block gg (Array.getElem?_eq_some_iff.1 h3).1 (fun h => h)).trans h3, h4⟩
        clear k3 HRO KR2
        by_cases hlt : k < pnd fs
        · have hli : (k : Int) < ((pnd fs : Nat) : Int) := by omega
          have HRA : Hid ((w3.alloc (.cells #[.int .i64 1] 3)).ownsRow w2.heap.size 3 1 (.slice va k vc) k (List.replicate k (.int .i64 1))) := World.ownsRow.alloc HRO3.out _
          have HKA : Hid (Kp (fun _ => False) w2 (w3.alloc (.cells #[.int .i64 1] 3))) := KR3.out.alloc _
          have HSZ : Hid (w2.heap.size ≤ (w3.alloc (.cells #[.int .i64 1] 3)).heap.size) := HKA.out.size
          clear HRO3 KR3
          gi_wp2_with (first | (gi_at_builtin; refine wpListIn_append_own _ rfl (.tmp 58) (.tmp 59) 24 rfl w2.heap.size 3 i3 _ 1 8 Try.underlying24 hi3 hz0 hz1 hz2 rfl (by decide) (.slice va k vc) k (List.replicate k (.int .i64 1)) rfl HRA.out ⟨w3.heap.size, 0, none⟩ 1 1 [Value.int .i64 1] rfl rfl (cell_one_new _ _ _) (by simp [Value.oneCell']) (by unfold maxLen; omega) (by omega) HSZ.out ?_; intro v' w' o3 g3 _; have HX : Hid (w'.ownsRow w2.heap.size 3 1 v' (k + 1) (List.replicate (k + 1) (.int .i64 1)) ∧ Kp (fun _ => False) w2 w') := (by refine ⟨?_, HKA.out.trans (Kp.of_grown (F := fun i => (Value.slice va k vc).ownBlock = some i) g3 (fun i e => e)) (fun i hi e => by have := (HRA.out.lt i e).1; omega)⟩; rw [List.replicate_succ']; exact o3); clear o3 g3))
          exact ⟨⟨k + 1, hlt, rfl, HX.out.1, HX.out.2⟩, by simp only [intOf]; omega⟩
        · have hli : ¬ (k : Int) < ((pnd fs : Nat) : Int) := by omega
          have hkp : k = pnd fs := by omega
          obtain ⟨na, nc, hv2, hso⟩ := own_ones HRO3.out
          simp only [Value.slice.injEq] at hv2
          obtain ⟨rfl, -, rfl⟩ := hv2
          have HSO : Hid (Src .i64 w3 va (List.replicate k 1)) := hso
          have Kw3 : Hid (Kp (fun _ => False) w w3) := Kw2.out.trans KR3.out (fun _ _ h => h)
          have STw3 : Hid (St 4 w3 w.heap.size #[.bool false]) := STw2.out.kp KR3.out (fun h => h)
          have HS3 : Hid (Sr D w3 g fm fv steps fs ft es c) := HSR.out.kp KR3.out (fun _ _ h => h) (fun _ _ h => h)
          have HT3 : Hid (Src .i64 w3 pa us) := S2.out.kp Kw3.out (fun _ _ _ h => h)
          have HKP : Hid (k = pnd fs) := hkp
          clear hso HRO3 KR3 HSR STw2 Kw2 S2 hkp
          gi_wp2_with fail
          refine ⟨trivial, (callsIn_wide.2 (crash_any D w3 g fm fv steps fs ft es c HS3.out va (List.replicate k 1) k vc (by simp) (by omega) (fun z hz => by rw [List.eq_of_mem_replicate hz]; omega) HSO.out (fun h0 => (by
            intro b off e
            obtain ⟨b', off', e', hc⟩ := HSO.out (by simpa using h0)
            rw [e'] at e
            cases e
            exact block_lt_of_cell (hc 0 (by simpa using h0)))))).mono ?_⟩
          rintro e w4 ⟨Da, ga', fma, fsa, esa, ca, rfl, hsa, hma, -, hda, hea, k4⟩
          have HSA : Hid (Sr Da w4 ga' fma (.slice none 0 0) 0 fsa [] esa ca) := hsa
          have HMA : Hid (fsa.map (fun f => (f.1, f.2.2)) = crl fs (List.replicate k 1) 0 (nms fs)) := hma
          have HS4 : Hid (Sr Da w4 g fm fv steps fs ft es c) := HS3.out.besidew k4 hda hea hsa.db
          have Kw4 : Hid (Kp (fun _ => False) w w4) := Kw3.out.trans k4 (fun _ _ h => h)
          have STw4 : Hid (St 4 w4 w.heap.size #[.bool false]) := STw3.out.kp k4 (fun h => h)
          have HT4 : Hid (Src .i64 w4 pa us) := HT3.out.kp k4 (fun _ _ _ h => h)
          clear hsa hma hda hea k4 HS3 Kw3 STw3 HT3 HSO
          gi_wp2_with fail
          refine ⟨trivial, (callsIn_wide.2 (crash_any Da w4 g fm fv steps fs ft es c HS4.out none [] 0 0 rfl (by omega) (fun z hz => by cases hz) (fun h => by simp at h) (fun h => by omega))).mono ?_⟩
          rintro e w5 ⟨Db, gb, fmb, fsb, esb, cb, rfl, hsb, hmb, -, hdb, heb, k5⟩
          have HSB : Hid (Sr Db w5 gb fmb (.slice none 0 0) 0 fsb [] esb cb) := hsb
          have HMB : Hid (fsb.map (fun f => (f.1, f.2.2)) = crl fs [] 0 (nms fs)) := hmb
          have HS5 : Hid (Sr Db w5 g fm fv steps fs ft es c) := HS4.out.besidew k5 hdb heb hsb.db
          have HA5 : Hid (Sr Db w5 ga' fma (.slice none 0 0) 0 fsa [] esa ca) := HSA.out.besidew k5 hdb heb hsb.db
          have Kw5 : Hid (Kp (fun _ => False) w w5) := Kw4.out.trans k5 (fun _ _ h => h)
          have STw5 : Hid (St 4 w5 w.heap.size #[.bool false]) := STw4.out.kp k5 (fun h => h)
          have HT5 : Hid (Src .i64 w5 pa us) := HT4.out.kp k5 (fun _ _ _ h => h)
          clear hsb hmb hdb heb k5 HS4 HSA Kw4 STw4 HT4
          gi_wp2_with fail
          by_cases hz : ∀ z ∈ us, 0 ≤ z
          · refine ⟨trivial, (callsIn_wide.2 (crash_any Db w5 g fm fv steps fs ft es c HS5.out pa us pn pc H2.out (by omega) hz HT5.out (fun h0 => (by
              intro b off e
              obtain ⟨b', off', e', hc⟩ := HT5.out (by rw [← H2.out]; exact h0)
              rw [e'] at e
              cases e
              exact block_lt_of_cell (hc 0 (by rw [← H2.out]; exact h0)))))).mono ?_⟩
            rintro e w6 ⟨Dc, gc', fmc, fsc, esc, cc, rfl, hsc, hmc, -, hdc, hec, k6⟩
            have HSC : Hid (Sr Dc w6 gc' fmc (.slice none 0 0) 0 fsc [] esc cc) := hsc
            have HMC : Hid (fsc.map (fun f => (f.1, f.2.2)) = crl fs us 0 (nms fs)) := hmc
            have HS6 : Hid (Sr Dc w6 g fm fv steps fs ft es c) := HS5.out.besidew k6 hdc hec hsc.db
            have HA6 : Hid (Sr Dc w6 ga' fma (.slice none 0 0) 0 fsa [] esa ca) := HA5.out.besidew k6 hdc hec hsc.db
            have HB6 : Hid (Sr Dc w6 gb fmb (.slice none 0 0) 0 fsb [] esb cb) := HSB.out.besidew k6 hdc hec hsc.db
            have Kw6 : Hid (Kp (fun _ => False) w w6) := Kw5.out.trans k6 (fun _ _ h => h)
            have STw6 : Hid (St 4 w6 w.heap.size #[.bool false]) := STw5.out.kp k6 (fun h => h)
            clear hsc hmc hdc hec k6 HS5 HA5 HSB Kw5 STw5 HT5 H2
            gi_wp2_with fail
            refine ⟨trivial, (callsIn_wide.2 (names_any Dc w6 g fm fv steps fs ft es c HS6.out)).mono ?_⟩
            rintro e w7 ⟨nv, rfl, hrow, -, hbel⟩
            obtain ⟨na, nc, hnv⟩ := ownsRow_shape hrow
            subst hnv
            have hnf := HS6.out.nf
            have k7 : Kp (fun _ => False) w6 w7 := Kp.of_below hbel
            have HROW : Hid (w7.ownsRow w6.heap.size 9 1 (.slice na fs.length nc) fs.length ((snm fs).map encStr)) := hrow
            have HS7 : Hid (Sr Dc w7 g fm fv steps fs ft es c) := HS6.out.kp k7 (fun _ _ h => h) (fun _ _ h => h)
            have HA7 : Hid (Sr Dc w7 ga' fma (.slice none 0 0) 0 fsa [] esa ca) := HA6.out.kp k7 (fun _ _ h => h) (fun _ _ h => h)
            have HB7 : Hid (Sr Dc w7 gb fmb (.slice none 0 0) 0 fsb [] esb cb) := HB6.out.kp k7 (fun _ _ h => h) (fun _ _ h => h)
            have HC7 : Hid (Sr Dc w7 gc' fmc (.slice none 0 0) 0 fsc [] esc cc) := HSC.out.kp k7 (fun _ _ h => h) (fun _ _ h => h)
            have Kw7 : Hid (Kp (fun _ => False) w w7) := Kw6.out.trans k7 (fun _ _ h => h)
            have STw7 : Hid (St 4 w7 w.heap.size #[.bool false]) := STw6.out.kp k7 (fun h => h)
            clear hrow hbel k7 HS6 HA6 HB6 HSC Kw6 STw6
            gi_wp2_with fail
            obtain ⟨Iv, hIv⟩ : ∃ Iv : Act → World → Prop, Iv = (fun a' w' => ∃ (ds : List Deferred) (iv : Value) (x : Nat → Value), CwR w7 fs.length iv ds w' ∧ a' = { tmps := #[Value.slice ga gn gc, Value.slice ao N cap, Value.slice pa pn pc, undef, undef, undef, Value.pointer (some { block := w.heap.size, off := 0 }), Value.pointer (some { block := g, off := 0 }), Value.slice va k vc, Value.int IntKind.i64 ↑k, Value.pointer (some { block := ga', off := 0 }), Value.int IntKind.i64 0, Value.pointer (some { block := gb, off := 0 }), Value.int IntKind.i64 0, Value.pointer (some { block := gc', off := 0 }), Value.int IntKind.i64 0, Value.slice na fs.length nc, iv, x 18, x 19, x 20, x 21, x 22, x 23, x 24, x 25, x 26, x 27, x 28, x 29, x 30, Value.slice ga gn gc, Value.int IntKind.i64 ↑gn, Value.bool false, Value.bool false, Value.slice ao N cap, Value.bool false, Value.bool false, Value.bool false, Value.slice ga gn gc, Value.bool true, Value.bool false, Value.bool false, Value.bool false, Value.slice pa pn pc, Value.int IntKind.i64 ↑pn, Value.bool false, Value.bool false, undef, Value.slice ga gn gc, Value.slice ao N cap, Value.pointer (some { block := g, off := 0 }), Value.int IntKind.i64 ↑k, Value.pointer (some { block := g, off := 0 }), Value.int IntKind.i64 ↑(pnd fs), Value.bool false, u56, u57, u58, u59, u60, Value.tuple #[Value.pointer (some { block := ga', off := 0 }), Value.int IntKind.i64 0], Value.pointer (some { block := g, off := 0 }), Value.slice va k vc, Value.tuple #[Value.pointer (some { block := ga', off := 0 }), Value.int IntKind.i64 0], Value.pointer (some { block := ga', off := 0 }), Value.int IntKind.i64 0, Value.tuple #[Value.pointer (some { block := gb, off := 0 }), Value.int IntKind.i64 0], Value.pointer (some { block := g, off := 0 }), Value.tuple #[Value.pointer (some { block := gb, off := 0 }), Value.int IntKind.i64 0], Value.pointer (some { block := gb, off := 0 }), Value.int IntKind.i64 0, Value.tuple #[Value.pointer (some { block := gc', off := 0 }), Value.int IntKind.i64 0], Value.pointer (some { block := g, off := 0 }), Value.slice pa pn pc, Value.tuple #[Value.pointer (some { block := gc', off := 0 }), Value.int IntKind.i64 0], Value.pointer (some { block := gc', off := 0 }), Value.int IntKind.i64 0, Value.int IntKind.i64 0, Value.bool false, Value.bool false, Value.int IntKind.i64 0, Value.bool false, Value.bool false, Value.int IntKind.i64 0, Value.bool false, undef, undef, undef, undef, undef, Value.pointer (some { block := g, off := 0 }), Value.slice na fs.length nc, x 93, x 94, x 95, x 96, x 97, x 98, x 99, x 100, x 101, x 102, x 103, x 104, x 105, x 106, x 107, x 108, x 109, x 110, x 111, x 112, x 113, x 114, x 115, x 116, x 117, x 118, x 119, x 120, x 121, x 122, x 123, x 124, x 125, x 126, x 127, x 128, x 129, x 130, x 131, x 132, x 133, x 134, x 135, x 136, x 137, x 138, x 139, x 140, x 141, x 142, x 143, x 144, x 145, x 146, x 147, x 148, x 149, x 150, x 151, x 152, x 153, x 154, x 155, x 156, x 157, x 158, x 159, x 160, x 161, x 162, x 163, x 164, x 165, x 166, x 167, x 168, x 169, x 170, x 171, x 172, x 173, x 174, x 175, x 176, x 177, x 178, x 179, x 180, x 181, x 182, x 183, x 184, x 185, x 186, x 187, x 188, x 189, x 190, x 191, x 192, x 193, x 194, x 195, x 196, x 197, x 198, x 199, x 200, x 201, x 202, x 203, x 204, x 205, x 206, x 207, x 208, x 209, x 210, x 211, x 212, x 213, x 214, x 215, x 216, x 217, x 218, x 219, x 220, x 221, x 222, x 223, x 224, x 225, x 226, x 227, x 228, x 229, x 230, x 231, x 232, x 233, x 234, x 235, x 236, x 237, x 238, x 239, x 240, x 241, x 242, x 243, x 244, x 245, x 246, x 247, x 248, x 249, x 250, x 251, x 252, x 253, x 254, x 255, x 256, x 257, x 258, x 259, x 260, undef, undef, undef, undef, undef, undef], defers := ds }) := ⟨_, rfl⟩
            have HIV : Hid (Iv = _) := hIv
            clear hIv
            refine wpIn_loop Iv (fun a' _ => fs.length - (intOf (a'.tmps.getD 17 undef)).toNat) ?_ ?_
            · rw [HIV.out]
              exact ⟨_, _, fun _ => undef, ⟨0, [], rfl, rfl, Nat.zero_le _, List.nodup_nil, (fun D hD => by cases hD), Kp.refl _ _⟩, rfl⟩
            intro a' wr hinv
            rw [HIV.out] at hinv
            obtain ⟨ds, iv, x0, hrel, rfl⟩ := hinv
            obtain ⟨j, Ds, rfl, rfl, hI⟩ := hrel
            have HI : Hid (CwI w7 fs.length j Ds wr) := hI
            have hjk := hI.k
            clear hI
            by_cases hjl : j < fs.length
            · have hji : (j : Int) < (fs.length : Int) := by omega
              obtain ⟨s, hs⟩ : ∃ s, (nms fs)[j]? = some s := ⟨_, List.getElem?_eq_getElem (by rw [nms_len]; exact hjl)⟩
              obtain ⟨gn', off, cap', hpe, hgl1, hgl2, hcs⟩ := own_cells HROW.out (by omega)
              obtain ⟨rfl, rfl⟩ : na = some ⟨gn', off, none⟩ ∧ nc = cap' := by
                simp only [Value.slice.injEq] at hpe; exact ⟨hpe.1, hpe.2.2⟩
              have xc0 := hcs j hjl
              rw [nms_enc, List.getElem?_map, hs] at xc0
              have HX0 : Hid (w7.cell? ⟨gn', off + j, none⟩ = some (.string s)) := xc0
              have y0 : wr.cell? ⟨gn', off + j, none⟩ = some (.string s) := kp_cell HI.out.kp xc0 (fun h => h)
              have hkk := HS7.out.keys
              obtain ⟨f, hf⟩ := fget_some ((nms_perm fs).mem_iff.1 (List.mem_of_getElem? hs))
              have hff : f ∈ fs ∧ f.1 = s := by obtain ⟨l, r, h1, h2⟩ := fget_split hf; exact ⟨by rw [h1]; simp, h2⟩
              have hnm : nmd s = true := by rw [← hff.2]; exact HS7.out.nm f hff.1
              obtain ⟨fA, hfA, KA, hKA, hqA⟩ := left_file HMA.out hkk.2 hf
              obtain ⟨fB, hfB, KB, hKB, hqB⟩ := left_file HMB.out hkk.2 hf
              obtain ⟨fC, hfC, KC, hKC, hqC⟩ := left_file HMC.out hkk.2 hf
              rw [pks_ones k KA f.2.2.ps (by rw [HKP.out]; exact hKA)] at hqA
              rw [pks_none] at hqB
              clear hs hpe hcs xc0 hKA hKB hKC
              obtain ⟨sz, hsz⟩ : ∃ sz, sz = f.2.2.sz := ⟨_, rfl⟩
              obtain ⟨L, hL⟩ : ∃ L, L = f.2.2.L := ⟨_, rfl⟩
              obtain ⟨ps, hps⟩ : ∃ ps, ps = f.2.2.ps := ⟨_, rfl⟩
              rw [← hsz, ← hL, ← hps] at hqA hqC
              rw [← hsz, ← hL] at hqB
              have hfr := HS7.out.fr f hff.1
              have hszb := hfr.sb
              rw [← hsz] at hszb
              have hpnb := hfr.nb
              rw [← hps] at hpnb
              have HPB : Hid (∀ p ∈ ps, 1 ≤ p.2.length ∧ p.1 % 512 + p.2.length ≤ 512 ∧ p.1 + p.2.length ≤ sz) := by rw [hps, hsz]; exact hfr.pb
              have RS : ∀ W, Kp (fun _ => False) w7 W → Hid (Calls Try.prog 13 #[.pointer (some ⟨g, 0, none⟩), .string s, .int .i64 0, .int .i64 268435456] W fun e w' => ∃ b, e = .returned (.tuple #[.slice (some ⟨b, 0, none⟩) sz sz, .int .i64 0]) ∧ W.heap.size ≤ b ∧ Rw .u8 5 w' b (rdl sz (ovs L ps)) ∧ Kp (fun _ => False) W w') := fun W k => read_at (HS7.out.kp k (fun _ _ h => h) (fun _ _ h => h)) s hnm f hf _ (by rw [hL, hps]) sz hsz.symm
              have RA : ∀ W, Kp (fun _ => False) w7 W → Hid (Calls Try.prog 13 #[.pointer (some ⟨ga', 0, none⟩), .string s, .int .i64 0, .int .i64 268435456] W fun e w' => ∃ b, e = .returned (.tuple #[.slice (some ⟨b, 0, none⟩) sz sz, .int .i64 0]) ∧ W.heap.size ≤ b ∧ Rw .u8 5 w' b (rdl sz (ovs L ps)) ∧ Kp (fun _ => False) W w') := fun W k => read_at (HA7.out.kp k (fun _ _ h => h) (fun _ _ h => h)) s hnm fA hfA _ (by rw [hqA]; rfl) sz (by rw [hqA])
              have RB : ∀ W, Kp (fun _ => False) w7 W → Hid (Calls Try.prog 13 #[.pointer (some ⟨gb, 0, none⟩), .string s, .int .i64 0, .int .i64 268435456] W fun e w' => ∃ b, e = .returned (.tuple #[.slice (some ⟨b, 0, none⟩) sz sz, .int .i64 0]) ∧ W.heap.size ≤ b ∧ Rw .u8 5 w' b (rdl sz L) ∧ Kp (fun _ => False) W w') := fun W k => read_at (HB7.out.kp k (fun _ _ h => h) (fun _ _ h => h)) s hnm fB hfB _ (by rw [hqB]; rfl) sz (by rw [hqB])
              have RC : ∀ W, Kp (fun _ => False) w7 W → Hid (Calls Try.prog 13 #[.pointer (some ⟨gc', 0, none⟩), .string s, .int .i64 0, .int .i64 268435456] W fun e w' => ∃ b, e = .returned (.tuple #[.slice (some ⟨b, 0, none⟩) sz sz, .int .i64 0]) ∧ W.heap.size ≤ b ∧ Rw .u8 5 w' b (rdl sz (ovs L (pks us KC ps))) ∧ Kp (fun _ => False) W w') := fun W k => read_at (HC7.out.kp k (fun _ _ h => h) (fun _ _ h => h)) s hnm fC hfC _ (by rw [hqC]; rfl) sz (by rw [hqC])
              have RP : ∀ W, Kp (fun _ => False) w7 W → Hid (Calls Try.prog 14 #[.pointer (some ⟨g, 0, none⟩), .string s] W fun e w' => ∃ u, PiP W ps e w' u) := fun W k => by
                rw [hps]
                exact pieces_any s _ Dc f.2.1 f.2.2.sz f.2.2.L f.2.2.ps W ((HS7.out.kp k (fun _ _ h => h) (fun _ _ h => h)).fr f hff.1) (fun w1 k1 => (HS7.out.kp (k.trans k1 (fun _ _ h => h)) (fun _ _ h => h) (fun _ _ h => h)).file_some s hnm f hf)
              clear hqA hqB hqC hsz hL hps hfr hkk hff hf hfA hfB hfC hnm y0
              have YK : ∀ W, Kp (fun _ => False) w7 W → W.cell? ⟨gn', off + j, none⟩ = some (.string s) := fun W k => kp_cell k HX0.out (fun h => h)
              have y0 := YK wr HI.out.kp
              have YK' : Hid (∀ W, Kp (fun _ => False) w7 W → W.cell? ⟨gn', off + j, none⟩ = some (.string s)) := YK
              clear YK
              gi_wp2_with fail
              refine ⟨trivial, (callsIn_wide.2 (RS wr HI.out.kp).out).mono ?_⟩
              rintro e wa ⟨ba, rfl, hba, hra, ka⟩
              have KPA : Hid (Kp (fun _ => False) w7 (wa.alloc (.cells #[.slice (some ⟨ba, 0, none⟩) sz sz] 36))) := (HI.out.kp.trans ka (fun _ _ h => h)).alloc _
              have RWA : Hid (Rw .u8 5 (wa.alloc (.cells #[.slice (some ⟨ba, 0, none⟩) sz sz] 36)) ba (rdl sz (ovs L ps))) := hra.kp (F := fun _ => False) ((Kp.refl _ _).alloc _) (fun h => h)
              have STB : Hid (St 36 (wa.alloc (.cells #[.slice (some ⟨ba, 0, none⟩) sz sz] 36)) wa.heap.size #[.slice (some ⟨ba, 0, none⟩) sz sz]) := St.new 36 wa _
              have MRK : Hid (∀ D ∈ Ds, (wa.alloc (.cells #[.slice (some ⟨ba, 0, none⟩) sz sz] 36)).heap[D]? = some (.deferred (some []))) := fun D hD => (((ka.alloc _).block D (Array.getElem?_eq_some_iff.1 (HI.out.mr D hD).2).1 (fun h => h))).trans (HI.out.mr D hD).2
              have hsza : w7.heap.size ≤ wa.heap.size := (HI.out.kp.trans ka (fun _ _ h => h)).size
              have YA := YK'.out _ KPA.out
              clear hra ka RS
              gi_wp2_with fail
              generalize hWa : wa.alloc (.cells #[.slice (some ⟨ba, 0, none⟩) sz sz] 36) = Wa at KPA RWA STB MRK YA ⊢
              obtain ⟨Bn, hBn⟩ : ∃ Bn, Bn = wa.heap.size := ⟨_, rfl⟩
              rw [← hBn] at STB hsza ⊢
              clear hWa hBn y0
              refine ⟨trivial, (callsIn_wide.2 (RA Wa KPA.out).out).mono ?_⟩
              rintro e w8 ⟨bA, rfl, hbA, hrA, k8⟩
              have KP8 : Hid (Kp (fun _ => False) w7 w8) := KPA.out.trans k8 (fun _ _ h => h)
              have RWA8 : Hid (Rw .u8 5 w8 ba (rdl sz (ovs L ps))) := RWA.out.kp k8 (fun h => h)
              have RA8 : Hid (Rw .u8 5 w8 bA (rdl sz (ovs L ps))) := hrA
              have STB8 : Hid (St 36 w8 Bn #[.slice (some ⟨ba, 0, none⟩) sz sz]) := STB.out.kp k8 (fun h => h)
              have MRK8 : Hid (∀ D ∈ Ds, w8.heap[D]? = some (.deferred (some []))) := fun D hD => (k8.block D (Array.getElem?_eq_some_iff.1 (MRK.out D hD)).1 (fun h => h)).trans (MRK.out D hD)
              have Y8 := YK'.out _ KP8.out
              clear k8 hrA KPA RWA STB MRK YA RA
              gi_wp2_with fail
              refine ⟨trivial, (callsIn_wide.2 (RB w8 KP8.out).out).mono ?_⟩
              rintro e w9 ⟨bB, rfl, hbB, hrB, k9⟩
              have KP9 : Hid (Kp (fun _ => False) w7 w9) := KP8.out.trans k9 (fun _ _ h => h)
              have RWA9 : Hid (Rw .u8 5 w9 ba (rdl sz (ovs L ps))) := RWA8.out.kp k9 (fun h => h)
              have RA9 : Hid (Rw .u8 5 w9 bA (rdl sz (ovs L ps))) := RA8.out.kp k9 (fun h => h)
              have RB9 : Hid (Rw .u8 5 w9 bB (rdl sz L)) := hrB
              have STB9 : Hid (St 36 w9 Bn #[.slice (some ⟨ba, 0, none⟩) sz sz]) := STB8.out.kp k9 (fun h => h)
              have MRK9 : Hid (∀ D ∈ Ds, w9.heap[D]? = some (.deferred (some []))) := fun D hD => (k9.block D (Array.getElem?_eq_some_iff.1 (MRK8.out D hD)).1 (fun h => h)).trans (MRK8.out D hD)
              have Y9 := YK'.out _ KP9.out
              clear k9 hrB KP8 RWA8 RA8 STB8 MRK8 Y8 RB
              gi_wp2_with fail
              refine ⟨trivial, (callsIn_wide.2 (RC w9 KP9.out).out).mono ?_⟩
              rintro e wz ⟨bC, rfl, hbC, hrC, kz⟩
              have KPz : Hid (Kp (fun _ => False) w7 wz) := KP9.out.trans kz (fun _ _ h => h)
              have RWz : Hid (Rw .u8 5 wz ba (rdl sz (ovs L ps))) := RWA9.out.kp kz (fun h => h)
              have RAz : Hid (Rw .u8 5 wz bA (rdl sz (ovs L ps))) := RA9.out.kp kz (fun h => h)
              have RBz : Hid (Rw .u8 5 wz bB (rdl sz L)) := RB9.out.kp kz (fun h => h)
              have RCz : Hid (Rw .u8 5 wz bC (rdl sz (ovs L (pks us KC ps)))) := hrC
              have STBz : Hid (St 36 wz Bn #[.slice (some ⟨ba, 0, none⟩) sz sz]) := STB9.out.kp kz (fun h => h)
              have MRKz : Hid (∀ D ∈ Ds, wz.heap[D]? = some (.deferred (some []))) := fun D hD => (kz.block D (Array.getElem?_eq_some_iff.1 (MRK9.out D hD)).1 (fun h => h)).trans (MRK9.out D hD)
              have Yz := YK'.out _ KPz.out
              have cz0 : wz.cell? ⟨Bn, 0, none⟩ = some (.slice (some ⟨ba, 0, none⟩) sz sz) := STBz.out.cell 0
              have cvA : (convert 36 9 (.slice (some ⟨bA, 0, none⟩) sz sz)).run Try.prog wz = .ok (.string (strOfNums (rdl sz (ovs L ps)))) wz := cvw (rdl_len _ _) RAz.out.src
              have cvN : (convert 36 9 (.slice (some ⟨ba, 0, none⟩) sz sz)).run Try.prog wz = .ok (.string (strOfNums (rdl sz (ovs L ps)))) wz := cvw (rdl_len _ _) RWz.out.src
              clear kz hrC KP9 RWA9 RA9 RB9 STB9 MRK9 Y9 RC
              generalize strOfNums (rdl sz (ovs L ps)) = nows at cvA cvN
              gi_wp2_with fail
              refine ⟨trivial, (callsIn_wide.2 (RP wz KPz.out).out).mono ?_⟩
              rintro e wy ⟨pu, hpi⟩
              obtain ⟨rfl, hpst, hprow, ky⟩ := hpi
              obtain ⟨ua, uc, hpu⟩ := ownsRow_shape hprow
              subst hpu
              have hfe : ∀ w, (binOp .eql 40 (.func (.func 35) #[] #[.pointer (some ⟨wz.heap.size, 0, none⟩)]) .nilFunc).run Try.prog w = .ok (.bool false) w := fun _ => rfl
              have KPy : Hid (Kp (fun _ => False) w7 wy) := KPz.out.trans ky (fun _ _ h => h)
              have RWy : Hid (Rw .u8 5 wy ba (rdl sz (ovs L ps))) := RWz.out.kp ky (fun h => h)
              have RBy : Hid (Rw .u8 5 wy bB (rdl sz L)) := RBz.out.kp ky (fun h => h)
              have RCy : Hid (Rw .u8 5 wy bC (rdl sz (ovs L (pks us KC ps)))) := RCz.out.kp ky (fun h => h)
              have STBy : Hid (St 36 wy Bn #[.slice (some ⟨ba, 0, none⟩) sz sz]) := STBz.out.kp ky (fun h => h)
              have MRKy : Hid (∀ D ∈ Ds, wy.heap[D]? = some (.deferred (some []))) := fun D hD => (ky.block D (Array.getElem?_eq_some_iff.1 (MRKz.out D hD)).1 (fun h => h)).trans (MRKz.out D hD)
              have PST : Hid (St 82 wy wz.heap.size #[.slice ua ps.length uc]) := hpst
              have PRW : Hid (wy.ownsRow (wz.heap.size + 1) 44 2 (.slice ua ps.length uc) ps.length (plc (pln ps))) := hprow
              have cy0 : wy.cell? ⟨Bn, 0, none⟩ = some (.slice (some ⟨ba, 0, none⟩) sz sz) := STBy.out.cell 0
              generalize hBp : wz.heap.size = Bp at *
              have HBp : Hid (wz.heap.size = Bp) := hBp
              clear hpst hprow ky KPz RWz RAz RBz RCz STBz MRKz cz0 cvA cvN Yz hBp RP
              gi_wp2_with (first | (gi_at_make; refine wpListIn_make_tb rfl _ _ rfl sz rfl rfl hszb ?_; intro wt stt kt zt))
              have stb2 := St.new 42 wt #[.slice (some ⟨wy.heap.size, 0, none⟩) sz sz]
              have kt2 : Kp (fun _ => False) wy (wt.alloc (.cells #[.slice (some ⟨wy.heap.size, 0, none⟩) sz sz] 42)) := kt.alloc _
              have KPR : Hid (Kp (fun _ => False) w7 (wt.alloc (.cells #[.slice (some ⟨wy.heap.size, 0, none⟩) sz sz] 42))) := KPy.out.trans kt2 (fun _ _ h => h)
              have RWR : Hid (Rw .u8 5 (wt.alloc (.cells #[.slice (some ⟨wy.heap.size, 0, none⟩) sz sz] 42)) ba (rdl sz (ovs L ps))) := RWy.out.kp kt2 (fun h => h)
              have RBR : Hid (Rw .u8 5 (wt.alloc (.cells #[.slice (some ⟨wy.heap.size, 0, none⟩) sz sz] 42)) bB (rdl sz L)) := RBy.out.kp kt2 (fun h => h)
              have RCR : Hid (Rw .u8 5 (wt.alloc (.cells #[.slice (some ⟨wy.heap.size, 0, none⟩) sz sz] 42)) bC (rdl sz (ovs L (pks us KC ps)))) := RCy.out.kp kt2 (fun h => h)
              have STBR : Hid (St 36 (wt.alloc (.cells #[.slice (some ⟨wy.heap.size, 0, none⟩) sz sz] 42)) Bn #[.slice (some ⟨ba, 0, none⟩) sz sz]) := STBy.out.kp kt2 (fun h => h)
              have MRKR : Hid (∀ D ∈ Ds, (wt.alloc (.cells #[.slice (some ⟨wy.heap.size, 0, none⟩) sz sz] 42)).heap[D]? = some (.deferred (some []))) := fun D hD => (kt2.block D (Array.getElem?_eq_some_iff.1 (MRKy.out D hD)).1 (fun h => h)).trans (MRKy.out D hD)
              have PSTR : Hid (St 82 (wt.alloc (.cells #[.slice (some ⟨wy.heap.size, 0, none⟩) sz sz] 42)) Bp #[.slice ua ps.length uc]) := PST.out.kp kt2 (fun h => h)
              have PRWR : Hid ((wt.alloc (.cells #[.slice (some ⟨wy.heap.size, 0, none⟩) sz sz] 42)).ownsRow (Bp + 1) 44 2 (.slice ua ps.length uc) ps.length (plc (pln ps))) := by
                refine ⟨PRW.out.1, ?_⟩
                rcases PRW.out.2 with h1 | ⟨gg, cap, cur, h1, h2, h3, h4⟩
                · exact .inl h1
                · exact .inr ⟨gg, cap, cur, h1, h2, (kt2.block gg (Array.getElem?_eq_some_iff.1 h3).1 (fun h => h)).trans h3, h4⟩
              have STT : Hid (St 4 (wt.alloc (.cells #[.slice (some ⟨wy.heap.size, 0, none⟩) sz sz] 42)) wy.heap.size (tb sz (fun _ => false))) := stt.kp (F := fun _ => False) ((Kp.refl _ _).alloc _) (fun h => h)
              have SBX : Hid (St 42 (wt.alloc (.cells #[.slice (some ⟨wy.heap.size, 0, none⟩) sz sz] 42)) wt.heap.size #[.slice (some ⟨wy.heap.size, 0, none⟩) sz sz]) := stb2
              have HLT : Hid (Bn < wy.heap.size ∧ Bp < wy.heap.size ∧ ba < wy.heap.size ∧ bB < wy.heap.size ∧ bC < wy.heap.size ∧ wt.heap.size = wy.heap.size + 1 ∧ (∀ D ∈ Ds, D < wy.heap.size) ∧ (∀ gg, (Value.slice ua ps.length uc).ownBlock = some gg → gg < wy.heap.size) ∧ w7.heap.size ≤ wy.heap.size) := ⟨STBy.out.lt, PST.out.lt, RWy.out.lt, RBy.out.lt, RCy.out.lt, zt, fun D hD => (Array.getElem?_eq_some_iff.1 (MRKy.out D hD)).1, fun gg e => (PRW.out.lt gg e).2, KPy.out.size⟩
              generalize hWR : wt.alloc (.cells #[.slice (some ⟨wy.heap.size, 0, none⟩) sz sz] 42) = R at *
              have HZR : Hid (R.heap.size = wt.heap.size + 1) := by rw [← hWR]; exact World.size_alloc _ _
              clear hWR stb2 kt2 stt kt zt KPy RWy RBy RCy STBy MRKy PST PRW cy0 hfe
              generalize hbt : wy.heap.size = bt at *
              generalize hbx : wt.heap.size = Bx at *
              clear hbt hbx
              gi_wp2_with fail
              have hBx : Bx = bt + 1 := HLT.out.2.2.2.2.2.1
              subst hBx
              have hpl : (pln ps).length = ps.length := by simp [pln]
              have hZR : R.heap.size = bt + 1 + 1 := HZR.out
              have PC0 : R.cell? ⟨Bp, 0, none⟩ = some (.slice ua (pln ps).length uc) := by rw [hpl]; exact PSTR.out.cell 0
              have PR0 : R.ownsRow (Bp + 1) 44 2 (.slice ua (pln ps).length uc) (pln ps).length (plc (pln ps)) := by rw [hpl]; exact PRWR.out
              have HOB : Hid (∀ gg, (Value.slice ua (pln ps).length uc).ownBlock = some gg → gg < bt) := by rw [hpl]; exact HLT.out.2.2.2.2.2.2.2.1
              have HOB2 : Hid (∀ gg, (Value.slice ua ps.length uc).ownBlock = some gg → gg < bt) := HLT.out.2.2.2.2.2.2.2.1
              have HPQ : Hid (∀ q ∈ pln ps, 1 ≤ q.2 ∧ q.1 % 512 + q.2 ≤ 512 ∧ q.1 + q.2 ≤ sz) := by
                intro q hq
                obtain ⟨p, hp, rfl⟩ := List.mem_map.1 hq
                exact HPB.out p hp
              refine wpIn_rangeFunc_ownH rfl (by omega) (gf := 35) (lb := #[.pointer (some ⟨Bp, 0, none⟩)]) rfl trivial (enters_of Try.func35 (by kernel_rfl) rfl)
                (pieces_stops Fence.wide (8 - 1) trivial rfl (by omega) Bp (Bp + 1) ua uc (pln ps) (by omega) R PC0 PR0) (fun h1 h2 i hi => (h2 i hi).trans (h1 i hi)) (fun W l o o' hl _ _ _ i hi => World.putObj_heap_other (by have := HOB.out i hi; omega)) (Below.refl _ _) (fun _ => rfl)
                (fun (pre : List (Px (pln ps))) W => TcI R bt sz (pre.map (fun x : Px (pln ps) => x.1)) W) (fun _ _ _ => False)
                (fun pp A B row hs hg hr => hs.own hg hr) (fun cc pp A B row hs hg hr => hs) ⟨STT.out, Kp.refl _ _⟩
                (fun x a1 W => ∃ Bz, R.heap.size ≤ Bz ∧ St 44 W Bz #[.int .i64 (x.1.1 : Int), .int .i64 (x.1.2 : Int)] ∧ a1 = { tmps := #[Value.slice ga gn gc, Value.slice ao N cap, Value.slice pa pn pc, undef, undef, undef, Value.pointer (some { block := w.heap.size, off := 0 }), Value.pointer (some { block := g, off := 0 }), Value.slice va k vc, Value.int IntKind.i64 ↑k, Value.pointer (some { block := ga', off := 0 }), Value.int IntKind.i64 0, Value.pointer (some { block := gb, off := 0 }), Value.int IntKind.i64 0, Value.pointer (some { block := gc', off := 0 }), Value.int IntKind.i64 0, Value.slice (some { block := gn', off := off }) fs.length nc, Value.int IntKind.i64 ↑j, Value.pointer (some { block := Bn, off := 0 }), Value.int IntKind.i64 0, Value.slice (some { block := bA, off := 0 }) sz sz, Value.int IntKind.i64 0, Value.slice (some { block := bB, off := 0 }) sz sz, Value.int IntKind.i64 0, Value.slice (some { block := bC, off := 0 }) sz sz, Value.int IntKind.i64 0, Value.func (Fn.func 35) #[] #[Value.pointer (some { block := Bp, off := 0 })], Value.pointer (some { block := bt + 1, off := 0 }), .pointer (some ⟨Bz, 0, none⟩), x0 29, x0 30, Value.slice ga gn gc, Value.int IntKind.i64 ↑gn, Value.bool false, Value.bool false, Value.slice ao N cap, Value.bool false, Value.bool false, Value.bool false, Value.slice ga gn gc, Value.bool true, Value.bool false, Value.bool false, Value.bool false, Value.slice pa pn pc, Value.int IntKind.i64 ↑pn, Value.bool false, Value.bool false, undef, Value.slice ga gn gc, Value.slice ao N cap, Value.pointer (some { block := g, off := 0 }), Value.int IntKind.i64 ↑k, Value.pointer (some { block := g, off := 0 }), Value.int IntKind.i64 ↑(pnd fs), Value.bool false, u56, u57, u58, u59, u60, Value.tuple #[Value.pointer (some { block := ga', off := 0 }), Value.int IntKind.i64 0], Value.pointer (some { block := g, off := 0 }), Value.slice va k vc, Value.tuple #[Value.pointer (some { block := ga', off := 0 }), Value.int IntKind.i64 0], Value.pointer (some { block := ga', off := 0 }), Value.int IntKind.i64 0, Value.tuple #[Value.pointer (some { block := gb, off := 0 }), Value.int IntKind.i64 0], Value.pointer (some { block := g, off := 0 }), Value.tuple #[Value.pointer (some { block := gb, off := 0 }), Value.int IntKind.i64 0], Value.pointer (some { block := gb, off := 0 }), Value.int IntKind.i64 0, Value.tuple #[Value.pointer (some { block := gc', off := 0 }), Value.int IntKind.i64 0], Value.pointer (some { block := g, off := 0 }), Value.slice pa pn pc, Value.tuple #[Value.pointer (some { block := gc', off := 0 }), Value.int IntKind.i64 0], Value.pointer (some { block := gc', off := 0 }), Value.int IntKind.i64 0, Value.int IntKind.i64 0, Value.bool false, Value.bool false, Value.int IntKind.i64 0, Value.bool false, Value.bool false, Value.int IntKind.i64 0, Value.bool false, undef, undef, undef, undef, undef, Value.pointer (some { block := g, off := 0 }), Value.slice (some { block := gn', off := off }) fs.length nc, Value.int IntKind.i64 ↑j, Value.slice (some { block := gn', off := off }) fs.length nc, Value.int IntKind.i64 ↑fs.length, Value.bool true, x0 97, x0 98, Value.tuple #[Value.slice (some { block := ba, off := 0 }) sz sz, Value.int IntKind.i64 0], Value.pointer (some { block := g, off := 0 }), Value.slice (some { block := gn', off := off }) fs.length nc, Value.int IntKind.i64 ↑j, Value.pointer (some { block := gn', off := off + j }), Value.string s, Value.tuple #[Value.slice (some { block := ba, off := 0 }) sz sz, Value.int IntKind.i64 0], Value.slice (some { block := ba, off := 0 }) sz sz, Value.int IntKind.i64 0, Value.tuple #[Value.slice (some { block := bA, off := 0 }) sz sz, Value.int IntKind.i64 0], Value.pointer (some { block := ga', off := 0 }), Value.slice (some { block := gn', off := off }) fs.length nc, Value.int IntKind.i64 ↑j, Value.pointer (some { block := gn', off := off + j }), Value.string s, Value.tuple #[Value.slice (some { block := bA, off := 0 }) sz sz, Value.int IntKind.i64 0], Value.slice (some { block := bA, off := 0 }) sz sz, Value.int IntKind.i64 0, Value.tuple #[Value.slice (some { block := bB, off := 0 }) sz sz, Value.int IntKind.i64 0], Value.pointer (some { block := gb, off := 0 }), Value.slice (some { block := gn', off := off }) fs.length nc, Value.int IntKind.i64 ↑j, Value.pointer (some { block := gn', off := off + j }), Value.string s, Value.tuple #[Value.slice (some { block := bB, off := 0 }) sz sz, Value.int IntKind.i64 0], Value.slice (some { block := bB, off := 0 }) sz sz, Value.int IntKind.i64 0, Value.tuple #[Value.slice (some { block := bC, off := 0 }) sz sz, Value.int IntKind.i64 0], Value.pointer (some { block := gc', off := 0 }), Value.slice (some { block := gn', off := off }) fs.length nc, Value.int IntKind.i64 ↑j, Value.pointer (some { block := gn', off := off + j }), Value.string s, Value.tuple #[Value.slice (some { block := bC, off := 0 }) sz sz, Value.int IntKind.i64 0], Value.slice (some { block := bC, off := 0 }) sz sz, Value.int IntKind.i64 0, Value.int IntKind.i64 0, Value.bool false, Value.bool false, Value.int IntKind.i64 0, Value.bool false, Value.bool false, Value.bool false, Value.int IntKind.i64 0, Value.bool false, Value.bool false, Value.bool false, Value.int IntKind.i64 0, Value.bool false, Value.bool false, Value.bool false, Value.slice (some { block := bA, off := 0 }) sz sz, Value.string nows, Value.slice (some { block := ba, off := 0 }) sz sz, Value.string nows, Value.bool false, Value.bool false, Value.bool false, Value.slice (some { block := bB, off := 0 }) sz sz, Value.int IntKind.i64 ↑sz, Value.slice (some { block := ba, off := 0 }) sz sz, Value.int IntKind.i64 ↑sz, Value.bool false, Value.bool false, Value.bool false, Value.slice (some { block := bC, off := 0 }) sz sz, Value.int IntKind.i64 ↑sz, Value.slice (some { block := ba, off := 0 }) sz sz, Value.int IntKind.i64 ↑sz, Value.bool false, Value.bool false, Value.pointer (some { block := g, off := 0 }), Value.slice (some { block := gn', off := off }) fs.length nc, Value.int IntKind.i64 ↑j, Value.pointer (some { block := gn', off := off + j }), Value.string s, Value.func (Fn.func 35) #[] #[Value.pointer (some { block := Bp, off := 0 })], Value.func (Fn.func 35) #[] #[Value.pointer (some { block := Bp, off := 0 })], Value.bool false, Value.slice (some { block := ba, off := 0 }) sz sz, Value.int IntKind.i64 ↑sz, Value.slice (some { block := bt, off := 0 }) sz sz, Value.func (Fn.func 35) #[] #[Value.pointer (some { block := Bp, off := 0 })], .agg #[.int .i64 (x.1.1 : Int), .int .i64 (x.1.2 : Int)], x0 183, x0 184, x0 185, x0 186, x0 187, x0 188, x0 189, x0 190, x0 191, x0 192, x0 193, x0 194, x0 195, x0 196, x0 197, x0 198, x0 199, x0 200, x0 201, x0 202, x0 203, x0 204, x0 205, x0 206, x0 207, x0 208, x0 209, x0 210, x0 211, x0 212, x0 213, x0 214, x0 215, x0 216, x0 217, x0 218, x0 219, x0 220, x0 221, x0 222, x0 223, x0 224, x0 225, x0 226, x0 227, x0 228, x0 229, x0 230, x0 231, x0 232, x0 233, x0 234, x0 235, x0 236, x0 237, x0 238, x0 239, x0 240, x0 241, x0 242, x0 243, x0 244, x0 245, x0 246, x0 247, x0 248, x0 249, x0 250, x0 251, x0 252, x0 253, x0 254, x0 255, x0 256, x0 257, x0 258, x0 259, x0 260, undef, undef, undef, undef, undef, undef], defers := [] })
                (fun x a1 pp A B row hs hg hr => by
                  obtain ⟨Bz, q1, q2, q3⟩ := hs
                  exact ⟨Bz, q1, q2.turns (turns_own hg hr), q3⟩) ?assign ?body ?done (fun D c pre W hD hs hx => hx.elim)
              case assign =>
                intro l pre x W K hi hK
                dsimp only [penc]
                have hRW := hi.kp.size
                gi_wp2
                have t0 : TcI R bt sz (pre.map (fun x : Px (pln ps) => x.1)) (W.alloc (.cells #[.int .i64 (x.1.1 : Int), .int .i64 (x.1.2 : Int)] 44)) := hi.own (World.grownBy_alloc _ _ none) (fun r e => by cases e)
                exact hK _ _ ((KeepsOthers.alloc _ _).from _) (fun i hi2 => Below.heap_alloc W _ i (by have := HOB.out i hi2; omega)) t0 ⟨W.heap.size, hRW, St.new 44 W _, rfl⟩
              case body =>
                rintro lp pre x a1 W hl hlr hi ⟨Bz, hBz, sx, rfl⟩ hlen
                obtain ⟨⟨y, n1⟩, hx⟩ := x
                dsimp only at sx ⊢
                obtain ⟨h41, h42, h43⟩ := HPQ.out (y, n1) hx
                dsimp only at h41 h42 h43
                have HTI : Hid (TcI R bt sz (pre.map (fun x : Px (pln ps) => x.1)) W) := hi
                have x0 : W.cell? ⟨Bz, 0, none⟩ = some (.int .i64 y) := sx.cell 0
                have x1 : W.cell? ⟨Bz, 1, none⟩ = some (.int .i64 n1) := sx.cell 1
                have nb : W.cell? ⟨Bn, 0, none⟩ = some (.slice (some ⟨ba, 0, none⟩) sz sz) := (STBR.out.kp hi.kp (by have := HLT.out.1; omega)).cell 0
                have HSX : Hid (St 44 W Bz #[.int .i64 y, .int .i64 n1]) := sx
                have htb : W.cell? ⟨bt + 1, 0, none⟩ = some (.slice (some ⟨bt, 0, none⟩) sz sz) := (SBX.out.kp hi.kp (by omega)).cell 0
                obtain ⟨q, hq⟩ : ∃ q, q = y / 512 := ⟨_, rfl⟩
                have hq3 : (y : Int) / 512 = (q : Int) := by rw [hq]; omega
                have hq4 : ((y : Int) + (n1 : Int) - 1) / 512 = (q : Int) := by rw [hq]; omega
                have qr1 := quo512 (y : Int) q (by omega) (by omega) hq3
                have qr2 := quo512 ((y : Int) + (n1 : Int) - 1) q (by omega) (by omega) hq4
                have HQ3 : Hid (q = y / 512) := hq
                clear hq3 hq4 hq
                have hy0 : ¬ (y : Int) < 0 := by omega
                have hn0 : ¬ (n1 : Int) < 1 := by omega
                have hle : ¬ (sz : Int) < (y : Int) + (n1 : Int) := by omega
                have hRW := hi.kp.size
                clear hi sx
                gi_wp2_with fail
                have hbz : Bz ≠ bt := by omega
                have SB1 : Hid (St 42 W (bt + 1) #[.slice (some ⟨bt, 0, none⟩) sz sz]) := SBX.out.kp HTI.out.kp (by omega)
                have hW0 := HTI.out.st.lt
                clear x0 x1 nb htb qr1 qr2
                gi_loopw [29] (fun v wq => ∃ m : Nat, m ≤ n1 ∧ v = .int .i64 ((y + m : Nat) : Int) ∧ St 4 wq bt (tb sz (cvm (pre.map (fun x : Px (pln ps) => x.1)) (y, n1) m)) ∧ Kp (fun i => i = bt) W wq) (fun v _ => y + n1 - (intOf v).toNat)
                case atStart => exact ⟨0, Nat.zero_le _, rfl, by rw [cvm_zero]; exact HTI.out.st, Kp.refl _ _⟩
                case round =>
                  obtain ⟨m, hm, rfl, hst, hkq⟩ := hrel
                  have z0 : wr.cell? ⟨Bz, 0, none⟩ = some (.int .i64 y) := (HSX.out.kp hkq hbz).cell 0
                  have z1 : wr.cell? ⟨Bz, 1, none⟩ = some (.int .i64 n1) := (HSX.out.kp hkq hbz).cell 1
                  have z2 : wr.cell? ⟨bt + 1, 0, none⟩ = some (.slice (some ⟨bt, 0, none⟩) sz sz) := (SB1.out.kp hkq (by omega)).cell 0
                  have HKQ : Hid (Kp (fun i => i = bt) W wr) := hkq
                  have HSQ : Hid (St 4 wr bt (tb sz (cvm (pre.map (fun x : Px (pln ps) => x.1)) (y, n1) m))) := hst
                  by_cases hml : m < n1
                  · have hmi : ((y + m : Nat) : Int) < (y : Int) + (n1 : Int) := by omega
                    have z3 : wr.cell? ⟨bt, y + m, none⟩ = some (.bool (cvm (pre.map (fun x : Px (pln ps) => x.1)) (y, n1) m (y + m))) := (hst.cell (y + m)).trans (tb_get _ _ _ (by omega))
                    have z4 := hst.frozen (y + m)
                    have HNX : Hid (St 4 (wr.setCell ⟨bt, y + m, none⟩ (.bool true)) bt (tb sz (cvm (pre.map (fun x : Px (pln ps) => x.1)) (y, n1) (m + 1))) ∧ Kp (fun i => i = bt) W (wr.setCell ⟨bt, y + m, none⟩ (.bool true))) := by
                      refine ⟨?_, hkq.trans (kp_setCell wr bt (y + m) (.bool true) (fun i => i = bt) rfl) (fun _ _ h => h)⟩
                      have h1 : St 4 (wr.setCell ⟨bt, y + m, none⟩ (.bool true)) bt ((tb sz (cvm (pre.map (fun x : Px (pln ps) => x.1)) (y, n1) m)).setIfInBounds (y + m) (.bool true)) := hst.set (y + m) (.bool true)
                      rw [tb_set] at h1
                      rw [show cvm (pre.map (fun x : Px (pln ps) => x.1)) (y, n1) (m + 1) = _ from (cvm_succ _ (y, n1) m).symm]
                      exact h1
                    have hix : y + m < sz := by omega
                    clear hst hkq
                    generalize hc0 : cvm (pre.map (fun x : Px (pln ps) => x.1)) (y, n1) m (y + m) = cc0 at z3
                    clear hc0
                    gi_wp2_with fail
                    exact ⟨⟨m + 1, hml, by go_num, HNX.out.1, HNX.out.2⟩, by simp only [intOf]; omega⟩
                  · have hmi : ¬ ((y + m : Nat) : Int) < (y : Int) + (n1 : Int) := by omega
                    have hmn : m = n1 := by omega
                    subst hmn
                    clear hst hkq
                    gi_wp2_with fail
                    refine ⟨⟨HKQ.out.size, fun kk o _ hk ho => ?_⟩, fun i hi2 => HKQ.out.block i (by have := HOB2.out i hi2; omega) (by have := HOB2.out i hi2; omega), ?_, HTI.out.kp.trans HKQ.out (fun _ _ h => h)⟩
                    · have hne : kk ≠ bt := by
                        intro e
                        subst e
                        have h1 := HTI.out.st
                        unfold St at h1
                        rw [hk] at h1
                        cases h1
                        cases ho
                      exact (HKQ.out.block kk (Array.getElem?_eq_some_iff.1 hk).1 hne).trans hk
                    · have h1 := HSQ.out
                      rw [cvm_all _ (y, m)] at h1
                      rw [List.map_append]
                      exact h1
              intro Dd xs W2 hDd hxs hTI hDm
              rw [hxs] at hTI
              have HT2 : Hid (St 4 W2 bt (tb sz (cvd (pln ps)))) := hTI.st
              have hk2 : Kp (fun i => i = bt) R W2 := hTI.kp
              have KP2 : Hid (Kp (fun _ => False) w7 W2) := (KPR.out.mono (G := fun i => i = bt) (fun _ _ h => h.elim)).trans hk2 (fun _ _ h => h) |>.mono (fun i hi h => by have := HLT.out.2.2.2.2.2.2.2.2; omega)
              have RW2 : Hid (Rw .u8 5 W2 ba (rdl sz (ovs L ps))) := RWR.out.kp hk2 (by have := HLT.out.2.2.1; omega)
              have RB2 : Hid (Rw .u8 5 W2 bB (rdl sz L)) := RBR.out.kp hk2 (by have := HLT.out.2.2.2.1; omega)
              have RC2 : Hid (Rw .u8 5 W2 bC (rdl sz (ovs L (pks us KC ps)))) := RCR.out.kp hk2 (by have := HLT.out.2.2.2.2.1; omega)
              have SN2 : Hid (St 36 W2 Bn #[.slice (some ⟨ba, 0, none⟩) sz sz]) := STBR.out.kp hk2 (by have := HLT.out.1; omega)
              have SX2 : Hid (St 42 W2 (bt + 1) #[.slice (some ⟨bt, 0, none⟩) sz sz]) := SBX.out.kp hk2 (by omega)
              have MR2 : Hid (∀ D ∈ Ds, W2.heap[D]? = some (.deferred (some [])) ∧ D < R.heap.size) := fun D hD => ⟨(hk2.block D (Array.getElem?_eq_some_iff.1 (MRKR.out D hD)).1 (by have := HLT.out.2.2.2.2.2.2.1 D hD; omega)).trans (MRKR.out D hD), by have := HLT.out.2.2.2.2.2.2.1 D hD; omega⟩
              have MD2 : Hid (W2.heap[Dd]? = some (.deferred (some []))) := hDm
              have HEQ : Hid (∀ i, i < sz → cvd (pln ps) i = false → L i = ovs L ps i ∧ ovs L (pks us KC ps) i = ovs L ps i) := by
                intro i _ hcv
                have h1 := cvd_false hcv
                have h2 : ∀ p ∈ ps, ¬ (p.1 ≤ i ∧ i < p.1 + p.2.length) := fun p hp => h1 (p.1, p.2.length) (List.mem_map.2 ⟨p, hp, rfl⟩)
                rw [ovs_out L ps i h2, ovs_out L (pks us KC ps) i (fun p hp => h2 p (pks_sub us KC ps p hp))]
                exact ⟨rfl, rfl⟩
              have c18 : W2.cell? ⟨Bn, 0, none⟩ = some (.slice (some ⟨ba, 0, none⟩) sz sz) := SN2.out.cell 0
              have hWR2 := hk2.size
              clear hTI hk2 hDm hxs KPR RWR RBR RCR STBR MRKR PSTR PRWR STT SBX HOB HOB2 HPQ HPB
              gi_wp2_with fail
              clear c18
              gi_loopw [30] (fun v wq => ∃ m : Nat, m ≤ sz ∧ v = .int .i64 m ∧ Kp (fun _ => False) W2 wq) (fun v _ => sz - (intOf v).toNat)
              case atStart => exact ⟨0, Nat.zero_le _, rfl, Kp.refl _ _⟩
              case round =>
                obtain ⟨m, hm, rfl, hkq⟩ := hrel
                have HKQ : Hid (Kp (fun _ => False) W2 wr) := hkq
                have e18 : wr.cell? ⟨Bn, 0, none⟩ = some (.slice (some ⟨ba, 0, none⟩) sz sz) := (SN2.out.kp hkq (fun h => h)).cell 0
                by_cases hml : m < sz
                · have hmi : (m : Int) < (sz : Int) := by omega
                  have e27 : wr.cell? ⟨bt + 1, 0, none⟩ = some (.slice (some ⟨bt, 0, none⟩) sz sz) := (SX2.out.kp hkq (fun h => h)).cell 0
                  have et : wr.cell? ⟨bt, m, none⟩ = some (.bool (cvd (pln ps) m)) := ((HT2.out.kp hkq (fun h => h)).cell m).trans (tb_get _ _ _ hml)
                  have eB : wr.cell? ⟨bB, m, none⟩ = some (.int .u8 (L m)) := by
                    have := (RB2.out.kp hkq (fun h => h)).cell m (by rw [rdl_len]; exact hml)
                    rw [rdl_get _ _ _ hml] at this
                    exact this
                  have eA : wr.cell? ⟨ba, m, none⟩ = some (.int .u8 (ovs L ps m)) := by
                    have := (RW2.out.kp hkq (fun h => h)).cell m (by rw [rdl_len]; exact hml)
                    rw [rdl_get _ _ _ hml] at this
                    exact this
                  have eC : wr.cell? ⟨bC, m, none⟩ = some (.int .u8 (ovs L (pks us KC ps) m)) := by
                    have := (RC2.out.kp hkq (fun h => h)).cell m (by rw [rdl_len]; exact hml)
                    rw [rdl_get _ _ _ hml] at this
                    exact this
                  have hmix : Try.prog.follows .mixedOrders = true := by kernel_rfl
                  have KD : Hid (Kp (fun _ => False) W2 wr.drew) := hkq.drew
                  clear hkq
                  gi_wp2_with fail
                  cases hcv : cvd (pln ps) m with
                  | false =>
                    obtain ⟨q1, q2⟩ := HEQ.out m hml hcv
                    rw [hcv] at et
                    rw [q1] at eB
                    rw [q2] at eC
                    generalize ovs L ps m = z at eA eB eC
                    clear hcv q1 q2
                    refine wpIn_region_quietR hmix (by kernel_rfl) (by kernel_rfl) ?_
                    repeat (gi_big_quiet_step (fail))
                    refine wpQuietIn_nil ?_
                    intro _ hw'
                    obtain ⟨nq, hw2⟩ := hw'
                    subst hw2
                    generalize hX : wr.drewN nq = X
                    have HX : Hid (Kp (fun _ => False) W2 X) := HKQ.out.trans (by rw [← hX]; exact drewN_kp _ _ _) (fun _ _ h => h)
                    clear hX
                    gi_wp2_with fail
                    exact ⟨⟨m + 1, hml, rfl, HX.out⟩, by simp only [intOf]; omega⟩
                  | true =>
                    rw [hcv] at et
                    refine wpIn_region_quietR hmix (by kernel_rfl) (by kernel_rfl) ?_
                    repeat (gi_big_quiet_step (fail))
                    refine wpQuietIn_nil ?_
                    intro _ hw'
                    obtain ⟨nq, hw2⟩ := hw'
                    subst hw2
                    generalize hX : wr.drewN nq = X
                    have HX : Hid (Kp (fun _ => False) W2 X) := HKQ.out.trans (by rw [← hX]; exact drewN_kp _ _ _) (fun _ _ h => h)
                    clear hX
                    gi_wp2_with fail
                    exact ⟨⟨m + 1, hml, rfl, HX.out⟩, by simp only [intOf]; omega⟩
                · have hmi : ¬ (m : Int) < (sz : Int) := by omega
                  clear hkq
                  have HJX : Hid (CwR w7 fs.length (.int .i64 ((j : Int) + 1)) (mrk Dd :: Ds.map mrk) wr) := by
                    refine ⟨j + 1, Dd :: Ds, (by go_num), rfl, hjl, List.nodup_cons.2 ⟨fun hmem => ?_, HI.out.nd⟩, fun D hD => ?_, KP2.out.trans HKQ.out (fun _ _ h => h)⟩
                    · have := (MR2.out Dd hmem).2
                      omega
                    · rcases List.mem_cons.1 hD with h1 | h1
                      · subst h1
                        refine ⟨?_, (HKQ.out.block D (Array.getElem?_eq_some_iff.1 MD2.out).1 (fun h => h)).trans MD2.out⟩
                        have := HLT.out.2.2.2.2.2.2.2.2
                        omega
                      · exact ⟨(HI.out.mr D h1).1, (HKQ.out.block D (Array.getElem?_eq_some_iff.1 (MR2.out D h1).1).1 (fun h => h)).trans (MR2.out D h1).1⟩
                  gi_wp2_with fail
                  refine ⟨act_end HIV.out _ _ _ _ HJX.out (by kernel_rfl) rfl, ?_⟩
                  simp [intOf]
                  omega
            · have hji : ¬ (j : Int) < (fs.length : Int) := by omega
              gi_wp2_with fail
              refine ⟨trivial, (callsIn_wide.2 (pending_any Dc wr gc' fmc (.slice none 0 0) 0 fsc [] esc cc (HC7.out.kp HI.out.kp (fun _ _ h => h) (fun _ _ h => h)))).mono ?_⟩
              rintro e w8 ⟨rfl, k8⟩
              rw [pnd_left HMC.out]
              have K8 : Hid (Kp (fun _ => False) w7 w8) := HI.out.kp.trans k8 (fun _ _ h => h)
              have MR8 : Hid (∀ D ∈ Ds, w7.heap.size ≤ D ∧ w8.heap[D]? = some (.deferred (some []))) := fun D hD => ⟨(HI.out.mr D hD).1, (k8.block D (Array.getElem?_eq_some_iff.1 (HI.out.mr D hD).2).1 (fun h => h)).trans (HI.out.mr D hD).2⟩
              have ND : Hid Ds.Nodup := HI.out.nd
              clear k8 HI
              gi_wp2_with fail
              refine ⟨trivial, (callsIn_wide.2 (known_any w8)).mono ?_⟩
              rintro e w9 ⟨rfl, k9⟩
              have K9 : Hid (Kp (fun _ => False) w7 w9) := K8.out.trans k9 (fun _ _ h => h)
              have MR9 : Hid (∀ D ∈ Ds, w7.heap.size ≤ D ∧ w9.heap[D]? = some (.deferred (some []))) := fun D hD => ⟨(MR8.out D hD).1, (k9.block D (Array.getElem?_eq_some_iff.1 (MR8.out D hD).2).1 (fun h => h)).trans (MR8.out D hD).2⟩
              have st := STw7.out.kp K9.out (fun h => h)
              have fz := st.frozen 0
              have cz : w9.cell? ⟨w.heap.size, 0, none⟩ = some (.bool false) := st.cell 0
              have hlt7 := STw7.out.lt
              have HT : Hid (St 4 (w9.setCell ⟨w.heap.size, 0, none⟩ (.bool true)) w.heap.size #[.bool true]) := by show St 4 _ _ _; have := st.set 0 (.bool true); simpa using this
              have kset := kp_setCell w9 w.heap.size 0 (.bool true) (fun i => i = w.heap.size) rfl
              have MRT : Hid (∀ D ∈ Ds, (w9.setCell ⟨w.heap.size, 0, none⟩ (.bool true)).heap[D]? = some (.deferred (some []))) := fun D hD => (kset.block D (Array.getElem?_eq_some_iff.1 (MR9.out D hD).2).1 (by have := (MR9.out D hD).1; omega)).trans (MR9.out D hD).2
              have KT : Hid (Kp (fun _ => False) w (w9.setCell ⟨w.heap.size, 0, none⟩ (.bool true))) := kp_res (Nat.le_refl _) Kw7.out K9.out _
              clear st k9 kset
              gi_wp2_with fail
              refine leaves_marks Ds _ MRT.out ND.out (fun w' k => fin3 rfl ?_ ⟨rfl, ?_⟩)
              · exact (HT.out.kp k (fun hm => by have := (MR9.out _ hm).1; omega)).cell 0
              · exact (KT.out.mono (G := fun i => i ∈ Ds) (fun _ _ h => h.elim)).trans k (fun _ _ h => h) |>.mono (fun i hi hm => by have := (MR9.out _ hm).1; omega)
          · refine ⟨trivial, (callsIn_wide.2 (crash_badw Db w5 g fm fv steps fs ft es c HS5.out pa us pn pc H2.out (by omega) hz HT5.out)).mono ?_⟩
            rintro e w6 ⟨rfl, h6⟩
            replace h6 := h6.symm
            subst h6
            gi_wp2_with fail
            repeat (rename_i hk; refine ⟨trivial, hk _ _ ?_⟩; clear hk; gi_wp2_with fail)
            refine ⟨trivial, (callsIn_wide.2 (known_any w5)).mono ?_⟩
            rintro e w' ⟨rfl, k2⟩
            have K2 : Hid (Kp (fun _ => False) w5 w') := k2
            have st := STw5.out.kp k2 (fun h => h)
            have fz := st.frozen 0
            have cz : w'.cell? ⟨w.heap.size, 0, none⟩ = some (.bool false) := st.cell 0
            have HT : Hid (St 4 (w'.setCell ⟨w.heap.size, 0, none⟩ (.bool true)) w.heap.size #[.bool true]) := by show St 4 _ _ _; have := st.set 0 (.bool true); simpa using this
            clear st k2
            gi_wp2_with fail
            exact fin3 rfl (HT.out.cell 0) ⟨rfl, kp_res (Nat.le_refl _) Kw5.out K2.out _⟩
end Go.Proofs.Ytalicohflfildaa
