/- regions: Move. -/
import Derived.Test.YtopnfjgkgoeleaaOb
import Derived.Test.YtopnfjgkgoeleaaCy
namespace Go.Proofs.Ytopnfjgkgoeleaa
open Go.RowKit
set_option linter.unusedVariables false
set_option linter.unusedSimpArgs false
/-- What without leaves; its room is new. -/
def WoS (L : List Rn) (i : Nat) (ao : Option Addr) (c : Nat) (w : World) (e : Ending) (w' : World) : Prop :=
  ∃ ao' c', e = .returned (.slice ao' (L.length - 1) c') ∧ Lst w' ao' c' (wo L i) ∧ Kp (fun _ => False) w w' ∧ Fro ao L.length c ao' (L.length - 1) c' w.heap.size ∧ ∀ k, Rmb ao' (L.length - 1) c' k → w.heap.size ≤ k
set_option maxRecDepth 100000 in
set_option maxHeartbeats 4000000 in
theorem without_new (L : List Rn) (ao : Option Addr) (n c i : Nat) (w : World) (hn : n = L.length) (hL : Lst w ao c L) (hl : L.length ≤ 65536) (hi : i < n) : Calls Try.prog 53 #[.slice ao n c, .int .i64 (i : Int)] w (WoS L i ao c w) := by
  obtain ⟨b, off, rfl, hb, hc⟩ := hL.1 (by omega)
  have hc1 := hL.2.1
  have hc2 := hL.2.2.1
  unfold maxLen at hc2
  have HCU : Hid (∀ W, Calls Try.prog 31 #[.slice (some ⟨b, off, none⟩) n c, .int .i64 (i : Int)] W fun e w' => (e = .returned (.slice (some ⟨b, off, none⟩) i i)) ∧ W = w') := fun W => cut_any _ n c i W (by omega) (by omega) hc2 (fun e => by cases e)
  have hti : (L.take i).length = i := by rw [List.length_take]; omega
  have hw1 : IntKind.i64.wrap ((i : Int) + 1) = ((i + 1 : Nat) : Int) := by rw [IntKind.wrap_i64]; omega
  have hz1 : (0 : Int) ≤ (i : Int) + 1 := by omega
  by_cases hlast : i + 1 = n
  · have HF : Hid (∀ W, Kp (fun _ => False) w W → WoS L i (some ⟨b, off, none⟩) c w (.returned (.slice (some ⟨b, off, none⟩) i i)) W) := fun W hk => by
      refine ⟨_, i, by rw [← hn, ← hlast]; rfl, ?_, hk, ?_, fun k hr => absurd hr.1 (by omega)⟩
      · have : wo L i = L.take i := by unfold wo; rw [List.drop_eq_nil_of_le (by omega), List.append_nil]
        rw [this]
        exact (hL.cut i (by omega)).kp hk (fun _ _ _ _ x => x)
      · rw [← hn, show n - 1 = i by omega]; exact Fro.cut _ _ _ _ _ (by have := hL.2.1; omega)
    have hap : ∀ (ty : Nat) (bo : Option Addr) (cb : Nat), (Builtin.append_ #[73, 73] ty #[.slice (some ⟨b, off, none⟩) i i, .slice bo 0 cb]).run Try.prog w.drew = .ok (.slice (some ⟨b, off, none⟩) i i) w.drew := fun ty bo cb => app_none ⟨b, off, none⟩ bo i cb ty w.drew
    have hz2 : i + 1 - (i + 1) = 0 := by omega
    have hkd : Hid (Kp (fun _ => False) w w.drew) := (Kp.refl _ _).drew
    subst hlast
    by_cases hcb : c = i + 1
    · subst hcb
      clear hn hL hl hc hti hb hc1 hc2
      go_enter Try.func53, Try.ntmps53
      go_wp2_with fail
      go_region_law (first | (refine step_append_run rfl _ _ 73 73 rfl _ _ (by simp [Act.eval, Act.put]) (by simp [Act.eval, Act.put]) (hap _ _ _) ?_) | (refine step_call2 31 rfl _ _ _ rfl _ _ _ (by simp [Act.eval, Act.put]) (by simp [Act.eval, Act.put]) enter31 (HCU.out _) ?_))
      go_wp2_with fail
      go_ret
      exact HF.out _ hkd.out
    · clear hn hL hl hc hti hb
      go_enter Try.func53, Try.ntmps53
      go_wp2_with fail
      go_region_law (first | (refine step_append_run rfl _ _ 73 73 rfl _ _ (by simp [Act.eval, Act.put]) (by simp [Act.eval, Act.put]) (hap _ _ _) ?_) | (refine step_call2 31 rfl _ _ _ rfl _ _ _ (by simp [Act.eval, Act.put]) (by simp [Act.eval, Act.put]) enter31 (HCU.out _) ?_))
      go_wp2_with fail
      go_ret
      exact HF.out _ hkd.out
  · have hcl := hL.cut i (by omega)
    have hdl : (L.drop (i + 1)).length = n - (i + 1) := by rw [List.length_drop, hn]
    have hsd : Srcr w.drew (some ⟨b, off + (i + 1) * 3, none⟩) (L.drop (i + 1)) := hL.1.drop (i + 1) (by omega)
    have hcd : Lst w.drew (some ⟨b, off, none⟩) i (L.take i) := hcl.kp (F := fun _ => False) (Kp.refl _ _).drew (fun _ _ _ _ x => x)
    obtain ⟨g, c', w', hr, h1, h2, h3⟩ := app_run (t2 := 73) (ty := 73) Try.underlying73 (L.take i) (L.drop (i + 1)) (some ⟨b, off, none⟩) (some ⟨b, off + (i + 1) * 3, none⟩) i (c - (i + 1)) w.drew hcd hsd (by rw [hti, hdl]; omega) (by omega)
    rw [hti, hdl] at hr
    have hsum : i + (n - (i + 1)) = n - 1 := by omega
    rw [hsum] at hr
    have hF : Hid (WoS L i (some ⟨b, off, none⟩) c w (.returned (.slice (some ⟨g, 0, none⟩) (n - 1) c')) w') := by
      refine ⟨_, c', by rw [hn], h1, ?_, ?_, ?_⟩
      · refine ((Kp.refl (fun _ => False) w).drew).trans h2 (fun k _ hk => ?_)
        rw [hti] at hk
        exact absurd hk.1 (by omega)
      · rw [hti] at h3
        rcases h3 with h3 | h3
        · exact absurd h3.1 (by omega)
        · intro k o e
          cases e
          exact Or.inl h3
      · rintro k ⟨_, o, e⟩
        cases e
        rw [hti] at h3
        rcases h3 with h3 | h3
        · exact absurd h3.1 (by omega)
        · exact h3
    have hci : ¬ (c = i + 1) := by omega
    have hz3 : i + 1 ≤ n := by omega
    have hz4 : (i : Int) + 1 ≤ (n : Int) := by omega
    clear hn hL hl hc hti hb h1 h2 h3 hcl hdl hsd hcd
    go_enter Try.func53, Try.ntmps53
    go_wp2_with fail
    go_region_law (first | (refine step_append_run rfl _ _ 73 73 rfl _ _ (by simp [Act.eval, Act.put]) (by simp [Act.eval, Act.put]) hr ?_) | (refine step_call2 31 rfl _ _ _ rfl _ _ _ (by simp [Act.eval, Act.put]) (by simp [Act.eval, Act.put]) enter31 (HCU.out _) ?_))
    go_wp2_with fail
    go_ret
    exact hF.out
/-- What Move tells and leaves. -/
def mvY (L : List Rn) (p t : Int) : Rn := ⟨(L.getD (bey L p) zRn).k, t, (L.getD (bey L p) zRn).n⟩
def mvE (L : List Rn) (p t : Int) : Int := if bgn L p = true then (if mayb (mvY L p t) = true then plE (wo L (bey L p)) (mvY L p t) else 2) else 7
def mvL (L : List Rn) (p t : Int) : List Rn := if mvE L p t = 0 then ins (wo L (bey L p)) (mvY L p t) else L
def MvR (w : World) (B : Nat) (ao : Option Addr) (c : Nat) (L : List Rn) (p t : Int) (e : Ending) (w' : World) : Prop := e = .returned (.int .i64 (mvE L p t)) ∧ Cht w B ao L.length c (mvL L p t) w'
theorem wth1 (L : List Rn) (y : Rn) : wth L [y] = if plE L y = 0 then (ins L y, 1, 0) else (L, 0, plE L y) := by simp [wth]
set_option maxRecDepth 100000 in
set_option maxHeartbeats 4000000 in
theorem move_any (w : World) (B : Nat) (ao : Option Addr) (c : Nat) (L : List Rn) (p t : Int) (h : Rg w B ao c L) (ht6 : I6 t) : Calls Try.prog 29 #[.pointer (some ⟨B, 0, none⟩), .int .i64 p, .int .i64 t] w (MvR w B ao c L p t) := by
  have HNO := hid (none_yes B _ w h.rb)
  have HBG : Hid (Calls Try.prog 52 #[.slice ao L.length c, .int .i64 p] w fun e w' => e = .returned (.tuple #[.int .i64 ((bey L p : Nat) : Int), .bool (bgn L p)]) ∧ Below w.heap.size w w') := begins_any L ao L.length c p w rfl h.lst.2.1 h.len h.lst.1 h.srt
  have HC1 : Hid (∀ W, Below w.heap.size w W → W.cell? ⟨B, 1, none⟩ = some (.slice ao L.length c)) := fun W hW => St.cell (h.below hW).rb 1
  have c1 := HC1.out w (Below.refl _ _)
  have hBw := St.lt h.rb
  cases hbg : bgn L p with
  | false =>
    have HR : Hid (∀ W, Below w.heap.size w W → MvR w B ao c L p t (.returned (.int .i64 7)) W) := fun W hW => by
      have e : mvE L p t = 7 := by unfold mvE; rw [hbg]; rfl
      unfold MvR mvL
      rw [e, if_neg (by omega)]
      exact ⟨rfl, Cht.same h hW⟩
    rw [hbg] at HBG
    generalize bey L p = bb at HBG
    generalize L.length = n at HBG c1
    clear hbg h HC1
    go_enter Try.func29, Try.ntmps29
    go_wp2_with (first | (go_at_call 30; refine HNO.out.mono ?_; rintro e w1 ⟨rfl, rfl⟩) | (go_at_call 52; refine HBG.out.mono ?_; rintro e w2 ⟨rfl, b2⟩))
    go_ret
    exact HR.out _ b2
  | true =>
    obtain ⟨hbl, hba⟩ := bgn_lt hbg
    rw [hbg] at HBG
    obtain ⟨x, hx⟩ : ∃ x, x = L.getD (bey L p) zRn := ⟨_, rfl⟩
    have hxm : Mayr x := by rw [hx]; exact h.srt.may hbl
    obtain ⟨gb, off, rfl, hgb, _⟩ := h.lst.1.at hbl
    have HXC : Hid (∀ W, Below w.heap.size w W → W.cell? ⟨gb, off + bey L p * 3, none⟩ = some (.int .i64 x.k) ∧ W.cell? ⟨gb, off + bey L p * 3 + 1, none⟩ = some (.int .i64 x.a) ∧ W.cell? ⟨gb, off + bey L p * 3 + 2, none⟩ = some (.int .i64 x.n)) := fun W hW => by
      obtain ⟨g2, o2, e2, _, y⟩ := (h.below hW).lst.1.at hbl
      cases e2
      rw [hx]
      exact y
    have hy : mvY L p t = ⟨x.k, t, x.n⟩ := by unfold mvY; rw [hx]
    have hE : mvE L p t = if mayb ⟨x.k, t, x.n⟩ = true then plE (wo L (bey L p)) ⟨x.k, t, x.n⟩ else 2 := by unfold mvE; rw [if_pos hbg, hy]
    have hLL : mvL L p t = if mvE L p t = 0 then ins (wo L (bey L p)) ⟨x.k, t, x.n⟩ else L := by unfold mvL; rw [hy]
    have hwl := wo_len hbl
    have hws := wo_srt h.srt (bey L p)
    have HMY : Hid (∀ W, Calls Try.prog 47 #[.agg #[.int .i64 x.k, .int .i64 t, .int .i64 x.n]] W fun e w' => e = .returned (.bool (mayb ⟨x.k, t, x.n⟩)) ∧ Below W.heap.size W w') := fun W => may_any ⟨x.k, t, x.n⟩ W (by have := hxm.i6; unfold Rn.i6 at *; unfold I6 at ht6; exact ⟨this.1, ht6, this.2.2⟩)
    have HSM : Hid (mvE L p t ≠ 0 → ∀ W, Below w.heap.size w W → MvR w B (some ⟨gb, off, none⟩) c L p t (.returned (.int .i64 (mvE L p t))) W) := fun hne W hW => by
      unfold MvR
      rw [hLL, if_neg hne]
      exact ⟨rfl, Cht.same h hW⟩
    have HOK : Hid (mvE L p t = 0 → ∀ W, Cht w B (some ⟨gb, off, none⟩) L.length c (ins (wo L (bey L p)) ⟨x.k, t, x.n⟩) W → MvR w B (some ⟨gb, off, none⟩) c L p t (.returned (.int .i64 0)) W) := fun he W hW => by
      unfold MvR
      rw [hLL, if_pos he, he]
      exact ⟨rfl, hW⟩
    have HWO : Hid (∀ W, Below w.heap.size w W → Calls Try.prog 53 #[.slice (some ⟨gb, off, none⟩) L.length c, .int .i64 ((bey L p : Nat) : Int)] W fun e w5 => ∃ (ao' : Option Addr) (c' : Nat), e = .returned (.slice ao' (L.length - 1) c') ∧ Below W.heap.size W w5 ∧ Hid (Lst w5 ao' c' (wo L (bey L p))) ∧ Hid (Fro (some ⟨gb, off, none⟩) L.length c ao' (L.length - 1) c' w.heap.size) ∧ Hid (∀ k, Rmb ao' (L.length - 1) c' k → ∀ V : World, Below V.heap.size V W → V.heap.size ≤ k) ∧ Hid (∀ vb cs, St 46 W vb cs → St 46 w5 vb cs ∧ ∀ k, Rmb ao' (L.length - 1) c' k → k ≠ vb)) := fun W hW => (without_new L _ L.length c (bey L p) W rfl (h.below hW).lst h.len hbl).mono fun e w5 ⟨ao', c', h1, h2, h3, h4, h5⟩ => ⟨ao', c', h1, h3.below (Nat.le_refl _) (fun _ x => x.elim), h2, h4.lower hW.size, fun k hk V hV => Nat.le_trans hV.size (h5 k hk), fun vb cs hv => ⟨hv.kp h3 (fun x => x), fun k hk e => by have := h5 k hk; have := hv.lt; omega⟩⟩
    have HWT : Hid (mayb ⟨x.k, t, x.n⟩ = true → ∀ (W : World) (vb : Nat) (ao' : Option Addr) (c' : Nat), Below w.heap.size w W → Lst W ao' c' (wo L (bey L p)) → St 46 W vb #[.int .i64 x.k, .int .i64 t, .int .i64 x.n] → (∀ k, Rmb ao' (L.length - 1) c' k → k ≠ vb) → (∀ k, Rmb ao' (L.length - 1) c' k → w.heap.size ≤ k) → Fro (some ⟨gb, off, none⟩) L.length c ao' (L.length - 1) c' w.heap.size → Calls Try.prog 48 #[.slice ao' (L.length - 1) c', .slice (some ⟨vb, 0, none⟩) 1 1] W fun e w6 => ∃ (ao6 : Option Addr) (n6 c6 : Nat) (m6 : Value), e = .returned (.tuple #[.slice ao6 n6 c6, m6, .int .i64 (plE (wo L (bey L p)) ⟨x.k, t, x.n⟩)]) ∧ (∀ V : World, Below V.heap.size V W → (∀ k, Rmb ao' (L.length - 1) c' k → V.heap.size ≤ k) → Below V.heap.size V w6) ∧ Below w.heap.size w w6 ∧ (plE (wo L (bey L p)) ⟨x.k, t, x.n⟩ = 0 → Cht w B (some ⟨gb, off, none⟩) L.length c (ins (wo L (bey L p)) ⟨x.k, t, x.n⟩) (w6.setCell ⟨B, 1, none⟩ (.slice ao6 n6 c6)))) := fun hmy W vb ao' c' hW hl hv hne hge hf => by
      have hw := with_any (wo L (bey L p)) [⟨x.k, t, x.n⟩] ao' (some ⟨vb, 0, none⟩) (L.length - 1) c' 1 1 W hwl.symm rfl hl hws (by rw [hwl]; have := h.len; omega) (vsrc (x := ⟨x.k, t, x.n⟩) hv) (Nat.le_refl _) (by omega) (fun z hz => by simp at hz; rw [hz]; exact (mayb_iff _).1 hmy) (fun b o e hr => by cases e; exact hne _ hr rfl)
      refine hw.mono fun e w6 ⟨ao6, c6, h1, h2, h3, h4⟩ => ?_
      rw [hwl] at h3 h4
      have hb6 : Below w.heap.size w w6 := hW.trans (h3.below hW.size (fun k hk => hge k hk))
      refine ⟨ao6, (wth (wo L (bey L p)) [⟨x.k, t, x.n⟩]).1.length, c6, .int .i64 (((wth (wo L (bey L p)) [⟨x.k, t, x.n⟩]).2.1 : Nat) : Int), ?_, fun V hV hVk => hV.trans (h3.below hV.size (fun k hk => hVk k hk)), hb6, fun he => ?_⟩
      · have e2 : (wth (wo L (bey L p)) [⟨x.k, t, x.n⟩]).2.2 = plE (wo L (bey L p)) ⟨x.k, t, x.n⟩ := by
          rw [wth1]
          by_cases h0 : plE (wo L (bey L p)) ⟨x.k, t, x.n⟩ = 0
          · rw [if_pos h0, h0]
          · rw [if_neg h0]
        rw [h1, e2]
      · have e1 : (wth (wo L (bey L p)) [⟨x.k, t, x.n⟩]).1 = ins (wo L (bey L p)) ⟨x.k, t, x.n⟩ := by rw [wth1, if_pos he]
        rw [e1] at h2 h4 ⊢
        have hm := (mayb_iff _).1 hmy
        exact Cht.mk' h h2 (ins_srt hws hm he (by rw [hwl]; have := h.len; omega)) (by rw [ins_len, hwl]; have := h.len; omega) ⟨hb6.os, hb6.tape, hb6.output, hb6.size, fun i hi _ => hb6.block i hi⟩ (hf.trans h4 hW.size)
    have hnc := h.lst.2.1
    have hn6 := h.len
    have HFZ : Hid (∀ W, Below w.heap.size w W → W.frozen? ⟨B, 1, none⟩ = false) := fun W hW => St.frozen (h.below hW).rb 1
    have hpc := plE_cases (wo L (bey L p)) ⟨x.k, t, x.n⟩
    have HLT : Hid (∀ W (ao' : Option Addr) (c' k : Nat), Lst W ao' c' (wo L (bey L p)) → Rmb ao' (L.length - 1) c' k → k < W.heap.size) := fun W ao' c' k hl hr => hl.rmb_lt (by rw [hwl]; exact hr)
    obtain ⟨n, hn⟩ : ∃ n, n = L.length := ⟨_, rfl⟩
    rw [← hn] at HBG HC1 HWO HWT HOK hnc hn6 hbl c1 HLT
    generalize hn1 : n - 1 = n1 at HWO HWT HLT
    generalize wo L (bey L p) = M at *
    generalize bey L p = bb at *
    clear hbg h hn hba hwl hws hn1 hy
    obtain ⟨yk, ya, yn⟩ := x
    dsimp only at *
    clear hx hxm hLL
    cases hmy : mayb ⟨yk, t, yn⟩ with
    | false =>
      rw [hmy] at HMY hE
      simp only [Bool.false_eq_true, if_false] at hE
      rw [hE] at HSM
      clear hE HWT HWO HOK
      go_enter Try.func29, Try.ntmps29
      go_wp2_with (first | (go_at_call 30; refine HNO.out.mono ?_; rintro e w1 ⟨rfl, rfl⟩) | (go_at_call 52; refine HBG.out.mono ?_; rintro e w2 ⟨rfl, b2⟩; have B2 := hid b2; clear b2 c1; have c2 := HC1.out w2 B2.out; obtain ⟨x0, x1, x2⟩ := HXC.out w2 B2.out) | (refine wpList_store_r rfl _ _ rfl _ rfl (e' := ⟨yk, ya, yn⟩) rfl (Rn.B.new w2 zRn) ?_; intro w3 s3 k3; have b3 : Below w2.heap.size w2 w3 := ((Below.refl _ w2).alloc (Nat.le_refl _) _).trans (k3.below (by rw [World.size_alloc]; omega) (fun i e => by omega)); have B3 : Hid (Below w.heap.size w w3) := B2.out.trans (b3.mono B2.out.size); obtain ⟨r, hr⟩ : ∃ r, r = w2.heap.size := ⟨_, rfl⟩; rw [← hr] at s3 ⊢; have HR := hid hr; clear hr k3 b3 x0 x1 x2 c2; have y1 : w3.cell? ⟨r, 1, none⟩ = some (.int .i64 ya) := s3.cell 1; have f1 := St.frozen s3 1; have sA : Rn.B (w3.setCell ⟨r, 1, none⟩ (.int .i64 t)) r ⟨yk, t, yn⟩ := St.set s3 1 (.int .i64 t); have BA : Hid (Below w.heap.size w (w3.setCell ⟨r, 1, none⟩ (.int .i64 t))) := bel_kp B3.out (kp_setCell w3 r 1 (.int .i64 t) (fun k => k = r) rfl) B3.out.size (fun k e => by have := HR.out; have := B2.out.size; omega)) | (refine wpList_load_r rfl _ rfl _ rfl sA ?_) | (go_at_call 47; refine (HMY.out _).mono ?_; rintro e w4 ⟨rfl, b4⟩))
      go_ret
      exact HSM.out (by omega) _ (BA.out.trans (b4.mono BA.out.size))
    | true =>
      rw [hmy] at HMY hE
      simp only [if_true] at hE
      have HWT := hid (HWT.out hmy)
      rw [hE] at HSM HOK
      clear hE
      generalize plE M ⟨yk, t, yn⟩ = er at *
      go_enter Try.func29, Try.ntmps29
      go_wp2_with (first | (go_at_call 30; refine HNO.out.mono ?_; rintro e w1 ⟨rfl, rfl⟩) | (go_at_call 52; refine HBG.out.mono ?_; rintro e w2 ⟨rfl, b2⟩; have B2 := hid b2; clear b2 c1; have c2 := HC1.out w2 B2.out; obtain ⟨x0, x1, x2⟩ := HXC.out w2 B2.out) | (refine wpList_store_r rfl _ _ rfl _ rfl (e' := ⟨yk, ya, yn⟩) rfl (Rn.B.new w2 zRn) ?_; intro w3 s3 k3; have b3 : Below w2.heap.size w2 w3 := ((Below.refl _ w2).alloc (Nat.le_refl _) _).trans (k3.below (by rw [World.size_alloc]; omega) (fun i e => by omega)); have B3 : Hid (Below w.heap.size w w3) := B2.out.trans (b3.mono B2.out.size); obtain ⟨r, hr⟩ : ∃ r, r = w2.heap.size := ⟨_, rfl⟩; rw [← hr] at s3 ⊢; have HR := hid hr; clear hr k3 b3 x0 x1 x2 c2; have y1 : w3.cell? ⟨r, 1, none⟩ = some (.int .i64 ya) := s3.cell 1; have f1 := St.frozen s3 1; have sA : Rn.B (w3.setCell ⟨r, 1, none⟩ (.int .i64 t)) r ⟨yk, t, yn⟩ := St.set s3 1 (.int .i64 t); have BA : Hid (Below w.heap.size w (w3.setCell ⟨r, 1, none⟩ (.int .i64 t))) := bel_kp B3.out (kp_setCell w3 r 1 (.int .i64 t) (fun k => k = r) rfl) B3.out.size (fun k e => by have := HR.out; have := B2.out.size; omega)) | (refine wpList_load_r rfl _ rfl _ rfl sA ?_) | (go_at_call 47; refine (HMY.out _).mono ?_; rintro e W3 ⟨rfl, b4⟩))
      have B4 : Hid (Below w.heap.size w W3) := BA.out.trans (b4.mono BA.out.size)
      have s4 := sA.below b4 sA.lt
      have hr4 : r < W3.heap.size := s4.lt
      clear b4 sA BA y1 f1 B3 s3
      have c4 := HC1.out W3 B4.out
      have y0 : W3.cell? ⟨r, 0, none⟩ = some (.int .i64 yk) := s4.cell 0
      have y1 : W3.cell? ⟨r, 1, none⟩ = some (.int .i64 t) := s4.cell 1
      have y2 : W3.cell? ⟨r, 2, none⟩ = some (.int .i64 yn) := s4.cell 2
      have cc : (fun U : World => U.cell? ⟨B, 1, none⟩ = some (.slice (some ⟨gb, off, none⟩) n c) ∧ U.cell? ⟨r, 0, none⟩ = some (.int .i64 yk) ∧ U.cell? ⟨r, 1, none⟩ = some (.int .i64 t) ∧ U.cell? ⟨r, 2, none⟩ = some (.int .i64 yn)) W3.drew := ⟨c4, y0, y1, y2⟩
      have HKE : Hid (∀ U, Below W3.heap.size W3 U → (fun U : World => U.cell? ⟨B, 1, none⟩ = some (.slice (some ⟨gb, off, none⟩) n c) ∧ U.cell? ⟨r, 0, none⟩ = some (.int .i64 yk) ∧ U.cell? ⟨r, 1, none⟩ = some (.int .i64 t) ∧ U.cell? ⟨r, 2, none⟩ = some (.int .i64 yn)) U) := fun U hU => ⟨HC1.out U (B4.out.trans (hU.mono B4.out.size)), (s4.below hU hr4).cell 0, (s4.below hU hr4).cell 1, (s4.below hU hr4).cell 2⟩
      have HFN : Hid (∀ U : World, Below W3.heap.size W3 U → Below w.heap.size w U) := fun U hU => B4.out.trans (hU.mono B4.out.size)
      have H0 : Hid (Below W3.heap.size W3 W3.drew) := ⟨rfl, rfl, rfl, Nat.le_refl _, fun _ _ => rfl⟩
      have HAL : Hid (∀ (U : World) (ob : Obj), Below W3.heap.size W3 U → Below W3.heap.size W3 (U.alloc ob)) := fun U ob h => h.alloc h.size ob
      have HTR : Hid (∀ U V : World, Below W3.heap.size W3 U → Below U.heap.size U V → Below W3.heap.size W3 V) := fun U V h k => h.trans (k.mono h.size)
      have HW3S : Hid (w.heap.size ≤ W3.heap.size) := B4.out.size
      clear c4 y0 y1 y2 s4
      go_region_held3 (fun U : World => U.cell? ⟨B, 1, none⟩ = some (.slice (some ⟨gb, off, none⟩) n c) ∧ U.cell? ⟨r, 0, none⟩ = some (.int .i64 yk) ∧ U.cell? ⟨r, 1, none⟩ = some (.int .i64 t) ∧ U.cell? ⟨r, 2, none⟩ = some (.int .i64 yn)) (first | exact cc | exact cd6 | exact cd | exact HKE.out _ (HAL.out _ _ H0.out) | exact HKE.out _ (HAL.out _ _ B5.out)) (first | (go_at_call 53; refine (HWO.out _ (HFN.out _ (by first | exact H0.out | exact HAL.out _ _ H0.out))).mono ?_; rintro e w5 ⟨ao', c', rfl, b5, L5, F5, N5, K5⟩; have B5 : Hid (Below W3.heap.size W3 w5) := HTR.out _ _ (by first | exact H0.out | exact HAL.out _ _ H0.out) b5; have cd := HKE.out w5 B5.out; have N6 : Hid (∀ k, Rmb ao' n1 c' k → W3.heap.size ≤ k) := fun k hk => N5.out k hk W3 (by first | exact H0.out | exact HAL.out _ _ H0.out); clear b5) | (go_at_call 48; refine (HWT.out _ _ ao' c' ?_ ?_ ?_ ?_ (fun k hk => Nat.le_trans HW3S.out (N6.out k hk)) F5.out).mono ?_; (first | exact HFN.out _ B5.out | exact HFN.out _ (HAL.out _ _ B5.out)); (first | exact L5.out | exact L5.out.below ((Below.refl _ _).alloc (Nat.le_refl _) _)); (first | exact (K5.out _ _ (St.new 46 W3.drew _)).1 | exact St.new 46 w5 _); (first | exact (K5.out _ _ (St.new 46 W3.drew #[.int .i64 yk, .int .i64 t, .int .i64 yn])).2 | exact (fun k hk => Nat.ne_of_lt (HLT.out w5 ao' c' k L5.out hk))); rintro e w6 ⟨ao6, n6, c6, m6, rfl, bV, b6, h6⟩; have B6 := hid b6; have H6 := hid h6; have cd6 := HKE.out w6 (bV W3 (by first | exact B5.out | exact HAL.out _ _ B5.out) N6.out); clear b6 h6 cd bV))
      all_goals
        (
          have c6' := HC1.out w6 B6.out
          have f6 := HFZ.out w6 B6.out
          by_cases h0 : er = 0
          · subst h0
            have HC6 := hid (H6.out rfl)
            go_wp2_with fail
            go_ret
            exact HOK.out (by first | trivial | rfl) _ HC6.out
          · go_wp2_with fail
            go_ret
            exact HSM.out h0 _ B6.out
        )
end Go.Proofs.Ytopnfjgkgoeleaa
