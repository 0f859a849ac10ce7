/- regions: Take, Copy. -/
import Derived.Test.YtopnfjgkgoeleaaTk
import Derived.Test.YtopnfjgkgoeleaaAc
namespace Go.Proofs.Ytopnfjgkgoeleaa
open Go.RowKit
set_option linter.unusedVariables false
set_option linter.unusedSimpArgs false
/-- What a change leaves of regions that writes no room. -/
def Cht (w : World) (B : Nat) (ao : Option Addr) (n c : Nat) (L' : List Rn) (w' : World) : Prop := ∃ ao' c', Rg w' B ao' c' L' ∧ Kp (fun k => k = B) w w' ∧ Fro ao n c ao' L'.length c' w.heap.size
theorem Cht.same {w w' : World} {B : Nat} {ao : Option Addr} {c : Nat} {L : List Rn} (h : Rg w B ao c L) (b : Below w.heap.size w w') : Cht w B ao L.length c L w' := ⟨ao, c, h.below b, Kp.of_below b, Fro.refl _ _ _ _⟩
theorem Cht.mk' {w w5 : World} {B : Nat} {ao ao' : Option Addr} {c c' : Nat} {L L' : List Rn} (h : Rg w B ao c L) (hl : Lst w5 ao' c' L') (hs : Srt L') (hn : L'.length ≤ 65536) (k : Kp (fun _ => False) w w5) (hf : Fro ao L.length c ao' L'.length c' w.heap.size) : Cht w B ao L.length c L' (w5.setCell ⟨B, 1, none⟩ (.slice ao' L'.length c')) := by
  have hb5 : Rb w5 B (.slice ao L.length c) := St.kp h.rb k (fun x => x)
  have kk := kp_setCell w5 B 1 (.slice ao' L'.length c') (fun i => i = B) rfl
  exact ⟨ao', c', ⟨St.set hb5 1 _, hl.setB hb5, hs, hn⟩, (k.mono (fun i _ x => x.elim)).trans kk (fun i _ e => e), hf⟩
/-- What Take tells and leaves. -/
def tkX (L : List Rn) (p : Int) : Rn := if bgn L p = true then L.getD (bey L p) zRn else zRn
def tkL (L : List Rn) (p : Int) : List Rn := if bgn L p = true then wo L (bey L p) else L
def tkE (L : List Rn) (p : Int) : Int := if bgn L p = true then 0 else 7
def TkR (w : World) (B : Nat) (ao : Option Addr) (c : Nat) (L : List Rn) (p : Int) (e : Ending) (w' : World) : Prop := e = .returned (.tuple #[.agg (tkX L p).cs, .int .i64 (tkE L p)]) ∧ Cht w B ao L.length c (tkL L p) w'
theorem bgn_lt {L : List Rn} {p : Int} (h : bgn L p = true) : bey L p < L.length ∧ (L.getD (bey L p) zRn).a = p := by unfold bgn at h; simp only [Bool.and_eq_true, decide_eq_true_eq, beq_iff_eq] at h; exact h
set_option maxRecDepth 100000 in
set_option maxHeartbeats 4000000 in
theorem take_any (w : World) (B : Nat) (ao : Option Addr) (c : Nat) (L : List Rn) (p : Int) (h : Rg w B ao c L) : Calls Try.prog 27 #[.pointer (some ⟨B, 0, none⟩), .int .i64 p] w (TkR w B ao c L p) := by
  have HNO : Hid (∀ W, Below w.heap.size w W → Calls Try.prog 30 #[.pointer (some ⟨B, 0, none⟩)] W fun e w' => e = .returned (.bool false) ∧ W = w') := fun W hW => none_yes B _ W (h.below hW).rb
  have HBG : Hid (∀ W, Below w.heap.size w W → Calls Try.prog 52 #[.slice ao L.length c, .int .i64 p] W fun e w' => e = .returned (.tuple #[.int .i64 ((bey L p : Nat) : Int), .bool (bgn L p)]) ∧ Below W.heap.size W w') := fun W hW => begins_any L ao L.length c p W rfl h.lst.2.1 h.len (h.below hW).lst.1 h.srt
  have HC1 : Hid (∀ W, Below w.heap.size w W → W.cell? ⟨B, 1, none⟩ = some (.slice ao L.length c)) := fun W hW => St.cell (h.below hW).rb 1
  have hBw := St.lt h.rb
  obtain ⟨q, hq⟩ : ∃ q, q = w.heap.size := ⟨_, rfl⟩
  have b0 : Below w.heap.size w (w.alloc (.cells #[.int .i64 0, .int .i64 0, .int .i64 0] 46)) := (Below.refl _ _).alloc (Nat.le_refl _) _
  have r0 := Rn.B.new w zRn
  have z0 : (w.alloc (.cells #[.int .i64 0, .int .i64 0, .int .i64 0] 46)).heap.size = w.heap.size + 1 := World.size_alloc _ _
  change Rn.B (w.alloc (.cells #[.int .i64 0, .int .i64 0, .int .i64 0] 46)) w.heap.size zRn at r0
  cases hbg : bgn L p with
  | false =>
    have HR : Hid (∀ W, Below w.heap.size w W → TkR w B ao c L p (.returned (.tuple #[.agg zRn.cs, .int .i64 7])) W) := fun W hW => by
      unfold TkR tkX tkE tkL
      rw [hbg]
      exact ⟨rfl, Cht.same h hW⟩
    rw [hbg] at HBG
    generalize bey L p = bb at HBG
    obtain ⟨n, hn⟩ : ∃ n, n = L.length := ⟨_, rfl⟩
    rw [← hn] at HBG HC1
    clear hbg h hn
    go_enter Try.func27, Try.ntmps27
    generalize hC : Code.region 1 _ _ = C9
    go_wp2_with fail
    subst hC
    rw [← hq] at z0 r0 ⊢
    have HQ := hid hq
    clear hq
    generalize w.alloc (.cells #[.int .i64 0, .int .i64 0, .int .i64 0] 46) = W0 at *
    have c1 := HC1.out W0 b0
    have B0 := hid b0
    clear b0
    go_wp2_with (first | (go_at_call 30; refine (HNO.out _ B0.out).mono ?_; rintro e w1 ⟨rfl, rfl⟩) | (go_at_call 52; refine (HBG.out _ B0.out).mono ?_; rintro e w2 ⟨rfl, b2⟩; have r2 := r0.below b2 (by omega)) | (refine wpList_store_r rfl _ _ rfl _ rfl (e' := zRn) rfl r2 ?_; intro w4 s4 k4))
    refine bodyPost_ret (results_cell_tmp2 Try.results27 _ _ _ rfl rfl (Rn.B.load s4)) rfl ?_
    refine HR.out _ ?_
    exact bel_kp (B0.out.trans (b2.mono (by have := HQ.out; omega))) k4 (by have := b2.size; have := HQ.out; omega) (fun i e => by have := HQ.out; omega)
  | true =>
    obtain ⟨hbl, hba⟩ := bgn_lt hbg
    rw [hbg] at HBG
    obtain ⟨x, hx⟩ : ∃ x, x = L.getD (bey L p) zRn := ⟨_, rfl⟩
    obtain ⟨gb, off, rfl, hgb, _⟩ := h.lst.1.at hbl
    have HXC : Hid (∀ W, Below w.heap.size w W → W.cell? ⟨gb, off + bey L p * 3, none⟩ = some (.int .i64 x.k) ∧ W.cell? ⟨gb, off + bey L p * 3 + 1, none⟩ = some (.int .i64 x.a) ∧ W.cell? ⟨gb, off + bey L p * 3 + 2, none⟩ = some (.int .i64 x.n)) := fun W hW => by
      obtain ⟨g2, o2, e2, _, y⟩ := (h.below hW).lst.1.at hbl
      cases e2
      rw [hx]
      exact y
    have HWO : Hid (∀ W, Below w.heap.size w W → q < W.heap.size → Calls Try.prog 53 #[.slice (some ⟨gb, off, none⟩) L.length c, .int .i64 ((bey L p : Nat) : Int)] W fun e w5 => ∃ (ao' : Option Addr) (n' c' : Nat), e = .returned (.slice ao' n' c') ∧ Kp (fun _ => False) W w5 ∧ w5.cell? ⟨B, 1, none⟩ = some (.slice (some ⟨gb, off, none⟩) L.length c) ∧ w5.frozen? ⟨B, 1, none⟩ = false ∧ ∀ Wx, Kp (fun i => i = q) (w5.setCell ⟨B, 1, none⟩ (.slice ao' n' c')) Wx → Cht w B (some ⟨gb, off, none⟩) L.length c (tkL L p) Wx) := fun W hW hqW => (without_any L _ L.length c (bey L p) W rfl (h.below hW).lst h.len hbl).mono fun e w5 ⟨ao', c', h1, h2, h3, h4⟩ => by
      have hb5 : Rb w5 B (.slice (some ⟨gb, off, none⟩) L.length c) := St.kp (h.below hW).rb h3 (fun x => x)
      refine ⟨ao', _, c', h1, h3, St.cell hb5 1, St.frozen hb5 1, fun Wx kx => ?_⟩
      have htl : tkL L p = wo L (bey L p) := by unfold tkL; rw [if_pos hbg]
      have hwl := wo_len hbl
      rw [htl]
      have ch := Cht.mk' h h2 (wo_srt h.srt _) (by rw [hwl]; have := h.len; omega) ((Kp.of_below (F := fun _ => False) hW).trans h3 (fun _ _ x => x)) (by rw [hwl]; exact h4.lower hW.size)
      rw [hwl] at ch
      obtain ⟨a2, c2, g1, g2, g3⟩ := ch
      have e2 : a2 = ao' ∧ c2 = c' := by
        have y1 := St.cell g1.rb 1
        have y2 := St.cell (St.set hb5 1 (.slice ao' (L.length - 1) c')) 1
        rw [y1] at y2
        simp at y2
        exact ⟨y2.1, y2.2.2⟩
      obtain ⟨rfl, rfl⟩ := e2
      refine ⟨a2, c2, g1.kp kx (by omega) ?_, g2.trans kx (fun i hi e => by omega), g3⟩
      rintro b' o' rfl _ rfl
      rcases h4 b' o' rfl with h5 | ⟨⟨o3, h5⟩, _⟩
      · omega
      · cases h5; omega
    have HR : Hid (∀ W, Cht w B (some ⟨gb, off, none⟩) L.length c (tkL L p) W → TkR w B (some ⟨gb, off, none⟩) c L p (.returned (.tuple #[.agg x.cs, .int .i64 0])) W) := fun W hW => by
      unfold TkR tkX tkE
      rw [hbg, hx]
      exact ⟨rfl, hW⟩
    have hnc := h.lst.2.1
    have hn6 := h.len
    obtain ⟨n, hn⟩ : ∃ n, n = L.length := ⟨_, rfl⟩
    rw [← hn] at HBG HC1 HWO HR hnc hn6 hbl
    generalize bey L p = bb at *
    clear hbg h hn hx hba
    go_enter Try.func27, Try.ntmps27
    generalize hC : Code.region 1 _ _ = C9
    go_wp2_with fail
    subst hC
    rw [← hq] at z0 r0 ⊢
    have HQ := hid hq
    clear hq
    generalize w.alloc (.cells #[.int .i64 0, .int .i64 0, .int .i64 0] 46) = W0 at *
    have c1 := HC1.out W0 b0
    have B0 := hid b0
    clear b0
    go_wp2_with (first | (go_at_call 30; refine (HNO.out _ B0.out).mono ?_; rintro e w1 ⟨rfl, rfl⟩) | (go_at_call 52; refine (HBG.out _ B0.out).mono ?_; rintro e w2 ⟨rfl, b2⟩; have r2 := r0.below b2 (by omega); have hs2 := b2.size; have B2 : Hid (Below w.heap.size w w2) := B0.out.trans (b2.mono (by have := HQ.out; omega)); clear b2 c1; have c2 := HC1.out w2 B2.out; obtain ⟨x0, x1, x2⟩ := HXC.out w2 B2.out) | (refine wpList_store_r rfl _ _ rfl _ rfl (e' := x) rfl (Rn.B.new w2 zRn) ?_; intro w3 s3 k3; have b3 : Below w2.heap.size w2 w3 := ((Below.refl _ w2).alloc (Nat.le_refl _) _).trans (k3.below (by rw [World.size_alloc]; omega) (fun i e => by omega)); have r3 := r2.below b3 (by omega); have hs3 := b3.size; have B3 : Hid (Below w.heap.size w w3) := B2.out.trans (b3.mono B2.out.size); obtain ⟨t, ht⟩ : ∃ t, t = w2.heap.size := ⟨_, rfl⟩; rw [← ht] at s3 ⊢; have HT := hid ht; clear ht k3 b3 x0 x1 x2 c2; have c3 := HC1.out w3 B3.out) | (go_at_call 53; refine (HWO.out w3 B3.out (by omega)).mono ?_; rintro e w5 ⟨ao', n', c', rfl, k5, y1, f1, HX5⟩; have H5 := hid HX5; have ks := kp_setCell w5 B 1 (.slice ao' n' c') (fun i => i = B) rfl; have sA := (s3.kp k5 (fun x => x)).kp ks (by have := HT.out; have := B2.out.size; omega); have rA := (r3.kp k5 (fun x => x)).kp ks (by have := HQ.out; omega); clear HX5 c3 ks) | (refine wpList_load_r rfl _ rfl _ rfl sA ?_) | (refine wpList_store_r rfl _ _ rfl _ rfl (e' := x) rfl rA ?_; intro w7 s7 k7))
    refine bodyPost_ret (results_cell_tmp2 Try.results27 _ _ _ rfl rfl (Rn.B.load s7)) rfl ?_
    exact HR.out _ (H5.out _ k7)
end Go.Proofs.Ytopnfjgkgoeleaa
