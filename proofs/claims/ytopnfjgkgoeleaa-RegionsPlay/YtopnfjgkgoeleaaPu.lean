/- regions: Put. -/
import Derived.Test.YtopnfjgkgoeleaaWj
import Derived.Test.YtopnfjgkgoeleaaAs
namespace Go.Proofs.Ytopnfjgkgoeleaa
open Go.RowKit
set_option linter.unusedVariables false
set_option linter.unusedSimpArgs false
def allM (M : List Rn) : Bool := M.all mayb
theorem allM_may {M : List Rn} (h : allM M = true) : ∀ x ∈ M, Mayr x := fun x hx => (mayb_iff x).1 (List.all_eq_true.1 h x hx)
/-- What Put makes of them. -/
def puL (L M : List Rn) : List Rn := if allM M = true then (wth L M).1 else L
def puN (L M : List Rn) : Nat := if allM M = true then (wth L M).2.1 else 0
def puE (L M : List Rn) : Int := if allM M = true then (wth L M).2.2 else 2
/-- What a change leaves of regions. -/
def Chg (w : World) (B : Nat) (ao : Option Addr) (n c : Nat) (L' : List Rn) (w' : World) : Prop := ∃ ao' c', Rg w' B ao' c' L' ∧ Kp (fun k => k = B ∨ Rmb ao n c k) w w' ∧ Fro ao n c ao' L'.length c' w.heap.size
theorem Rg.ne {w : World} {B : Nat} {ao : Option Addr} {c : Nat} {L : List Rn} (h : Rg w B ao c L) : ¬ Rmb ao L.length c B := by
  rintro ⟨h1, off, e⟩
  obtain ⟨g, cur, e2, hg, _⟩ := h.lst.2.2.2.2 h1
  rw [e] at e2
  cases e2
  have := h.rb
  unfold Rb St at this
  rw [hg] at this
  simp at this
theorem Fro.lower {ao ao' : Option Addr} {n c n' c' S S' : Nat} (h : Fro ao n c ao' n' c' S') (hs : S ≤ S') : Fro ao n c ao' n' c' S := fun k off e => (h k off e).elim (fun h => Or.inl (by omega)) Or.inr
theorem Lst.setB {w : World} {B : Nat} {ao bo : Option Addr} {c n' c' : Nat} {L : List Rn} {v : Value} (h : Lst w ao c L) (hb : Rb w B (.slice bo n' c')) : Lst (w.setCell ⟨B, 1, none⟩ v) ao c L := by
  have kk := kp_setCell w B 1 v (fun i => i = B) rfl
  refine ⟨fun hp => ?_, h.2.1, h.2.2.1, h.2.2.2.1, fun hl => ?_⟩
  · obtain ⟨b, off, e, hbl, x0, _⟩ := h.1.at (i := 0) hp
    have hne : b ≠ B := by
      rintro rfl
      rw [St.cell hb] at x0
      rcases hk : off + 0 * 3 with _ | _ | k
      · rw [hk] at x0; simp at x0
      · rw [hk] at x0; simp at x0
      · rw [hk] at x0; simp at x0
    obtain ⟨b', off', e', hb', hc⟩ := h.1 hp
    rw [e] at e'
    cases e'
    exact ⟨b, off, e, Nat.lt_of_lt_of_le hb' kk.size, fun j u hu => kp_cell kk (hc j u hu) hne⟩
  · obtain ⟨g, cur, e, hg, hs⟩ := h.2.2.2.2 hl
    refine ⟨g, cur, e, (kk.block g (Array.getElem?_eq_some_iff.1 hg).1 ?_).trans hg, hs⟩
    rintro rfl
    unfold Rb St at hb
    rw [hg] at hb
    simp at hb
/-- The list is laid anew. -/
theorem Chg.mk' {w w5 : World} {B : Nat} {ao ao' : Option Addr} {c c' : Nat} {L L' : List Rn} (h : Rg w B ao c L) (hl : Lst w5 ao' c' L') (hs : Srt L') (hn : L'.length ≤ 65536) (k : Kp (Rmb ao L.length c) w w5) (hf : Fro ao L.length c ao' L'.length c' w.heap.size) : Chg w B ao L.length c L' (w5.setCell ⟨B, 1, none⟩ (.slice ao' L'.length c')) := by
  have hb5 : Rb w5 B (.slice ao L.length c) := St.kp h.rb k h.ne
  have kk := kp_setCell w5 B 1 (.slice ao' L'.length c') (fun i => i = B) rfl
  exact ⟨ao', c', ⟨St.set hb5 1 _, hl.setB hb5, hs, hn⟩, (k.mono (fun i _ x => Or.inr x)).trans kk (fun i _ e => Or.inl e), hf⟩
theorem Chg.same {w w' : World} {B : Nat} {ao : Option Addr} {c : Nat} {L : List Rn} (h : Rg w B ao c L) (b : Below w.heap.size w w') : Chg w B ao L.length c L w' := ⟨ao, c, h.below b, Kp.of_below b, Fro.refl _ _ _ _⟩
/-- What Put leaves. -/
def PuR (w : World) (B : Nat) (ao : Option Addr) (c : Nat) (L M : List Rn) (e : Ending) (w' : World) : Prop := e = .returned (.tuple #[.int .i64 ((puN L M : Nat) : Int), .int .i64 (puE L M)]) ∧ Chg w B ao L.length c (puL L M) w'
set_option maxRecDepth 100000 in
set_option maxHeartbeats 4000000 in
theorem put_any (w : World) (B : Nat) (ao bo : Option Addr) (c m cb : Nat) (L M : List Rn) (h : Rg w B ao c L) (hm : m = M.length) (hmc : m ≤ cb) (hm6 : m ≤ 1000000) (hi6 : ∀ x ∈ M, x.i6) (hM : Srcr w bo M) (hap : ∀ b off, bo = some ⟨b, off, none⟩ → ¬ Rmb ao L.length c b) :
    Calls Try.prog 21 #[.pointer (some ⟨B, 0, none⟩), .slice bo m cb] w (PuR w B ao c L M) := by
  have HG := hid h
  have HNO := hid (none_yes B _ w h.rb)
  have HWT : Hid (allM M = true → ∀ W, Below w.heap.size w W → Calls Try.prog 48 #[.slice ao L.length c, .slice bo m cb] W (WthR L M ao c W)) := fun ha W hW => with_any L M ao bo L.length c m cb W rfl hm (h.below hW).lst h.srt h.len (hM.below hW) hmc hm6 (allM_may ha) (fun b off e => hap b off e)
  have HC1 : Hid (∀ W, Below w.heap.size w W → W.cell? ⟨B, 1, none⟩ = some (.slice ao L.length c)) := fun W hW => St.cell (h.below hW).rb 1
  have HMS : Hid (∀ W, Below w.heap.size w W → Srcr W bo M) := fun W hW => hM.below hW
  have HM := hid hm
  have HI6 := hid hi6
  have HFN : Hid (∀ W e w5, Below w.heap.size w W → allM M = true → WthR L M ao c W e w5 → ∃ (ao' : Option Addr) (n' c' : Nat), e = .returned (.tuple #[.slice ao' n' c', .int .i64 ((puN L M : Nat) : Int), .int .i64 (puE L M)]) ∧ w5.cell? ⟨B, 1, none⟩ = some (.slice ao L.length c) ∧ w5.frozen? ⟨B, 1, none⟩ = false ∧ Chg w B ao L.length c (puL L M) (w5.setCell ⟨B, 1, none⟩ (.slice ao' n' c'))) := fun W e w5 hW ha ⟨ao', c', h1, h2, h3, h4⟩ => by
    have hp : puL L M = (wth L M).1 := by unfold puL; rw [if_pos ha]
    have hq := wth_ok (r := M) h.srt (allM_may ha) h.len
    have hb5 : Rb w5 B (.slice ao L.length c) := St.kp (h.below hW).rb h3 h.ne
    refine ⟨ao', (wth L M).1.length, c', by rw [h1]; simp [puN, puE, ha], St.cell hb5 1, St.frozen hb5 1, ?_⟩
    rw [hp]
    refine Chg.mk' h h2 hq.1 hq.2 ?_ (h4.lower hW.size)
    exact (Kp.of_below (F := Rmb ao L.length c) hW).trans h3 (fun _ _ x => x)
  have HSM : Hid (allM M = false → ∀ W, Below w.heap.size w W → PuR w B ao c L M (.returned (.tuple #[.int .i64 0, .int .i64 2])) W) := fun ha W hW => ⟨by simp [puN, puE, ha], by unfold puL; rw [ha]; exact Chg.same h hW⟩
  have HPR : Hid (∀ W, Chg w B ao L.length c (puL L M) W → PuR w B ao c L M (.returned (.tuple #[.int .i64 ((puN L M : Nat) : Int), .int .i64 (puE L M)])) W) := fun W hW => ⟨rfl, hW⟩
  obtain ⟨n, hn⟩ : ∃ n, n = L.length := ⟨_, rfl⟩
  rw [← hn] at HWT HC1 HFN HPR
  clear hn h hM hap hi6 hm HG
  go_enter Try.func21, Try.ntmps21
  go_wp2_with (first | (go_at_call 30; refine HNO.out.mono ?_; rintro e w0 ⟨rfl, rfl⟩))
  go_loopw [15] (fun i wr => ∃ k : Nat, k ≤ m ∧ i = .int .i64 (k : Int) ∧ Hid (Below w.heap.size w wr) ∧ Hid (∀ t, t < k → mayb (M.getD t zRn) = true)) (fun i _ => m - (intOf i).toNat)
  case atStart => exact ⟨0, Nat.zero_le _, rfl, Below.refl _ _, fun t ht => by omega⟩
  case round =>
    obtain ⟨k, hk, rfl, HB, HT⟩ := hrel
    by_cases hlt : k < m
    · obtain ⟨gb, off, rfl, hgb, x0, x1, x2⟩ := (HMS.out _ HB.out).at (i := k) (by have := HM.out; omega)
      have HX6 := hid (HI6.out _ (gd_mem (i := k) (by have := HM.out; omega)))
      obtain ⟨x, hx⟩ : ∃ x, x = M.getD k zRn := ⟨_, rfl⟩
      rw [← hx] at x0 x1 x2 HX6
      have HX := hid hx
      clear hx
      have HMY : Hid (∀ W, Calls Try.prog 47 #[.agg x.cs] W fun e w' => e = .returned (.bool (mayb x)) ∧ Below W.heap.size W w') := fun W => may_any x W HX6.out
      obtain ⟨r, hr⟩ : ∃ r, r = wr.heap.size := ⟨_, rfl⟩
      have hbz : ∀ w2, Kp (fun i => i = wr.heap.size) (wr.alloc (.cells zRn.cs 46)) w2 → Below wr.heap.size wr w2 := fun w2 k2 => (((Below.refl _ wr).alloc (Nat.le_refl _) _)).trans (k2.below (by rw [World.size_alloc]; omega) (fun i e => by omega))
      have HBZ := hid hbz
      clear hbz
      cases hmx : mayb x with
      | false =>
        rw [hmx] at HMY
        have HAF : Hid (allM M = false) := by
          show _ = _
          unfold allM
          rw [List.all_eq_false]
          exact ⟨x, by rw [HX.out]; exact gd_mem (by have := HM.out; omega), by simp [hmx]⟩
        go_wp2_with (first | (refine wpList_store_r rfl _ _ rfl _ rfl (e' := x) rfl (Rn.B.new wr zRn) ?_; intro w2 s2 k2; have B2 := hid (HB.out.trans ((HBZ.out w2 k2).mono HB.out.size)); rw [← hr] at s2 ⊢; have HR := hid hr; clear hr k2 x0 x1 x2 HBZ) | (refine wpList_load_r rfl _ rfl _ rfl s2 ?_) | (go_at_call 47; refine (HMY.out _).mono ?_; rintro e w3 ⟨rfl, b3⟩; have B3 := hid (B2.out.trans (b3.mono B2.out.size)); clear b3))
        go_ret2
        exact HSM.out HAF.out _ B3.out
      | true =>
        rw [hmx] at HMY
        have HMX := hid hmx
        go_wp2_with (first | (refine wpList_store_r rfl _ _ rfl _ rfl (e' := x) rfl (Rn.B.new wr zRn) ?_; intro w2 s2 k2; have B2 := hid (HB.out.trans ((HBZ.out w2 k2).mono HB.out.size)); rw [← hr] at s2 ⊢; have HR := hid hr; clear hr k2 x0 x1 x2 HBZ) | (refine wpList_load_r rfl _ rfl _ rfl s2 ?_) | (go_at_call 47; refine (HMY.out _).mono ?_; rintro e w3 ⟨rfl, b3⟩; have B3 := hid (B2.out.trans (b3.mono B2.out.size)); clear b3))
        go_roundw
        case rel => exact ⟨k + 1, by omega, by go_num, B3, fun t ht => by
          by_cases e : t = k
          · subst e; rw [← HX.out]; exact HMX.out
          · exact HT.out t (by omega)⟩
        case measure => simp [intOf]; omega
    · have HAT : Hid (allM M = true) := by
        show _ = _
        unfold allM
        rw [List.all_eq_true]
        intro x hx
        obtain ⟨j, hj, rfl⟩ := List.getElem_of_mem hx
        rw [← gd hj]
        exact HT.out j (by have := HM.out; omega)
      have c1 := HC1.out wr HB.out
      go_wp2_with (first | (go_at_call 48; refine (HWT.out HAT.out wr HB.out).mono ?_; intro e w5 h5; obtain ⟨ao', n', c', rfl, c5, f5, h6⟩ := HFN.out wr e w5 HB.out HAT.out h5; have H6 := hid h6; clear h5 h6))
      go_ret2
      exact HPR.out _ H6.out
end Go.Proofs.Ytopnfjgkgoeleaa
