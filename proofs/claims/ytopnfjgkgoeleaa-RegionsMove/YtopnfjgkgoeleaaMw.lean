/- regions: RegionsMove: mathematics, frames. -/
import Derived.Test.YtopnfjgkgoeleaaMv
namespace Go.Proofs.Ytopnfjgkgoeleaa
open Go.RowKit
set_option linter.unusedVariables false
set_option linter.unusedSimpArgs false
theorem Lst.kpX {F G : Nat → Prop} {w w' : World} {X : Nat} {ao bo : Option Addr} {c n' c' : Nat} {L : List Rn} (h : Lst w ao c L) (hb : Rb w X (.slice bo n' c')) (kk : Kp F w w') (hF : ∀ i, F i → i = X ∨ G i) (hs : ∀ b off, ao = some ⟨b, off, none⟩ → ¬ G b) : Lst w' ao c L := by
  refine ⟨fun hp => ?_, h.2.1, h.2.2.1, h.2.2.2.1, fun hl => ?_⟩
  · obtain ⟨b, off, e, hbl, x0, _⟩ := h.1.at (i := 0) hp
    have hne : b ≠ X := by
      rintro rfl
      rw [St.cell hb] at x0
      rcases hk : off + 0 * 3 with _ | _ | k
      · rw [hk] at x0; simp at x0
      · rw [hk] at x0; simp at x0
      · rw [hk] at x0; simp at x0
    obtain ⟨b', off', e', hb', hc⟩ := h.1 hp
    rw [e] at e'
    cases e'
    exact ⟨b, off, e, Nat.lt_of_lt_of_le hb' kk.size, fun j u hu => kp_cell kk (hc j u hu) (fun x => (hF _ x).elim hne (hs b off e))⟩
  · obtain ⟨g, cur, e, hg, hs2⟩ := h.2.2.2.2 hl
    refine ⟨g, cur, e, (kk.block g (Array.getElem?_eq_some_iff.1 hg).1 ?_).trans hg, hs2⟩
    intro x
    rcases hF _ x with rfl | x
    · unfold Rb St at hb
      rw [hg] at hb
      simp at hb
    · exact hs g 0 e x
/-- Another one's change. -/
theorem Rg.kpX {F G : Nat → Prop} {w w' : World} {B X : Nat} {ao bo : Option Addr} {c n' c' : Nat} {L : List Rn} (h : Rg w B ao c L) (hb : Rb w X (.slice bo n' c')) (kk : Kp F w w') (hF : ∀ i, F i → i = X ∨ G i) (hne : B ≠ X) (hB : ¬ G B) (hs : ∀ b off, ao = some ⟨b, off, none⟩ → ¬ G b) : Rg w' B ao c L :=
  ⟨St.kp h.rb kk (fun x => (hF _ x).elim hne hB), h.lst.kpX hb kk hF hs, h.srt, h.len⟩
/-- What is put into a list without one. -/
theorem mv_e {L : List Rn} (h : Srt L) {x : Rn} (hx : x ∈ L) (t : Int) : mvE L x.a t = (if mayb ⟨x.k, t, x.n⟩ = true then plE (wo L (bey L x.a)) ⟨x.k, t, x.n⟩ else 2) ∧ mvE L x.a t = puE (wo L (bey L x.a)) [⟨x.k, t, x.n⟩] ∧ (mvE L x.a t = 0 → puL (wo L (bey L x.a)) [⟨x.k, t, x.n⟩] = ins (wo L (bey L x.a)) ⟨x.k, t, x.n⟩ ∧ mvL L x.a t = ins (wo L (bey L x.a)) ⟨x.k, t, x.n⟩) ∧ (mvE L x.a t ≠ 0 → mvL L x.a t = L) := by
  obtain ⟨h1, h2, h3⟩ := bgn_mem h hx
  have hy : mvY L x.a t = ⟨x.k, t, x.n⟩ := by unfold mvY; rw [h2]
  have hE : mvE L x.a t = (if mayb ⟨x.k, t, x.n⟩ = true then plE (wo L (bey L x.a)) ⟨x.k, t, x.n⟩ else 2) := by unfold mvE; rw [if_pos h1, hy]
  refine ⟨hE, ?_, fun h0 => ?_, fun h0 => by unfold mvL; rw [if_neg h0]⟩
  · rw [hE]
    unfold puE
    by_cases hm : mayb ⟨x.k, t, x.n⟩ = true
    · have ha : allM [⟨x.k, t, x.n⟩] = true := by simp [allM, hm]
      rw [if_pos hm, if_pos ha, wth1]
      by_cases h0 : plE (wo L (bey L x.a)) ⟨x.k, t, x.n⟩ = 0
      · rw [if_pos h0, h0]
      · rw [if_neg h0]
    · have ha : allM [⟨x.k, t, x.n⟩] = false := by simp [allM]; simpa using hm
      rw [if_neg hm, ha]
      rfl
  · have hl : mvL L x.a t = ins (wo L (bey L x.a)) ⟨x.k, t, x.n⟩ := by unfold mvL; rw [if_pos h0, hy]
    refine ⟨?_, hl⟩
    rw [hE] at h0
    by_cases hm : mayb ⟨x.k, t, x.n⟩ = true
    · rw [if_pos hm] at h0
      have ha : allM [⟨x.k, t, x.n⟩] = true := by simp [allM, hm]
      unfold puL
      rw [if_pos ha, wth1, if_pos h0]
    · rw [if_neg hm] at h0
      omega
/-- There and back. -/
theorem mv_back {L : List Rn} (h : Srt L) (hl : L.length ≤ 65536) {x : Rn} (hx : x ∈ L) {t : Int} (h0 : mvE L x.a t = 0) :
    ovr (mvL L x.a t) t 1 mz = some ⟨x.k, t, x.n⟩ ∧ mvE (mvL L x.a t) t x.a = 0 ∧ mvL (mvL L x.a t) t x.a = L ∧ I6 t := by
  obtain ⟨h1, h2, h3⟩ := bgn_mem h hx
  obtain ⟨e1, e2, e3, e4⟩ := mv_e h hx t
  obtain ⟨e5, e6⟩ := e3 h0
  rw [e1] at h0
  have hbl := (bgn_lt h1).1
  have hwl := wo_len hbl
  have hws := wo_srt h (bey L x.a)
  by_cases hm : mayb ⟨x.k, t, x.n⟩ = true
  case neg => rw [if_neg hm] at h0; omega
  rw [if_pos hm] at h0
  have hmy := (mayb_iff _).1 hm
  generalize hM : wo L (bey L x.a) = M at *
  have hls : Srt (ins M ⟨x.k, t, x.n⟩) := ins_srt hws hmy h0 (by omega)
  have hin : (⟨x.k, t, x.n⟩ : Rn) ∈ ins M ⟨x.k, t, x.n⟩ := (ins_perm M _).mem_iff.2 (by simp)
  rw [e6]
  obtain ⟨g1, g2, g3⟩ := bgn_mem hls hin
  have hwM : wo (ins M ⟨x.k, t, x.n⟩) (bey (ins M ⟨x.k, t, x.n⟩) t) = M := srt_perm (wo_srt hls _) hws (List.Perm.cons_inv (g3.symm.trans (ins_perm M _)))
  obtain ⟨f1, f2, f3, f4⟩ := mv_e hls hin x.a
  dsimp only at f1 f2 f3 f4 g1 g2 g3
  have hmx := h.1 x hx
  have hap : ∀ y ∈ M, Apt x y := by
    have := apt_perm h h3
    exact (List.pairwise_cons.1 this).1
  have hp0 : plE M x = 0 := (plE_apt hws hmx (by omega)).2 hap
  have hE0 : mvE (ins M ⟨x.k, t, x.n⟩) t x.a = 0 := by
    rw [f1, hwM]
    rw [if_pos ((mayb_iff _).2 hmx)]
    exact hp0
  unfold Mayr at hmy
  dsimp only at hmy
  refine ⟨of_some hls hin (Int.le_refl _) (by unfold Rn.e; dsimp only; omega), hE0, ?_, by unfold I6; omega⟩
  rw [(f3 hE0).2, hwM]
  exact srt_perm (ins_srt hws hmx hp0 (by omega)) h ((ins_perm M x).trans h3.symm)
/-- Another one's change, its own block alone. -/
theorem Rg.kp1 {w w' : World} {B X : Nat} {ao bo : Option Addr} {c n' c' : Nat} {L : List Rn} (h : Rg w B ao c L) (hb : Rb w X (.slice bo n' c')) (kk : Kp (fun i => i = X) w w') (hne : B ≠ X) : Rg w' B ao c L := h.kpX (G := fun _ => False) hb kk (fun i e => Or.inl e) hne (fun x => x) (fun _ _ _ x => x)
theorem mv_frame {W : World} {B C1 C2 : Nat} {ao a1 a2 : Option Addr} {c c1 c2 : Nat} {L L1 L2 : List Rn} (p t : Int) (h : Rg W B ao c L) (h1 : Rg W C1 a1 c1 L1) (h2 : Rg W C2 a2 c2 L2) (n1 : C1 ≠ B) (n2 : C2 ≠ B) (ht : I6 t) :
    Calls Try.prog 29 #[.pointer (some ⟨B, 0, none⟩), .int .i64 p, .int .i64 t] W fun e W' => e = .returned (.int .i64 (mvE L p t)) ∧ (∃ a b, Rg W' B a b (mvL L p t)) ∧ Rg W' C1 a1 c1 L1 ∧ Rg W' C2 a2 c2 L2 ∧ Kp (fun k => k = B) W W' :=
  (move_any W B ao c L p t h ht).mono fun e W' ⟨g1, a', c', g2, g3, g4⟩ => ⟨g1, ⟨a', c', g2⟩, h1.kp1 h.rb g3 n1, h2.kp1 h.rb g3 n2, g3⟩
theorem tk_frame {W : World} {B C1 C2 n : Nat} {ao a1 a2 : Option Addr} {c c1 : Nat} {L L1 L2 : List Rn} {x : Rn} (h : Rg W B ao c L) (h1 : Rg W C1 a1 c1 L1) (hn : n = L2.length) (h2 : Rg W C2 a2 n L2) (n1 : C1 ≠ C2) (n2 : B ≠ C2) (hx : x ∈ L2) :
    Calls Try.prog 27 #[.pointer (some ⟨C2, 0, none⟩), .int .i64 x.a] W fun e W' => e = .returned (.tuple #[.agg x.cs, .int .i64 0]) ∧ (∃ a5 c5, Rg W' C2 a5 c5 (wo L2 (bey L2 x.a)) ∧ ∀ k, Rmb a5 (wo L2 (bey L2 x.a)).length c5 k → W.heap.size ≤ k ∧ k < W'.heap.size) ∧ Rg W' C1 a1 c1 L1 ∧ Rg W' B ao c L ∧ Kp (fun k => k = C2) W W' := by
  obtain ⟨e1, e2, e3⟩ := tk_mem h2.srt hx
  have e4 : tkL L2 x.a = wo L2 (bey L2 x.a) := by unfold tkL; rw [if_pos (bgn_mem h2.srt hx).1]
  refine (take_any W C2 a2 n L2 x.a h2).mono fun e W' ⟨g1, a', c', g2, g3, g4⟩ => ?_
  rw [e1, e2] at g1
  rw [e4] at g2 g4
  refine ⟨g1, ⟨a', c', g2, fun k hk => ⟨?_, g2.lst.rmb_lt hk⟩⟩, h1.kp1 h2.rb g3 n1, h.kp1 h2.rb g3 n2, g3⟩
  rcases g4.rmb hk with h5 | h5
  · exact h5
  · exact absurd h5.1 (by omega)
theorem pu_frame {W : World} {B C1 C2 S0 S1 : Nat} {ao a1 a2 : Option Addr} {c c1 c2 : Nat} {L L1 L2 : List Rn} {y : Rn} (h : Rg W B ao c L) (h1 : Rg W C1 a1 c1 L1) (h2 : Rg W C2 a2 c2 L2) (hr : ∀ k, Rmb a2 L2.length c2 k → S0 ≤ k ∧ k < S1) (n1 : C1 ≠ C2) (n2 : B ≠ C2) (s1 : C1 < S0) (s2 : B < S0) (ha : ∀ b off, ao = some ⟨b, off, none⟩ → b < S0) (ha1 : ∀ b off, a1 = some ⟨b, off, none⟩ → b < S0) (hy : y.i6) :
    Calls Try.prog 21 #[.pointer (some ⟨C2, 0, none⟩), .slice (some ⟨W.heap.size, 0, none⟩) 1 1] (W.alloc (.cells #[.int .i64 y.k, .int .i64 y.a, .int .i64 y.n] 46)) fun e W' => e = .returned (.tuple #[.int .i64 ((puN L2 [y] : Nat) : Int), .int .i64 (puE L2 [y])]) ∧ (∃ a5 c5, Rg W' C2 a5 c5 (puL L2 [y])) ∧ Rg W' C1 a1 c1 L1 ∧ Rg W' B ao c L ∧ Kp (fun k => k = C2 ∨ (S0 ≤ k ∧ k < S1)) W W' := by
  have hp : Calls Try.prog 21 #[.pointer (some ⟨C2, 0, none⟩), .slice (some ⟨W.heap.size, 0, none⟩) 1 1] (W.alloc (.cells #[.int .i64 y.k, .int .i64 y.a, .int .i64 y.n] 46)) fun e w' => e = .returned (.tuple #[.int .i64 ((puN L2 [y] : Nat) : Int), .int .i64 (puE L2 [y])]) ∧ Chg W C2 a2 L2.length c2 (puL L2 [y]) w' := put_new W C2 a2 c2 L2 [y] 1 h2 rfl (by omega) (fun z hz => by simp at hz; rw [hz]; exact hy)
  refine hp.mono fun e W' ⟨g1, a', c', g2, g3, g4⟩ => ?_
  have hF : ∀ i, (i = C2 ∨ Rmb a2 L2.length c2 i) → i = C2 ∨ (S0 ≤ i ∧ i < S1) := fun i x => x.elim Or.inl (fun x => Or.inr (hr i x))
  exact ⟨g1, ⟨a', c', g2⟩, h1.kpX h2.rb g3 hF n1 (fun x => by omega) (fun b off e x => by have := ha1 b off e; omega), h.kpX h2.rb g3 hF n2 (fun x => by omega) (fun b off e x => by have := ha b off e; omega), g3.mono (fun i _ x => hF i x)⟩
end Go.Proofs.Ytopnfjgkgoeleaa
