/- later: all calls over one that waits, said by its place, its runs and its blocks. -/
import Derived.Test.YtgfondgejimkkaaNx
import Derived.Test.YtgfondgejimkkaaGs
import Derived.Test.YtgfondgejimkkaaCm
namespace Go.Proofs.Ytgfondgejimkkaa
open Go.RowKit
set_option linter.unusedVariables false
set_option linter.unusedSimpArgs false
/-- One at Q whose runs are R; its blocks are F. -/
def Lw (Q : Nat) (R : List Rn) (F : Nat → Prop) (w : World) : Prop := ∃ B mb me c v L, Lc c w Q B mb me v L ∧ srt (L.map c) = R ∧ ∀ k, F k ↔ Fp Q B mb me v L k
theorem Lw.kp {Q : Nat} {R : List Rn} {F G : Nat → Prop} {w w' : World} (h : Lw Q R F w) (k : Kp G w w') (hf : ∀ i, F i → ¬ G i) : Lw Q R F w' := by
  obtain ⟨B, mb, me, c, v, L, h1, h2, h3⟩ := h
  exact ⟨B, mb, me, c, v, L, h1.kp k (fun i hi => hf i ((h3 i).2 hi)), h2, h3⟩
theorem Lw.kp0 {Q : Nat} {R : List Rn} {F : Nat → Prop} {w w' : World} (h : Lw Q R F w) (k : Kp (fun _ => False) w w') : Lw Q R F w' := h.kp k (fun _ _ h => h)
theorem Lw.lt {Q : Nat} {R : List Rn} {F : Nat → Prop} {w : World} (h : Lw Q R F w) {i : Nat} (hi : F i) : i < w.heap.size := by
  obtain ⟨B, mb, me, c, v, L, h1, h2, h3⟩ := h
  exact h1.lt ((h3 i).1 hi)
theorem Lw.can {Q : Nat} {R : List Rn} {F : Nat → Prop} {w : World} (h : Lw Q R F w) : Can R := by
  obtain ⟨B, mb, me, c, v, L, h1, h2, h3⟩ := h
  rw [← h2]
  exact srt_can h1.ap
theorem Lw.self {Q : Nat} {R : List Rn} {F : Nat → Prop} {w : World} (h : Lw Q R F w) : F Q := by
  obtain ⟨B, mb, me, c, v, L, h1, h2, h3⟩ := h
  exact (h3 Q).2 (.inl rfl)
theorem Lw.len {Q : Nat} {R : List Rn} {F : Nat → Prop} {w : World} (h : Lw Q R F w) : R.length ≤ 4096 := by
  obtain ⟨B, mb, me, c, v, L, h1, h2, h3⟩ := h
  rw [← h2, (srt_perm _).length_eq, List.length_map]
  exact h1.len
/-- A change: just its blocks, and new ones. -/
def Cg (Q : Nat) (F : Nat → Prop) (w : World) (R' : List Rn) (w' : World) : Prop := Kp F w w' ∧ ∃ F', Lw Q R' F' w' ∧ ∀ k, F' k → F k ∨ w.heap.size ≤ k
theorem Cg.of {Q B mb me : Nat} {F : Nat → Prop} {w w' : World} {c' : Nat → Rn} {v v' : Value} {L L' : List Nat} {R' : List Rn} (h3 : ∀ k, F k ↔ Fp Q B mb me v L k) (t : Tr w (Fp Q B mb me v L) Q B mb me c' v' L' w') (e : srt (L'.map c') = R') : Cg Q F w R' w' :=
  ⟨t.kp.mono (fun i _ h => (h3 i).2 h), Fp Q B mb me v' L', ⟨B, mb, me, c', v', L', t.lc, e, fun _ => Iff.rfl⟩, fun k hk => (t.fp k hk).imp (h3 k).2 id⟩
/-- Another one is left alone. -/
theorem Cg.other {Q Q2 : Nat} {F G : Nat → Prop} {w w' : World} {R' R2 : List Rn} (h : Cg Q F w R' w') (k : Lw Q2 R2 G w) (hd : ∀ i, F i → ¬ G i) : Lw Q2 R2 G w' ∧ ∃ F', Lw Q R' F' w' ∧ (∀ i, F' i → ¬ G i) ∧ ∀ i, F' i → F i ∨ w.heap.size ≤ i := by
  obtain ⟨h1, F', h2, h3⟩ := h
  refine ⟨k.kp h1 (fun i hg hf => hd i hf hg), F', h2, fun i hi hg => ?_, h3⟩
  rcases h3 i hi with h | h
  · exact hd i h hg
  · have := k.lt hg
    omega
def NwW (w : World) (l : List Rn) (e : Ending) (w' : World) : Prop :=
  Kp (fun _ => False) w w' ∧ (((∃ x ∈ l, ¬ Mayr x) ∧ e = .returned (.tuple #[.pointer none, .int .i64 2])) ∨
  ((∀ x ∈ l, Mayr x) ∧ 4096 < (tog l).length ∧ e = .returned (.tuple #[.pointer none, .int .i64 6])) ∨
  ((∀ x ∈ l, Mayr x) ∧ (tog l).length ≤ 4096 ∧ ∃ Q F, e = .returned (.tuple #[.pointer (some ⟨Q, 0, none⟩), .int .i64 0]) ∧ Lw Q (tog l) F w' ∧ ∀ k, F k → w.heap.size ≤ k))
theorem new_w (w : World) (ao : Option Addr) (n cap : Nat) (l : List Rn) (hl : l.length = n) (hn : n ≤ 10000) (hi : ∀ x ∈ l, x.i6) (hz : ao = none → cap = 0) (hs : Srcr w ao l) :
    Calls Try.prog 10 #[.slice ao n cap] w (NwW w l) := (new_any w ao n cap l hl hn hi hz hs).mono (by
  rintro e w' (⟨h1, h2, h3⟩ | ⟨h1, h2, h3, h4⟩ | ⟨h1, h2, Q, B, mb, me, c, v, L, h3, h4, h5, h6, h7⟩)
  · exact ⟨h3, .inl ⟨h1, h2⟩⟩
  · exact ⟨h4, .inr (.inl ⟨h1, h2, h3⟩)⟩
  · exact ⟨h7, .inr (.inr ⟨h1, h2, Q, _, h3, ⟨B, mb, me, c, v, L, h4, h5, fun _ => Iff.rfl⟩, h6⟩)⟩)
def PtW (w : World) (Q : Nat) (R : List Rn) (F : Nat → Prop) (l : List Rn) (e : Ending) (w' : World) : Prop :=
  ((∃ x ∈ l, ¬ Mayr x) ∧ e = .returned (.tuple #[.int .i64 0, .int .i64 2]) ∧ Kp (fun _ => False) w w') ∨
  ((∀ x ∈ l, Mayr x) ∧ 4096 < (tog (R ++ l)).length ∧ e = .returned (.tuple #[.int .i64 0, .int .i64 6]) ∧ Kp (fun _ => False) w w') ∨
  ((∀ x ∈ l, Mayr x) ∧ (tog (R ++ l)).length ≤ 4096 ∧ e = .returned (.tuple #[.int .i64 (sz (tog (R ++ l)) - sz R), .int .i64 0]) ∧ Cg Q F w (tog (R ++ l)) w')
theorem put_w {w : World} {Q : Nat} {R : List Rn} {F : Nat → Prop} (h : Lw Q R F w) (ao : Option Addr) (n cap : Nat) (l : List Rn) (hl : l.length = n) (hn : n ≤ 10000) (hi : ∀ x ∈ l, x.i6) (hz : ao = none → cap = 0) (hs : Srcr w ao l) :
    Calls Try.prog 22 #[.pointer (some ⟨Q, 0, none⟩), .slice ao n cap] w (PtW w Q R F l) := by
  obtain ⟨B, mb, me, c, v, L, h1, h2, h3⟩ := h
  subst h2
  refine (put_any c w Q B mb me v L h1 ao n cap l hl hn hi hz hs).mono ?_
  rintro e w' (⟨k1, k2, k3⟩ | ⟨k1, k2, k3, k4⟩ | ⟨k1, k2, k3, c', v', L', t, k4⟩)
  · exact .inl ⟨k1, k2, k3⟩
  · exact .inr (.inl ⟨k1, k2, k3, k4⟩)
  · exact .inr (.inr ⟨k1, k2, by rw [k3, sz_perm (srt_perm (L.map c))], Cg.of h3 t k4⟩)
def CtW (w : World) (Q : Nat) (R : List Rn) (F : Nat → Prop) (x : Rn) (e : Ending) (w' : World) : Prop :=
  (¬ Mayr x ∧ e = .returned (.tuple #[.int .i64 0, .int .i64 2]) ∧ Kp (fun _ => False) w w') ∨
  (Mayr x ∧ 4096 < (lss R x).length ∧ e = .returned (.tuple #[.int .i64 0, .int .i64 6]) ∧ Kp (fun _ => False) w w') ∨
  (Mayr x ∧ (lss R x).length ≤ 4096 ∧ e = .returned (.tuple #[.int .i64 (ovl R x), .int .i64 0]) ∧ Cg Q F w (lss R x) w')
theorem cut_w {w : World} {Q : Nat} {R : List Rn} {F : Nat → Prop} (h : Lw Q R F w) (x : Rn) (hx : x.i6) :
    Calls Try.prog 24 #[.pointer (some ⟨Q, 0, none⟩), .agg x.cs] w (CtW w Q R F x) := by
  obtain ⟨B, mb, me, c, v, L, h1, h2, h3⟩ := h
  subst h2
  refine (cut_any c w Q B mb me v L h1 x hx).mono ?_
  rintro e w' (⟨k1, k2, k3⟩ | ⟨k1, k2, k3, k4⟩ | ⟨k1, k2, k3, c', v', L', t, k4⟩)
  · exact .inl ⟨k1, k2, k3⟩
  · exact .inr (.inl ⟨k1, k2, k3, k4⟩)
  · exact .inr (.inr ⟨k1, k2, k3, Cg.of h3 t k4⟩)
/-- What is taken off at once. -/
def tkn (most : Int) (x : Rn) : Rn := ⟨x.a, min x.n most⟩
def NxW (w : World) (Q : Nat) (R : List Rn) (F : Nat → Prop) (most : Int) (e : Ending) (w' : World) : Prop :=
  (most < 1 ∧ e = .returned (.tuple #[.agg zRn.cs, .int .i64 2]) ∧ Kp (fun _ => False) w w') ∨
  (1 ≤ most ∧ R = [] ∧ e = .returned (.tuple #[.agg zRn.cs, .int .i64 7]) ∧ Kp (fun _ => False) w w') ∨
  (1 ≤ most ∧ ∃ x tl, R = x :: tl ∧ e = .returned (.tuple #[.agg (tkn most x).cs, .int .i64 0]) ∧ Cg Q F w (lss R (tkn most x)) w')
theorem next_w {w : World} {Q : Nat} {R : List Rn} {F : Nat → Prop} (h : Lw Q R F w) (most : Int) (hmo : most ≤ 9223372036854775807) :
    Calls Try.prog 29 #[.pointer (some ⟨Q, 0, none⟩), .int .i64 most] w (NxW w Q R F most) := by
  obtain ⟨B, mb, me, c, v, L, h1, h2, h3⟩ := h
  subst h2
  refine (next_any c w Q B mb me v L h1 most hmo).mono ?_
  rintro e w' (⟨k1, k2, k3⟩ | ⟨k1, k2, k3, k4⟩ | ⟨k1, x, tl, k2, k3, c', v', L', t, k4⟩)
  · exact .inl ⟨k1, k2, k3⟩
  · exact .inr (.inl ⟨k1, by rw [k2]; exact srt_nil, k3, k4⟩)
  · exact .inr (.inr ⟨k1, x, tl, k2, k3, Cg.of h3 t (by rw [k2]; exact k4)⟩)
def GtW (w : World) (Q : Nat) (R : List Rn) (F : Nat → Prop) (e : Ending) (w' : World) : Prop :=
  (R = [] ∧ e = .returned (.tuple #[.agg zRn.cs, .int .i64 7]) ∧ Kp (fun _ => False) w w') ∨
  (∃ x R', e = .returned (.tuple #[.agg x.cs, .int .i64 0]) ∧ (∀ y ∈ R, grt y x = false) ∧ (x :: R').Perm R ∧ Cg Q F w R' w')
theorem greatest_w {w : World} {Q : Nat} {R : List Rn} {F : Nat → Prop} (h : Lw Q R F w) :
    Calls Try.prog 28 #[.pointer (some ⟨Q, 0, none⟩)] w (GtW w Q R F) := by
  obtain ⟨B, mb, me, c, v, L, h1, h2, h3⟩ := h
  subst h2
  refine (greatestE_any c w Q B mb me v L h1).mono ?_
  rintro e w' (⟨k2, k3, k4⟩ | ⟨x, k1, k2, c', v', L', t, k4⟩)
  · exact .inl ⟨by rw [k2]; exact srt_nil, k3, k4⟩
  · exact .inr ⟨x, _, k1, k2, k4, Cg.of h3 t rfl⟩
theorem over_w {w : World} {Q : Nat} {R : List Rn} {F : Nat → Prop} (h : Lw Q R F w) (x : Rn) (hx : x.i6) :
    Calls Try.prog 23 #[.pointer (some ⟨Q, 0, none⟩), .agg x.cs] w (OvR w R x) := by
  obtain ⟨B, mb, me, c, v, L, h1, h2, h3⟩ := h
  subst h2
  exact over_any c w Q B mb me v L h1 x hx
theorem size_w {w : World} {Q : Nat} {R : List Rn} {F : Nat → Prop} (h : Lw Q R F w) :
    Calls Try.prog 16 #[.pointer (some ⟨Q, 0, none⟩)] w fun e w' => e = .returned (.tuple #[.int .i64 (R.length : Int), .int .i64 (sz R)]) ∧ Kp (fun _ => False) w w' := by
  obtain ⟨B, mb, me, c, v, L, h1, h2, h3⟩ := h
  subst h2
  exact (size_any c w Q B mb me v L h1).mono fun e w' ⟨a, b⟩ => ⟨a, Kp.of_below b⟩
theorem all_w {w : World} {Q : Nat} {R : List Rn} {F : Nat → Prop} (h : Lw Q R F w) :
    Calls Try.prog 15 #[.pointer (some ⟨Q, 0, none⟩)] w (AlR w R) := by
  obtain ⟨B, mb, me, c, v, L, h1, h2, h3⟩ := h
  subst h2
  exact all_any c w Q B mb me v L h1
def CyW (w : World) (R : List Rn) (e : Ending) (w' : World) : Prop := Kp (fun _ => False) w w' ∧ ∃ Q F, e = .returned (.pointer (some ⟨Q, 0, none⟩)) ∧ Lw Q R F w' ∧ ∀ k, F k → w.heap.size ≤ k
theorem copy_w {w : World} {Q : Nat} {R : List Rn} {F : Nat → Prop} (h : Lw Q R F w) :
    Calls Try.prog 12 #[.pointer (some ⟨Q, 0, none⟩)] w (CyW w R) := by
  obtain ⟨B, mb, me, c, v, L, h1, h2, h3⟩ := h
  subst h2
  refine (copy_any c w Q B mb me v L h1).mono ?_
  rintro e w' ⟨Q2, B2, mb2, me2, c2, v2, L2, k1, k2, k3, k4, k5⟩
  exact ⟨k5, Q2, _, k1, ⟨B2, mb2, me2, c2, v2, L2, k2, k3, fun _ => Iff.rfl⟩, k4⟩
end Go.Proofs.Ytgfondgejimkkaa
