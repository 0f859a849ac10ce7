/- regions: the law's laid, its walk. -/
import Derived.Test.YtopnfjgkgoeleaaLd
namespace Go.Proofs.Ytopnfjgkgoeleaa
open Go.RowKit
set_option linter.unusedVariables false
set_option linter.unusedSimpArgs false
/-- What laid leaves. -/
def LdR (w : World) (n : Nat) (e : Ending) (w' : World) : Prop := ∃ B v ao c L S, e = .returned (.tuple #[.pointer (some ⟨B, 0, none⟩), v]) ∧ LdI w.heap.size w B v ao c L S w' ∧ S.length ≤ n
theorem LdI.app {base : Nat} {w : World} {B : Nat} {v v' : Value} {ao : Option Addr} {c : Nat} {L S : List Rn} {x : Rn} {W W' : World} (h1 : Rg W B ao c (ins L x)) (hb : Below base w W) (hB : base ≤ B) (hw : base ≤ w.heap.size) (ha : ∀ k off, ao = some ⟨k, off, none⟩ → base ≤ k) (hd : ∀ g, v.ownBlock = some g → ∀ off, ao ≠ some ⟨g, off, none⟩) (pm : L.Perm S) (ho : Ownr W base v S)
    (o : W'.ownsRow base 46 3 v' (S.length + 1) (flr S ++ x.cl)) (k : Kp (fun i => v.ownBlock = some i) (W.alloc (.cells x.cs 46)) W') (hv : v'.ownBlock = v.ownBlock ∨ v'.ownBlock = some (W.alloc (.cells x.cs 46)).heap.size) : LdI base w B v' ao c (ins L x) (S ++ [x]) W' := by
  have hs := hb.size
  have bb : Below W.heap.size W (W.alloc (.cells x.cs 46)) := (Below.refl _ _).alloc (Nat.le_refl _) _
  have hF : ∀ i, v.ownBlock = some i → base ≤ i := fun i e => (own_lt ho e).1
  refine ⟨?_, ?_, ?_, ?_, hB, ha, ?_⟩
  · refine (h1.below bb).kp k ?_ (fun b off e _ x => hd b x off e)
    intro e
    obtain ⟨_, _, cur, hg⟩ := own_lt ho e
    exact rb_ne h1.rb hg rfl
  · have : flr (S ++ [x]) = flr S ++ x.cl := by simp [flr]
    unfold Ownr
    rw [this, List.length_append, List.length_singleton]
    exact o
  · exact (ins_perm L x).trans ((List.Perm.cons x pm).trans (by
      have := (@List.perm_append_comm _ [x] S)
      simpa using this))
  · exact (hb.trans (bb.mono (by omega))).trans (k.below (by rw [World.size_alloc]; omega) hF)
  · intro g e off x2
    rcases hv with h | h
    · exact hd g (by rw [← h]; exact e) off x2
    · rw [h] at e
      obtain ⟨b', off', e', hb', _⟩ := h1.lst.1 (by rw [ins_len]; omega)
      rw [x2] at e'
      cases e'
      simp at e
      omega
set_option maxRecDepth 100000 in
set_option maxHeartbeats 4000000 in
theorem laid_any (l : List Rn) (bo : Option Addr) (n cb : Nat) (w : World) (hn : n = l.length) (hc : n ≤ cb) (hn2 : n ≤ 60) (hi6 : ∀ x ∈ l, x.i6) (hS : Srcr w bo l) : Calls Try.prog 26 #[.slice bo n cb] w (LdR w n) := by
  have HN := hid hn
  have HS := hid hS
  have HI6 := hid hi6
  clear hn hS hi6
  obtain ⟨B, hB⟩ : ∃ B, B = w.heap.size := ⟨_, rfl⟩
  have HNEW := hid (new_has w)
  rw [← hB] at HNEW
  unfold LdR
  rw [← hB]
  have HB := hid hB
  clear hB
  go_enter Try.func26, Try.ntmps26
  go_wp2_with (first | (go_at_call 9; refine HNEW.out.mono ?_; rintro e w1 ⟨rfl, h1, b1, z1⟩; have H1 := hid h1; have B1 : Hid (Below B w w1) := b1; clear h1 b1 z1))
  go_loopw [5, 6] (fun v i wr => ∃ (k : Nat) (ao : Option Addr) (c : Nat) (L S : List Rn), k ≤ n ∧ i = .int .i64 (k : Int) ∧ Hid (LdI B w B v ao c L S wr) ∧ Hid (S.length ≤ k)) (fun _ i _ => n - (intOf i).toNat)
  case atStart => exact ⟨0, none, 0, [], [], Nat.zero_le _, rfl, ⟨H1.out, Ownr.nil _ _, List.Perm.refl _, B1.out, Nat.le_refl _, fun k off e => (by cases e), fun g e => by simp [Value.ownBlock] at e⟩, Nat.le_refl 0⟩
  case round =>
    clear H1 B1 HNEW
    obtain ⟨k, ao, c, L, S, hk, rfl, HI, HSL⟩ := hrel
    have hwB : Hid (B ≤ w.heap.size) := Nat.le_of_eq HB.out
    by_cases hlt : k < n
    · obtain ⟨gb, off, rfl, hgb, x0, x1, x2⟩ := (HS.out.below (by rw [← HB.out]; exact HI.out.bl)).at (i := k) (by have := HN.out; omega)
      have HX6 := hid (HI6.out _ (gd_mem (i := k) (by have := HN.out; omega)))
      have HLL : Hid (L.length ≤ 60) := by rw [HI.out.pm.length_eq]; have := HSL.out; show _ ≤ _; omega
      have HXC : Hid (∀ W, Below B w W → W.cell? ⟨gb, off + k * 3, none⟩ = some (.int .i64 (l.getD k zRn).k) ∧ W.cell? ⟨gb, off + k * 3 + 1, none⟩ = some (.int .i64 (l.getD k zRn).a) ∧ W.cell? ⟨gb, off + k * 3 + 2, none⟩ = some (.int .i64 (l.getD k zRn).n)) := fun W hW => by
        obtain ⟨g2, o2, e2, _, y⟩ := (HS.out.below (by rw [← HB.out]; exact hW)).at (i := k) (by have := HN.out; omega)
        cases e2
        exact y
      generalize l.getD k zRn = x at *
      have HPU : Hid (Calls Try.prog 21 #[.pointer (some ⟨B, 0, none⟩), .slice (some ⟨wr.heap.size, 0, none⟩) 1 1] (wr.alloc (.cells #[.int .i64 x.k, .int .i64 x.a, .int .i64 x.n] 46)) fun e w' => e = .returned (.tuple #[.int .i64 ((puN L [x] : Nat) : Int), .int .i64 (puE L [x])]) ∧ Chg wr B ao L.length c (puL L [x]) w') := put_new wr B ao c L [x] 1 HI.out.rg rfl (by omega) (fun y hy => by simp at hy; rw [hy]; exact HX6.out)
      cases hok : okp L x with
      | false =>
        obtain ⟨e1, e2, e3⟩ := pu1_no hok
        rw [e1, e3] at HPU
        have HE2 := hid e2
        generalize puE L [x] = pe at *
        clear e1 e2 e3
        go_wp2_with (first | (go_at_call 21; refine HPU.out.mono ?_; rintro e w3 ⟨rfl, h3⟩; obtain ⟨ao', c', g1, g2, g3, g4, g5⟩ := HI.out.put hwB.out h3; have HI3 : Hid (LdI B w B u5 ao' c' L S w3) := ⟨g1, g2, HI.out.pm, g3, Nat.le_refl _, g4, g5⟩; clear h3 g1 g2 g3 g4 g5))
        go_roundw
        case rel => exact ⟨k + 1, ao', c', L, S, by omega, by go_num, HI3, by have := HSL.out; show _ ≤ _; omega⟩
        case measure => simp [intOf]; omega
      | true =>
        obtain ⟨e1, e2, e3, e4, e5⟩ := pu1_yes hok
        rw [e1, e2, e3] at HPU
        clear e1 e2 e3
        go_wp2_with (first | (go_at_call 21; refine HPU.out.mono ?_; rintro e w3 ⟨rfl, h3⟩; obtain ⟨ao', c', g1, g2, g3, g4, g5⟩ := HI.out.put hwB.out h3; have G1 := hid g1; have G2 := hid g2; have G3 := hid g3; have G4 := hid g4; have G5 := hid g5; clear h3 g1 g2 g3 g4 g5 x0 x1 x2; obtain ⟨x0, x1, x2⟩ := HXC.out w3 G3.out) | (go_at_call 22; refine (num_any _ _).mono ?_; rintro e w9 ⟨rfl, rfl⟩) | (at_builtin; refine wpList_append_any rfl _ _ 27 rfl B 46 _ 3 24 Try.underlying27 Try.inf46 rfl (by decide) u5 S.length (flr S) rfl (ownsRow_kp (F := fun _ => False) G2.out ((Kp.refl _ _).alloc _) (fun _ _ x => x)) (some ⟨w3.heap.size, 0, none⟩) 1 1 x.cl rfl (fun e => by cases e) rfl (fun ad e j u hu => by cases e; exact (Srcr.newl w3 [x]).news _ rfl j u (by rw [flr1]; exact hu)) (by rw [← flr1]; exact flr_one _) (by have := HSL.out; unfold maxLen; omega) (by have := HSL.out; omega) (by rw [World.size_alloc]; have := G3.out.size; have := hwB.out; omega) ?_; intro v' w6 o6 k6 hv6; have HI6' : Hid (LdI B w B v' ao' c' (ins L x) (S ++ [x]) w6) := LdI.app G1.out G3.out (Nat.le_refl _) hwB.out G4.out G5.out HI.out.pm G2.out o6 k6 hv6; clear o6 k6 hv6))
        go_roundw
        case rel => exact ⟨k + 1, ao', c', ins L x, S ++ [x], by omega, by go_num, HI6', by have := HSL.out; show _ ≤ _; simp; omega⟩
        case measure => simp [intOf]; omega
    · go_wp2_with fail
      go_ret2
      exact ⟨B, u5, ao, c, L, S, rfl, HI.out, by have := HSL.out; omega⟩
end Go.Proofs.Ytopnfjgkgoeleaa
