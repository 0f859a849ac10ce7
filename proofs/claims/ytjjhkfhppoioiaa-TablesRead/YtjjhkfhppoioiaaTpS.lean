/- tables: told, Put (Sn): a list's bytes. -/
import Derived.Test.YtjjhkfhppoioiaaToS
namespace Go.Proofs.Ytjjhkfhppoioiaa
open Go.RowKit
set_option linter.unusedVariables false
theorem encs_bounds (b : Int) (l : List Sn) (h : ∀ e ∈ l, e.May b) : (encs Sn.enc l).length ≤ 85 * l.length := by
  induction l with
  | nil => simp [encs]
  | cons e l ih =>
    have h1 := (h e (by simp)).1.2.1
    have h2 := ih (fun e he => h e (by simp [he]))
    rw [encs_cons, List.length_append, Sn.enc_len, List.length_cons]
    omega
def PKs (P : Nat) (b : Int) (ao : Option Addr) (n cap : Nat) (l : List Sn) (i : Nat) (u : World) : Prop := PJs P b ao n cap l i u ∧ ∀ j, j < i → (l.getD j zSn).May b
set_option maxRecDepth 100000 in
set_option maxHeartbeats 4000000 in
theorem told_bad_s (b : Int) (l : List Sn) (v : Value) (n : Nat) (ao : Option Addr) (cap : Nat) (w : World) (hb : ¬ Bt b) :
    Calls Try.prog 21 #[.agg kcs, .int .i64 b, .slice ao n cap] w fun e w' => e = .returned (.tuple #[.slice none 0 0, .int .i64 2]) ∧ Below w.heap.size w w' := by
  unfold kcs
  go_enter Try.func21, Try.ntmps21
  go_wp2_with (first | (go_at_call 35; refine (clustered_no b _ hb).mono ?_; rintro e w' ⟨rfl, rfl⟩))
  go_ret2
  exact ⟨rfl, (((Below.refl _ _).alloc (Nat.le_refl _) _).alloc (by simp) _).alloc (by simp; omega) _⟩
theorem thr_call_s (P : Nat) (b : Int) (ao : Option Addr) (n cap : Nat) (l : List Sn) (w0 w : World) (el : Nat → Sn) (hel : El (Sn.May b) zSn l el) (hb : Bt b) (hn : n = l.length) (hcap : n ≤ cap) (hn2 : n ≤ 1000) (hS : Srcs w0 ao l) (h6 : ∀ e ∈ l, e.i6) (hw0 : w0.heap.size = P) (hbl : Below P w0 w) (hsz : w.heap.size = P + 4) (h : PJs P b ao n cap l 0 w) :
    Calls Try.prog 37 #[.int .i64 (n : Int), .func (.func 36) #[] #[.pointer (some ⟨P, 0, none⟩), .pointer (some ⟨P + 2, 0, none⟩), .pointer (some ⟨P + 1, 0, none⟩), .pointer (some ⟨P + 3, 0, none⟩)], .func (.func 38) #[] #[]] w fun e w' => Below P w0 w' ∧ ((e = .returned (.bool true) ∧ Lst (Sn.May b) Sn.nm l ∧ PJs P b ao n cap l n w') ∨ (e = .returned (.bool false) ∧ ¬ Lst (Sn.May b) Sn.nm l)) := by
  have hz := Sn.zno b
  have hl := El.lst (nm := Sn.nm) hz hel
  rw [← hn] at hl
  refine (thr_s_p n (by omega) _ _ _ _ P w0 w (PKs P b ao n cap l) el (by omega) hbl ⟨h, fun j hj => by omega⟩ ?_ ?_).mono ?_
  · intro i u u' hJ k
    rw [hsz] at k
    exact ⟨hJ.1.kp k, hJ.2⟩
  · intro i u hi hs hJ hb2
    rw [hsz] at hs ⊢
    rcases hel i with ⟨hm, he⟩ | ⟨hm, he⟩
    · refine (told1_ok_s P b ao n cap l i w0 u hb hn hcap hi (by omega) hS h6 hw0 hb2 (by omega) hJ.1 ?_ hm).mono ?_
      · have hbd := encs_bounds b (l.take (i + 1)) (fun e he2 => by
          obtain ⟨j, hj, rfl⟩ := List.getElem_of_mem he2
          rw [List.length_take] at hj
          rw [List.getElem_take]
          by_cases e : j = i
          · subst e
            rwa [getD_lt l j zSn (by omega)] at hm
          · have := hJ.2 j (by omega)
            rwa [getD_lt l j zSn (by omega)] at this)
        rw [List.length_take] at hbd
        omega
      · rintro e u' ⟨rfl, h1, h2, h3, h4, h5⟩
        refine ⟨by rw [he], h1, h2, h3, h4, fun _ => ⟨h5, fun j hj => ?_⟩⟩
        by_cases e : j = i
        · subst e; exact hm
        · exact hJ.2 j (by omega)
    · refine (told1_no_s P b ao n cap l i w0 u hb hn hcap hi (by omega) hS h6 hw0 hb2 (by omega) hJ.1 hm).mono ?_
      rintro e u' ⟨rfl, h1⟩
      exact ⟨by rw [he], h1.block _ (by omega), h1.block _ (by omega), h1.size, hb2.trans (h1.mono (by omega)), fun hne => absurd he hne⟩
  · rintro e w' ⟨h1, ⟨rfl, h2, h3⟩ | ⟨rfl, h2⟩⟩
    · exact ⟨h1, Or.inl ⟨rfl, hl.1 h2, h3.1⟩⟩
    · exact ⟨h1, Or.inr ⟨rfl, fun h => h2 (hl.2 h)⟩⟩
set_option maxRecDepth 100000 in
set_option maxHeartbeats 4000000 in
theorem told_s (b : Int) (l : List Sn) (ao : Option Addr) (n cap : Nat) (w : World) (hb : Bt b) (hn : n = l.length) (hcap : n ≤ cap) (hn2 : n ≤ 1000) (hS : Srcs w ao l) (h6 : ∀ e ∈ l, e.i6) :
    Calls Try.prog 21 #[.agg kcs, .int .i64 b, .slice ao n cap] w fun e w' => ∃ v bs er, e = .returned (.tuple #[v, .int .i64 er]) ∧ Out (Sn.May b) Sn.nm Sn.enc b l bs er ∧ Own w' w.heap.size v bs ∧ Below w.heap.size w w' := by
  obtain ⟨el, hel⟩ := El.ex (Sn.May b) zSn l
  obtain ⟨P, hP⟩ : ∃ P, P = w.heap.size := ⟨_, rfl⟩
  have HN := hid hn
  have HT := hid (fun W hbl hsz h => thr_call_s P b ao n cap l w W el hel hb hn hcap hn2 hS h6 hP.symm hbl hsz h)
  clear hn hel hS h6
  unfold kcs
  go_enter Try.func21, Try.ntmps21
  go_wp2_with (first | (go_at_call 35; refine (clustered_yes b _ hb).mono ?_; rintro e w' ⟨rfl, rfl⟩))
  have hW : ∀ W, W = ((((w.alloc (.cells kcs 61)).alloc (.cells #[.int .i64 b] 3)).alloc (.cells #[.slice ao n cap] 22)).alloc (.cells #[.slice none 0 0] 26)) → Below P w W ∧ W.heap.size = P + 4 ∧ PJs P b ao n cap l 0 W := by
    rintro W rfl
    have z1 : (w.alloc (.cells kcs 61)).heap.size = P + 1 := by rw [World.size_alloc, hP]
    have s1 : St 61 (w.alloc (.cells kcs 61)) P kcs := by rw [hP]; exact St.new 61 w _
    have b1 : Below P w (w.alloc (.cells kcs 61)) := by rw [hP]; exact (Below.refl _ _).alloc (Nat.le_refl _) _
    generalize w.alloc (.cells kcs 61) = w1 at *
    have z2 : (w1.alloc (.cells #[.int .i64 b] 3)).heap.size = P + 2 := by rw [World.size_alloc, z1]
    have s2 : St 3 (w1.alloc (.cells #[.int .i64 b] 3)) (P + 1) #[.int .i64 b] := by rw [← z1]; exact St.new 3 w1 _
    have k2 : ∀ F, Kp F w1 (w1.alloc (.cells #[.int .i64 b] 3)) := fun F => (Kp.refl _ _).alloc _
    have b2 : Below P w (w1.alloc (.cells #[.int .i64 b] 3)) := b1.alloc (by omega) _
    generalize w1.alloc (.cells #[.int .i64 b] 3) = w2 at *
    have z3 : (w2.alloc (.cells #[.slice ao n cap] 22)).heap.size = P + 3 := by rw [World.size_alloc, z2]
    have s3 : St 22 (w2.alloc (.cells #[.slice ao n cap] 22)) (P + 2) #[.slice ao n cap] := by rw [← z2]; exact St.new 22 w2 _
    have k3 : ∀ F, Kp F w2 (w2.alloc (.cells #[.slice ao n cap] 22)) := fun F => (Kp.refl _ _).alloc _
    have b3 : Below P w (w2.alloc (.cells #[.slice ao n cap] 22)) := b2.alloc (by omega) _
    generalize w2.alloc (.cells #[.slice ao n cap] 22) = w3 at *
    have s4 : St 26 (w3.alloc (.cells #[.slice none 0 0] 26)) (P + 3) #[.slice none 0 0] := by rw [← z3]; exact St.new 26 w3 _
    have k4 : ∀ F, Kp F w3 (w3.alloc (.cells #[.slice none 0 0] 26)) := fun F => (Kp.refl _ _).alloc _
    refine ⟨b3.alloc (by omega) _, by rw [World.size_alloc, z3], ((s1.kp (k2 (fun _ => False)) (fun x => x)).kp (k3 (fun _ => False)) (fun x => x)).kp (k4 (fun _ => False)) (fun x => x), (s2.kp (k3 (fun _ => False)) (fun x => x)).kp (k4 (fun _ => False)) (fun x => x), s3.kp (k4 (fun _ => False)) (fun x => x), .slice none 0 0, s4, World.ownsRow_nil _ _ 5 1, by simp [Value.ownBlock], by simp [Value.ownBlock]⟩
  obtain ⟨w1, w2, w3⟩ := hW _ rfl
  rw [← hP]
  refine (HT.out _ w1 w2 w3).mono ?_
  rintro e w5 ⟨b5, ⟨rfl, hL, pj⟩ | ⟨rfl, hL⟩⟩
  · have y1 := pj.kb.cell 0
    have y2 := pj.lb.cell 0
    obtain ⟨v, v1, v2, v3, v4⟩ := pj.vb
    have y3 := v1.cell 0
    change w5.cell? _ = some (Value.int .i64 64) at y1
    change w5.cell? _ = some _ at y2
    change w5.cell? _ = some v at y3
    have hbs : l.take n = l := by rw [HN.out]; exact List.take_length
    rw [hbs] at v2
    have HV := hid v2
    have HL := hid hL
    have HP := hid hP
    have B5 : Hid (Below w.heap.size w w5) := by rw [← hP]; exact b5
    clear pj w1 w2 w3 HT v1 v2 v3 v4 hL hW b5 hP
    by_cases h64 : n ≤ 64
    · have hO : Hid (Out (Sn.May b) Sn.nm Sn.enc b l (encs Sn.enc l) 0) := Or.inr (Or.inr ⟨hb, HL.out, by rw [← HN.out]; exact h64, rfl, rfl⟩)
      go_wp2_with fail
      go_ret2
      exact ⟨v, _, _, rfl, hO.out, ownsRow_mono HV.out (by have := HP.out; omega), B5.out⟩
    · have hO : Hid (Out (Sn.May b) Sn.nm Sn.enc b l [] 3) := Or.inr (Or.inl ⟨hb, HL.out, by have := HN.out; omega, rfl, rfl⟩)
      go_wp2_with fail
      go_ret2
      exact ⟨_, _, _, rfl, hO.out, Own.nil _ _, B5.out⟩
  · have hO : Hid (Out (Sn.May b) Sn.nm Sn.enc b l [] 2) := Or.inl ⟨fun h => hL h.2, rfl, rfl⟩
    have B5 : Hid (Below w.heap.size w w5) := by rw [← hP]; exact b5
    clear w1 w2 w3 HT hW hL b5
    go_wp2_with fail
    go_ret2
    exact ⟨_, _, _, rfl, hO.out, Own.nil _ _, B5.out⟩
set_option maxRecDepth 100000 in
set_option maxHeartbeats 4000000 in
/-- Snaps, Rows: whatever the list and the width. -/
theorem Put_s (b : Int) (l : List Sn) (ao : Option Addr) (n cap : Nat) (w : World) (hn : n = l.length) (hcap : n ≤ cap) (hn2 : n ≤ 1000) (hS : Srcs w ao l) (h6 : ∀ e ∈ l, e.i6) :
    Calls Try.prog 9 #[.int .i64 b, .slice ao n cap] w fun e w' => ∃ v bs er, e = .returned (.tuple #[v, .int .i64 er]) ∧ Out (Sn.May b) Sn.nm Sn.enc b l bs er ∧ Own w' w.heap.size v bs ∧ Below w.heap.size w w' := by
  have HT : Hid (∀ W, Below w.heap.size w W → Calls Try.prog 21 #[.agg kcs, .int .i64 b, .slice ao n cap] W fun e w' => ∃ v bs er, e = .returned (.tuple #[v, .int .i64 er]) ∧ Out (Sn.May b) Sn.nm Sn.enc b l bs er ∧ Own w' w.heap.size v bs ∧ Below w.heap.size w w') := by
    intro W hW
    by_cases hb : Bt b
    · refine (told_s b l ao n cap W hb hn hcap hn2 (hS.below hW) h6).mono ?_
      rintro e w' ⟨v, bs, er, rfl, h1, h2, h3⟩
      exact ⟨v, bs, er, rfl, h1, ownsRow_mono h2 hW.size, hW.trans (h3.mono hW.size)⟩
    · refine (told_bad_s b l .nilFunc n ao cap W hb).mono ?_
      rintro e w' ⟨rfl, h3⟩
      exact ⟨_, [], 2, rfl, Or.inl ⟨fun h => hb h.1, rfl, rfl⟩, Own.nil _ _, hW.trans (h3.mono hW.size)⟩
  clear hn hS h6
  go_enter Try.func9, Try.ntmps9
  go_wp2_with (first | (go_at_call 22; refine (kind_s _).mono ?_; rintro e w1 ⟨rfl, b1⟩) | (go_at_call 21; refine (HT.out w1 b1).mono ?_; rintro e w2 ⟨v, bs, er, rfl, h1, h2, h3⟩))
  go_ret2
  exact ⟨v, bs, er, rfl, h1, h2, h3⟩
end Go.Proofs.Ytjjhkfhppoioiaa
