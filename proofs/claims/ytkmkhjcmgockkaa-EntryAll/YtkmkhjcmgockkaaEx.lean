/- entry: the document's Put. -/
import Derived.Test.YtkmkhjcmgockkaaEv
namespace Go.Proofs.Ytkmkhjcmgockkaa
open Go.RowKit
set_option linter.unusedVariables false
set_option maxHeartbeats 1000000 in
theorem rput_1 (ao : Option Addr) (len cap : Nat) (i : Int) (e : En) (b : Int) (w : World) (wf : e.Wf) (hb : ¬ (Bt b ∧ MayE e b)) : Calls Try.prog 16 #[.slice ao len cap, .int .i64 i, .agg e.cs, .int .i64 b] w fun r w' => r = .returned (.tuple #[.slice ao len cap, .int .i64 2]) ∧ Kp (fun _ => False) w w' := by
  have HB := hid (Eb.new w e)
  have HK : Hid (Kp (fun _ => False) w (w.alloc (.cells e.cs 24))) := (Kp.refl _ _).alloc _
  have WD := hid (fun w => rmay_no (w := w) wf hb)
  go_enter Try.func16, Try.ntmps16
  go_wp2_with (first | (refine wpList_load_en rfl (.tmp 6) rfl w.heap.size rfl HB.out ?_) | (go_at_call 6; refine (WD.out _).mono ?_; rintro r w1 ⟨rfl, k1⟩))
  go_ret2
  exact ⟨rfl, HK.out.trans k1 (fun _ _ x => x)⟩
set_option maxHeartbeats 1000000 in
theorem rput_2 (ao : Option Addr) (len cap : Nat) (i : Int) (e : En) (b : Int) (w : World) (hl : len ≤ 1000000000000) (wf : e.Wf) (hb : Bt b) (m : MayE e b) (hh : ¬ Hs len i) : Calls Try.prog 16 #[.slice ao len cap, .int .i64 i, .agg e.cs, .int .i64 b] w fun r w' => r = .returned (.tuple #[.slice ao len cap, .int .i64 4]) ∧ Kp (fun _ => False) w w' := by
  have HB := hid (Eb.new w e)
  have HK : Hid (Kp (fun _ => False) w (w.alloc (.cells e.cs 24))) := (Kp.refl _ _).alloc _
  have WD := hid (fun w => rmay_yes (w := w) wf hb m)
  have hq : (len : Int).tdiv 8 = ((len / 8 : Nat) : Int) := by rw [Int.tdiv_eq_ediv_of_nonneg (by omega)]; omega
  have hq2 : IntKind.i64.wrap ((len / 8 : Nat) : Int) = ((len / 8 : Nat) : Int) := by rw [IntKind.wrap_i64]; omega
  unfold Hs at hh
  generalize len / 8 = q at *
  by_cases h0 : i < 0
  · clear hh
    go_enter Try.func16, Try.ntmps16
    go_wp2_with (first | (refine wpList_load_en rfl (.tmp 6) rfl w.heap.size rfl HB.out ?_) | (go_at_call 6; refine (WD.out _).mono ?_; rintro r w1 ⟨rfl, k1⟩))
    go_ret2
    exact ⟨rfl, HK.out.trans k1 (fun _ _ x => x)⟩
  · have h1 : (q : Int) ≤ i := by omega
    clear hh
    go_enter Try.func16, Try.ntmps16
    go_wp2_with (first | (refine wpList_load_en rfl (.tmp 6) rfl w.heap.size rfl HB.out ?_) | (go_at_call 6; refine (WD.out _).mono ?_; rintro r w1 ⟨rfl, k1⟩))
    go_ret2
    exact ⟨rfl, HK.out.trans k1 (fun _ _ x => x)⟩
theorem src_base {W0 w' : World} {ao : Option Addr} {zs : List Int} {n : Nat} (h : Src W0 ao zs) (he : W0.heap.size = n) (b : Below n W0 w') : Src w' ao zs := by subst he; exact h.below b
theorem kp_base {w W0 w' : World} {n : Nat} (k : Kp (fun _ => False) w W0) (hn : w.heap.size ≤ n) (b : Below n W0 w') : Kp (fun _ => False) w w' :=
  ⟨b.os.trans k.os, b.tape.trans k.tape, b.output.trans k.output, Nat.le_trans k.size b.size, fun i hi hf => (b.block i (by omega)).trans (k.block i hi hf)⟩
theorem append_splice (zs X : List Int) (a : Nat) : zs.take a ++ X ++ zs.drop (a + X.length) = splice zs a X := by simp [splice]
set_option maxHeartbeats 4000000 in
theorem rput_3 (g off cap : Nat) (zs : List Int) (k : Nat) (e : En) (b : Int) (w : World) (hl : zs.length ≤ 1000000000000) (hcap : zs.length ≤ cap) (hs : Src w (some ⟨g, off, none⟩) zs) (wf : e.Wf) (hb : Bt b) (m : MayE e b) (hk : k < zs.length / 8) : Calls Try.prog 16 #[.slice (some ⟨g, off, none⟩) zs.length cap, .int .i64 (k : Int), .agg e.cs, .int .i64 b] w fun r w' => ∃ v, r = .returned (.tuple #[v, .int .i64 0]) ∧ Own w' (w.heap.size + 1) v (splice zs (8 * k) (num (wrd e) 8)) ∧ Kp (fun _ => False) w w' := by
  have HB := hid (Eb.new w e)
  have HK : Hid (Kp (fun _ => False) w (w.alloc (.cells e.cs 24))) := (Kp.refl _ _).alloc _
  have HSZ : Hid (w.heap.size + 1 ≤ (w.alloc (.cells e.cs 24)).heap.size) := (by show _ ≤ _; simp)
  have HLT := hid HB.out.lt
  have WD := hid (fun w => rmay_yes (w := w) wf hb m)
  have RW := hid (fun w => rword_any e w (may_small hb m))
  have HU := hid (wrd_u6 hb m)
  have HEQ : Hid ((w.alloc (.cells e.cs 24)).heap.size = w.heap.size + 1) := (by show _ = _; simp)
  have HS := hid (hs.kp HK.out)
  have hq : (zs.length : Int).tdiv 8 = ((zs.length / 8 : Nat) : Int) := by rw [Int.tdiv_eq_ediv_of_nonneg (by omega)]; omega
  have hq2 : IntKind.i64.wrap ((zs.length / 8 : Nat) : Int) = ((zs.length / 8 : Nat) : Int) := by rw [IntKind.wrap_i64]; omega
  have h1 : ¬ ((zs.length / 8 : Nat) : Int) ≤ (k : Int) := by omega
  have h0 : ¬ (k : Int) < 0 := by omega
  have w1 : IntKind.i64.wrap (8 * (k : Int)) = ((8 * k : Nat) : Int) := by rw [IntKind.wrap_i64]; omega
  have w2 : IntKind.i64.wrap (((8 * k : Nat) : Int) + 8) = ((8 * k + 8 : Nat) : Int) := by rw [IntKind.wrap_i64]; omega
  have c1 : ((8 * k + 8 : Nat) : Int) ≤ (zs.length : Int) := by omega
  have c2 : ((8 * k : Nat) : Int) ≤ (cap : Int) := by omega
  have hcz : ¬ cap = 0 := by omega
  have HNL : Hid ((num (wrd e) 8).length = 8) := num_length _ _
  have hsp := append_splice zs (num (wrd e) 8) (8 * k)
  rw [num_length] at hsp
  have HSP := hid hsp
  clear hsp
  have T1 : Hid ((zs.take (8 * k)).length = 8 * k) := (by show _ = _; simp; omega)
  have T2 : Hid ((zs.drop (8 * k + 8)).length = zs.length - (8 * k + 8)) := (by show _ = _; simp)
  have T3 : Hid (([] : List Int).length + (zs.take (8 * k)).length ≤ 140737488355328) := (by show _ ≤ _; rw [T1.out]; simp; omega)
  have T4 : Hid (([] ++ zs.take (8 * k)).length + (num (wrd e) 8).length ≤ 140737488355328) := (by show _ ≤ _; rw [HNL.out, List.nil_append, T1.out]; omega)
  have T5 : Hid (([] ++ zs.take (8 * k) ++ num (wrd e) 8).length + (zs.drop (8 * k + 8)).length ≤ 140737488355328) := (by show _ ≤ _; rw [T2.out, List.length_append, HNL.out, List.nil_append, T1.out]; omega)
  have HD : Hid (cap = 8 * k + 8 → zs.drop (8 * k + 8) = []) := fun h => List.drop_eq_nil_of_le (by omega)
  have hll : (zs.length : Int) ≤ (cap : Int) := by omega
  clear hs wf hb m hk
  generalize hxx : wrd e = x at *
  clear hxx
  generalize splice zs (8 * k) (num x 8) = S at *
  generalize zs.length / 8 = q at *
  generalize hA : 8 * k = A at *
  generalize hLL : zs.length = len at *
  clear hLL
  have N8 : Hid (∀ w, Calls Try.prog 30 #[.int .u64 x, .int .i64 8] w fun e w' => ∃ g c, e = .returned (.slice (some ⟨g, 0, none⟩) 8 c) ∧ Src w' (some ⟨g, 0, none⟩) (num x 8) ∧ Below w.heap.size w w') := fun w => number_own x 8 w HU.out.1 HU.out.2 (by omega) (by omega)
  clear HU
  by_cases hce : cap = A + 8
  · have HN := hid (HD.out hce)
    subst hce
    clear HD
    go_enter Try.func16, Try.ntmps16
    go_wp2_with (refine wpList_load_en rfl (.tmp 6) rfl w.heap.size rfl HB.out ?_)
    refine (WD.out _).mono ?_
    rintro r w3 ⟨rfl, k3⟩
    have L3 : Hid (Below (w.heap.size + 1) (w.alloc (.cells e.cs 24)) w3) := k3.below HSZ.out (fun _ h => h.elim)
    have Z3 : Hid (w.heap.size + 1 ≤ w3.heap.size) := Nat.le_trans HSZ.out L3.out.size
    clear k3
    go_wp2_with (first | (at_builtin; refine wpList_append_rw rfl (.const (.slice none 0 0)) (.tmp 31) rfl (w.heap.size + 1) (.slice none 0 0) [] rfl (Own.nil _ _) _ _ _ (zs.take A) rfl T1.out (fun e => by cases e) ((src_base HS.out HEQ.out L3.out).take A) T3.out Z3.out ?_; intro v1 w4 o4 q4 b4; have L4 := hid (L3.out.trans b4); have B4 := hid (St.below HB.out L4.out (Nat.lt_succ_self _)); have O4 := hid o4; clear o4 q4 b4) | (refine wpList_load_en rfl (.tmp 6) rfl w.heap.size rfl B4.out ?_))
    refine (RW.out _).mono ?_
    rintro r w5 ⟨rfl, k5⟩
    have Z4 : Hid (w.heap.size + 1 ≤ w4.heap.size) := Nat.le_trans HSZ.out L4.out.size
    have L5 : Hid (Below (w.heap.size + 1) (w.alloc (.cells e.cs 24)) w5) := L4.out.trans (k5.below Z4.out (fun _ h => h.elim))
    have O5 := hid (O4.out.below (k5.below (Nat.le_refl _) (fun _ h => h.elim)))
    have Z5 : Hid (w.heap.size + 1 ≤ w5.heap.size) := Nat.le_trans HSZ.out L5.out.size
    clear k5 O4
    go_wp2_with fail
    refine (N8.out _).mono ?_
    rintro r w6 ⟨g6, c6, rfl, s6, b6⟩
    have L6 : Hid (Below (w.heap.size + 1) (w.alloc (.cells e.cs 24)) w6) := L5.out.trans (b6.mono Z5.out)
    have O6 := hid (O5.out.below b6)
    have Z6 : Hid (w.heap.size + 1 ≤ w6.heap.size) := Nat.le_trans HSZ.out L6.out.size
    have S6 := hid s6
    clear b6 s6 O5
    go_wp2_with (first | (at_builtin; refine wpList_append_rw rfl (.tmp 33) (.tmp 36) rfl (w.heap.size + 1) v1 ([] ++ zs.take A) rfl O6.out _ _ _ (num x 8) rfl HNL.out (fun e => by cases e) S6.out T4.out Z6.out ?_; intro v2 w7 o7 q7 b7; have L7 := hid (L6.out.trans b7); have O7 := hid o7; have Z7 : Hid (w.heap.size + 1 ≤ w7.heap.size) := Nat.le_trans HSZ.out L7.out.size; clear o7 q7 b7) | (at_builtin; refine wpList_append_rw rfl (.tmp 38) (.tmp 43) rfl (w.heap.size + 1) v2 ([] ++ zs.take A ++ num x 8) rfl O7.out _ _ _ (zs.drop (A + 8)) rfl T2.out (fun e => by cases e) (by rw [HN.out]; exact Src.nil _ _) T5.out Z7.out ?_; intro v3 w8 o8 q8 b8))
    go_ret2
    exact ⟨v3, rfl, by rw [← HSP.out]; exact o8, kp_base HK.out (Nat.le_succ _) (L7.out.trans b8)⟩
  · clear HD
    go_enter Try.func16, Try.ntmps16
    go_wp2_with (refine wpList_load_en rfl (.tmp 6) rfl w.heap.size rfl HB.out ?_)
    refine (WD.out _).mono ?_
    rintro r w3 ⟨rfl, k3⟩
    have L3 : Hid (Below (w.heap.size + 1) (w.alloc (.cells e.cs 24)) w3) := k3.below HSZ.out (fun _ h => h.elim)
    have Z3 : Hid (w.heap.size + 1 ≤ w3.heap.size) := Nat.le_trans HSZ.out L3.out.size
    clear k3
    go_wp2_with (first | (at_builtin; refine wpList_append_rw rfl (.const (.slice none 0 0)) (.tmp 31) rfl (w.heap.size + 1) (.slice none 0 0) [] rfl (Own.nil _ _) _ _ _ (zs.take A) rfl T1.out (fun e => by cases e) ((src_base HS.out HEQ.out L3.out).take A) T3.out Z3.out ?_; intro v1 w4 o4 q4 b4; have L4 := hid (L3.out.trans b4); have B4 := hid (St.below HB.out L4.out (Nat.lt_succ_self _)); have O4 := hid o4; clear o4 q4 b4) | (refine wpList_load_en rfl (.tmp 6) rfl w.heap.size rfl B4.out ?_))
    refine (RW.out _).mono ?_
    rintro r w5 ⟨rfl, k5⟩
    have Z4 : Hid (w.heap.size + 1 ≤ w4.heap.size) := Nat.le_trans HSZ.out L4.out.size
    have L5 : Hid (Below (w.heap.size + 1) (w.alloc (.cells e.cs 24)) w5) := L4.out.trans (k5.below Z4.out (fun _ h => h.elim))
    have O5 := hid (O4.out.below (k5.below (Nat.le_refl _) (fun _ h => h.elim)))
    have Z5 : Hid (w.heap.size + 1 ≤ w5.heap.size) := Nat.le_trans HSZ.out L5.out.size
    clear k5 O4
    go_wp2_with fail
    refine (N8.out _).mono ?_
    rintro r w6 ⟨g6, c6, rfl, s6, b6⟩
    have L6 : Hid (Below (w.heap.size + 1) (w.alloc (.cells e.cs 24)) w6) := L5.out.trans (b6.mono Z5.out)
    have O6 := hid (O5.out.below b6)
    have Z6 : Hid (w.heap.size + 1 ≤ w6.heap.size) := Nat.le_trans HSZ.out L6.out.size
    have S6 := hid s6
    clear b6 s6 O5
    go_wp2_with (first | (at_builtin; refine wpList_append_rw rfl (.tmp 33) (.tmp 36) rfl (w.heap.size + 1) v1 ([] ++ zs.take A) rfl O6.out _ _ _ (num x 8) rfl HNL.out (fun e => by cases e) S6.out T4.out Z6.out ?_; intro v2 w7 o7 q7 b7; have L7 := hid (L6.out.trans b7); have O7 := hid o7; have Z7 : Hid (w.heap.size + 1 ≤ w7.heap.size) := Nat.le_trans HSZ.out L7.out.size; clear o7 q7 b7) | (at_builtin; refine wpList_append_rw rfl (.tmp 38) (.tmp 43) rfl (w.heap.size + 1) v2 ([] ++ zs.take A ++ num x 8) rfl O7.out _ _ _ (zs.drop (A + 8)) rfl T2.out (fun e => by cases e) ((src_base HS.out HEQ.out L7.out).drop (A + 8)) T5.out Z7.out ?_; intro v3 w8 o8 q8 b8))
    go_ret2
    exact ⟨v3, rfl, by rw [← HSP.out]; exact o8, kp_base HK.out (Nat.le_succ _) (L7.out.trans b8)⟩
/-- The document's Put. -/
theorem rput_any (ao : Option Addr) (cap : Nat) (zs : List Int) (i : Int) (e : En) (b : Int) (w : World) (hl : zs.length ≤ 1000000000000) (hcap : zs.length ≤ cap) (hs : Src w ao zs) (wf : e.Wf) {R : List Int} {E : Int} (h : PutR zs i e b R E) : Calls Try.prog 16 #[.slice ao zs.length cap, .int .i64 i, .agg e.cs, .int .i64 b] w fun r w' => (∃ ao' c', r = .returned (.tuple #[.slice ao' zs.length c', .int .i64 E]) ∧ Src w' ao' R ∧ (ao' = ao ∨ ∀ b off, ao' = some ⟨b, off, none⟩ → w.heap.size ≤ b)) ∧ Kp (fun _ => False) w w' := by
  have hlen := putR_len h
  rcases h with ⟨hb, rfl, rfl⟩ | ⟨hb, m, hh, rfl, rfl⟩ | ⟨hb, m, hh, rfl, rfl⟩
  · refine (rput_1 ao _ cap i e b w wf hb).mono ?_
    rintro r w' ⟨rfl, k⟩
    exact ⟨⟨ao, cap, rfl, hs.kp k, .inl rfl⟩, k⟩
  · refine (rput_2 ao _ cap i e b w hl wf hb m hh).mono ?_
    rintro r w' ⟨rfl, k⟩
    exact ⟨⟨ao, cap, rfl, hs.kp k, .inl rfl⟩, k⟩
  · obtain ⟨k, rfl, hk⟩ := hs_nat hh
    rw [Int.toNat_natCast] at hlen ⊢
    obtain ⟨g, off, rfl, _⟩ := hs (by omega)
    refine (rput_3 g off cap zs k e b w hl hcap hs wf hb m hk).mono ?_
    rintro r w' ⟨v, rfl, ho, kk⟩
    obtain ⟨ao', c', rfl, h1, _, _, h2⟩ := ho.str
    rw [hlen]
    refine ⟨⟨ao', c', rfl, h1, .inr fun b off e => ?_⟩, kk⟩
    subst e
    have := (h2 b rfl).1
    omega
end Go.Proofs.Ytkmkhjcmgockkaa
