/- entry: Put, the document's Put. -/
import Derived.Test.YtkmkhjcmgockkaaEu
namespace Go.Proofs.Ytkmkhjcmgockkaa
open Go.RowKit
set_option linter.unusedVariables false
theorem kp_below {w w' : World} (h : Below w.heap.size w w') : Kp (fun _ => False) w w' := ⟨h.os, h.tape, h.output, h.size, fun i hi _ => h.block i hi⟩
/-- What a table is behind Put, and what is answered. -/
def PutR (zs : List Int) (i : Int) (e : En) (b : Int) (R : List Int) (E : Int) : Prop :=
  (¬ (Bt b ∧ MayE e b) ∧ R = zs ∧ E = 2) ∨ (Bt b ∧ MayE e b ∧ ¬ Hs zs.length i ∧ R = zs ∧ E = 4) ∨ (Bt b ∧ MayE e b ∧ Hs zs.length i ∧ R = splice zs (8 * i.toNat) (num (wrd e) 8) ∧ E = 0)
theorem putR_some (zs : List Int) (i : Int) (e : En) (b : Int) : ∃ R E, PutR zs i e b R E := by
  by_cases hb : Bt b ∧ MayE e b
  · by_cases hh : Hs zs.length i
    · exact ⟨_, _, Or.inr (Or.inr ⟨hb.1, hb.2, hh, rfl, rfl⟩)⟩
    · exact ⟨_, _, Or.inr (Or.inl ⟨hb.1, hb.2, hh, rfl, rfl⟩)⟩
  · exact ⟨_, _, Or.inl ⟨hb, rfl, rfl⟩⟩
theorem putR_len {zs : List Int} {i : Int} {e : En} {b : Int} {R : List Int} {E : Int} (h : PutR zs i e b R E) : R.length = zs.length := by
  rcases h with ⟨_, rfl, _⟩ | ⟨_, _, _, rfl, _⟩ | ⟨_, _, hh, rfl, _⟩
  · rfl
  · rfl
  · obtain ⟨k, rfl, hk⟩ := hs_nat hh
    exact length_splice _ _ _ (by rw [num_length, Int.toNat_natCast]; omega)
theorem putR_byt {zs : List Int} {i : Int} {e : En} {b : Int} {R : List Int} {E : Int} (hb : Byt zs) (h : PutR zs i e b R E) : Byt R := by
  rcases h with ⟨_, rfl, _⟩ | ⟨_, _, _, rfl, _⟩ | ⟨_, _, _, rfl, _⟩
  · exact hb
  · exact hb
  · exact splice_byt hb (num_byt _ _)
set_option maxHeartbeats 1000000 in
theorem eput_1 (ao : Option Addr) (len cap : Nat) (i : Int) (e : En) (b : Int) (w : World) (wf : e.Wf) (hb : ¬ (Bt b ∧ MayE e b)) : Calls Try.prog 17 #[.slice ao len cap, .int .i64 i, .agg e.cs, .int .i64 b] w fun r w' => r = .returned (.int .i64 2) ∧ Kp (fun _ => False) w w' := by
  have HB := hid (Eb.new w e)
  have HK : Hid (Kp (fun _ => False) w (w.alloc (.cells e.cs 24))) := (Kp.refl _ _).alloc _
  have WD := hid (fun w => word_no (w := w) wf hb)
  go_enter Try.func17, Try.ntmps17
  go_wp2_with (first | (refine wpList_load_en rfl (.tmp 6) rfl w.heap.size rfl HB.out ?_) | (go_at_call 7; refine (WD.out _).mono ?_; rintro r w1 ⟨rfl, k1⟩))
  go_ret
  exact ⟨rfl, HK.out.trans k1 (fun _ _ x => x)⟩
set_option maxHeartbeats 1000000 in
theorem eput_2 (ao : Option Addr) (len cap : Nat) (i : Int) (e : En) (b : Int) (w : World) (hl : len ≤ 1000000000000) (wf : e.Wf) (hb : Bt b) (m : MayE e b) (hh : ¬ Hs len i) : Calls Try.prog 17 #[.slice ao len cap, .int .i64 i, .agg e.cs, .int .i64 b] w fun r w' => r = .returned (.int .i64 4) ∧ Kp (fun _ => False) w w' := by
  have HB := hid (Eb.new w e)
  have HK : Hid (Kp (fun _ => False) w (w.alloc (.cells e.cs 24))) := (Kp.refl _ _).alloc _
  have WD := hid (fun w => word_yes (w := w) wf hb m)
  have HN := hid (fun w => has_no ao len cap i w hl hh)
  generalize wrd e = x at *
  go_enter Try.func17, Try.ntmps17
  go_wp2_with (first | (refine wpList_load_en rfl (.tmp 6) rfl w.heap.size rfl HB.out ?_) | (go_at_call 7; refine (WD.out _).mono ?_; rintro r w1 ⟨rfl, k1⟩) | (go_at_call 27; refine (HN.out _).mono ?_; rintro r w' ⟨rfl, rfl⟩))
  go_ret
  exact ⟨rfl, HK.out.trans k1 (fun _ _ x => x)⟩
theorem wset {g cap : Nat} {zs tl : List Int} (k : Nat) (x : Int) (hx : U6 x) (hl : zs.length ≤ 1000000000000) (hcap : zs.length ≤ cap) (hk : k < zs.length / 8) (w : World) (hr : Rw 5 w g (zs ++ tl)) : Calls Try.prog 31 #[.slice (some ⟨g, 0, none⟩) zs.length cap, .int .i64 ((k : Int) * 8), .int .i64 8, .int .u64 x] w fun e w' => e = .returned (.int .i64 0) ∧ Rw 5 w' g (splice zs (8 * k) (num x 8) ++ tl) ∧ Kp (fun j => j = g) w w' := by
  have h := set_any g cap zs tl ((k : Int) * 8) 8 x w (by omega) hx.1 hx.2 hcap hr
  have hn : numE zs.length ((k : Int) * 8) 8 = 0 := numE_mk (by omega) (by omega) (by omega) (by omega)
  have he : setE zs.length ((k : Int) * 8) 8 x = 0 := by
    unfold setE
    rw [if_pos hn, if_pos (by have e : (256 : Int) ^ (8 : Int).toNat = 18446744073709551616 := by decide
                              rw [e]; exact hx.2)]
  have hR : setR zs ((k : Int) * 8) 8 x = splice zs (8 * k) (num x 8) := by
    unfold setR
    rw [if_pos he, show ((k : Int) * 8).toNat = 8 * k by omega]
    rfl
  rw [he, hR] at h
  refine h.mono ?_
  rintro e w' ⟨rfl, hr', hg⟩
  exact ⟨rfl, hr', Kp.of_grown hg (fun i e => by cases e; rfl)⟩
set_option maxHeartbeats 2000000 in
theorem eput_3 (g cap : Nat) (zs tl : List Int) (k : Nat) (e : En) (b : Int) (w : World) (hl : zs.length ≤ 1000000000000) (hcap : zs.length ≤ cap) (hr : Rw 5 w g (zs ++ tl)) (wf : e.Wf) (hb : Bt b) (m : MayE e b) (hk : k < zs.length / 8) : Calls Try.prog 17 #[.slice (some ⟨g, 0, none⟩) zs.length cap, .int .i64 (k : Int), .agg e.cs, .int .i64 b] w fun r w' => r = .returned (.int .i64 0) ∧ Rw 5 w' g (splice zs (8 * k) (num (wrd e) 8) ++ tl) ∧ Kp (fun j => j = g) w w' := by
  have HB := hid (Eb.new w e)
  have HK : Hid (Kp (fun _ => False) w (w.alloc (.cells e.cs 24))) := (Kp.refl _ _).alloc _
  have HR := hid (hr.kp HK.out (fun x => x))
  have WD := hid (fun w => word_yes (w := w) wf hb m)
  have HN := hid (fun w => has_yes (some ⟨g, 0, none⟩) zs.length cap k w hl hk)
  have WS := hid (fun w => wset (cap := cap) (tl := tl) (g := g) k (wrd e) (wrd_u6 hb m) hl hcap hk w)
  have hw : IntKind.i64.wrap ((k : Int) * 8) = (k : Int) * 8 := by rw [IntKind.wrap_i64]; omega
  generalize splice zs (8 * k) (num (wrd e) 8) = S at *
  generalize wrd e = x at *
  generalize zs.length = len at *
  go_enter Try.func17, Try.ntmps17
  go_wp2_with (first | (refine wpList_load_en rfl (.tmp 6) rfl w.heap.size rfl HB.out ?_) | (go_at_call 7; refine (WD.out _).mono ?_; rintro r w1 ⟨rfl, k1⟩; have R1 := hid (HR.out.kp k1 (fun x => x))) | (go_at_call 27; refine (HN.out _).mono ?_; rintro r w' ⟨rfl, rfl⟩) | (go_at_call 31; refine (WS.out _ R1.out).mono ?_; rintro r w3 ⟨rfl, r3, k3⟩))
  go_ret
  exact ⟨rfl, r3, ((HK.out.trans k1 (fun _ _ x => x)).mono (fun _ _ x => x.elim)).trans k3 (fun _ _ x => x)⟩
/-- Put, into a row of one's own. -/
theorem eput_any (g cap : Nat) (zs tl : List Int) (i : Int) (e : En) (b : Int) (w : World) (hl : zs.length ≤ 1000000000000) (hcap : zs.length ≤ cap) (hr : Rw 5 w g (zs ++ tl)) (wf : e.Wf) {R : List Int} {E : Int} (h : PutR zs i e b R E) : Calls Try.prog 17 #[.slice (some ⟨g, 0, none⟩) zs.length cap, .int .i64 i, .agg e.cs, .int .i64 b] w fun r w' => r = .returned (.int .i64 E) ∧ Rw 5 w' g (R ++ tl) ∧ Kp (fun j => j = g) w w' := by
  rcases h with ⟨hb, rfl, rfl⟩ | ⟨hb, m, hh, rfl, rfl⟩ | ⟨hb, m, hh, rfl, rfl⟩
  · refine (eput_1 _ _ cap i e b w wf hb).mono ?_
    rintro r w' ⟨rfl, k⟩
    exact ⟨rfl, hr.kp k (fun x => x), k.mono (fun _ _ x => x.elim)⟩
  · refine (eput_2 _ _ cap i e b w hl wf hb m hh).mono ?_
    rintro r w' ⟨rfl, k⟩
    exact ⟨rfl, hr.kp k (fun x => x), k.mono (fun _ _ x => x.elim)⟩
  · obtain ⟨k, rfl, hk⟩ := hs_nat hh
    rw [Int.toNat_natCast]
    exact eput_3 g cap zs tl k e b w hl hcap hr wf hb m hk
end Go.Proofs.Ytkmkhjcmgockkaa
