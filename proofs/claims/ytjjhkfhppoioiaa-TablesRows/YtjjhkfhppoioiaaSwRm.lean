/- tables: the law of lists of Rn: the walk. -/
import Derived.Test.YtjjhkfhppoioiaaTpR
import Derived.BigQuiet
import Derived.Test.YtjjhkfhppoioiaaRoR
import Derived.Test.YtjjhkfhppoioiaaKn
import Derived.Test.YtjjhkfhppoioiaaTqR
namespace Go.Proofs.Ytjjhkfhppoioiaa
open Go.RowKit
set_option linter.unusedVariables false
set_option maxRecDepth 100000 in
set_option maxHeartbeats 4000000 in
theorem same_r (l : List Rn) (ao bo : Option Addr) (n cap dap : Nat) (w : World) (hn : n = l.length) (hc : n ≤ cap) (hd : n ≤ dap) (hn2 : n ≤ 100000) (hA : Srcr w ao l) (hB : Srcr w bo l) :
    Calls Try.prog 15 #[.slice ao n cap, .slice bo n dap] w fun e w' => e = .returned (.bool true) ∧ Below w.heap.size w w' := by
  have HN := hid hn
  have HA := hid hA
  have HB := hid hB
  clear hn hA hB
  go_enter Try.func15, Try.ntmps15
  go_wp2_with fail
  go_loopw [5] (fun i wr => ∃ k : Nat, k ≤ n ∧ i = .int .i64 (k : Int) ∧ Below w.heap.size w wr) (fun i _ => n - (intOf i).toNat)
  case atStart => exact ⟨0, Nat.zero_le _, rfl, Below.refl _ _⟩
  case round =>
    obtain ⟨k, hk, rfl, hb⟩ := hrel
    have HBL := hid hb
    clear hb
    by_cases hlt : k < n
    · obtain ⟨ga, oa, rfl, _, x0, x1, x2, x3, x4⟩ := (HA.out.below HBL.out).at (i := k) (by have := HN.out; omega)
      obtain ⟨gb, ob, rfl, _, y0, y1, y2, y3, y4⟩ := (HB.out.below HBL.out).at (i := k) (by have := HN.out; omega)
      generalize l.getD k zRn = e at *
      obtain ⟨nm, a, bb, c, d⟩ := e
      dsimp only at x0 x1 x2 x3 x4 y0 y1 y2 y3 y4
      go_wp2_with fail
      go_quiet (fail)
      go_wp2_with fail
      go_roundw
      case rel => exact ⟨k + 1, by omega, by go_num, HBL.out.trans ((drewN_kp (fun _ => False) wr _).below HBL.out.size (fun _ x => x.elim))⟩
      case measure => simp [intOf]; omega
    · go_wp2_with fail
      go_ret
      exact ⟨rfl, HBL.out⟩
theorem Srcr.news {w : World} {ao : Option Addr} {l : List Rn} (h : Srcr w ao l) : ∀ ad, ao = some ad → ∀ j u, (flr l)[j]? = some u → w.cell? (ad.add j) = some u := by
  rintro ad rfl j u hu
  have hj : j < (flr l).length := (List.getElem?_eq_some_iff.1 hu).1
  rw [flr_len] at hj
  obtain ⟨b, off, e, _, hc⟩ := h (by omega)
  cases e
  rw [add_o]
  exact hc j u hu
theorem Srcr.pre {w : World} {ao : Option Addr} {l m : List Rn} (h : Srcr w ao (l ++ m)) : Srcr w ao l := by
  intro hp
  obtain ⟨b, off, e, hb, hc⟩ := h (by simp; omega)
  refine ⟨b, off, e, hb, fun j u hu => hc j u ?_⟩
  rw [flr_append, List.getElem?_append_left (List.getElem?_eq_some_iff.1 hu).1]
  exact hu
def zzr : Rn := ⟨⟨#[122, 122]⟩, 0, 0, 0, 0⟩
/-- What a list with one more behind it lies in. -/
theorem Ownr.more {w : World} {base : Nat} {v : Value} {l : List Rn} (h : Ownr w base v (l ++ [zzr])) : ∃ g cap, v = .slice (some ⟨g, 0, none⟩) (l.length + 1) cap ∧ l.length + 1 ≤ cap ∧ cap ≤ maxLen ∧ g < w.heap.size ∧ Srcr w (some ⟨g, 0, none⟩) l ∧ w.cell? ⟨g, l.length * 5, none⟩ = some (.string ⟨#[122, 122]⟩) := by
  obtain ⟨g, cap, e⟩ := own_slice5 h (by simp)
  obtain ⟨ao, cap', e2, h1, h2, h3, _⟩ := h.src
  rw [e2] at e
  simp only [List.length_append, List.length_singleton] at e e2 h2
  cases e
  obtain ⟨b, off, e3, hb, c0, _⟩ := h1.at (i := l.length) (by simp)
  cases e3
  refine ⟨_, _, e2, h2, h3, hb, h1.pre, ?_⟩
  rw [Nat.zero_add] at c0
  rw [c0]
  simp [List.getD, zzr]
theorem law_ownr {w : World} {base n : Nat} {v : Value} {l : List Rn} (hn : n = l.length) (h : w.ownsRow base 38 5 v (0 + n + 1) (([] ++ flr l) ++ Rn.cl zzr)) : Ownr w base v (l ++ [zzr]) := by
  have : flr (l ++ [zzr]) = ([] ++ flr l) ++ Rn.cl zzr := by simp [flr]
  show w.ownsRow base 38 5 v (l ++ [zzr]).length (flr (l ++ [zzr]))
  rw [this, List.length_append, List.length_singleton, ← hn]
  rw [Nat.zero_add] at h
  exact h
theorem law_belr {w w1 w2 : World} {v : Value} {n : Nat} {xs : List Value} {o : Obj} (b1 : Below w.heap.size w w1) (h : w1.ownsRow w.heap.size 38 5 v n xs) (k : Kp (fun i => v.ownBlock = some i) (w1.alloc o) w2) : Below w.heap.size w w2 :=
  (b1.alloc b1.size o).trans (k.below (by rw [World.size_alloc]; have := b1.size; omega) (fun i e => (h.lt i e).1))
end Go.Proofs.Ytjjhkfhppoioiaa

namespace Go.Proofs.Ytjjhkfhppoioiaa
open Go.RowKit
set_option linter.unusedVariables false
set_option maxRecDepth 100000 in
set_option maxHeartbeats 4000000 in
theorem law_long_r (bits : Int) (ao : Option Addr) (n cap : Nat) (w : World) (h : 100 < n) (hn : n ≤ 9223372036854775807) :
    Calls Try.prog 4 #[.int .i64 bits, .slice ao n cap] w fun e w' => e = .returned (.bool true) ∧ Below w.heap.size w w' := by
  go_enter Try.func4, Try.ntmps4
  go_wp2_with (first | (go_at_call 8; refine (known_any _).mono ?_; rintro e w1 ⟨rfl, b1⟩))
  go_ret
  exact ⟨rfl, b1⟩
theorem Own.src1r {w : World} {base : Nat} {v : Value} {xs : List Int} (h : Own w base v xs) : ∃ ao cap, v = .slice ao xs.length cap ∧ Src w ao xs := by
  obtain ⟨ao, cap, e, h1, _⟩ := h.sl.src
  exact ⟨ao, cap, e, h1⟩
theorem rPut_r (b : Int) (l : List Rn) (ao : Option Addr) (n cap : Nat) (w : World) (hn : n = l.length) (hcap : n ≤ cap) (hn2 : n ≤ 2000) (hS : Srcr w ao l) (h6 : ∀ e ∈ l, e.i6) :
    Calls Try.prog 14 #[.int .i64 b, .slice ao n cap] w fun e w' => ∃ v bs er, e = .returned (.tuple #[v, .int .i64 er]) ∧ Out (Rn.May b) Rn.nm Rn.enc b l bs er ∧ Own w' w.heap.size v bs ∧ Below w.heap.size w w' := by
  by_cases hb : Bt b
  · exact rput_ok_r b l ao n cap w hb hn hcap hn2 hS h6
  · refine (rput_bad_r b ao n cap w hb).mono ?_
    rintro e w' ⟨rfl, h⟩
    exact ⟨_, [], 2, rfl, Or.inl ⟨fun h => hb h.1, rfl, rfl⟩, Own.nil _ _, h⟩
set_option maxRecDepth 100000 in
set_option maxHeartbeats 8000000 in
theorem law_walk_r (bits : Int) (ao : Option Addr) (n cap : Nat) (l : List Rn) (w : World) (hn : n = l.length) (hcap : n ≤ cap) (hno : ao = none → cap = 0) (h100 : n ≤ 100) (hS : Srcr w ao l) (h6 : ∀ e ∈ l, e.i6) :
    Calls Try.prog 4 #[.int .i64 bits, .slice ao n cap] w fun e w' => e = .returned (.bool true) ∧ Below w.heap.size w w' := by
  have HN := hid hn
  have HS := hid hS
  have H6 := hid h6
  obtain ⟨P, hP⟩ : ∃ P, P = w.heap.size := ⟨_, rfl⟩
  have HNO : Hid (ao = none → n = 0 ∧ cap = 0) := fun e => ⟨by have := hno e; omega, hno e⟩
  have HL : Hid ((flr l).length = n * 5) := by show _ = _; rw [flr_len, hn]
  clear hn hS h6 hno
  have HPW := hid hP
  clear hP
  go_enter Try.func4, Try.ntmps4
  go_wp2_with (first
    | (at_builtin; refine wpList_append_any rfl (.const (.slice none 0 0)) (.tmp 16) 36 rfl w.heap.size 38 _ 5 48 Try.underlying36 Try.inf38 rfl (by decide) (.slice none 0 0) 0 [] rfl (World.ownsRow_nil _ _ 38 5) ao n cap (flr l) rfl HNO.out HL.out HS.out.news (flr_one l) (by unfold maxLen; omega) (by omega) (Nat.le_refl _) ?_; intro v1 w1 o1 k1 _; have O1 := hid o1; have K1 : Hid (Below w.heap.size w w1) := k1.below (Nat.le_refl _) (fun i e => by cases e); clear o1 k1)
    | (at_builtin; refine wpList_append_any rfl (.tmp 17) (.tmp 19) 36 rfl w.heap.size 38 _ 5 48 Try.underlying36 Try.inf38 rfl (by decide) v1 (0 + n) ([] ++ flr l) rfl (World.ownsRow.alloc O1.out _) (some ⟨w1.heap.size, 0, none⟩) 1 1 (Rn.cl zzr) (by first | rfl | simp [Act.eval]) (fun h => by cases h) rfl (fun ad e j y hy => by (cases e; rw [add_z]; exact ((St.new 38 w1 zzr.cs).cell j).trans (by simpa [Rn.cl, Rn.cs] using hy))) (fun y hy => flr_one [zzr] y (by simpa [flr] using hy)) (by unfold maxLen; omega) (by omega) (by rw [World.size_alloc]; have := K1.out.size; omega) ?_; intro v2 w2 o2 k2 _; have O2 : Hid (Ownr w2 w.heap.size v2 (l ++ [zzr])) := (law_ownr HN.out o2); have K2 : Hid (Below w.heap.size w w2) := law_belr K1.out O1.out k2; clear o2 k2 O1 K1; obtain ⟨g, cap2, hv2, c1, c2, c3, c4, c5⟩ := O2.out.more; rw [← HN.out] at hv2 c1 c5; subst hv2; have C4 := hid c4; have C5 := hid c5; unfold maxLen at c2; clear O2 c4 c5))
  refine (Put_r bits l (some ⟨g, 0, none⟩) n cap2 w2 HN.out (by omega) (by omega) C4.out H6.out).mono ?_
  rintro e w3 ⟨v3, bs, er, rfl, p1, p2, p3⟩
  have P1 := hid p1
  have B3 := hid (K2.out.trans (p3.mono K2.out.size))
  have SL3 := hid p2.sl
  obtain ⟨ao3, cap3, rfl, s3⟩ := p2.src1r
  have C4' := hid (C4.out.below p3)
  have C5' : Hid (∀ U, Below w3.heap.size w3 U → U.cell? ⟨g, n * 5, none⟩ = some (.string ⟨#[122, 122]⟩)) := fun U h => by rw [h.cell (by show g < _; have := p3.size; omega), p3.cell c3]; exact C5.out
  have S3 := hid s3
  clear p1 p2 p3 s3 C4 C5
  go_wp2_with fail
  refine (rPut_r bits l ao n cap w3 HN.out hcap (by omega) (HS.out.below B3.out) H6.out).mono ?_
  rintro e w4 ⟨v4, bs4, er4, rfl, q1, q2, q3⟩
  obtain ⟨hbs, her⟩ := P1.out.same q1
  subst hbs her
  obtain ⟨ao4, cap4, rfl, s4⟩ := q2.src1r
  have M4 := hid q3
  have B4 := hid (B3.out.trans (q3.mono B3.out.size))
  have SL4 := hid (SL3.out.below q3)
  have S3' := hid (S3.out.below q3)
  have S4 := hid s4
  have HSM : Hid (∀ U, Below w4.heap.size w4 U → Calls Try.prog 15 #[.slice (some ⟨g, 0, none⟩) n cap2, .slice ao n cap] U fun e w' => e = .returned (.bool true) ∧ Below U.heap.size U w') := fun U h => same_r l _ _ n cap2 cap U HN.out (by omega) hcap (by omega) ((C4'.out.below q3).below h) ((HS.out.below B4.out).below (h))
  have HBK : Hid (er = 0 → ∀ m r, Red (Rn.May bits) Rn.nm Rn.enc bits bs (n : Int) m r → m = l ∧ r = 0) := fun h0 m r h => Red.back (Rn.prs bits) (l := l) (by rw [h0] at q1; exact q1) (by rw [← HN.out]; exact h)
  have hcase : er = 2 ∨ er = 3 ∨ (er = 0 ∧ Byt bs) := by
    rcases q1 with ⟨_, _, h⟩ | ⟨_, _, _, _, h⟩ | ⟨_, h2, _, rfl, h⟩
    · exact Or.inl h
    · exact Or.inr (Or.inl h)
    · refine Or.inr (Or.inr ⟨h, fun z hz => ?_⟩)
      obtain ⟨e, he, hz⟩ := List.mem_flatMap.1 hz
      exact Rn.enc_byt (h2.1 e he).1.2.1 z hz
  have hst : ((strOfNums bs).toList == (strOfNums bs).toList) = true := by simp
  have hst2 : ((strOfNums bs).toList != (strOfNums bs).toList) = false := by simp
  clear q1 q2 q3 s4 P1 S3 SL3 C4'
  obtain ⟨N, hN⟩ : ∃ N, N = bs.length := ⟨_, rfl⟩
  rw [← hN] at SL4 ⊢
  have HNL := hid hN
  clear hN
  rcases hcase with rfl | rfl | ⟨rfl, hby⟩
  · go_wp2_with (first
      | (refine wpList_convert_rw rfl (.tmp 36) 26 9 5 rfl Try.underlying26 Try.underlying5 Try.underlying9 ao3 N cap3 rfl bs HNL.out.symm (fun hp => by (rw [HNL.out] at hp ⊢; exact S3'.out hp)) ?_)
      | (refine wpList_convert_rw rfl (.tmp 38) 26 9 5 rfl Try.underlying26 Try.underlying5 Try.underlying9 ao4 N cap4 rfl bs HNL.out.symm (fun hp => by (rw [HNL.out] at hp ⊢; exact S4.out hp)) ?_)
      | (go_at_call 15; refine (HSM.out w4 (Below.refl _ _)).mono ?_; rintro e w5 ⟨rfl, b5⟩; have c5 := C5'.out w5 (M4.out.trans (b5.mono M4.out.size)); have B5 := hid (B4.out.trans (b5.mono B4.out.size)); clear b5)
      | (go_at_call 8; refine (known_any _).mono ?_; rintro e w6 ⟨rfl, b6⟩))
    go_ret
    exact ⟨rfl, B5.out.trans (b6.mono B5.out.size)⟩
  · go_wp2_with (first
      | (refine wpList_convert_rw rfl (.tmp 36) 26 9 5 rfl Try.underlying26 Try.underlying5 Try.underlying9 ao3 N cap3 rfl bs HNL.out.symm (fun hp => by (rw [HNL.out] at hp ⊢; exact S3'.out hp)) ?_)
      | (refine wpList_convert_rw rfl (.tmp 38) 26 9 5 rfl Try.underlying26 Try.underlying5 Try.underlying9 ao4 N cap4 rfl bs HNL.out.symm (fun hp => by (rw [HNL.out] at hp ⊢; exact S4.out hp)) ?_)
      | (go_at_call 15; refine (HSM.out w4 (Below.refl _ _)).mono ?_; rintro e w5 ⟨rfl, b5⟩; have c5 := C5'.out w5 (M4.out.trans (b5.mono M4.out.size)); have B5 := hid (B4.out.trans (b5.mono B4.out.size)); clear b5)
      | (go_at_call 8; refine (known_any _).mono ?_; rintro e w6 ⟨rfl, b6⟩))
    go_ret
    exact ⟨rfl, B5.out.trans (b6.mono B5.out.size)⟩
  · have HRD : Hid (∀ U, Below w4.heap.size w4 U → Calls Try.prog 16 #[.int .i64 bits, .slice ao3 N cap3, .int .i64 (n : Int)] U fun e w' => ∃ v' cap', e = .returned (.tuple #[.slice v' n cap', .int .i64 0]) ∧ Srcr w' v' l ∧ n ≤ cap' ∧ Below U.heap.size U w') := fun U h => (Read_r bits (n : Int) (.slice ao3 N cap3) bs U hby (SL4.out.below h)).mono (fun e w' ⟨v', m, r, he, h1, h2, h3⟩ => by
      obtain ⟨rfl, rfl⟩ := HBK.out rfl m r h1
      obtain ⟨ao', cap', rfl, g1, g2, _⟩ := h2.src
      rw [← HN.out] at he g2
      exact ⟨ao', cap', he, g1, g2, h3⟩)
    clear HBK
    go_wp2_with (first
      | (refine wpList_convert_rw rfl (.tmp 36) 26 9 5 rfl Try.underlying26 Try.underlying5 Try.underlying9 ao3 N cap3 rfl bs HNL.out.symm (fun hp => by (rw [HNL.out] at hp ⊢; exact S3'.out hp)) ?_)
      | (refine wpList_convert_rw rfl (.tmp 38) 26 9 5 rfl Try.underlying26 Try.underlying5 Try.underlying9 ao4 N cap4 rfl bs HNL.out.symm (fun hp => by (rw [HNL.out] at hp ⊢; exact S4.out hp)) ?_)
      | (go_at_call 15; refine (HSM.out w4 (Below.refl _ _)).mono ?_; rintro e w5 ⟨rfl, b5⟩; have c5 := C5'.out w5 (M4.out.trans (b5.mono M4.out.size)); have B5 := hid (B4.out.trans (b5.mono B4.out.size)); have M5 := hid b5; clear b5 HSM))
    refine (HRD.out w5 M5.out).mono ?_
    rintro e w6 ⟨v6, cap6, rfl, r1, r2, r3⟩
    have B6 := hid (B5.out.trans (r3.mono B5.out.size))
    have HSM2 := hid (same_r l v6 ao n cap6 cap w6 HN.out r2 hcap (by omega) r1 (HS.out.below B6.out))
    clear r1 r3 HRD
    go_wp2_with (first
      | (go_at_call 15; refine HSM2.out.mono ?_; rintro e w7 ⟨rfl, b7⟩; have B7 := hid (B6.out.trans (b7.mono B6.out.size)); clear b7)
      | (go_at_call 8; refine (known_any _).mono ?_; rintro e w8 ⟨rfl, b8⟩))
    go_ret
    exact ⟨rfl, B7.out.trans (b8.mono B7.out.size)⟩
theorem law_any_r (bits : Int) (ao : Option Addr) (n cap : Nat) (l : List Rn) (w : World) (hn : n = l.length) (hcap : n ≤ cap) (hcm : cap ≤ maxLen) (hno : ao = none → cap = 0) (hS : Srcr w ao l) (h6 : ∀ e ∈ l, e.i6) :
    Calls Try.prog 4 #[.int .i64 bits, .slice ao n cap] w fun e w' => e = .returned (.bool true) ∧ Below w.heap.size w w' := by
  by_cases h : n ≤ 100
  · exact law_walk_r bits ao n cap l w hn hcap hno h hS h6
  · exact law_long_r bits ao n cap w (by omega) (by unfold maxLen at hcm; omega)
end Go.Proofs.Ytjjhkfhppoioiaa
