/- tables: the law of lists of Sn: the walk. -/
import Derived.Test.YtjjhkfhppoioiaaSaS
import Derived.Test.YtjjhkfhppoioiaaRoS
import Derived.Test.YtjjhkfhppoioiaaKn
namespace Go.Proofs.Ytjjhkfhppoioiaa
open Go.RowKit
set_option linter.unusedVariables false
set_option maxRecDepth 100000 in
set_option maxHeartbeats 4000000 in
theorem law_long_s (bits : Int) (ao : Option Addr) (n cap : Nat) (w : World) (h : 100 < n) (hn : n ≤ 9223372036854775807) :
    Calls Try.prog 3 #[.int .i64 bits, .slice ao n cap] w fun e w' => e = .returned (.bool true) ∧ Below w.heap.size w w' := by
  go_enter Try.func3, Try.ntmps3
  go_wp2_with (first | (go_at_call 8; refine (known_any _).mono ?_; rintro e w1 ⟨rfl, b1⟩))
  go_ret
  exact ⟨rfl, b1⟩
theorem Own.src1s {w : World} {base : Nat} {v : Value} {xs : List Int} (h : Own w base v xs) : ∃ ao cap, v = .slice ao xs.length cap ∧ Src w ao xs := by
  obtain ⟨ao, cap, e, h1, _⟩ := h.sl.src
  exact ⟨ao, cap, e, h1⟩
theorem rPut_s (b : Int) (l : List Sn) (ao : Option Addr) (n cap : Nat) (w : World) (hn : n = l.length) (hcap : n ≤ cap) (hn2 : n ≤ 2000) (hS : Srcs w ao l) (h6 : ∀ e ∈ l, e.i6) :
    Calls Try.prog 10 #[.int .i64 b, .slice ao n cap] w fun e w' => ∃ v bs er, e = .returned (.tuple #[v, .int .i64 er]) ∧ Out (Sn.May b) Sn.nm Sn.enc b l bs er ∧ Own w' w.heap.size v bs ∧ Below w.heap.size w w' := by
  by_cases hb : Bt b
  · exact rput_ok_s b l ao n cap w hb hn hcap hn2 hS h6
  · refine (rput_bad_s b ao n cap w hb).mono ?_
    rintro e w' ⟨rfl, h⟩
    exact ⟨_, [], 2, rfl, Or.inl ⟨fun h => hb h.1, rfl, rfl⟩, Own.nil _ _, h⟩
set_option maxRecDepth 100000 in
set_option maxHeartbeats 8000000 in
theorem law_walk_s (bits : Int) (ao : Option Addr) (n cap : Nat) (l : List Sn) (w : World) (hn : n = l.length) (hcap : n ≤ cap) (hno : ao = none → cap = 0) (h100 : n ≤ 100) (hS : Srcs w ao l) (h6 : ∀ e ∈ l, e.i6) :
    Calls Try.prog 3 #[.int .i64 bits, .slice ao n cap] w fun e w' => e = .returned (.bool true) ∧ Below w.heap.size w w' := by
  have HN := hid hn
  have HS := hid hS
  have H6 := hid h6
  obtain ⟨P, hP⟩ : ∃ P, P = w.heap.size := ⟨_, rfl⟩
  have HNO : Hid (ao = none → n = 0 ∧ cap = 0) := fun e => ⟨by have := hno e; omega, hno e⟩
  have HL : Hid ((fls l).length = n * 4) := by show _ = _; rw [fls_len, hn]
  clear hn hS h6 hno
  have HPW := hid hP
  clear hP
  go_enter Try.func3, Try.ntmps3
  go_wp2_with (first
    | (at_builtin; refine wpList_append_any rfl (.const (.slice none 0 0)) (.tmp 16) 22 rfl w.heap.size 25 _ 4 40 Try.underlying22 Try.inf25 rfl (by decide) (.slice none 0 0) 0 [] rfl (World.ownsRow_nil _ _ 25 4) ao n cap (fls l) rfl HNO.out HL.out HS.out.news (fls_one l) (by unfold maxLen; omega) (by omega) (Nat.le_refl _) ?_; intro v1 w1 o1 k1 _; have O1 := hid o1; have K1 : Hid (Below w.heap.size w w1) := k1.below (Nat.le_refl _) (fun i e => by cases e); clear o1 k1)
    | (at_builtin; refine wpList_append_any rfl (.tmp 17) (.tmp 19) 22 rfl w.heap.size 25 _ 4 40 Try.underlying22 Try.inf25 rfl (by decide) v1 (0 + n) ([] ++ fls l) rfl (World.ownsRow.alloc O1.out _) (some ⟨w1.heap.size, 0, none⟩) 1 1 (Sn.cl zzs) (by first | rfl | simp [Act.eval]) (fun h => by cases h) rfl (fun ad e j y hy => by (cases e; rw [add_z]; exact ((St.new 25 w1 zzs.cs).cell j).trans (by simpa [Sn.cl, Sn.cs] using hy))) (fun y hy => fls_one [zzs] y (by simpa [fls] using hy)) (by unfold maxLen; omega) (by omega) (by rw [World.size_alloc]; have := K1.out.size; omega) ?_; intro v2 w2 o2 k2 _; have O2 : Hid (Owns w2 w.heap.size v2 (l ++ [zzs])) := (law_owns HN.out o2); have K2 : Hid (Below w.heap.size w w2) := law_bels K1.out O1.out k2; clear o2 k2 O1 K1; obtain ⟨g, cap2, hv2, c1, c2, c3, c4, c5⟩ := O2.out.more; rw [← HN.out] at hv2 c1 c5; subst hv2; have C4 := hid c4; have C5 := hid c5; unfold maxLen at c2; clear O2 c4 c5))
  refine (Put_s bits l (some ⟨g, 0, none⟩) n cap2 w2 HN.out (by omega) (by omega) C4.out H6.out).mono ?_
  rintro e w3 ⟨v3, bs, er, rfl, p1, p2, p3⟩
  have P1 := hid p1
  have B3 := hid (K2.out.trans (p3.mono K2.out.size))
  have SL3 := hid p2.sl
  obtain ⟨ao3, cap3, rfl, s3⟩ := p2.src1s
  have C4' := hid (C4.out.below p3)
  have C5' : Hid (∀ U, Below w3.heap.size w3 U → U.cell? ⟨g, n * 4, none⟩ = some (.string ⟨#[122, 122]⟩)) := fun U h => by rw [h.cell (by show g < _; have := p3.size; omega), p3.cell c3]; exact C5.out
  have S3 := hid s3
  clear p1 p2 p3 s3 C4 C5
  go_wp2_with fail
  refine (rPut_s bits l ao n cap w3 HN.out hcap (by omega) (HS.out.below B3.out) H6.out).mono ?_
  rintro e w4 ⟨v4, bs4, er4, rfl, q1, q2, q3⟩
  obtain ⟨hbs, her⟩ := P1.out.same q1
  subst hbs her
  obtain ⟨ao4, cap4, rfl, s4⟩ := q2.src1s
  have M4 := hid q3
  have B4 := hid (B3.out.trans (q3.mono B3.out.size))
  have SL4 := hid (SL3.out.below q3)
  have S3' := hid (S3.out.below q3)
  have S4 := hid s4
  have HSM : Hid (∀ U, Below w4.heap.size w4 U → Calls Try.prog 11 #[.slice (some ⟨g, 0, none⟩) n cap2, .slice ao n cap] U fun e w' => e = .returned (.bool true) ∧ Below U.heap.size U w') := fun U h => same_s l _ _ n cap2 cap U HN.out (by omega) hcap (by omega) ((C4'.out.below q3).below h) ((HS.out.below B4.out).below (h))
  have HBK : Hid (er = 0 → ∀ m r, Red (Sn.May bits) Sn.nm Sn.enc bits bs (n : Int) m r → m = l ∧ r = 0) := fun h0 m r h => Red.back (Sn.prs bits) (l := l) (by rw [h0] at q1; exact q1) (by rw [← HN.out]; exact h)
  have hcase : er = 2 ∨ er = 3 ∨ (er = 0 ∧ Byt bs) := by
    rcases q1 with ⟨_, _, h⟩ | ⟨_, _, _, _, h⟩ | ⟨_, h2, _, rfl, h⟩
    · exact Or.inl h
    · exact Or.inr (Or.inl h)
    · refine Or.inr (Or.inr ⟨h, fun z hz => ?_⟩)
      obtain ⟨e, he, hz⟩ := List.mem_flatMap.1 hz
      exact Sn.enc_byt (h2.1 e he).1.2.1 z hz
  have hst : ((strOfNums bs).toList == (strOfNums bs).toList) = true := by simp
  have hst2 : ((strOfNums bs).toList != (strOfNums bs).toList) = false := by simp
  clear q1 q2 q3 s4 P1 S3 SL3 C4'
  obtain ⟨N, hN⟩ : ∃ N, N = bs.length := ⟨_, rfl⟩
  rw [← hN] at SL4 ⊢
  have HNL := hid hN
  clear hN
  rcases hcase with rfl | rfl | ⟨rfl, hby⟩
  · go_wp2_with (first
      | (refine wpList_convert_rw rfl (.tmp 36) 26 9 5 rfl Try.underlying26 Try.underlying5 Try.underlying9 ao3 N cap3 rfl bs HNL.out.symm (fun hp => by (rw [HNL.out] at hp ⊢; exact S3'.out hp)) ?_)
      | (refine wpList_convert_rw rfl (.tmp 38) 26 9 5 rfl Try.underlying26 Try.underlying5 Try.underlying9 ao4 N cap4 rfl bs HNL.out.symm (fun hp => by (rw [HNL.out] at hp ⊢; exact S4.out hp)) ?_)
      | (go_at_call 11; refine (HSM.out w4 (Below.refl _ _)).mono ?_; rintro e w5 ⟨rfl, b5⟩; have c5 := C5'.out w5 (M4.out.trans (b5.mono M4.out.size)); have B5 := hid (B4.out.trans (b5.mono B4.out.size)); clear b5)
      | (go_at_call 8; refine (known_any _).mono ?_; rintro e w6 ⟨rfl, b6⟩))
    go_ret
    exact ⟨rfl, B5.out.trans (b6.mono B5.out.size)⟩
  · go_wp2_with (first
      | (refine wpList_convert_rw rfl (.tmp 36) 26 9 5 rfl Try.underlying26 Try.underlying5 Try.underlying9 ao3 N cap3 rfl bs HNL.out.symm (fun hp => by (rw [HNL.out] at hp ⊢; exact S3'.out hp)) ?_)
      | (refine wpList_convert_rw rfl (.tmp 38) 26 9 5 rfl Try.underlying26 Try.underlying5 Try.underlying9 ao4 N cap4 rfl bs HNL.out.symm (fun hp => by (rw [HNL.out] at hp ⊢; exact S4.out hp)) ?_)
      | (go_at_call 11; refine (HSM.out w4 (Below.refl _ _)).mono ?_; rintro e w5 ⟨rfl, b5⟩; have c5 := C5'.out w5 (M4.out.trans (b5.mono M4.out.size)); have B5 := hid (B4.out.trans (b5.mono B4.out.size)); clear b5)
      | (go_at_call 8; refine (known_any _).mono ?_; rintro e w6 ⟨rfl, b6⟩))
    go_ret
    exact ⟨rfl, B5.out.trans (b6.mono B5.out.size)⟩
  · have HRD : Hid (∀ U, Below w4.heap.size w4 U → Calls Try.prog 12 #[.int .i64 bits, .slice ao3 N cap3, .int .i64 (n : Int)] U fun e w' => ∃ v' cap', e = .returned (.tuple #[.slice v' n cap', .int .i64 0]) ∧ Srcs w' v' l ∧ n ≤ cap' ∧ Below U.heap.size U w') := fun U h => (Read_s bits (n : Int) (.slice ao3 N cap3) bs U hby (SL4.out.below h)).mono (fun e w' ⟨v', m, r, he, h1, h2, h3⟩ => by
      obtain ⟨rfl, rfl⟩ := HBK.out rfl m r h1
      obtain ⟨ao', cap', rfl, g1, g2, _⟩ := h2.src
      rw [← HN.out] at he g2
      exact ⟨ao', cap', he, g1, g2, h3⟩)
    clear HBK
    go_wp2_with (first
      | (refine wpList_convert_rw rfl (.tmp 36) 26 9 5 rfl Try.underlying26 Try.underlying5 Try.underlying9 ao3 N cap3 rfl bs HNL.out.symm (fun hp => by (rw [HNL.out] at hp ⊢; exact S3'.out hp)) ?_)
      | (refine wpList_convert_rw rfl (.tmp 38) 26 9 5 rfl Try.underlying26 Try.underlying5 Try.underlying9 ao4 N cap4 rfl bs HNL.out.symm (fun hp => by (rw [HNL.out] at hp ⊢; exact S4.out hp)) ?_)
      | (go_at_call 11; refine (HSM.out w4 (Below.refl _ _)).mono ?_; rintro e w5 ⟨rfl, b5⟩; have c5 := C5'.out w5 (M4.out.trans (b5.mono M4.out.size)); have B5 := hid (B4.out.trans (b5.mono B4.out.size)); have M5 := hid b5; clear b5 HSM))
    refine (HRD.out w5 M5.out).mono ?_
    rintro e w6 ⟨v6, cap6, rfl, r1, r2, r3⟩
    have B6 := hid (B5.out.trans (r3.mono B5.out.size))
    have HSM2 := hid (same_s l v6 ao n cap6 cap w6 HN.out r2 hcap (by omega) r1 (HS.out.below B6.out))
    clear r1 r3 HRD
    go_wp2_with (first
      | (go_at_call 11; refine HSM2.out.mono ?_; rintro e w7 ⟨rfl, b7⟩; have B7 := hid (B6.out.trans (b7.mono B6.out.size)); clear b7)
      | (go_at_call 8; refine (known_any _).mono ?_; rintro e w8 ⟨rfl, b8⟩))
    go_ret
    exact ⟨rfl, B7.out.trans (b8.mono B7.out.size)⟩
theorem law_any_s (bits : Int) (ao : Option Addr) (n cap : Nat) (l : List Sn) (w : World) (hn : n = l.length) (hcap : n ≤ cap) (hcm : cap ≤ maxLen) (hno : ao = none → cap = 0) (hS : Srcs w ao l) (h6 : ∀ e ∈ l, e.i6) :
    Calls Try.prog 3 #[.int .i64 bits, .slice ao n cap] w fun e w' => e = .returned (.bool true) ∧ Below w.heap.size w w' := by
  by_cases h : n ≤ 100
  · exact law_walk_s bits ao n cap l w hn hcap hno h hS h6
  · exact law_long_s bits ao n cap w (by omega) (by unfold maxLen at hcm; omega)
end Go.Proofs.Ytjjhkfhppoioiaa
