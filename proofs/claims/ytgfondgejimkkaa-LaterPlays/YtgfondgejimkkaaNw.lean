/- later: New, Size, Drain, Values, All as values. -/
import Derived.Test.YtgfondgejimkkaaPu
namespace Go.Proofs.Ytgfondgejimkkaa
open Go.RowKit
set_option linter.unusedVariables false
set_option linter.unusedSimpArgs false
/-- What New tells and leaves. -/
def NwR (w : World) (l : List Rn) (e : Ending) (w' : World) : Prop :=
  ((∃ x ∈ l, ¬ Mayr x) ∧ e = .returned (.tuple #[.pointer none, .int .i64 2]) ∧ Kp (fun _ => False) w w') ∨
  ((∀ x ∈ l, Mayr x) ∧ 4096 < (tog l).length ∧ e = .returned (.tuple #[.pointer none, .int .i64 6]) ∧ Kp (fun _ => False) w w') ∨
  ((∀ x ∈ l, Mayr x) ∧ (tog l).length ≤ 4096 ∧ ∃ Q B mb me c v L, e = .returned (.tuple #[.pointer (some ⟨Q, 0, none⟩), .int .i64 0]) ∧ Lc c w' Q B mb me v L ∧ srt (L.map c) = tog l ∧ (∀ k, Fp Q B mb me v L k → w.heap.size ≤ k) ∧ Kp (fun _ => False) w w')
theorem srt_nil : srt [] = [] := by simp [srt]
set_option maxRecDepth 100000 in
set_option maxHeartbeats 8000000 in
theorem new_any (w : World) (ao : Option Addr) (n cap : Nat) (l : List Rn) (hl : l.length = n) (hn : n ≤ 10000) (hi : ∀ x ∈ l, x.i6) (hz : ao = none → cap = 0) (hs : Srcr w ao l) :
    Calls Try.prog 10 #[.slice ao n cap] w (NwR w l) := by
  have HEM := hid (empty_any (fun _ => zRn) w)
  have HPU : Hid (∀ U Q B mb me, Kp (fun _ => False) w U → Lc (fun _ => zRn) U Q B mb me (.slice none 0 0) [] → Calls Try.prog 22 #[.pointer (some ⟨Q, 0, none⟩), .slice ao n cap] U (PtR U Q B mb me (fun _ => zRn) (.slice none 0 0) [] l)) := fun U Q B mb me hU h => put_any _ U Q B mb me _ [] h ao n cap l hl hn hi hz (hs.kp hU (fun _ _ _ _ h => h))
  clear hs hz hi hl
  unfold ptr at HEM
  go_enter Try.func10, Try.ntmps10
  go_wp2_with fail
  refine HEM.out.mono ?_
  rintro e w1 ⟨Q, B, mb, me, rfl, l1, b1, f1⟩
  have K1 : Hid (Kp (fun _ => False) w w1) := Kp.of_below b1
  have P1 := hid (HPU.out w1 Q B mb me K1.out l1)
  have F1 := hid f1
  clear HEM HPU l1 b1 f1
  go_wp2_with fail
  refine P1.out.mono ?_
  intro e w2 hp
  clear P1
  unfold PtR at hp
  rw [List.map_nil, srt_nil, List.nil_append] at hp
  rcases hp with ⟨h1, rfl, h3⟩ | ⟨h1, h2, rfl, h3⟩ | ⟨h1, h2, rfl, c', v', L', h4, h5⟩
  · have H1 := hid h1
    have K2 := hid (K1.out.trans h3 (fun _ _ h => h))
    clear h1 h3
    go_wp2_with fail
    go_ret2
    exact .inl ⟨H1.out, rfl, K2.out⟩
  · have H1 := hid h1
    have H2 := hid h2
    have K2 := hid (K1.out.trans h3 (fun _ _ h => h))
    clear h1 h2 h3
    go_wp2_with fail
    go_ret2
    exact .inr (.inl ⟨H1.out, H2.out, rfl, K2.out⟩)
  · have H1 := hid h1
    have H2 := hid h2
    have H4 := hid h4
    have H5 := hid h5
    have HS1 := hid K1.out.size
    have K2 : Hid (Kp (fun _ => False) w w2) := K1.out.trans h4.kp (fun i hi hf => by have := F1.out i hf; omega)
    clear h1 h2 h4 h5
    go_wp2_with fail
    go_ret2
    exact .inr (.inr ⟨H1.out, H2.out, Q, B, mb, me, c', v', L', rfl, H4.out.lc, H5.out, fun k hk => by
      rcases H4.out.fp k hk with h | h
      · exact F1.out k h
      · exact Nat.le_trans HS1.out h, K2.out⟩)
set_option maxRecDepth 100000 in
set_option maxHeartbeats 8000000 in
theorem size_any (c : Nat → Rn) (w : World) (Q B mb me : Nat) (v : Value) (L : List Nat) (h : Lc c w Q B mb me v L) :
    Calls Try.prog 16 #[ptr Q] w fun e w' => e = .returned (.tuple #[.int .i64 ((srt (L.map c)).length : Int), .int .i64 (sz (srt (L.map c)))]) ∧ Below w.heap.size w w' := by
  have HNO : Hid (Calls Try.prog 32 #[.pointer (some ⟨Q, 0, none⟩)] w fun e w' => e = .returned (.bool false) ∧ w = w') := none_yes Q B _ _ _ w h.st
  have HLN : Hid (Calls Try.prog 34 #[.pointer (some ⟨B, 0, none⟩)] w.drew fun e w' => e = .returned (.int .i64 L.length) ∧ w.drew = w') := (len_any c w.drew 0 B v L (h.ln.kp0 ((Kp.refl (fun _ => False) w).drew))).mono fun e w' ⟨h1, h2⟩ => ⟨h1, h2.symm⟩
  have hlen : (srt (L.map c)).length = L.length := by rw [(srt_perm _).length_eq]; simp
  rw [hlen, sz_perm (srt_perm _)]
  have c0 : w.drew.cell? ⟨Q, 0, none⟩ = some (.pointer (some ⟨B, 0, none⟩)) := h.st.cell 0
  have c3 : w.drew.cell? ⟨Q, 3, none⟩ = some (.int .i64 (sz (L.map c))) := h.st.cell 3
  have cc : w.drew.cell? ⟨Q, 0, none⟩ = some (.pointer (some ⟨B, 0, none⟩)) ∧ w.drew.cell? ⟨Q, 3, none⟩ = some (.int .i64 (sz (L.map c))) := ⟨c0, c3⟩
  clear h hlen c0 c3
  generalize sz (L.map c) = s at *
  generalize L.length = m at *
  have H0 : Hid (Below w.heap.size w w.drew) := ⟨rfl, rfl, rfl, Nat.le_refl _, fun _ _ => rfl⟩
  unfold ptr
  go_enter Try.func16, Try.ntmps16
  generalize hC3 : Code.region 3 _ _ = C3
  go_wp2_with fail
  refine HNO.out.mono ?_
  rintro e w1 ⟨rfl, rfl⟩
  go_wp2_with fail
  subst hC3
  go_region_held3 (fun U : World => U.cell? ⟨Q, 0, none⟩ = some (.pointer (some ⟨B, 0, none⟩)) ∧ U.cell? ⟨Q, 3, none⟩ = some (.int .i64 s)) (first | exact cc) (first | (go_at_call 34; refine HLN.out.mono ?_; rintro e w5 ⟨rfl, rfl⟩))
  all_goals (go_wp2_with fail; go_ret2; exact ⟨rfl, H0.out⟩)
set_option maxHeartbeats 4000000 in
theorem drain_val (w : World) (Q : Nat) (most : Int) :
    Calls Try.prog 25 #[ptr Q, .int .i64 most] w fun e w' => e = .returned (.func (.func 50) #[] #[ptr w.heap.size, ptr (w.heap.size + 1)]) ∧ w' = (w.alloc (.cells #[ptr Q] 30)).alloc (.cells #[.int .i64 most] 2) := by
  unfold ptr
  go_enter Try.func25, Try.ntmps25
  go_wp2_with fail
  go_ret
  exact ⟨by simp, rfl⟩
set_option maxHeartbeats 4000000 in
theorem values_val (w : World) (ao : Option Addr) (n cap : Nat) :
    Calls Try.prog 41 #[.slice ao n cap] w fun e w' => e = .returned (.func (.func 56) #[] #[ptr w.heap.size]) ∧ w' = w.alloc (.cells #[.slice ao n cap] 22) := by
  unfold ptr
  go_enter Try.func41, Try.ntmps41
  go_wp2_with fail
  go_ret
  exact ⟨rfl, rfl⟩
/-- All: an iterator over a new row. -/
def AlR (w : World) (R : List Rn) (e : Ending) (w' : World) : Prop :=
  ∃ p ao cap, e = .returned (.func (.func 56) #[] #[.pointer (some ⟨p, 0, none⟩)]) ∧ w.heap.size ≤ p ∧ St 22 w' p #[.slice ao R.length cap] ∧ Srcr w' ao R ∧ (∀ b off, ao = some ⟨b, off, none⟩ → w.heap.size ≤ b) ∧ Kp (fun _ => False) w w'
set_option maxRecDepth 100000 in
set_option maxHeartbeats 8000000 in
theorem all_any (c : Nat → Rn) (w : World) (Q B mb me : Nat) (v : Value) (L : List Nat) (h : Lc c w Q B mb me v L) :
    Calls Try.prog 15 #[ptr Q] w (AlR w (srt (L.map c))) := by
  have HNO : Hid (Calls Try.prog 32 #[.pointer (some ⟨Q, 0, none⟩)] w fun e w' => e = .returned (.bool false) ∧ w = w') := none_yes Q B _ _ _ w h.st
  have c0 : w.cell? ⟨Q, 0, none⟩ = some (.pointer (some ⟨B, 0, none⟩)) := h.st.cell 0
  obtain ⟨lo, lcap, hv, hsp⟩ : ∃ lo lcap, v = .slice lo L.length lcap ∧ Srcp w lo L := by
    obtain ⟨lo, lcap, hv, hsp, _⟩ := (show Ownp w 0 v L from h.ln.own).src
    exact ⟨lo, lcap, hv, hsp⟩
  have d0 : w.cell? ⟨B, 0, none⟩ = some (.slice lo L.length lcap) := by rw [← hv]; exact h.ln.st.cell 0
  have HRU : Hid (Calls Try.prog 43 #[.slice lo L.length lcap] w fun e w' => ∃ g, e = .returned (.slice (some ⟨g, 0, none⟩) L.length L.length) ∧ w.heap.size ≤ g ∧ Rwr w' g (L.map c) ∧ Kp (fun _ => False) w w') := runs_any c w lo _ lcap L rfl (by have := h.len; omega) hsp (fun b hb => h.ln.wt hb)
  have HH := hid h
  clear h hsp hv
  unfold ptr
  go_enter Try.func15, Try.ntmps15
  go_wp2_with fail
  refine HNO.out.mono ?_
  rintro e w1 ⟨rfl, rfl⟩
  go_wp2_with fail
  refine HRU.out.mono ?_
  rintro e w2 ⟨g, rfl, hg, r2, k2⟩
  clear HRU HNO c0 d0
  have HT : Hid (tog (L.map c) = srt (L.map c)) := tog_can HH.out.ap
  have T1 : Hid (Calls Try.prog 42 #[.slice (some ⟨w2.heap.size, 0, none⟩) 1 1] (w2.alloc (.cells #[.slice (some ⟨g, 0, none⟩) L.length L.length] 22)) fun e w' => ∃ ao1 cap1, e = .returned (.slice ao1 (srt (L.map c)).length cap1) ∧ Srcr w' ao1 (srt (L.map c)) ∧ (∀ b off, ao1 = some ⟨b, off, none⟩ → w.heap.size ≤ b) ∧ Kp (fun _ => False) w w') := by
    have hk1 : Kp (fun _ => False) w (w2.alloc (.cells #[.slice (some ⟨g, 0, none⟩) L.length L.length] 22)) := k2.alloc _
    refine (together_any _ w2.heap.size 1 1 [⟨some ⟨g, 0, none⟩, L.length, L.map c⟩] rfl (by omega) ?_ ?_ ?_ ?_).mono ?_
    · have := St.new 22 w2 #[.slice (some ⟨g, 0, none⟩) L.length L.length]
      simpa [Sll.v] using this
    · intro s hs
      simp at hs
      subst hs
      exact ⟨r2.src.kp ((Kp.refl (fun _ => False) _).alloc _) (fun _ _ _ _ h => h), fun e => by cases e⟩
    · have := HH.out.len; simp [cat]; omega
    · simpa [cat] using HH.out.ln.may
    · rintro e w' ⟨v1, rfl, o1, k1⟩
      rw [show cat [⟨some ⟨g, 0, none⟩, L.length, L.map c⟩] = L.map c by simp [cat], HT.out] at o1
      obtain ⟨ao1, cap1, rfl, s1, _, _, h0⟩ := o1.src
      refine ⟨ao1, cap1, rfl, s1, fun b off e => ?_, hk1.trans k1 (fun _ _ h => h)⟩
      subst e
      rcases o1.2 with ⟨e0, _⟩ | ⟨g, cp, cur, e0, hb, _⟩
      · cases e0
      · cases e0; have := hk1.size; omega
  clear r2 k2 hg
  go_wp2_with fail
  refine T1.out.mono ?_
  rintro e w3 ⟨ao1, cap1, rfl, s3, b3, k3⟩
  have S3 := hid s3
  have B3 := hid b3
  have K3 := hid k3
  clear T1 s3 b3 k3
  go_wp2_with fail
  refine (values_val w3 ao1 _ cap1).mono ?_
  rintro e w4 ⟨rfl, rfl⟩
  unfold ptr
  go_wp2_with fail
  go_ret
  exact ⟨w3.heap.size, ao1, cap1, rfl, K3.out.size, St.new 22 w3 _, S3.out.kp ((Kp.refl (fun _ => False) _).alloc _) (fun _ _ _ _ h => h), B3.out, K3.out.alloc _⟩
end Go.Proofs.Ytgfondgejimkkaa
