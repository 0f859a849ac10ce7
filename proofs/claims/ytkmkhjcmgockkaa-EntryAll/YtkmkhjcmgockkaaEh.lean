/- entry: Check, Word, Of. -/
import Derived.Test.YtkmkhjcmgockkaaEd
import Derived.Test.YtkmkhjcmgockkaaEg
namespace Go.Proofs.Ytkmkhjcmgockkaa
open Go.RowKit
set_option linter.unusedVariables false
theorem rmay_any (e : En) (b : Int) (w : World) (wf : e.Wf) (hb : Bt b) : Calls Try.prog 6 #[.agg e.cs, .int .i64 b] w fun r w' => Tells r (MayE e b) ∧ Kp (fun _ => False) w w' := by
  obtain ⟨kd, pl, ln⟩ := e
  have ht : ∀ {p q : Prop} {r : Ending}, (p ↔ q) → Tells r p → Tells r q := fun {p q r} h t => t.imp (fun x => ⟨h.1 x.1, x.2⟩) (fun x => ⟨fun y => x.1 (h.2 y), x.2⟩)
  by_cases h3 : kd = 3
  · subst h3
    refine (rmay_3 pl ln b w wf hb).mono ?_
    rintro r w' ⟨t, k⟩
    refine ⟨ht ⟨fun p => Or.inr (Or.inr ⟨rfl, p⟩), ?_⟩ t, k⟩
    rintro (⟨h, _⟩ | ⟨h, _⟩ | ⟨_, p⟩)
    · have h : (3 : Int) = 0 ∨ (3 : Int) = 1 := h
      omega
    · have h : (3 : Int) = 2 := h
      omega
    · exact p
  · by_cases h2 : kd = 2
    · subst h2
      refine (rmay_2 pl ln b w wf hb).mono ?_
      rintro r w' ⟨t, k⟩
      refine ⟨ht ⟨fun p => Or.inr (Or.inl ⟨rfl, p.1, p.2⟩), ?_⟩ t, k⟩
      rintro (⟨h, _⟩ | ⟨_, h, p⟩ | ⟨h, _⟩)
      · have h : (2 : Int) = 0 ∨ (2 : Int) = 1 := h
        omega
      · exact ⟨h, p⟩
      · have h : (2 : Int) = 3 := h
        omega
    · by_cases h01 : kd = 0 ∨ kd = 1
      · refine (rmay_0 kd pl ln b w hb h01).mono ?_
        rintro r w' ⟨t, k⟩
        refine ⟨ht ⟨fun p => Or.inl ⟨h01, p.1, p.2⟩, ?_⟩ t, k⟩
        rintro (⟨_, p, q⟩ | ⟨h, _⟩ | ⟨h, _⟩)
        · exact ⟨p, q⟩
        · exact absurd h h2
        · exact absurd h h3
      · refine (rmay_none kd pl ln b w hb (fun h => h01 (Or.inl h)) (fun h => h01 (Or.inr h)) h2 h3).mono ?_
        rintro r w' ⟨rfl, k⟩
        refine ⟨Or.inr ⟨?_, rfl⟩, k⟩
        rintro (⟨h, _⟩ | ⟨h, _⟩ | ⟨h, _⟩)
        · exact h01 h
        · exact h2 h
        · exact h3 h
theorem rmay_yes {e : En} {b : Int} {w : World} (wf : e.Wf) (hb : Bt b) (p : MayE e b) : Calls Try.prog 6 #[.agg e.cs, .int .i64 b] w fun r w' => r = .returned (.bool true) ∧ Kp (fun _ => False) w w' := by
  refine (rmay_any e b w wf hb).mono ?_
  rintro r w' ⟨⟨_, rfl⟩ | ⟨q, _⟩, ew⟩
  · exact ⟨rfl, ew⟩
  · exact absurd p q
theorem rmay_no {e : En} {b : Int} {w : World} (wf : e.Wf) (p : ¬ (Bt b ∧ MayE e b)) : Calls Try.prog 6 #[.agg e.cs, .int .i64 b] w fun r w' => r = .returned (.bool false) ∧ Kp (fun _ => False) w w' := by
  by_cases hb : Bt b
  · refine (rmay_any e b w wf hb).mono ?_
    rintro r w' ⟨⟨q, _⟩ | ⟨_, rfl⟩, ew⟩
    · exact absurd ⟨hb, q⟩ p
    · exact ⟨rfl, ew⟩
  · exact rmay_nob e b w hb
set_option maxHeartbeats 1000000 in
theorem check_yes {e : En} {b : Int} {w : World} (wf : e.Wf) (hb : Bt b) (m : MayE e b) : Calls Try.prog 9 #[.agg e.cs, .int .i64 b] w fun r w' => r = .returned (.int .i64 0) ∧ Kp (fun _ => False) w w' := by
  have HB := hid (Eb.new w e)
  have HK : Hid (Kp (fun _ => False) w (w.alloc (.cells e.cs 24))) := (Kp.refl _ _).alloc _
  have CB := hid (fun w => clustered_yes b w hb)
  have MY := hid (fun w => may_yes (w := w) wf hb m)
  go_enter Try.func9, Try.ntmps9
  go_wp2_with (first | (go_at_call 24; refine (CB.out _).mono ?_; rintro r w' ⟨rfl, rfl⟩) | (refine wpList_load_en_g (by rfl) (.tmp 2) rfl w.heap.size rfl HB.out ?_) | (go_at_call 26; refine (MY.out _).mono ?_; rintro r w1 ⟨rfl, k1⟩))
  go_ret
  exact ⟨rfl, HK.out.trans k1 (fun _ _ x => x)⟩
set_option maxHeartbeats 1000000 in
theorem check_no {e : En} {b : Int} {w : World} (wf : e.Wf) (p : ¬ (Bt b ∧ MayE e b)) : Calls Try.prog 9 #[.agg e.cs, .int .i64 b] w fun r w' => r = .returned (.int .i64 2) ∧ Kp (fun _ => False) w w' := by
  have HB := hid (Eb.new w e)
  have HK : Hid (Kp (fun _ => False) w (w.alloc (.cells e.cs 24))) := (Kp.refl _ _).alloc _
  by_cases hb : Bt b
  · have CB := hid (fun w => clustered_yes b w hb)
    have MY := hid (fun w => may_no (w := w) wf hb (fun h => p ⟨hb, h⟩))
    go_enter Try.func9, Try.ntmps9
    go_wp2_with (first | (go_at_call 24; refine (CB.out _).mono ?_; rintro r w' ⟨rfl, rfl⟩) | (refine wpList_load_en_g (by rfl) (.tmp 2) rfl w.heap.size rfl HB.out ?_) | (go_at_call 26; refine (MY.out _).mono ?_; rintro r w1 ⟨rfl, k1⟩))
    go_ret
    exact ⟨rfl, HK.out.trans k1 (fun _ _ x => x)⟩
  · have CB := hid (fun w => clustered_no b w hb)
    go_enter Try.func9, Try.ntmps9
    go_wp2_with (first | (go_at_call 24; refine (CB.out _).mono ?_; rintro r w' ⟨rfl, rfl⟩))
    go_ret
    exact ⟨rfl, HK.out⟩
set_option maxHeartbeats 1000000 in
theorem word_yes {e : En} {b : Int} {w : World} (wf : e.Wf) (hb : Bt b) (m : MayE e b) : Calls Try.prog 7 #[.agg e.cs, .int .i64 b] w fun r w' => r = .returned (.tuple #[.int .u64 (wrd e), .int .i64 0]) ∧ Kp (fun _ => False) w w' := by
  have HB := hid (Eb.new w e)
  have HK : Hid (Kp (fun _ => False) w (w.alloc (.cells e.cs 24))) := (Kp.refl _ _).alloc _
  have CY := hid (fun w => check_yes (w := w) wf hb m)
  have JY := hid (fun w => joined_any e b w hb m)
  go_enter Try.func7, Try.ntmps7
  go_wp2_with (first | (refine wpList_load_en rfl (.tmp 2) rfl w.heap.size rfl HB.out ?_) | (go_at_call 9; refine (CY.out _).mono ?_; rintro r w1 ⟨rfl, k1⟩; have B1 := hid (HB.out.kp k1 (fun x => x))) | (refine wpList_load_en rfl (.tmp 2) rfl w.heap.size rfl B1.out ?_) | (go_at_call 23; refine (JY.out _).mono ?_; rintro r w2 ⟨rfl, k2⟩))
  go_ret2
  exact ⟨rfl, (HK.out.trans k1 (fun _ _ x => x)).trans k2 (fun _ _ x => x)⟩
set_option maxHeartbeats 1000000 in
theorem word_no {e : En} {b : Int} {w : World} (wf : e.Wf) (p : ¬ (Bt b ∧ MayE e b)) : Calls Try.prog 7 #[.agg e.cs, .int .i64 b] w fun r w' => r = .returned (.tuple #[.int .u64 0, .int .i64 2]) ∧ Kp (fun _ => False) w w' := by
  have HB := hid (Eb.new w e)
  have HK : Hid (Kp (fun _ => False) w (w.alloc (.cells e.cs 24))) := (Kp.refl _ _).alloc _
  have CY := hid (fun w => check_no (w := w) wf p)
  go_enter Try.func7, Try.ntmps7
  go_wp2_with (first | (refine wpList_load_en rfl (.tmp 2) rfl w.heap.size rfl HB.out ?_) | (go_at_call 9; refine (CY.out _).mono ?_; rintro r w1 ⟨rfl, k1⟩))
  go_ret2
  exact ⟨rfl, HK.out.trans k1 (fun _ _ x => x)⟩
set_option maxHeartbeats 1000000 in
theorem of_nob (x b : Int) (w : World) (hb : ¬ Bt b) : Calls Try.prog 8 #[.int .u64 x, .int .i64 b] w fun r w' => r = .returned (.tuple #[.agg zE.cs, .int .i64 2]) ∧ Kp (fun _ => False) w w' := by
  have HB := hid (Eb.new w zE)
  have HK : Hid (Kp (fun _ => False) w (w.alloc (.cells zE.cs 24))) := (Kp.refl _ _).alloc _
  have CB := hid (fun w => clustered_no b w hb)
  go_enter Try.func8, Try.ntmps8
  go_wp2_with (first | (go_at_call 24; refine (CB.out _).mono ?_; rintro r w' ⟨rfl, rfl⟩) | (refine wpList_store_en rfl (.tmp 4) (.tmp 10) rfl w.heap.size rfl (e := zE) (e' := zE) rfl HB.out ?_; intro w2 b2 k2))
  refine bodyPost_ret (results_cell_tmp2 Try.results8 _ _ _ rfl rfl b2.load) rfl ⟨rfl, HK.out.trans k2 (fun i h1 h2 => by omega)⟩
set_option maxHeartbeats 2000000 in
theorem of_any (x b : Int) (w : World) (hx : U6 x) (hb : Bt b) (bb : Bool) (EE : En) (no : Int) (MB : Hid (∀ w, Calls Try.prog 26 #[.agg (prt x).cs, .int .i64 b] w fun r w' => r = .returned (.bool bb) ∧ Kp (fun _ => False) w w'))
    (h : (bb = true ∧ EE = prt x ∧ no = 0) ∨ (bb = false ∧ EE = zE ∧ no = 190)) : Calls Try.prog 8 #[.int .u64 x, .int .i64 b] w fun r w' => r = .returned (.tuple #[.agg EE.cs, .int .i64 no]) ∧ Kp (fun _ => False) w w' := by
  have HB := hid (Eb.new w zE)
  have HK : Hid (Kp (fun _ => False) w (w.alloc (.cells zE.cs 24))) := (Kp.refl _ _).alloc _
  have CB := hid (fun w => clustered_yes b w hb)
  have PB := hid (fun w => parted_any x w hx)
  generalize prt x = X at *
  have hlt := HB.out.lt
  rcases h with ⟨rfl, rfl, rfl⟩ | ⟨rfl, rfl, rfl⟩
  · go_enter Try.func8, Try.ntmps8
    go_wp2_with (first | (go_at_call 24; refine (CB.out _).mono ?_; rintro r w' ⟨rfl, rfl⟩) | (go_at_call 25; refine (PB.out _).mono ?_; rintro r w1 ⟨rfl, k1⟩; have B1 := hid (HB.out.kp k1 (fun x => x)); have K1 := hid (HK.out.trans k1 (fun _ _ x => x))) | (refine wpList_store_en rfl (.tmp 6) (.tmp 12) rfl w1.heap.size rfl (e := zE) (e' := EE) rfl (Eb.new w1 zE) ?_; intro w2 b2 k2; have kk : Kp (fun _ => False) w1 w2 := ((Kp.refl (fun _ => False) w1).alloc _).trans k2 (fun i h1 h2 => by omega); have E2 := hid b2; have B2 := hid (B1.out.kp kk (fun x => x)); have K2 := hid (K1.out.trans kk (fun _ _ x => x))) | (refine wpList_load_en rfl (.tmp 6) rfl w1.heap.size rfl E2.out ?_) | (go_at_call 26; refine (MB.out _).mono ?_; rintro r w3 ⟨rfl, k3⟩; have E3 := hid (E2.out.kp k3 (fun x => x)); have B3 := hid (B2.out.kp k3 (fun x => x)); have K3 := hid (K2.out.trans k3 (fun _ _ x => x))) | (refine wpList_load_en rfl (.tmp 6) rfl w1.heap.size rfl E3.out ?_) | (refine wpList_store_en rfl (.tmp 4) (.tmp 18) rfl w.heap.size rfl (e := zE) (e' := EE) rfl B3.out ?_; intro w4 b4 k4))
    refine bodyPost_ret (results_cell_tmp2 Try.results8 _ _ _ rfl rfl b4.load) rfl ⟨rfl, K3.out.trans k4 (fun i h1 h2 => by omega)⟩
  · go_enter Try.func8, Try.ntmps8
    go_wp2_with (first | (go_at_call 24; refine (CB.out _).mono ?_; rintro r w' ⟨rfl, rfl⟩) | (go_at_call 25; refine (PB.out _).mono ?_; rintro r w1 ⟨rfl, k1⟩; have B1 := hid (HB.out.kp k1 (fun x => x)); have K1 := hid (HK.out.trans k1 (fun _ _ x => x))) | (refine wpList_store_en rfl (.tmp 6) (.tmp 12) rfl w1.heap.size rfl (e := zE) (e' := X) rfl (Eb.new w1 zE) ?_; intro w2 b2 k2; have kk : Kp (fun _ => False) w1 w2 := ((Kp.refl (fun _ => False) w1).alloc _).trans k2 (fun i h1 h2 => by omega); have E2 := hid b2; have B2 := hid (B1.out.kp kk (fun x => x)); have K2 := hid (K1.out.trans kk (fun _ _ x => x))) | (refine wpList_load_en rfl (.tmp 6) rfl w1.heap.size rfl E2.out ?_) | (go_at_call 26; refine (MB.out _).mono ?_; rintro r w3 ⟨rfl, k3⟩; have B3 := hid (B2.out.kp k3 (fun x => x)); have K3 := hid (K2.out.trans k3 (fun _ _ x => x))) | (refine wpList_store_en rfl (.tmp 4) (.tmp 17) rfl w.heap.size rfl (e := zE) (e' := zE) rfl B3.out ?_; intro w4 b4 k4))
    refine bodyPost_ret (results_cell_tmp2 Try.results8 _ _ _ rfl rfl b4.load) rfl ⟨rfl, K3.out.trans k4 (fun i h1 h2 => by omega)⟩
theorem of_yes {x b : Int} {w : World} (hx : U6 x) (hb : Bt b) (m : MayE (prt x) b) : Calls Try.prog 8 #[.int .u64 x, .int .i64 b] w fun r w' => r = .returned (.tuple #[.agg (prt x).cs, .int .i64 0]) ∧ Kp (fun _ => False) w w' :=
  of_any x b w hx hb true _ _ (fun w => may_yes (prt_wf hx) hb m) (Or.inl ⟨rfl, rfl, rfl⟩)
theorem of_no {x b : Int} {w : World} (hx : U6 x) (hb : Bt b) (m : ¬ MayE (prt x) b) : Calls Try.prog 8 #[.int .u64 x, .int .i64 b] w fun r w' => r = .returned (.tuple #[.agg zE.cs, .int .i64 190]) ∧ Kp (fun _ => False) w w' :=
  of_any x b w hx hb false _ _ (fun w => may_no (prt_wf hx) hb m) (Or.inr ⟨rfl, rfl, rfl⟩)
end Go.Proofs.Ytkmkhjcmgockkaa
