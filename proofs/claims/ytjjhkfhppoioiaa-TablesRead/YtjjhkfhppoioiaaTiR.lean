/- tables: a list is gone through (Rn, by function 56). -/
import Derived.Test.YtjjhkfhppoioiaaKdR
import Derived.Test.YtjjhkfhppoioiaaMq
import Derived.WalkMore
import Derived.Carry
namespace Go.Proofs.Ytjjhkfhppoioiaa
open Go.RowKit
set_option linter.unusedVariables false
theorem keys_in {E : Type} {nm : E → ByteArray} {el : Nat → E} {k : Nat} {es : List (ByteArray × Value × Nat)} (h : es.map (·.1) = (List.range k).map (fun j => nm (el j))) (x : ByteArray) : mget es x = none ↔ ∀ j, j < k → nm (el j) ≠ x := by
  rw [mget_none, h]
  simp only [List.mem_map, List.mem_range, not_exists, not_and]
theorem keys_put {E : Type} {nm : E → ByteArray} {el : Nat → E} {k c : Nat} {es : List (ByteArray × Value × Nat)} {v : Value} (h : es.map (·.1) = (List.range k).map (fun j => nm (el j))) (hn : mget es (nm (el k)) = none) : (mput es (nm (el k)) v c).map (·.1) = (List.range (k + 1)).map (fun j => nm (el j)) := by
  rw [mput_keys, if_neg ((mget_none es _).1 hn), h, List.range_succ, List.map_append, List.map_singleton]
/-- What the loop holds. -/
structure ThIrt (n m B : Nat) (w0 : World) (J : Nat → World → Prop) (el : Nat → Rn) (k : Nat) (W : World) : Prop where
  le : k ≤ n
  gd : ∀ j, j < k → Gd zRn Rn.nm el j
  j : J k W
  bl : Below B w0 W
  sz : m + 2 ≤ W.heap.size
  zb : Rn.B W m zRn
  mp : ∃ es c, Mp Value.string W (m + 1) es c ∧ es.map (·.1) = (List.range k).map (fun j => (el j).nm)
/-- Behind the next one, laid into a variable: what is there. -/
structure ThMrt (m B : Nat) (w0 : World) (J : Nat → World → Prop) (el : Nat → Rn) (k g : Nat) (es : List (ByteArray × Value × Nat)) (cc : Nat) (W : World) : Prop where
  j : el k ≠ zRn → J (k + 1) W
  bl : Below B w0 W
  sz : m + 2 ≤ W.heap.size
  zb : Rn.B W m zRn
  ob : Rn.B W g (el k)
  mp : Mp Value.string W (m + 1) es cc
theorem ThMrt.below {m B : Nat} {w0 : World} {J : Nat → World → Prop} {el : Nat → Rn} {k g : Nat} {es : List (ByteArray × Value × Nat)} {cc : Nat} {W W' : World} (h : ThMrt m B w0 J el k g es cc W) (hst : ∀ i u u', J i u → Kp (fun k => k = m ∨ k = m + 1) u u' → J i u') (hB : B ≤ m) (b : Below W.heap.size W W') : ThMrt m B w0 J el k g es cc W' := by
  have hs := h.sz
  exact ⟨fun hne => hst _ _ _ (h.j hne) (Kp.of_below b), h.bl.trans (b.mono (by omega)), Nat.le_trans h.sz b.size, h.zb.below b (by omega), h.ob.below b h.ob.lt, kp_mp (F := fun _ => False) h.mp (Kp.of_below b) (fun x => x)⟩
theorem ThIrt.mid {n m B : Nat} {w0 : World} {J : Nat → World → Prop} {el : Nat → Rn} {k : Nat} {W w1 w2 : World} {es : List (ByteArray × Value × Nat)} {cc : Nat} (h : ThIrt n m B w0 J el k W) (hst : ∀ i u u', J i u → Kp (fun k => k = m ∨ k = m + 1) u u' → J i u') (hB : B ≤ m) (hmp : Mp Value.string W (m + 1) es cc)
    (h1 : w1.heap[m]? = W.heap[m]?) (h2 : w1.heap[m + 1]? = W.heap[m + 1]?) (h3 : W.heap.size ≤ w1.heap.size) (h4 : Below B w0 w1) (h5 : el k ≠ zRn → J (k + 1) w1) {o : Obj} (s2 : Rn.B w2 w1.heap.size (el k)) (k2 : Kp (fun i => i = w1.heap.size) (w1.alloc o) w2) : ThMrt m B w0 J el k w1.heap.size es cc w2 := by
  have hs := h.sz
  have kk : ∀ F : Nat → Prop, Kp F w1 w2 := fun F => ((Kp.refl F w1).alloc o).trans k2 (fun i hi e => by omega)
  refine ⟨fun hne => hst _ _ _ (h5 hne) (kk _), ?_, ?_, ?_, s2, ?_⟩
  · exact h4.trans ((kk (fun _ => False)).below (by omega) (fun _ x => x.elim))
  · exact Nat.le_trans (Nat.le_trans hs h3) (kk (fun _ => False)).size
  · have : Rn.B w1 m zRn := by show w1.heap[m]? = _; rw [h1]; exact h.zb
    exact this.kp (kk (fun _ => False)) (fun x => x)
  · have : Mp Value.string w1 (m + 1) es cc := ⟨by rw [h2]; exact hmp.1, hmp.2⟩
    exact kp_mp this (kk (fun _ => False)) (fun x => x)
theorem ThMrt.next {n m B : Nat} {w0 : World} {J : Nat → World → Prop} {el : Nat → Rn} {k g : Nat} {W w4 w5 : World} {es : List (ByteArray × Value × Nat)} {cc : Nat} {v : Value} (hI : ThIrt n m B w0 J el k W) (hkn : k < n) (hks : es.map (·.1) = (List.range k).map (fun j => (el j).nm)) (h : ThMrt m B w0 J el k g es cc w4) (hst : ∀ i u u', J i u → Kp (fun k => k = m ∨ k = m + 1) u u' → J i u') (hB : B ≤ m) (hne : el k ≠ zRn) (hno : mget es (el k).nm = none)
    (m5 : Mp Value.string w5 (m + 1) (mput es (el k).nm v cc) (mclk es (el k).nm cc)) (g5 : w4.grownBy w5 (some (m + 1))) : ThIrt n m B w0 J el (k + 1) w5 := by
  have hs := h.sz
  have kk : Kp (fun i => i = m + 1) w4 w5 := Kp.of_grown g5 (fun i e => by cases e; rfl)
  refine ⟨hkn, ?_, hst _ _ _ (h.j hne) (kk.mono (fun i _ e => Or.inr e)), h.bl.trans (below_of_grown g5 _ (by omega) (by intro i hi; cases hi; omega)), Nat.le_trans hs kk.size, h.zb.kp kk (by omega), _, _, m5, keys_put (nm := Rn.nm) hks hno⟩
  intro j hj
  by_cases e : j = k
  · subst e
    exact ⟨hne, (keys_in (nm := Rn.nm) hks _).1 hno⟩
  · exact hI.gd j (by omega)
theorem zero3 (w : World) : (zeroValue 3).run Try.prog w = .ok (.int .i64 0) w := by go_simp
set_option maxRecDepth 100000 in
set_option maxHeartbeats 4000000 in
theorem thr_r_t (n : Nat) (hn : n ≤ 1000000) (c1 c2 c3 c4 : Value) (B : Nat) (w0 w : World) (J : Nat → World → Prop) (el : Nat → Rn) (hB : B ≤ w.heap.size) (hbl : Below B w0 w) (hJ : J 0 w)
    (hst : ∀ i u u', J i u → Kp (fun k => k = w.heap.size ∨ k = w.heap.size + 1) u u' → J i u')
    (hnext : ∀ i u, i < n → w.heap.size + 2 ≤ u.heap.size → J i u → Below B w0 u → Calls Try.prog 56 #[.int .i64 (i : Int), c1, c2, c3, c4] u fun e u' => e = .returned (.agg (el i).cs) ∧ u'.heap[w.heap.size]? = u.heap[w.heap.size]? ∧ u'.heap[w.heap.size + 1]? = u.heap[w.heap.size + 1]? ∧ u.heap.size ≤ u'.heap.size ∧ Below B w0 u' ∧ (el i ≠ zRn → J (i + 1) u')) :
    Calls Try.prog 51 #[.int .i64 (n : Int), .func (.func 56) #[] #[c1, c2, c3, c4], .func (.func 52) #[] #[]] w fun e w' => Below B w0 w' ∧ ((e = .returned (.bool true) ∧ (∀ i, i < n → Gd zRn Rn.nm el i) ∧ J n w') ∨ (e = .returned (.bool false) ∧ ¬ ∀ i, i < n → Gd zRn Rn.nm el i)) := by
  have HB := hid hbl
  have HJ := hid hJ
  have HST := hid hst
  have HNX := hid hnext
  clear hbl hJ hst hnext
  have hmm := @run_makeMap Try.prog
  go_enter Try.func51, Try.ntmps51
  go_wp2_with fail
  go_step3
  go_wp2_with fail
  obtain ⟨m, hm⟩ : ∃ m, m = w.heap.size := ⟨_, rfl⟩
  try rw [World.size_alloc]
  clear hmm
  rw [← hm] at HST HNX hB ⊢
  have hI : ThIrt n m B w0 J el 0 ((w.alloc (.cells #[.string ⟨#[]⟩, .int .i64 0, .int .i64 0, .int .i64 0, .int .i64 0] 38)).alloc (.map #[] 0)) := by
    have k1 : Kp (fun k => k = m ∨ k = m + 1) w ((w.alloc (.cells #[.string ⟨#[]⟩, .int .i64 0, .int .i64 0, .int .i64 0, .int .i64 0] 38)).alloc (.map #[] 0)) := ((Kp.refl _ _).alloc _).alloc _
    have s1 : Rn.B (w.alloc (.cells #[.string ⟨#[]⟩, .int .i64 0, .int .i64 0, .int .i64 0, .int .i64 0] 38)) m zRn := by rw [hm]; exact Rn.B.new w zRn
    have z1 : (w.alloc (.cells #[.string ⟨#[]⟩, .int .i64 0, .int .i64 0, .int .i64 0, .int .i64 0] 38)).heap.size = m + 1 := by rw [World.size_alloc, hm]
    refine ⟨Nat.zero_le _, fun j hj => by omega, HST.out 0 _ _ HJ.out k1, (HB.out.alloc (by omega) _).alloc (by omega) _, by rw [World.size_alloc, z1]; omega, s1.kp (F := fun _ => False) ((Kp.refl _ _).alloc _) (fun x => x), [], 0, ?_, rfl⟩
    have := Mp.new Value.string (w.alloc (.cells #[.string ⟨#[]⟩, .int .i64 0, .int .i64 0, .int .i64 0, .int .i64 0] 38))
    rw [z1] at this
    exact this
  have HI := hid hI
  clear hI HB HJ
  generalize (w.alloc (.cells #[.string ⟨#[]⟩, .int .i64 0, .int .i64 0, .int .i64 0, .int .i64 0] 38)).alloc (.map #[] 0) = W at HI ⊢
  have HM := hid hm
  clear hm
  go_step3
  go_wp2_with fail
  go_loopw [8, 16] (fun u i wr => ∃ k : Nat, u = .bool true ∧ i = .int .i64 (k : Int) ∧ ThIrt n m B w0 J el k wr) (fun _ i _ => n - (intOf i).toNat)
  case atStart => exact ⟨0, rfl, rfl, HI.out⟩
  case round =>
    clear HI
    obtain ⟨k, rfl, rfl, hi⟩ := hrel
    have hkl := hi.le
    have HI := hid hi
    clear hi
    by_cases hk : k < n
    · have HC := hid (HNX.out k wr hk HI.out.sz HI.out.j HI.out.bl)
      obtain ⟨es, cc, hmp, hks⟩ := HI.out.mp
      have HMP := hid hmp
      have HKS := hid hks
      clear hmp hks
      obtain ⟨u, hu⟩ : ∃ u, (mget es (el k).nm).getD (.int .i64 0) = u := ⟨_, rfl⟩
      have HU := hid hu
      clear hu
      by_cases hz : el k = zRn
      · obtain ⟨q, hq⟩ : ∃ q, (mget es (el k).nm).isSome = q := ⟨_, rfl⟩
        have HQ := hid hq
        have HEQ : Hid (Rn.eq (el k) zRn = true) := by
          show _ = _
          rw [hz]
          exact Rn.eq_self _
        have HNG : Hid (¬ ∀ i, i < n → Gd zRn Rn.nm el i) := fun h => (h k hk).1 hz
        clear hq hz
        go_wp2_with (first
          | (go_at_call 56; refine HC.out.mono ?_; rintro e w1 ⟨rfl, h1, h2, h3, h4, h5⟩; have H1 := hid h1; have H2 := hid h2; have H3 := hid h3; have H4 := hid h4; have H5 := hid h5; clear h1 h2 h3 h4 h5)
          | (refine wpList_store_r rfl (.tmp 11) (.tmp 21) rfl w1.heap.size rfl (e := zRn) (e' := el k) rfl (Rn.B.new w1 zRn) ?_; intro w2 s2 k2; have TM := hid (HI.out.mid HST.out hB HMP.out H1.out H2.out H3.out H4.out H5.out s2 k2); clear s2 k2 H1 H2 H3 H4 H5 HC HMP; generalize w1.heap.size = g at TM ⊢; clear w1)
          | (refine wpList_load_r rfl (.tmp 11) rfl g rfl TM.out.ob ?_)
          | (refine wpList_load_r rfl (.tmp 7) rfl m rfl TM.out.zb ?_)
          | (at_lookup; refine wpList_lookup2_mp rfl (.tmp 23) (.tmp 26) rfl (ky_str Try.underlying9) Try.underlying102 (.int .i64 0) (zero3 _) (m + 1) cc es rfl TM.out.mp (el k).nm rfl u q HU.out HQ.out ?_)
          | (refine wpList_eq_r rfl (.tmp 31) (.tmp 32) rfl rfl rfl HEQ.out ?_)
          | (go_at_call 52; refine (name_r (el k) _).mono ?_; rintro e w3 ⟨rfl, b3⟩; replace TM := hid (TM.out.below HST.out hB b3); clear b3)
          | (refine wpList_update_mp rfl (.tmp 35) (.tmp 38) (.tmp 39) rfl (ky_str Try.underlying9) Try.underlying102 (m + 1) cc es rfl TM.out.mp (el k).nm rfl (.int .i64 (k : Int)) rfl ?_; intro w5 m5 g5; have TN := hid (ThMrt.next HI.out hk HKS.out TM.out HST.out hB HNE.out HNO.out m5 g5); clear m5 g5))
        try go_step3
        try rw [Exit.noGoto_ret]
        refine bodyPost_ret (v := .bool false) (by simp [results, Try.results51]) rfl ⟨TM.out.bl, Or.inr ⟨rfl, HNG.out⟩⟩
      · have HEQ : Hid (Rn.eq (el k) zRn = false) := Rn.eq_ne hz
        have HNE := hid hz
        cases hq : mget es (el k).nm with
        | some y =>
          have HQ : Hid ((mget es (el k).nm).isSome = true) := by
            show _ = _
            rw [hq]
            rfl
          obtain ⟨q, hqq⟩ : ∃ q, q = true := ⟨_, rfl⟩
          rw [← hqq] at HQ
          have HNG : Hid (¬ ∀ i, i < n → Gd zRn Rn.nm el i) := fun h => by
            have := (keys_in (nm := Rn.nm) HKS.out (el k).nm).2 (h k hk).2
            rw [hq] at this
            cases this
          subst hqq
          clear hq hz
          obtain ⟨q, hqq⟩ : ∃ q, q = true := ⟨_, rfl⟩
          subst hqq
          go_wp2_with (first
            | (go_at_call 56; refine HC.out.mono ?_; rintro e w1 ⟨rfl, h1, h2, h3, h4, h5⟩; have H1 := hid h1; have H2 := hid h2; have H3 := hid h3; have H4 := hid h4; have H5 := hid h5; clear h1 h2 h3 h4 h5)
            | (refine wpList_store_r rfl (.tmp 11) (.tmp 21) rfl w1.heap.size rfl (e := zRn) (e' := el k) rfl (Rn.B.new w1 zRn) ?_; intro w2 s2 k2; have TM := hid (HI.out.mid HST.out hB HMP.out H1.out H2.out H3.out H4.out H5.out s2 k2); clear s2 k2 H1 H2 H3 H4 H5 HC HMP; generalize w1.heap.size = g at TM ⊢; clear w1)
            | (refine wpList_load_r rfl (.tmp 11) rfl g rfl TM.out.ob ?_)
            | (refine wpList_load_r rfl (.tmp 7) rfl m rfl TM.out.zb ?_)
            | (at_lookup; refine wpList_lookup2_mp rfl (.tmp 23) (.tmp 26) rfl (ky_str Try.underlying9) Try.underlying102 (.int .i64 0) (zero3 _) (m + 1) cc es rfl TM.out.mp (el k).nm rfl u true HU.out HQ.out ?_)
            | (refine wpList_eq_r rfl (.tmp 31) (.tmp 32) rfl rfl rfl HEQ.out ?_)
            | (go_at_call 52; refine (name_r (el k) _).mono ?_; rintro e w3 ⟨rfl, b3⟩; replace TM := hid (TM.out.below HST.out hB b3); clear b3)
            | (refine wpList_update_mp rfl (.tmp 35) (.tmp 38) (.tmp 39) rfl (ky_str Try.underlying9) Try.underlying102 (m + 1) cc es rfl TM.out.mp (el k).nm rfl (.int .i64 (k : Int)) rfl ?_; intro w5 m5 g5; have TN := hid (ThMrt.next HI.out hk HKS.out TM.out HST.out hB HNE.out HNO.out m5 g5); clear m5 g5))
          try go_step3
          try rw [Exit.noGoto_ret]
          refine bodyPost_ret (v := .bool false) (by simp [results, Try.results51]) rfl ⟨TM.out.bl, Or.inr ⟨rfl, HNG.out⟩⟩
        | none =>
          have HQ : Hid ((mget es (el k).nm).isSome = false) := by
            show _ = _
            rw [hq]
            rfl
          have HNO := hid hq
          clear hq hz
          go_wp2_with (first
            | (go_at_call 56; refine HC.out.mono ?_; rintro e w1 ⟨rfl, h1, h2, h3, h4, h5⟩; have H1 := hid h1; have H2 := hid h2; have H3 := hid h3; have H4 := hid h4; have H5 := hid h5; clear h1 h2 h3 h4 h5)
            | (refine wpList_store_r rfl (.tmp 11) (.tmp 21) rfl w1.heap.size rfl (e := zRn) (e' := el k) rfl (Rn.B.new w1 zRn) ?_; intro w2 s2 k2; have TM := hid (HI.out.mid HST.out hB HMP.out H1.out H2.out H3.out H4.out H5.out s2 k2); clear s2 k2 H1 H2 H3 H4 H5 HC HMP; generalize w1.heap.size = g at TM ⊢; clear w1)
            | (refine wpList_load_r rfl (.tmp 11) rfl g rfl TM.out.ob ?_)
            | (refine wpList_load_r rfl (.tmp 7) rfl m rfl TM.out.zb ?_)
            | (at_lookup; refine wpList_lookup2_mp rfl (.tmp 23) (.tmp 26) rfl (ky_str Try.underlying9) Try.underlying102 (.int .i64 0) (zero3 _) (m + 1) cc es rfl TM.out.mp (el k).nm rfl u false HU.out HQ.out ?_)
            | (refine wpList_eq_r rfl (.tmp 31) (.tmp 32) rfl rfl rfl HEQ.out ?_)
            | (go_at_call 52; refine (name_r (el k) _).mono ?_; rintro e w3 ⟨rfl, b3⟩; replace TM := hid (TM.out.below HST.out hB b3); clear b3)
            | (refine wpList_update_mp rfl (.tmp 35) (.tmp 38) (.tmp 39) rfl (ky_str Try.underlying9) Try.underlying102 (m + 1) cc es rfl TM.out.mp (el k).nm rfl (.int .i64 (k : Int)) rfl ?_; intro w5 m5 g5; have TN := hid (ThMrt.next HI.out hk HKS.out TM.out HST.out hB HNE.out HNO.out m5 g5); clear m5 g5))
          go_roundw
          case rel => exact ⟨k + 1, rfl, by go_num, TN.out⟩
          case measure => simp [intOf]; omega
    · have hkk : k = n := by omega
      have HJN : Hid (J n wr ∧ (∀ i, i < n → Gd zRn Rn.nm el i) ∧ Below B w0 wr) := by
        rw [← hkk]
        exact ⟨HI.out.j, HI.out.gd, HI.out.bl⟩
      clear hkk
      go_wp2_with fail
      try go_step3
      try rw [Exit.noGoto_ret]
      refine bodyPost_ret (v := .bool true) (by simp [results, Try.results51]) rfl ⟨HJN.out.2.2, Or.inl ⟨rfl, HJN.out.2.1, HJN.out.1⟩⟩
end Go.Proofs.Ytjjhkfhppoioiaa
