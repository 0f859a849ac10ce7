/- later: greatest, Greatest. -/
import Derived.Test.YtgfondgejimkkaaGr
namespace Go.Proofs.Ytgfondgejimkkaa
open Go.RowKit
set_option linter.unusedVariables false
set_option linter.unusedSimpArgs false
theorem grt_irrefl (x : Rn) : grt x x = false := by simp [grt]
theorem grt_step {x y z : Rn} (h : grt x y = false) (k : grt z y = true) : grt x z = false := by
  simp [grt] at *
  omega
set_option maxRecDepth 100000 in
set_option maxHeartbeats 8000000 in
theorem greatest_any (c : Nat → Rn) (w : World) (B : Nat) (v : Value) (L : List Nat) (h : Ln c w 0 B v L) (hL : 0 < L.length) (hL2 : L.length ≤ 4096) :
    Calls Try.prog 51 #[ptr B] w fun e w' => ∃ b ∈ L, e = .returned (.pointer (some ⟨b, 0, none⟩)) ∧ (∀ b' ∈ L, grt (c b') (c b) = false) ∧ Kp (fun _ => False) w w' := by
  obtain ⟨g, cap, hv, hb, hgl, hc1, hc2, hcells, hfr⟩ := h.row hL
  have HGT : Hid (∀ U (i j : Nat), Kp (fun _ => False) w U → i < L.length → j < L.length → Calls Try.prog 64 #[.pointer (some ⟨B, 0, none⟩), .int .i64 i, .int .i64 j] U fun e w' => e = .returned (.bool (grt (c (L.getD i 0)) (c (L.getD j 0)))) ∧ Kp (fun _ => False) U w') := fun U i j hU hi hj => greater_any c U 0 B v L (h.kp0 hU) i j hi hj
  have HC : Hid (∀ U, Kp (fun _ => False) w U → U.cell? ⟨B, 0, none⟩ = some (.slice (some ⟨g, 0, none⟩) L.length cap)) := fun U hU => by have := (h.st.kp hU (fun h => h)).cell 0; rw [hv] at this; exact this
  have HR : Hid (∀ U, Kp (fun _ => False) w U → ∀ i, i < L.length → U.cell? ⟨g, i, none⟩ = some (.pointer (some ⟨L.getD i 0, 0, none⟩))) := fun U hU i hi => kp_cell hU (hcells i hi) (fun h => h)
  have c0 := HC.out w (Kp.refl _ _)
  obtain ⟨n, hn⟩ : ∃ n, n = L.length := ⟨_, rfl⟩
  have HN := hid hn
  rw [← hn] at HGT HC HR c0 hL hL2 hc1
  unfold maxLen at hc2
  clear h hcells hfr hv hn
  unfold ptr
  go_enter Try.func51, Try.ntmps51
  go_wp2_with fail
  clear c0
  go_loopw [3, 10] (fun b i wr => ∃ (k m : Nat), b = .int .i64 (m : Int) ∧ i = .int .i64 (k : Int) ∧ k ≤ n ∧ m < n ∧ Hid (Kp (fun _ => False) w wr) ∧ Hid (∀ j, j < k → grt (c (L.getD j 0)) (c (L.getD m 0)) = false)) (fun _ i _ => n - (intOf i).toNat)
  case atStart => exact ⟨0, 0, rfl, rfl, Nat.zero_le _, hL, Kp.refl _ _, fun j hj => by omega⟩
  case round =>
    obtain ⟨k, m, rfl, rfl, hk, hm, HK, HI⟩ := hrel
    by_cases hlt : k < n
    · have HC1 := hid (HGT.out wr k m HK.out hlt hm)
      obtain ⟨bl, hbl⟩ : ∃ bl, bl = grt (c (L.getD k 0)) (c (L.getD m 0)) := ⟨_, rfl⟩
      rw [← hbl] at HC1
      have HBL := hid hbl
      clear hbl
      cases bl with
      | true =>
        go_wp2_with (first | (go_at_call 64; refine HC1.out.mono ?_; rintro e w2 ⟨rfl, k2⟩; have K2 := hid k2; clear k2))
        go_roundw
        case rel => exact ⟨k + 1, k, rfl, by go_num, hlt, hlt, HK.out.trans K2.out (fun _ _ h => h), fun j hj => (by
          by_cases e : j = k
          · subst e; exact grt_irrefl _
          · exact grt_step (HI.out j (by omega)) HBL.out.symm)⟩
        case measure => simp [intOf]; omega
      | false =>
        go_wp2_with (first | (go_at_call 64; refine HC1.out.mono ?_; rintro e w2 ⟨rfl, k2⟩; have K2 := hid k2; clear k2))
        go_roundw
        case rel => exact ⟨k + 1, m, rfl, by go_num, hlt, hm, HK.out.trans K2.out (fun _ _ h => h), fun j hj => (by
          by_cases e : j = k
          · subst e; exact HBL.out.symm
          · exact HI.out j (by omega))⟩
        case measure => simp [intOf]; omega
    · obtain rfl : k = n := by omega
      have c1 := HC.out wr HK.out
      have c2 := HR.out wr HK.out m hm
      go_wp2_with fail
      go_ret
      refine ⟨L.getD m 0, gn_mem (by rw [← HN.out]; exact hm), rfl, fun b' hb' => ?_, HK.out⟩
      obtain ⟨j, hj, rfl⟩ := gn_of hb'
      exact HI.out j (by rw [HN.out]; exact hj)
/-- What Greatest tells and leaves. -/
def GtR (w : World) (Q B mb me : Nat) (c : Nat → Rn) (v : Value) (L : List Nat) (e : Ending) (w' : World) : Prop :=
  (L = [] ∧ e = .returned (.tuple #[.agg zRn.cs, .int .i64 7]) ∧ Kp (fun _ => False) w w') ∨
  (∃ x, e = .returned (.tuple #[.agg x.cs, .int .i64 0]) ∧ (∀ y ∈ srt (L.map c), grt y x = false) ∧ ∃ c' v' L', Tr w (Fp Q B mb me v L) Q B mb me c' v' L' w' ∧ (x :: srt (L'.map c')).Perm (srt (L.map c)))
set_option maxRecDepth 100000 in
set_option maxHeartbeats 16000000 in
theorem greatestE_any (c : Nat → Rn) (w : World) (Q B mb me : Nat) (v : Value) (L : List Nat) (h : Lc c w Q B mb me v L) :
    Calls Try.prog 28 #[ptr Q] w (GtR w Q B mb me c v L) := by
  have HNO : Hid (∀ U, Kp (fun _ => False) w U → Calls Try.prog 32 #[.pointer (some ⟨Q, 0, none⟩)] U fun e w' => e = .returned (.bool false) ∧ U = w') := fun U hU => none_yes Q B _ _ _ U (h.st.kp hU (fun h => h))
  have HLN : Hid (∀ U, Kp (fun _ => False) w U → Calls Try.prog 34 #[.pointer (some ⟨B, 0, none⟩)] U fun e w' => e = .returned (.int .i64 L.length) ∧ U = w') := fun U hU => (len_any c U 0 B v L (h.ln.kp0 hU)).mono fun e w' ⟨h1, h2⟩ => ⟨h1, h2.symm⟩
  have HQ : Hid (∀ U, Kp (fun _ => False) w U → U.cell? ⟨Q, 0, none⟩ = some (.pointer (some ⟨B, 0, none⟩))) := fun U hU => (h.st.kp hU (fun h => h)).cell 0
  have HH := hid h
  have r0 := Rn.B.new w zRn
  change Rn.B (w.alloc (.cells #[.int .i64 0, .int .i64 0] 38)) w.heap.size zRn at r0
  have k0 : Kp (fun _ => False) w (w.alloc (.cells #[.int .i64 0, .int .i64 0] 38)) := (Kp.refl _ _).alloc _
  have z0 : (w.alloc (.cells #[.int .i64 0, .int .i64 0] 38)).heap.size = w.heap.size + 1 := World.size_alloc _ _
  clear h
  unfold ptr
  go_enter Try.func28, Try.ntmps28
  go_wp2_with fail
  generalize w.alloc (.cells #[.int .i64 0, .int .i64 0] 38) = V at *
  refine (HNO.out V k0).mono ?_
  rintro e V0 ⟨rfl, rfl⟩
  obtain ⟨P, hP⟩ : ∃ P, P = w.heap.size := ⟨_, rfl⟩
  rw [← hP] at r0 z0 ⊢
  have HPw := hid hP
  have R0 := hid r0
  have K0 := hid k0
  have HZ0 := hid z0
  have q0 := HQ.out V k0
  clear hP r0 k0 z0 HNO
  by_cases hL : L.length = 0
  · have hL0 : L = [] := List.length_eq_zero_iff.1 hL
    have HL0 := hid hL0
    rw [hL] at HLN
    clear hL hL0
    go_wp2_with fail
    refine (HLN.out V K0.out).mono ?_
    rintro e V0 ⟨rfl, rfl⟩
    go_wp2_with (refine wpList_store_r rfl _ _ rfl _ rfl (e' := zRn) rfl R0.out ?_; intro w3 s3 k3; have KF : Hid (Kp (fun _ => False) w w3) := K0.out.trans k3 (fun i hi e => by have := HPw.out; omega); clear k3)
    refine bodyPost_ret (results_cell_tmp2 Try.results28 _ _ _ rfl rfl (Rn.B.load s3)) rfl ?_
    exact .inl ⟨HL0.out, rfl, KF.out⟩
  · have hLp : 0 < L.length := by omega
    have HLp := hid hLp
    obtain ⟨m, hm⟩ : ∃ m, m = L.length := ⟨_, rfl⟩
    rw [← hm] at HLN hLp
    have hmi : ¬ ((m : Int) = 0) := by omega
    go_wp2_with fail
    refine (HLN.out V K0.out).mono ?_
    rintro e V0 ⟨rfl, rfl⟩
    go_wp2_with fail
    refine (greatest_any c V B v L (HH.out.kp0 K0.out).ln HLp.out HH.out.len).mono ?_
    rintro e V1 ⟨b, hbL, rfl, hmx, k1⟩
    have HBL := hid hbL
    have HMX := hid hmx
    have K1 : Hid (Kp (fun _ => False) w V1) := K0.out.trans k1 (fun _ _ h => h)
    have R1 := hid (R0.out.kp k1 (fun h => h))
    obtain ⟨xa, hxa⟩ : ∃ xa, xa = (c b).a := ⟨_, rfl⟩
    obtain ⟨xn, hxn⟩ : ∃ xn, xn = (c b).n := ⟨_, rfl⟩
    have HCB : Hid (c b = ⟨xa, xn⟩) := Rn.ext' hxa.symm hxn.symm
    have HPL : Hid (L.Perm ([b] ++ rst L [b])) := rst_perm HH.out.ln.nodup (by simp) (by simpa using hbL)
    have HAN : Hid (Ap ((rst L [b]).map c ++ [])) := by
      rw [Hid, List.append_nil]
      exact (HH.out.ap.perm (HPL.out.map c)).sub (by rw [List.map_append]; exact List.sublist_append_right _ _)
    have HNL : Hid (((rst L [b]).map c ++ []).length ≤ 4096) := by
      have h1 := HPL.out.length_eq
      have h2 := HH.out.len
      show _ ≤ _
      simp at h1 ⊢
      omega
    have HTU : Hid (∀ U g, Kp (fun _ => False) w U → Rn.B U P zRn → St 74 U g #[ptr b] → w.heap.size ≤ g → Calls Try.prog 47 #[.pointer (some ⟨Q, 0, none⟩), .slice (some ⟨g, 0, none⟩) 1 1, .slice none 0 0] U fun e w' => e = .returned (.tuple #[.int .i64 (sz ((rst L [b]).map c ++ []) - sz (L.map c)), .int .i64 0]) ∧ (∃ c' v' L', Tr U (Fp Q B mb me v L) Q B mb me c' v' L' w' ∧ (L'.map c').Perm ((rst L [b]).map c)) ∧ w'.cell? ⟨b, 0, none⟩ = some (.int .i64 xa) ∧ w'.cell? ⟨b, 1, none⟩ = some (.int .i64 xn) ∧ Rn.B w' P zRn) := fun U g hU hr hst hg => by
      have hvf : ¬ Fp Q B mb me v L P := fun hf => by have := HH.out.lt hf; have := HPw.out; omega
      refine (turn_gone c U Q B mb me v L [b] [] (some ⟨g, 0, none⟩) none 1 1 0 0 (HH.out.kp0 hU) rfl rfl (by omega) (by simp) (by simpa using HBL.out) (fun _ => ⟨g, 0, rfl, hst.lt, fun j hj => by (have : j = 0 := by simp at hj; omega); subst this; exact hst.cell 0⟩) (Srcr.nil _ _) (fun _ b off e hf => by cases e; have := HH.out.lt hf; omega) (fun h => by simp at h) HAN.out).mono (fun e w' ht => ?_)
      obtain ⟨ht, hgo⟩ := ht
      obtain ⟨sl, hwt⟩ := hgo HNL.out b (by simp)
      unfold Wt at hwt
      rw [HCB.out] at hwt
      rcases ht with ⟨h1, _⟩ | ⟨_, h2, c', v', L', h3, h4⟩
      · exact absurd h1 (by have := HNL.out; omega)
      · exact ⟨h2, ⟨c', v', L', h3, by rw [List.append_nil] at h4; exact h4⟩, hwt.cell 0, hwt.cell 1, hr.kp h3.kp hvf⟩
    clear hbL hmx k1 hxa hxn HLN q0
    have HS1 : Hid (w.heap.size ≤ V1.heap.size) := K1.out.size
    go_wp2_with fail
    refine (HTU.out _ _ (K1.out.alloc _) (R1.out.kp ((Kp.refl (fun _ => False) V1).alloc _) (fun h => h)) (St.new 74 V1 #[ptr b]) HS1.out).mono ?_
    rintro e w5 ⟨rfl, ht, y0, y1, r5⟩
    have HT := hid ht
    have R5 := hid r5
    clear ht r5
    go_wp2_with (refine wpList_store_r rfl _ _ rfl _ rfl (e' := ⟨xa, xn⟩) rfl R5.out ?_; intro w6 s6 k6; have K6 : Hid (Kp (fun i => i = P) w5 w6) := k6; clear k6)
    refine bodyPost_ret (results_cell_tmp2 Try.results28 _ _ _ rfl rfl (Rn.B.load s6)) rfl ?_
    obtain ⟨c', v', L', t, p⟩ := HT.out
    have hPf : ∀ k, Fp Q B mb me v' L' k → k ≠ P := fun k hk e => by
      subst e
      rcases t.fp _ hk with h | h
      · have := HH.out.lt h; have := HPw.out; omega
      · rw [World.size_alloc] at h
        have := HPw.out
        have h9 : w.heap.size ≤ V1.heap.size := HS1.out
        omega
    have hKU := K1.out.alloc (.cells #[ptr b] 74)
    have hap : Ap (c b :: L'.map c') := (HH.out.ap.perm (HPL.out.map c)).perm (by rw [List.map_append]; exact (p.symm.cons _))
    refine .inr ⟨⟨xa, xn⟩, rfl, fun y hy => ?_, c', v', L', ⟨t.lc.kp K6.out (fun i hi e => hPf i hi e), ?_, fun k hk => ?_⟩, ?_⟩
    · obtain ⟨b', hb', rfl⟩ := List.mem_map.1 ((srt_perm _).mem_iff.1 hy)
      have := HMX.out b' hb'
      rw [HCB.out] at this
      exact this
    · refine ((hKU.mono (G := Fp Q B mb me v L) (fun _ _ h => h.elim)).trans t.kp (fun _ _ h => h)).trans K6.out (fun i hi e => ?_)
      have := HPw.out
      omega
    · rcases t.fp k hk with h | h
      · exact .inl h
      · exact .inr (Nat.le_trans hKU.size h)
    · rw [← HCB.out]
      refine ((srt_perm _).cons _).trans (List.Perm.trans ?_ (srt_perm _).symm)
      have := HPL.out.map c
      rw [List.map_append] at this
      exact (p.cons _).trans this.symm
end Go.Proofs.Ytgfondgejimkkaa
