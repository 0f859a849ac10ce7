/- entry: read, First, the document's First. -/
import Derived.Test.YtkmkhjcmgockkaaRi
namespace Go.Proofs.Ytkmkhjcmgockkaa
open Go.RowKit Go.Shelf
attribute [local go_sem] Oper.semAt_some
set_option linter.unusedVariables false
theorem rdK_some (zs : List Int) (b : Int) : ∃ K, RdK zs b K := by
  have h : ∀ m, m ≤ zs.length / 8 → (∃ K, RdK zs b K) ∨ (∀ k, k < m → GetR zs (k : Int) b (prt (wd zs k)) 0) := by
    intro m
    induction m with
    | zero => intro _; exact Or.inr (fun k hk => absurd hk (by omega))
    | succ m ih =>
      intro hm
      rcases ih (by omega) with h | h
      · exact Or.inl h
      · obtain ⟨X, E, hg⟩ := getR_some zs (m : Int) b
        by_cases hE : E = 0
        · subst hE
          have hX : X = prt (wd zs m) := by
            rcases hg with ⟨_, _, h⟩ | ⟨_, _, _, h⟩ | ⟨_, _, _, _, h⟩ | ⟨_, _, _, h, _⟩
            · omega
            · omega
            · omega
            · rw [Int.toNat_natCast] at h; exact h
          subst hX
          refine Or.inr (fun k hk => ?_)
          by_cases e : k = m
          · subst e; exact hg
          · exact h k (by omega)
        · exact Or.inl ⟨m, by omega, h, Or.inr ⟨by omega, X, E, hg, hE⟩⟩
  rcases h (zs.length / 8) (Nat.le_refl _) with h | h
  · exact h
  · exact ⟨zs.length / 8, Nat.le_refl _, h, Or.inl rfl⟩
/-- What First tells. -/
def FstR (zs : List Int) (b : Int) (K : Nat) (E : Int) : Prop := (¬ Bt b ∧ K = 0 ∧ E = 2) ∨ (Bt b ∧ ((K = zs.length / 8 ∧ E = 0) ∨ (K < zs.length / 8 ∧ E = 190)))
theorem fst_some {zs : List Int} {b : Int} {K : Nat} (h : RdK zs b K) : ∃ E, FstR zs b K E := by
  by_cases hb : Bt b
  · rcases h.stop with e | ⟨e, _⟩
    · exact ⟨0, Or.inr ⟨hb, Or.inl ⟨e, rfl⟩⟩⟩
    · exact ⟨190, Or.inr ⟨hb, Or.inr ⟨e, rfl⟩⟩⟩
  · have h0 : K = 0 := by
      by_cases h0 : K = 0
      · exact h0
      · rcases h.ok 0 (by omega) with ⟨_, _, h⟩ | ⟨hb2, _⟩ | ⟨hb2, _⟩ | ⟨hb2, _⟩
        · omega
        · exact absurd hb2 hb
        · exact absurd hb2 hb
        · exact absurd hb2 hb
    exact ⟨2, Or.inl ⟨hb, h0, rfl⟩⟩
structure ReadP (w w' : World) (v : Value) (b : Int) : Prop where
  s1 : St 39 w' w.heap.size #[v]
  s2 : St 3 w' (w.heap.size + 1) #[.int .i64 b]
  sz : w'.heap.size = w.heap.size + 1 + 1
  kp : Kp (fun _ => False) w w'
set_option maxHeartbeats 1000000 in
theorem read_any (ao : Option Addr) (len cap : Nat) (b : Int) (w : World) : Calls Try.prog 32 #[.slice ao len cap, .int .i64 b] w fun e w' => e = .returned (.func (.func 38) #[] #[.pointer (some ⟨w.heap.size, 0, none⟩), .pointer (some ⟨w.heap.size + 1, 0, none⟩)]) ∧ ReadP w w' (.slice ao len cap) b := by
  have k1 : Kp (fun _ => False) w (w.alloc (.cells #[.slice ao len cap] 39)) := (Kp.refl _ _).alloc _
  have s1 := St.new 39 w #[.slice ao len cap]
  have s2 := St.new 3 (w.alloc (.cells #[.slice ao len cap] 39)) #[.int .i64 b]
  rw [World.size_alloc] at s2
  have HP : Hid (ReadP w ((w.alloc (.cells #[.slice ao len cap] 39)).alloc (.cells #[.int .i64 b] 3)) (.slice ao len cap) b) := ⟨s1.kp ((Kp.refl (fun _ => False) _).alloc _) (fun x => x), s2, by simp, k1.alloc _⟩
  clear k1 s1 s2
  go_enter Try.func32, Try.ntmps32
  go_wp2_with fail
  go_ret
  exact ⟨rfl, HP.out⟩
set_option maxHeartbeats 400000 in
theorem first_nob (ao : Option Addr) (len cap : Nat) (b : Int) (w : World) (hb : ¬ Bt b) : Calls Try.prog 18 #[.slice ao len cap, .int .i64 b] w fun e w' => e = .returned (.tuple #[.int .i64 0, .int .i64 2]) ∧ Kp (fun _ => False) w w' := by
  have CB := hid (fun w => clustered_no b w hb)
  go_enter Try.func18, Try.ntmps18
  go_wp2_with (go_at_call 24; refine (CB.out _).mono ?_; rintro r w' ⟨rfl, rfl⟩)
  go_ret2
  exact ⟨rfl, Kp.refl _ _⟩
theorem kp_putG (W : World) (l : Nat) (o' : Obj) : Kp (fun i => i = l) W (W.putObj l o') := ⟨rfl, rfl, rfl, by simp, fun k _ hk => World.putObj_heap_other (fun e => hk e)⟩
/-- What its loop keeps. -/
structure FsI {α : Type} (w : World) (g : Nat) (pre : List α) (O : Nat → Prop) (W : World) : Prop where
  num : St 3 W g #[.int .i64 (pre.length : Int)]
  nO : ¬ O g
  kp : Kp (fun _ => False) w W
set_option maxRecDepth 100000 in
set_option maxHeartbeats 4000000 in
theorem first_in (ao : Option Addr) (cap : Nat) (zs : List Int) (b : Int) (K : Nat) (w : World) (hl : zs.length ≤ 1000000000000) (hbt : Byt zs) (hs : Src w ao zs) (hb : Bt b) (hK : RdK zs b K) (E : Int) (hE : (K = zs.length / 8 ∧ E = 0) ∨ (K < zs.length / 8 ∧ E = 190)) : Calls Try.prog 18 #[.slice ao zs.length cap, .int .i64 b] w fun e w' => e = .returned (.tuple #[.int .i64 (K : Int), .int .i64 E]) ∧ Kp (fun _ => False) w w' := by
  refine (callsIn_wide (n := 9)).1 ?_
  have CB := hid (fun w => clustered_yes b w hb)
  have HL := hid hl
  have HB := hid hbt
  have HK := hid hK
  have HE := hid hE
  have G0 := hid (St.new 3 w #[.int .i64 0])
  have K0 : Hid (Kp (fun _ => False) w (w.alloc (.cells #[.int .i64 0] 3))) := (Kp.refl _ _).alloc _
  have S0 := hid (hs.kp K0.out)
  have HSW := hid hs
  have HLT : Hid (w.heap.size < (w.alloc (.cells #[.int .i64 0] 3)).heap.size) := G0.out.lt
  clear hbt hs hb hK hE
  refine callsIn_of_wp_marks Try.func18 rfl trivial ?_ rfl
  simp only [Try.ntmps18, List.size_toArray, List.length_cons, List.length_nil, Nat.reduceAdd, Nat.reduceSub, Array.replicate_succ, Array.replicate_zero, List.push_toArray, List.append_toArray, List.nil_append, List.cons_append]
  gi_wp2_with (refine ⟨trivial, ?_⟩; gi_at_call 24; refine (callsIn_wide.2 (CB.out _)).mono ?_; rintro r w' ⟨rfl, rfl⟩)
  generalize w.alloc (.cells #[.int .i64 0] 3) = W0 at *
  refine ⟨trivial, (callsIn_wide.2 (read_any ao zs.length cap b W0)).mono ?_⟩
  rintro r w2 ⟨rfl, rp⟩
  have RP := hid rp
  have SZ := hid rp.sz
  clear rp
  have SS := hid (read_seq (9 - 1) (by omega) W0.heap.size (W0.heap.size + 1) ao cap zs b K w2 HL.out HB.out (S0.out.kp RP.out.kp) RP.out.s1 RP.out.s2 HK.out)
  have LS : Hid (∀ i off, 0 < zs.length → ao = some ⟨i, off, none⟩ → i < w.heap.size) := fun i off hp e => (by obtain ⟨g, of2, e2, hc⟩ := HSW.out hp; rw [e] at e2; cases e2; exact block_lt_of_cell (hc 0 hp))
  generalize hg : w.heap.size = g at *
  generalize hB0 : W0.heap.size = B0 at *
  gi_wp2_with fail
  refine wpIn_rangeFunc_P rfl (by omega) (gf := 38) (lb := #[.pointer (some ⟨B0, 0, none⟩), .pointer (some ⟨B0 + 1, 0, none⟩)]) rfl trivial (enters_of Try.func38 (by kernel_rfl) rfl) SS.out
    (fun i h => by have h1 := SZ.out; have h2 := HLT.out; rcases h with rfl | rfl | ⟨hp, off, e⟩ <;> first | omega | (have h3 := LS.out i off hp e; omega)) (Below.refl _ _) (fun _ => rfl)
    (fun pre O W => FsI w g pre O W) (fun _ _ _ _ => False) ?hI (fun _ _ _ _ _ h _ => h.elim) ?hI2 (fun _ _ _ _ _ h _ => h.elim) ?h0
    (fun x a' _ => a' = { tmps := #[.slice ao zs.length cap, .int .i64 b, undef, undef, .int .i64 0, .int .i64 0, .pointer (some ⟨g, 0, none⟩), .int .i64 b, .bool true, .bool false, .slice ao zs.length cap, .int .i64 b, .func (.func 38) #[] #[.pointer (some ⟨B0, 0, none⟩), .pointer (some ⟨B0 + 1, 0, none⟩)], .int .i64 (x.1.1 : Int), .agg x.1.2.cs, undef, undef, undef, undef, undef, undef, undef], defers := [] }) (fun _ _ _ _ h => h) ?assign ?body ?done (fun _ _ _ _ _ _ _ h _ => h.elim)
  case hI =>
    intro s O X Y hi kk
    have h1 := hi.num.lt
    refine ⟨hi.num.kp kk (fun x => hi.nO x.1), fun x => x.elim hi.nO (fun x => by omega), hi.kp.trans kk (fun i h1 h2 => ?_)⟩
    have h3 := h2.2; have h4 := SZ.out; have h5 := HLT.out
    omega
  case hI2 =>
    intro s O X o' hi hlt
    have h4 := SZ.out; have h5 := HLT.out
    exact ⟨hi.num.kp (kp_putG X _ o') (by omega), hi.nO, hi.kp.trans (kp_putG X _ o') (fun i h1 h2 => by omega)⟩
  case h0 =>
    intro r
    have h4 := SZ.out; have h5 := HLT.out
    have st := ((G0.out.kp RP.out.kp (fun x => x)).kp ((Kp.refl (fun _ => False) w2).alloc (.deferred (some []))) (fun x => x)).kp ((Kp.refl (fun _ => False) _).alloc (.loop r)) (fun x => x)
    refine ⟨st, ?_, (((K0.out.trans RP.out.kp (fun _ _ x => x)).alloc _).alloc _)⟩
    rintro (h | h | ⟨hp, off, e⟩)
    · omega
    · omega
    · have h3 := LS.out _ off hp e; omega
  case assign =>
    intro l' pre O x W Kk hll hsz hi hK
    gi_wp2
    exact hK _ _ (Kp.refl _ _) hi (by simp [xenc])
  case body =>
    rintro l' pre O x a' W hll hsz n1 n2 hi rfl hlen _
    have c0 : W.cell? ⟨g, 0, none⟩ = some (.int .i64 (pre.length : Int)) := hi.num.cell 0
    have f0 := St.frozen hi.num 0
    have l0 := hi.num.lt
    have hb1 : (pre.length : Int) + 1 ≤ 1000000000001 := by have h1 := HK.out.le; have h2 := HL.out; omega
    have HI := hid hi
    clear hi
    have h4 := SZ.out
    have h5 := HLT.out
    have hne : g ≠ w2.heap.size ∧ g ≠ w2.heap.size + 1 := by omega
    gi_wp2
    have st := HI.out.num.set 0 (.int .i64 ((pre.length : Int) + 1))
    exact ⟨kp_setCell W g 0 _ _ ⟨HI.out.nO, hne⟩, ⟨by simpa using st, HI.out.nO, HI.out.kp.trans (kp_setCell W g 0 _ (fun j => j = g) rfl) (fun i h1 h2 => by omega)⟩⟩
  case done =>
    intro D xs O W hD hS hi hd
    subst hD
    have hlen : xs.length = K := by have h := congrArg List.length hS; rw [List.length_map, List.length_range] at h; exact h
    have c0 : W.cell? ⟨g, 0, none⟩ = some (.int .i64 (K : Int)) := by rw [← hlen]; exact hi.num.cell 0
    have HI := hid hi
    have KW := hid hi.kp
    clear hi hS hlen
    rcases HE.out with ⟨hq, rfl⟩ | ⟨hq, rfl⟩
    · have HN := hid (fun w => has_no ao zs.length cap (K : Int) w HL.out (fun h => by have := h.2; omega))
      clear hq
      gi_wp2_with (refine ⟨trivial, ?_⟩; gi_at_call 27; refine (callsIn_wide.2 (HN.out _)).mono ?_; rintro r w' ⟨rfl, rfl⟩)
      refine ⟨by simp, .inl ⟨_, _, rfl, run_takeDeferred hd, ?_⟩⟩
      exact ⟨_, results_tmp2 rfl _ _ _, rfl, KW.out.trans (kp_putG W w2.heap.size _) (fun i h1 h2 => by have h4 := SZ.out; have h5 := HLT.out; omega)⟩
    · have HN := hid (fun w => has_yes ao zs.length cap K w HL.out hq)
      gi_wp2_with (refine ⟨trivial, ?_⟩; gi_at_call 27; refine (callsIn_wide.2 (HN.out _)).mono ?_; rintro r w' ⟨rfl, rfl⟩)
      refine ⟨by simp, .inl ⟨_, _, rfl, run_takeDeferred hd, ?_⟩⟩
      exact ⟨_, results_tmp2 rfl _ _ _, rfl, KW.out.trans (kp_putG W w2.heap.size _) (fun i h1 h2 => by have h4 := SZ.out; have h5 := HLT.out; omega)⟩
/-- First. -/
theorem first_any (ao : Option Addr) (cap : Nat) (zs : List Int) (b : Int) (K : Nat) (w : World) (hl : zs.length ≤ 1000000000000) (hbt : Byt zs) (hs : Src w ao zs) (hK : RdK zs b K) (E : Int) (hE : FstR zs b K E) : Calls Try.prog 18 #[.slice ao zs.length cap, .int .i64 b] w fun e w' => e = .returned (.tuple #[.int .i64 (K : Int), .int .i64 E]) ∧ Kp (fun _ => False) w w' := by
  rcases hE with ⟨hb, rfl, rfl⟩ | ⟨hb, hE⟩
  · exact first_nob ao _ cap b w hb
  · exact first_in ao cap zs b K w hl hbt hs hb hK E hE
set_option maxHeartbeats 400000 in
theorem rfirst_nob (ao : Option Addr) (len cap : Nat) (b : Int) (w : World) (hb : ¬ Bt b) : Calls Try.prog 19 #[.slice ao len cap, .int .i64 b] w fun e w' => e = .returned (.tuple #[.int .i64 0, .int .i64 2]) ∧ Kp (fun _ => False) w w' := by
  have CB := hid (fun w => rbits_no b w hb)
  go_enter Try.func19, Try.ntmps19
  go_wp2_with (go_at_call 11; refine (CB.out _).mono ?_; rintro r w' ⟨rfl, rfl⟩)
  go_ret2
  exact ⟨rfl, Kp.refl _ _⟩
set_option maxRecDepth 100000 in
set_option maxHeartbeats 4000000 in
theorem rfirst_in (ao : Option Addr) (cap : Nat) (zs : List Int) (b : Int) (K : Nat) (w : World) (hl : zs.length ≤ 1000000000000) (hcap : zs.length ≤ cap) (hbt : Byt zs) (hs : Src w ao zs) (hb : Bt b) (hK : RdK zs b K) (E : Int) (hE : (K = zs.length / 8 ∧ E = 0) ∨ (K < zs.length / 8 ∧ E = 190)) : Calls Try.prog 19 #[.slice ao zs.length cap, .int .i64 b] w fun e w' => e = .returned (.tuple #[.int .i64 (K : Int), .int .i64 E]) ∧ Kp (fun _ => False) w w' := by
  have CB := hid (fun w => rbits_yes b w hb)
  have HBT := hid hb
  have HL := hid hl
  have HB := hid hbt
  have HC := hid hcap
  have HK := hid hK
  have HE := hid hE
  have HS := hid hs
  have hq : (zs.length : Int).tdiv 8 = ((zs.length / 8 : Nat) : Int) := by rw [Int.tdiv_eq_ediv_of_nonneg (by omega)]; omega
  have hq2 : IntKind.i64.wrap ((zs.length / 8 : Nat) : Int) = ((zs.length / 8 : Nat) : Int) := by rw [IntKind.wrap_i64]; omega
  obtain ⟨q, hqq⟩ : ∃ q, q = zs.length / 8 := ⟨_, rfl⟩
  have HQ := hid hqq
  have HLE : Hid (K ≤ q) := (by rw [hqq]; exact hK.le)
  have hql : q ≤ 1000000000000 := by omega
  rw [← hqq] at hq hq2
  clear hbt hs hK hE hcap hqq
  go_enter Try.func19, Try.ntmps19
  go_wp2_with (go_at_call 11; refine (CB.out _).mono ?_; rintro r w' ⟨rfl, rfl⟩)
  go_loopw [6, 7, 8] (fun i _ _ wr => ∃ k : Nat, i = .int .i64 k ∧ k ≤ K ∧ Kp (fun _ => False) w wr) (fun i _ _ _ => K - (intOf i).toNat)
  case atStart => exact ⟨0, rfl, Nat.zero_le _, Kp.refl _ _⟩
  case round =>
    obtain ⟨k, rfl, hk, kw⟩ := hrel
    have KW := hid kw
    clear kw
    by_cases hlt : k < K
    · have hkq : (k : Int) < (q : Int) := by have := HLE.out; omega
      have EG := hid (rget_any ao cap zs (k : Int) b wr HL.out HC.out HB.out (HS.out.kp KW.out) (HK.out.ok k hlt))
      go_wp2_with fail
      refine EG.out.mono ?_
      rintro r w1 ⟨rfl, k1⟩
      go_wp2_with (refine wpList_store_en rfl (.tmp 7) (.tmp 24) rfl w1.heap.size rfl (e := zE) (e' := prt (wd zs k)) rfl (Eb.new w1 zE) ?_; intro w2 b2 j2; have k2 : Kp (fun _ => False) w1 w2 := ((Kp.refl (fun _ => False) w1).alloc _).trans j2 (fun i h1 h2 => by omega))
      go_roundw
      case rel => exact ⟨k + 1, by go_num, hlt, (KW.out.trans k1 (fun _ _ x => x)).trans k2 (fun _ _ x => x)⟩
      case measure => simp [intOf]; omega
    · have hkK : k = K := by omega
      have HKK := hid hkK
      clear hkK hlt
      rcases HE.out with ⟨e1, rfl⟩ | ⟨e1, rfl⟩
      · have hkq : ¬ (k : Int) < (q : Int) := by have h1 := HQ.out; have h2 := HKK.out; omega
        have hkq2 : (q : Int) = (K : Int) := by have h1 := HQ.out; omega
        have HKQ := hid hkq2
        clear e1 hkq2
        go_wp2_with fail
        go_ret2
        exact ⟨by rw [← HKQ.out]; rfl, KW.out⟩
      · have hkq : (k : Int) < (q : Int) := by have h1 := HQ.out; have h2 := HKK.out; omega
        rcases HK.out.stop with h | ⟨_, X, E, hg, hE⟩
        · omega
        · have hE2 : E = 190 := by
            rcases hg with ⟨h, _⟩ | ⟨_, h, _⟩ | ⟨_, _, _, _, h⟩ | ⟨_, _, _, _, h⟩
            · exact absurd HBT.out h
            · exact absurd ⟨by omega, by omega⟩ h
            · exact h
            · exact absurd h hE
          subst hE2
          have EG := hid (rget_any ao cap zs (K : Int) b wr HL.out HC.out HB.out (HS.out.kp KW.out) hg)
          have hkk := HKK.out
          subst hkk
          clear e1 hg hE
          go_wp2_with fail
          refine EG.out.mono ?_
          rintro r w1 ⟨rfl, k1⟩
          go_wp2_with (refine wpList_store_en rfl (.tmp 7) (.tmp 24) rfl w1.heap.size rfl (e := zE) (e' := X) rfl (Eb.new w1 zE) ?_; intro w2 b2 j2; have k2 : Kp (fun _ => False) w1 w2 := ((Kp.refl (fun _ => False) w1).alloc _).trans j2 (fun i h1 h2 => by omega))
          go_ret2
          exact ⟨rfl, (KW.out.trans k1 (fun _ _ x => x)).trans k2 (fun _ _ x => x)⟩
/-- The document's First. -/
theorem rfirst_any (ao : Option Addr) (cap : Nat) (zs : List Int) (b : Int) (K : Nat) (w : World) (hl : zs.length ≤ 1000000000000) (hcap : zs.length ≤ cap) (hbt : Byt zs) (hs : Src w ao zs) (hK : RdK zs b K) (E : Int) (hE : FstR zs b K E) : Calls Try.prog 19 #[.slice ao zs.length cap, .int .i64 b] w fun e w' => e = .returned (.tuple #[.int .i64 (K : Int), .int .i64 E]) ∧ Kp (fun _ => False) w w' := by
  rcases hE with ⟨hb, rfl, rfl⟩ | ⟨hb, hE⟩
  · exact rfirst_nob ao _ cap b w hb
  · exact rfirst_in ao cap zs b K w hl hcap hbt hs hb hK E hE
end Go.Proofs.Ytkmkhjcmgockkaa
