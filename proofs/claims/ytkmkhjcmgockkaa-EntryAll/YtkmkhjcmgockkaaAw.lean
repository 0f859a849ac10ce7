/- The walk of EntryAll. -/
import Derived.Test.YtkmkhjcmgockkaaAr
namespace Go.Proofs.Ytkmkhjcmgockkaa
open Go.RowKit Go.Shelf
attribute [local go_sem] Oper.semAt_some
set_option linter.unusedVariables false
set_option maxRecDepth 100000 in
set_option maxHeartbeats 8000000 in
theorem alls_in (ao : Option Addr) (cap : Nat) (zs : List Int) (b lv : Int) (w : World) (hl : zs.length ≤ 10000) (hcap : zs.length ≤ cap) (hnil : ao = none → cap = 0) (hbt : Byt zs) (hs : Src w ao zs) : Calls Try.prog 5 #[.slice ao zs.length cap, .int .i64 b, .int .i64 lv] w fun r w' => r = .returned (.bool true) ∧ Kp (fun _ => False) w w' := by
  have KN := hid known_any
  obtain ⟨K, hK⟩ := rdK_some zs b
  obtain ⟨E, hE⟩ := fst_some hK
  have HK := hid hK
  have HE := hid hE
  have HB := hid hbt
  have HCAP := hid hcap
  have HNIL := hid hnil
  have HL : Hid (zs.length ≤ 1000000000000) := (by show _ ≤ _; omega)
  have HL9 : Hid (zs.length ≤ 1000000000) := (by show _ ≤ _; omega)
  have hKl : K ≤ 10000 := by have h1 := hK.le; omega
  have T1 : Hid (([] : List Int).length + zs.length ≤ 140737488355328) := by show _ ≤ _; simp; omega
  have hli : ¬ (10000 : Int) < (zs.length : Int) := by omega
  have hld : decide ((10000 : Int) < (zs.length : Int)) = false := by simp; omega
  have k0 : Kp (fun _ => False) w ((((w.alloc (.cells #[.slice ao zs.length cap] 39)).alloc (.cells #[.int .i64 b] 3)).alloc (.cells #[.int .i64 lv] 3)).alloc (.cells #[.bool false] 4)) := ((((Kp.refl _ _).alloc _).alloc _).alloc _).alloc _
  have z0 : ((((w.alloc (.cells #[.slice ao zs.length cap] 39)).alloc (.cells #[.int .i64 b] 3)).alloc (.cells #[.int .i64 lv] 3)).alloc (.cells #[.bool false] 4)).heap.size = w.heap.size + 1 + 1 + 1 + 1 := by simp
  have sT : St 39 ((((w.alloc (.cells #[.slice ao zs.length cap] 39)).alloc (.cells #[.int .i64 b] 3)).alloc (.cells #[.int .i64 lv] 3)).alloc (.cells #[.bool false] 4)) w.heap.size #[.slice ao zs.length cap] := (St.new 39 w _).kp ((((Kp.refl (fun _ => False) _).alloc _).alloc _).alloc _) (fun x => x)
  have sB : St 3 ((((w.alloc (.cells #[.slice ao zs.length cap] 39)).alloc (.cells #[.int .i64 b] 3)).alloc (.cells #[.int .i64 lv] 3)).alloc (.cells #[.bool false] 4)) (w.heap.size + 1) #[.int .i64 b] := by
    have h := (St.new 3 (w.alloc (.cells #[.slice ao zs.length cap] 39)) #[.int .i64 b]).kp (((Kp.refl (fun _ => False) _).alloc (.cells #[.int .i64 lv] 3)).alloc (.cells #[.bool false] 4)) (fun x => x)
    simpa using h
  have sL : St 3 ((((w.alloc (.cells #[.slice ao zs.length cap] 39)).alloc (.cells #[.int .i64 b] 3)).alloc (.cells #[.int .i64 lv] 3)).alloc (.cells #[.bool false] 4)) (w.heap.size + 1 + 1) #[.int .i64 lv] := by
    have h := (St.new 3 ((w.alloc (.cells #[.slice ao zs.length cap] 39)).alloc (.cells #[.int .i64 b] 3)) #[.int .i64 lv]).kp ((Kp.refl (fun _ => False) _).alloc (.cells #[.bool false] 4)) (fun x => x)
    simpa using h
  have sR : St 4 ((((w.alloc (.cells #[.slice ao zs.length cap] 39)).alloc (.cells #[.int .i64 b] 3)).alloc (.cells #[.int .i64 lv] 3)).alloc (.cells #[.bool false] 4)) (w.heap.size + 1 + 1 + 1) #[.bool false] := by
    have h := St.new 4 (((w.alloc (.cells #[.slice ao zs.length cap] 39)).alloc (.cells #[.int .i64 b] 3)).alloc (.cells #[.int .i64 lv] 3)) #[.bool false]
    simpa using h
  have K0 := hid k0
  have Z0 := hid z0
  have ST := hid sT
  have SB := hid sB
  have SL := hid sL
  have SR := hid sR
  have S0 := hid (hs.kp k0)
  clear k0 z0 sT sB sL sR hs hbt hcap hnil hK hE
  refine (callsIn_wide (n := 20)).1 ?_
  refine callsIn_of_wp_marks Try.func5 rfl trivial ?_ rfl
  simp only [Try.ntmps5, List.size_toArray, List.length_cons, List.length_nil, Nat.reduceAdd, Nat.reduceSub, Array.replicate_succ, Array.replicate_zero, List.push_toArray, List.append_toArray, List.nil_append, List.cons_append]
  gi_wp2_with fail
  generalize ((((w.alloc (.cells #[.slice ao zs.length cap] 39)).alloc (.cells #[.int .i64 b] 3)).alloc (.cells #[.int .i64 lv] 3)).alloc (.cells #[.bool false] 4)) = w0 at *
  generalize hT : w.heap.size = T at *
  refine ⟨trivial, (callsIn_wide.2 (first_any ao cap zs b K w0 HL.out HB.out S0.out HK.out E HE.out)).mono ?_⟩
  rintro r w1 ⟨rfl, k1⟩
  have x1 : w1.cell? ⟨T, 0, none⟩ = some (.slice ao zs.length cap) := (ST.out.kp k1 (fun x => x)).cell 0
  have x2 : w1.cell? ⟨T + 1, 0, none⟩ = some (.int .i64 b) := (SB.out.kp k1 (fun x => x)).cell 0
  gi_wp2_with fail
  refine ⟨trivial, (callsIn_wide.2 (rfirst_any ao cap zs b K w1 HL.out HCAP.out HB.out (S0.out.kp k1) HK.out E HE.out)).mono ?_⟩
  rintro r w2 ⟨rfl, k2⟩
  have k3 : Kp (fun _ => False) w0 (w2.alloc (.cells #[.int .i64 (K : Int)] 3)) := (k1.trans k2 (fun _ _ x => x)).alloc _
  have y1 : (w2.alloc (.cells #[.int .i64 (K : Int)] 3)).cell? ⟨T, 0, none⟩ = some (.slice ao zs.length cap) := (ST.out.kp k3 (fun x => x)).cell 0
  have y2 : (w2.alloc (.cells #[.int .i64 (K : Int)] 3)).cell? ⟨T + 1, 0, none⟩ = some (.int .i64 b) := (SB.out.kp k3 (fun x => x)).cell 0
  have SK := hid (St.new 3 w2 #[.int .i64 (K : Int)])
  have ZK : Hid (w0.heap.size ≤ w2.heap.size) := Nat.le_trans k1.size k2.size
  have K3 := hid k3
  have HZ3 : Hid (w2.heap.size < (w2.alloc (.cells #[.int .i64 (K : Int)] 3)).heap.size) := SK.out.lt
  clear k1 k2 k3 x1 x2
  gi_wp2_with (first | (refine wpListIn_append_i (by rfl) (.const (.slice none 0 0)) (.tmp 42) rfl (w2.alloc (.cells #[.int .i64 (K : Int)] 3)).heap.size (.slice none 0 0) [] rfl (OwnI.nil _ _) _ _ _ zs rfl rfl HNIL.out (S0.out.kp K3.out) T1.out (Nat.le_refl _) ?_; intro v4 w4 o4 q4 b4; have K4 := hid (kp_below b4); have HO4 := hid (own_slice o4); clear o4 q4 b4; obtain ⟨a5, c5, rfl, hn5, s5, hp5, hr5⟩ := HO4.out; have z2 : w4.cell? ⟨T + 1, 0, none⟩ = some (.int .i64 b) := ((SB.out.kp K3.out (fun x => x)).kp K4.out (fun x => x)).cell 0))
  have HN5 := hid hn5
  have HR5 := hid hr5
  have S5 : Hid (Src w4 a5 zs) := s5
  refine ⟨trivial, (callsIn_wide.2 (all_any a5 c5 zs b w4 HL9.out hn5 s5 hp5)).mono ?_⟩
  rintro r w5 ⟨bk, bb, v6, rfl, ap⟩
  obtain ⟨a6, c6, rfl, _, s6, _, hr6⟩ := own_slice ap.own
  have S6 := hid s6
  have HR6 := hid hr6
  clear s6 hr6
  have AP := hid ap
  have K5 := hid (((K3.out).trans K4.out (fun _ _ x => x)).trans ap.kp (fun _ _ x => x))
  have SK5 := hid ((SK.out.kp K4.out (fun x => x)).kp ap.kp (fun x => x))
  have ck : w5.cell? ⟨w2.heap.size, 0, none⟩ = some (.int .i64 (K : Int)) := SK5.out.cell 0
  have hf : ∀ w, (binOp .eql 54 (.func (.func 34) #[] #[.pointer (some ⟨bk, 0, none⟩), .pointer (some ⟨bb, 0, none⟩)]) .nilFunc).run Try.prog w = .ok (.bool false) w := fun _ => rfl
  have Z45 : Hid (w4.heap.size ≤ w5.heap.size) := ap.kp.size
  have Z34 : Hid ((w2.alloc (.cells #[.int .i64 (K : Int)] 3)).heap.size ≤ w4.heap.size) := K4.out.size
  have RW5 : Hid (∀ x, a5 = some x → ∃ L, Rw 5 w5 x.block L ∧ zs.length ≤ L.length) := fun x e => (by obtain ⟨_, _, L, h1, h2⟩ := HR5.out x e; exact ⟨L, h1.kp AP.out.kp (fun x => x), h2⟩)
  clear ap hn5 s5 hp5 hr5 HO4 y1 y2 z2
  generalize hQK : w2.heap.size = QK at *
  gi_wp2_with fail
  clear hf ck
  gi_loopw [13] (fun i wr => ∃ k : Nat, i = .int .i64 k ∧ k ≤ zs.length ∧ Kp (fun j => ∃ x, a5 = some x ∧ j = x.block) w5 wr ∧ (∀ x, a5 = some x → ∃ L, Rw 5 wr x.block L ∧ zs.length ≤ L.length)) (fun i _ => zs.length - (intOf i).toNat)
  case atStart => exact ⟨0, rfl, Nat.zero_le _, Kp.refl _ _, RW5.out⟩
  case round =>
    obtain ⟨k, rfl, hk, kw, hrw⟩ := hrel
    have KW := hid kw
    have HRW := hid hrw
    clear kw hrw
    by_cases hlt : k < zs.length
    · obtain ⟨g, off, e5, _⟩ := S5.out (by omega)
      obtain ⟨L, hL, hLl⟩ := HRW.out _ e5
      have hoff := (HR5.out _ e5).2.1
      simp only at hL hoff
      have hcl := hL.cell k (by omega)
      have hfr := hL.frozen k
      have hgl := hL.lt
      have HLR := hid hL
      have HE5 := hid e5
      clear hL
      subst e5
      subst hoff
      have hki : (k : Int) < (zs.length : Int) := by omega
      have hkb : (k : Int) + 1 ≤ 10001 := by omega
      gi_wp2_with fail
      go_roundw
      case rel =>
        refine ⟨k + 1, by go_num, hlt, KW.out.trans (kp_setCell wr g k _ (fun j => j = g) rfl) (fun i h1 h2 => ⟨_, rfl, h2⟩), fun x e => ?_⟩
        cases e
        exact ⟨_, HLR.out.set k 255, by simpa using hLl⟩
      case measure => simp [intOf]; omega
    · have hki : ¬ (k : Int) < (zs.length : Int) := by omega
      clear hlt
      gi_wp2_with fail
      obtain ⟨wB, hwB⟩ : ∃ x, x = wr := ⟨_, rfl⟩
      subst hwB
      have BSE : Hid (Base w wB T QK bk bb ao cap a6 c6 zs b lv K) := by
        have hz := Z0.out
        have hzk := ZK.out
        have h3 := HZ3.out
        have h34 := Z34.out
        have ne : ∀ j, j ≤ QK → ¬ (∃ x, a5 = some x ∧ j = x.block) := fun j hj ⟨x, e, hx⟩ => by
          have h := (HR5.out x e).1
          omega
        have ne2 : ∀ j, w4.heap.size ≤ j → ¬ (∃ x, a5 = some x ∧ j = x.block) := fun j hj ⟨x, e, hx⟩ => by
          obtain ⟨_, _, L, h1, _⟩ := HR5.out x e
          have := h1.lt
          omega
        have sr0 : Src w5 ao zs := S0.out.kp K5.out
        refine ⟨(K0.out.trans K5.out (fun _ _ x => x)).trans KW.out (fun i h1 h2 => ne i (by omega) h2), (ST.out.kp K5.out (fun x => x)).kp KW.out (ne _ (by omega)), (SB.out.kp K5.out (fun x => x)).kp KW.out (ne _ (by omega)), (SL.out.kp K5.out (fun x => x)).kp KW.out (ne _ (by omega)), (SR.out.kp K5.out (fun x => x)).kp KW.out (ne _ (by omega)), SK5.out.kp KW.out (ne _ (by omega)), AP.out.s1.kp KW.out (ne2 _ AP.out.l1), AP.out.s2.kp KW.out (ne2 _ AP.out.l2), src_blk sr0 ?_, src_blk S6.out ?_⟩
        · intro i off hp e
          obtain ⟨g, of2, e2, hc⟩ := S0.out hp
          rw [e] at e2
          cases e2
          have hlt := block_lt_of_cell (hc 0 hp)
          have hz5 := K5.out.size
          simp only at hlt
          exact KW.out.block i (by omega) (ne i (by omega))
        · intro i off hp e
          have h := (HR6.out _ e).1
          obtain ⟨_, _, L, h1, _⟩ := HR6.out _ e
          exact KW.out.block i h1.lt (ne2 i h)
      gi_wp2_with fail
      have KB0 : Hid (Below wB.heap.size wB (wB.alloc (.cells #[.int .i64 0] 3))) := (Below.refl _ _).alloc (Nat.le_refl _) _
      have SN0 : Hid (St 3 (wB.alloc (.cells #[.int .i64 0] 3)) wB.heap.size #[.int .i64 ((0 : Nat) : Int)]) := St.new 3 wB _
      have LN0 : Hid (wB.heap.size ≤ wB.heap.size) := Nat.le_refl _
      have hcn : (wB.alloc (.cells #[.int .i64 0] 3)).cell? ⟨wB.heap.size, 0, none⟩ = some (.int .i64 0) := SN0.out.cell 0
      generalize wB.alloc (.cells #[.int .i64 0] 3) = V0 at *
      clear KW HRW AP RW5 HR5 HR6 S5 S6 S0 ST SB SL SR K0 K5 SK SK5 K3 K4 Z0 ZK HZ3 Z34 Z45 T1 HN5
      refine wpIn_loop_rounds 3 ?_
      rw [roundsIn_succ]
      have LN : Hid (wB.heap.size ≤ wB.heap.size) := Nat.le_refl _
      obtain ⟨Tn, hTn⟩ : ∃ Tn, Tn = wB.heap.size := ⟨_, rfl⟩
      have LNn : Hid (wB.heap.size ≤ Tn) := (by show _ ≤ _; omega)
      rw [← hTn] at SN0 hcn ⊢
      clear hTn LN LN0
      gi_wp2_with fail
      have tiX : TI wB Tn V0.heap.size (V0.heap.size + 1) (V0.heap.size + 1 + 1) 0 0 0 false (((V0.alloc (.cells #[.int .i64 0] 3)).alloc (.cells #[.int .i64 0] 3)).alloc (.cells #[.bool false] 4)) := by
        have hb := KB0.out
        have k1 : Kp (fun _ => False) V0 (((V0.alloc (.cells #[.int .i64 0] 3)).alloc (.cells #[.int .i64 0] 3)).alloc (.cells #[.bool false] 4)) := (((Kp.refl _ _).alloc _).alloc _).alloc _
        have e1 := (St.new 3 V0 #[.int .i64 0]).kp ((((Kp.refl (fun _ => False) _).alloc (.cells #[.int .i64 0] 3)).alloc (.cells #[.bool false] 4))) (fun x => x)
        have e2 := (St.new 3 (V0.alloc (.cells #[.int .i64 0] 3)) #[.int .i64 0]).kp (((Kp.refl (fun _ => False) _).alloc (.cells #[.bool false] 4))) (fun x => x)
        have e3 := (St.new 4 ((V0.alloc (.cells #[.int .i64 0] 3)).alloc (.cells #[.int .i64 0] 3)) #[.bool false])
        rw [World.size_alloc] at e2
        rw [World.size_alloc, World.size_alloc] at e3
        exact ⟨hb.trans (k1.below hb.size (fun _ x => x.elim)), SN0.out.kp k1 (fun x => x), e1, e2, e3⟩
      have TI0 := hid tiX
      have OR0 : Hid (Tn < V0.heap.size) := SN0.out.lt
      clear tiX hcn KB0 SN0
      generalize ((V0.alloc (.cells #[.int .i64 0] 3)).alloc (.cells #[.int .i64 0] 3)).alloc (.cells #[.bool false] 4) = Y0 at *
      obtain ⟨At, hAt⟩ : ∃ At, At = V0.heap.size := ⟨_, rfl⟩
      rw [← hAt] at TI0 OR0 ⊢
      clear hAt
      have LAt : Hid (Tn < At) := OR0
      have LSb : Hid (At + 1 + 1 < Y0.heap.size) := TI0.out.s.lt
      have BS0 := hid (BSE.out.below TI0.out.bw)
      have SS0 := hid (all_seq 19 (by omega) bk bb a6 c6 zs b K Y0 HL.out HB.out BS0.out.sra BS0.out.s1 BS0.out.s2 HK.out)
      refine abs_act ?_
      intro A hA
      refine wp_cut (TR zs b wB Tn At (At + 1) (At + 1 + 1) 0 K Y0.heap.size A) ?range0 ?cont0 ?same0
      case same0 => exact fun _ _ h => h
      case range0 =>
        refine wpIn_rangeFunc_P rfl (by omega) (gf := 34) (lb := #[.pointer (some ⟨bk, 0, none⟩), .pointer (some ⟨bb, 0, none⟩)]) (by subst hA; rfl) trivial (enters_of Try.func34 (by kernel_rfl) rfl) SS0.out
          ?hO (Below.refl _ _) (fun _ => rfl) (TJ wB Tn At (At + 1) (At + 1 + 1) 0) (TX wB Tn At (At + 1) (At + 1 + 1) 0) ?hI ?hIx ?hI2 ?hIx2 ?h0 (AAy A Y0.heap.size) ?hAx ?assign ?body ?done ?stop
        case hO =>
          rintro i (rfl | rfl | ⟨hp, off, e⟩)
          · exact BS0.out.s1.lt
          · exact BS0.out.s2.lt
          · obtain ⟨g, of2, e2, hc⟩ := BS0.out.sra hp
            rw [e] at e2
            cases e2
            exact block_lt_of_cell (hc 0 hp)
        case hI =>
          rintro s O X Z ⟨ti, o1, o2, o3⟩ kk
          have h1 := LAt.out
          have h2 := LSb.out
          have h3 := ti.s.lt
          have h4 := LNn.out
          exact ⟨ti.kp kk (fun i x => by have := x.2; omega) (fun x => by have := x.2; omega) (fun x => by have := x.2; omega) (fun x => by have := x.2; omega) (fun x => by have := x.2; omega), fun x => x.elim o1 (fun x => by omega), fun x => x.elim o2 (fun x => by omega), fun x => x.elim o3 (fun x => by omega)⟩
        case hIx =>
          rintro c s O X Z ⟨rfl, p, q, hp, ti⟩ kk
          have h1 := LAt.out
          have h2 := LSb.out
          have h4 := LNn.out
          exact ⟨rfl, p, q, hp, ti.kp kk (fun i x => by have := x.2; omega) (fun x => by have := x.2; omega) (fun x => by have := x.2; omega) (fun x => by have := x.2; omega) (fun x => by have := x.2; omega)⟩
        case hI2 =>
          rintro s O X o' ⟨ti, o1, o2, o3⟩ hlt
          have h1 := LAt.out
          have h2 := LSb.out
          have h4 := LNn.out
          exact ⟨ti.kp (kp_putG X _ o') (fun i x => by omega) (by omega) (by omega) (by omega) (by omega), o1, o2, o3⟩
        case hIx2 =>
          rintro c s O X o' ⟨rfl, p, q, hp, ti⟩ hlt
          have h1 := LAt.out
          have h2 := LSb.out
          have h4 := LNn.out
          exact ⟨rfl, p, q, hp, ti.kp (kp_putG X _ o') (fun i x => by omega) (by omega) (by omega) (by omega) (by omega)⟩
        case h0 =>
          intro r
          have ka : Kp (fun _ => False) Y0 ((Y0.alloc (.deferred (some []))).alloc (.loop r)) := ((Kp.refl _ _).alloc _).alloc _
          have no : ∀ j, Tn < j → ¬ RO bk bb a6 zs j := fun j hj h => by
            have h4 := LNn.out
            rcases h with rfl | rfl | ⟨hp, off, e⟩
            · have := BSE.out.s1.lt
              omega
            · have := BSE.out.s2.lt
              omega
            · obtain ⟨g, of2, e2, hc⟩ := BSE.out.sra hp
              rw [e] at e2
              cases e2
              have h := block_lt_of_cell (hc 0 hp)
              simp only at h
              omega
          have h1 := LAt.out
          exact ⟨TI0.out.kp ka (fun _ x => x.elim) (fun x => x) (fun x => x) (fun x => x) (fun x => x), no _ (by omega), no _ (by omega), no _ (by omega)⟩
        case hAx =>
          rintro x a' X o' ⟨Be, hBe, hE, rfl⟩
          exact ⟨Be, hBe, hE.kp (kp_putG X _ o') (by omega), rfl⟩
        case assign =>
          intro l' pre O x X Kk hll hsz hi hKk
          subst hA
          unfold xenc
          have HKk := hid hKk
          have HSZ := hid hsz
          have HI := hid hi
          clear hKk hsz hi hll
          gi_wp2_with (refine wpListIn_store_en (by rfl) (.tmp 19) (.tmp 74) rfl X.heap.size rfl (e := zE) (e' := x.1.2) rfl (Eb.new X zE) ?_; intro X2 b2 j2)
          have k2 : Kp (fun _ => False) X X2 := ((Kp.refl (fun _ => False) X).alloc _).trans j2 (fun i h1 h2 => by omega)
          obtain ⟨ti, o1, o2, o3⟩ := HI.out
          exact HKk.out _ _ (k2.mono (fun _ _ x => x.elim)) ⟨ti.kp k2 (fun _ x => x.elim) (fun x => x) (fun x => x) (fun x => x) (fun x => x), o1, o2, o3⟩ ⟨X.heap.size, HSZ.out, b2, by simp⟩
        case body =>
          rintro l' pre O x a' X hll hsz n1 n2 ⟨ti, o1, o2, o3⟩ ⟨Be, hBe, hE, rfl⟩ hlen hsp
          subst hA
          obtain ⟨g1, g2, g3, g4⟩ := sp_snoc hsp
          have ti0 := hid ti
          have O1 := hid o1
          have O2 := hid o2
          have O3 := hid o3
          have HEB := hid hE
          have HSZ := hid hsz
          have HBE := hid hBe
          have N1 := hid n1
          have N2 := hid n2
          have G3 := hid g3
          have G4 := hid g4
          have HLN := hid hlen
          have g2i : (x.1.1 : Int) < (K : Int) := by omega
          have lA := LAt.out
          have lN := LNn.out
          have LTB : Hid (T + 1 + 1 + 1 < wB.heap.size ∧ QK < wB.heap.size) := ⟨BSE.out.sR.lt, BSE.out.sK.lt⟩
          clear ti o1 o2 o3 hE hsz hBe n1 n2 g3 g4 hlen hsp hll
          simp only [List.setIfInBounds_toArray, List.set_cons_succ, List.set_cons_zero]
          have c15 : X.cell? ⟨At, 0, none⟩ = some (.int .i64 ((atv pre : Nat) : Int)) := ti0.out.a.cell 0
          gi_wp2_with fail
          clear c15
          gi_loopw [75] (fun _ wr => ∃ k2 : Nat, atv pre ≤ k2 ∧ k2 ≤ x.1.1 ∧ St 3 wr At #[.int .i64 (k2 : Int)] ∧ Kp (fun j => j = At) X wr) (fun _ wr => x.1.1 - cvn wr At)
          case atStart => exact ⟨_, Nat.le_refl _, g1, ti0.out.a, Kp.refl _ _⟩
          case round =>
            obtain ⟨k2, hk1, hk2, hAt2, kx⟩ := hrel
            have KX := hid kx
            have HAT := hid hAt2
            have BS2 : Hid (Base w wr T QK bk bb ao cap a6 c6 zs b lv K) := BSE.out.below (ti0.out.bw.trans (kx.below ti0.out.bw.size (fun i h => by omega)))
            have c15 : wr.cell? ⟨At, 0, none⟩ = some (.int .i64 (k2 : Int)) := hAt2.cell 0
            have cT : wr.cell? ⟨T, 0, none⟩ = some (.slice ao zs.length cap) := BS2.out.sT.cell 0
            have cB : wr.cell? ⟨T + 1, 0, none⟩ = some (.int .i64 b) := BS2.out.sB.cell 0
            clear kx hAt2
            by_cases hlt : k2 < x.1.1
            · have RG := hid (rget_any ao cap zs (k2 : Int) b wr HL.out HCAP.out HB.out BS2.out.src (G4.out k2 hk1 hlt))
              have hki2 : (k2 : Int) < (x.1.1 : Int) := by omega
              have hkb2 : (k2 : Int) + 1 ≤ 10001 := by omega
              gi_wp2_with fail
              refine ⟨trivial, ((callsIn_wide.2 RG.out).inRound l').mono ?_⟩
              rintro r wc ⟨rfl, kc⟩
              have KC := hid kc
              have HZ2 : Hid ((!eqE zE zE) = false) := (by show _ = _; decide)
              clear kc c15 cT cB
              gi_wp2_with (first | (refine wpListIn_store_en (by rfl) (.tmp 20) (.tmp 83) rfl wc.heap.size rfl (e := zE) (e' := zE) rfl (Eb.new wc zE) ?_; intro wd b2 j2; have B2 := hid b2; have KD : Hid (Kp (fun _ => False) wr wd) := (KC.out.alloc _).trans j2 (fun i h1 h2 => by have := KC.out.size; omega); have SA := hid (HAT.out.kp KD.out (fun x => x)); have c15 : wd.cell? ⟨At, 0, none⟩ = some (.int .i64 (k2 : Int)) := SA.out.cell 0; have f15 : wd.frozen? ⟨At, 0, none⟩ = false := SA.out.frozen 0; have l15 : At < wd.heap.size := SA.out.lt; clear b2 j2) | (refine wpListIn_load_en (by rfl) (.tmp 20) rfl wc.heap.size rfl B2.out ?_) | (refine wpListIn_ne_en (by rfl) (.tmp 88) (.tmp 89) rfl (h := zE) (k := zE) rfl rfl HZ2.out ?_))
              have SA1 : St 3 (wd.setCell ⟨At, 0, none⟩ (.int .i64 ((k2 : Int) + 1))) At #[.int .i64 ((k2 + 1 : Nat) : Int)] := by
                have h := SA.out.set 0 (.int .i64 ((k2 : Int) + 1))
                simpa using h
              refine ⟨⟨k2 + 1, by omega, hlt, SA1, (KX.out.trans (KD.out.mono (fun _ _ x => x.elim)) (fun _ _ x => x)).trans (kp_setCell wd At 0 _ (fun j => j = At) rfl) (fun _ _ x => x)⟩, ?_⟩
              rw [cvn_of SA1, cvn_of HAT.out]
              omega
            · have hke : k2 = x.1.1 := by omega
              subst hke
              have RG := hid (rget_any ao cap zs (x.1.1 : Int) b wr HL.out HCAP.out HB.out BS2.out.src x.2)
              have hkb2 : (x.1.1 : Int) + 1 ≤ 10001 := by omega
              have hge : ¬ (K : Int) ≤ (x.1.1 : Int) := by omega
              have hgd : decide ((K : Int) ≤ (x.1.1 : Int)) = false := by simp; omega
              have hgn : decide (K ≤ x.1.1) = false := by simp; omega
              have hge2 : ¬ (x.1.1 : Int) < (x.1.1 : Int) := by omega
              have ne1 : Tn ≠ At := by omega
              have ne2 : At ≠ Tn := by omega
              have ne3 : Tn ≠ At + 1 := by omega
              have ne4 : At + 1 ≠ Tn := by omega
              have ne5 : T + 1 + 1 ≠ At := by have := LTB.out.1; omega
              have ne6 : T + 1 + 1 ≠ At + 1 := by have := LTB.out.1; omega
              have hlb : (pre.length : Int) + 1 ≤ 10001 := by have := HLN.out; omega
              have TIN : Hid (∀ wd, Kp (fun _ => False) wr wd → TI wB Tn At (At + 1) (At + 1 + 1) 0 x.1.1 pre.length false wd) := fun wd kd => by
                have kk : Kp (fun j => j = At) X wd := KX.out.trans (kd.mono (fun _ _ x => x.elim)) (fun _ _ x => x)
                have b0 := ti0.out.bw
                exact ⟨b0.trans (kk.below b0.size (fun i h => by omega)), ti0.out.n.kp kk (by omega), HAT.out.kp kd (fun x => x), ti0.out.d.kp kk (by omega), ti0.out.s.kp kk (by omega)⟩
              clear hlt
              gi_wp2_with fail
              refine ⟨trivial, ((callsIn_wide.2 RG.out).inRound l').mono ?_⟩
              rintro r wc ⟨rfl, kc⟩
              have KC := hid kc
              have HZ2 : Hid ((!eqE x.1.2 x.1.2) = false) := (by show _ = _; simp [eqE_self])
              have HZ3 : Hid (eqE x.1.2 zE = false) := (by show _ = _; have h := G3.out; simpa using h)
              clear kc c15 cT cB
              by_cases hq : (pre.length : Int) + 1 = lv
              · subst hq
                gi_wp2_with (first | (refine wpListIn_store_en (by rfl) (.tmp 22) (.tmp 99) rfl wc.heap.size rfl (e := zE) (e' := x.1.2) rfl (Eb.new wc zE) ?_; intro wd b2 j2; have B2 := hid b2; have KD : Hid (Kp (fun _ => False) wr wd) := (KC.out.alloc _).trans j2 (fun i h1 h2 => by have := KC.out.size; omega); have BX := hid ((HEB.out.kp KX.out (by have := HBE.out; have := LSb.out; omega)).kp KD.out (fun x => x)); have cK : wd.cell? ⟨QK, 0, none⟩ = some (.int .i64 (K : Int)) := (BS2.out.sK.kp KD.out (fun x => x)).cell 0; have cL : wd.cell? ⟨T + 1 + 1, 0, none⟩ = some (.int .i64 ((pre.length : Int) + 1)) := (BS2.out.sL.kp KD.out (fun x => x)).cell 0; have TW := hid (TIN.out wd KD.out); have cA : wd.cell? ⟨At, 0, none⟩ = some (.int .i64 (x.1.1 : Int)) := TW.out.a.cell 0; have fA : wd.frozen? ⟨At, 0, none⟩ = false := TW.out.a.frozen 0; have cD : wd.cell? ⟨At + 1, 0, none⟩ = some (.int .i64 (pre.length : Int)) := TW.out.d.cell 0; have fD : wd.frozen? ⟨At + 1, 0, none⟩ = false := TW.out.d.frozen 0; have cN : wd.cell? ⟨Tn, 0, none⟩ = some (.int .i64 0) := TW.out.n.cell 0; have cS : wd.cell? ⟨At + 1 + 1, 0, none⟩ = some (.bool false) := TW.out.s.cell 0; have fS : wd.frozen? ⟨At + 1 + 1, 0, none⟩ = false := TW.out.s.frozen 0; clear b2 j2) | (refine wpListIn_load_en (by rfl) (.tmp 19) rfl Be rfl BX.out ?_) | (refine wpListIn_load_en (by rfl) (.tmp 22) rfl wc.heap.size rfl B2.out ?_) | (refine wpListIn_ne_en (by rfl) (.tmp 109) (.tmp 110) rfl (h := x.1.2) (k := x.1.2) rfl rfl HZ2.out ?_) | (refine wpListIn_eq_en (by rfl) (.tmp 114) (.tmp 115) rfl (h := x.1.2) (k := zE) rfl rfl HZ3.out ?_))
                have lS := LSb.out
                refine ⟨(kp_next At X wd _ _ ((KX.out.mono (G := fun i => ¬ O i ∧ i ≠ Y0.heap.size ∧ i ≠ Y0.heap.size + 1) (fun i _ e => by rw [e]; exact ⟨O1.out, by omega, by omega⟩)).trans (KD.out.mono (fun _ _ x => x.elim)) (fun _ _ x => x)) ⟨O1.out, by omega, by omega⟩ ⟨O2.out, by omega, by omega⟩).trans (kp_setCell _ (At + 1 + 1) 0 _ _ ⟨O3.out, by omega, by omega⟩) (fun _ _ x => x), ⟨rfl, x.1.1 + 1, pre.length + 1, by omega, ?_⟩⟩
                have h := TW.out.next (p1 := x.1.1 + 1) (q1 := pre.length + 1) (P := (x.1.1 : Int) + 1) (Q := (pre.length : Int) + 1) lA lN (by omega) (by omega)
                exact h.stop lA lN
              · skip
                gi_wp2_with (first | (refine wpListIn_store_en (by rfl) (.tmp 22) (.tmp 99) rfl wc.heap.size rfl (e := zE) (e' := x.1.2) rfl (Eb.new wc zE) ?_; intro wd b2 j2; have B2 := hid b2; have KD : Hid (Kp (fun _ => False) wr wd) := (KC.out.alloc _).trans j2 (fun i h1 h2 => by have := KC.out.size; omega); have BX := hid ((HEB.out.kp KX.out (by have := HBE.out; have := LSb.out; omega)).kp KD.out (fun x => x)); have cK : wd.cell? ⟨QK, 0, none⟩ = some (.int .i64 (K : Int)) := (BS2.out.sK.kp KD.out (fun x => x)).cell 0; have cL : wd.cell? ⟨T + 1 + 1, 0, none⟩ = some (.int .i64 lv) := (BS2.out.sL.kp KD.out (fun x => x)).cell 0; have TW := hid (TIN.out wd KD.out); have cA : wd.cell? ⟨At, 0, none⟩ = some (.int .i64 (x.1.1 : Int)) := TW.out.a.cell 0; have fA : wd.frozen? ⟨At, 0, none⟩ = false := TW.out.a.frozen 0; have cD : wd.cell? ⟨At + 1, 0, none⟩ = some (.int .i64 (pre.length : Int)) := TW.out.d.cell 0; have fD : wd.frozen? ⟨At + 1, 0, none⟩ = false := TW.out.d.frozen 0; have cN : wd.cell? ⟨Tn, 0, none⟩ = some (.int .i64 0) := TW.out.n.cell 0; have cS : wd.cell? ⟨At + 1 + 1, 0, none⟩ = some (.bool false) := TW.out.s.cell 0; have fS : wd.frozen? ⟨At + 1 + 1, 0, none⟩ = false := TW.out.s.frozen 0; clear b2 j2) | (refine wpListIn_load_en (by rfl) (.tmp 19) rfl Be rfl BX.out ?_) | (refine wpListIn_load_en (by rfl) (.tmp 22) rfl wc.heap.size rfl B2.out ?_) | (refine wpListIn_ne_en (by rfl) (.tmp 109) (.tmp 110) rfl (h := x.1.2) (k := x.1.2) rfl rfl HZ2.out ?_) | (refine wpListIn_eq_en (by rfl) (.tmp 114) (.tmp 115) rfl (h := x.1.2) (k := zE) rfl rfl HZ3.out ?_))
                have lS := LSb.out
                refine ⟨(kp_next At X wd _ _ ((KX.out.mono (G := fun i => ¬ O i ∧ i ≠ Y0.heap.size ∧ i ≠ Y0.heap.size + 1) (fun i _ e => by rw [e]; exact ⟨O1.out, by omega, by omega⟩)).trans (KD.out.mono (fun _ _ x => x.elim)) (fun _ _ x => x)) ⟨O1.out, by omega, by omega⟩ ⟨O2.out, by omega, by omega⟩), ⟨?_, O1.out, O2.out, O3.out⟩⟩
                have h := TW.out.next (p1 := x.1.1 + 1) (q1 := pre.length + 1) (P := (x.1.1 : Int) + 1) (Q := (pre.length : Int) + 1) lA lN (by omega) (by omega)
                rw [atv_snoc, List.length_append]
                exact h
        case done =>
          rintro D xs O X rfl ⟨full, hf, rfl⟩ ⟨ti, _, _, _⟩ hd
          have hg := gap K full hf
          exact ⟨Or.inl rfl, _, _, _, _, rfl, Nat.le_refl _, hd, ti, by omega, fun _ => hg⟩
        case stop =>
          rintro D c pre O X rfl _ ⟨rfl, p, q, hp, ti⟩ hd
          refine wpIn_exit ?_
          exact ⟨Or.inr rfl, _, _, _, _, rfl, Nat.le_refl _, hd, ti, hp, fun h => by cases h⟩
      case cont0 =>
        rintro a' Z0 ⟨D0, p, q, s, rfl, hD, hd, ti, hp, hs⟩
        subst hA
        have TZ := hid ti
        have HD := hid hD
        have HDD := hid hd
        have HS := hid hs
        clear ti hd hs hD
        gi_wp2_with fail
        refine abs_act ?_
        intro A2 hA2
        refine wp_cutx 8 (TQ wB Tn At 0 D0 A2) ?loop0 ?next0
        case loop0 =>
          subst hA2
          gi_loopw [129] (fun _ wr => ∃ k2 : Nat, p ≤ k2 ∧ k2 ≤ 10000 ∧ St 3 wr At #[.int .i64 (k2 : Int)] ∧ Kp (fun j => j = At) Z0 wr) (fun _ wr => K - cvn wr At)
          case atStart => exact ⟨p, Nat.le_refl _, hp, TZ.out.a, Kp.refl _ _⟩
          case round =>
            obtain ⟨k2, hk1, hk2, hAt2, kx⟩ := hrel
            have KX := hid kx
            have HAT := hid hAt2
            have TW : Hid (TI wB Tn At (At + 1) (At + 1 + 1) 0 k2 q s wr) := by
              have h4 := LNn.out
              have h5 := LAt.out
              have b0 := TZ.out.bw
              exact ⟨b0.trans (kx.below b0.size (fun i h => by omega)), TZ.out.n.kp kx (by omega), hAt2, TZ.out.d.kp kx (by omega), TZ.out.s.kp kx (by omega)⟩
            have HDX : Hid (wr.heap[D0]? = some (.deferred (some []))) := by
              have h5 := LSb.out
              have h6 := HD.out
              exact (kx.block D0 (Array.getElem?_eq_some_iff.1 HDD.out).1 (by omega)).trans HDD.out
            have BS2 := hid (BSE.out.below TW.out.bw)
            have c15 : wr.cell? ⟨At, 0, none⟩ = some (.int .i64 (k2 : Int)) := hAt2.cell 0
            have cT : wr.cell? ⟨T, 0, none⟩ = some (.slice ao zs.length cap) := BS2.out.sT.cell 0
            have cB : wr.cell? ⟨T + 1, 0, none⟩ = some (.int .i64 b) := BS2.out.sB.cell 0
            have cK : wr.cell? ⟨QK, 0, none⟩ = some (.int .i64 (K : Int)) := BS2.out.sK.cell 0
            have cS : wr.cell? ⟨At + 1 + 1, 0, none⟩ = some (.bool s) := TW.out.s.cell 0
            clear kx hAt2
            by_cases hlt : k2 < K
            · have hki2 : (k2 : Int) < (K : Int) := by omega
              cases s with
              | true =>
                gi_wp2_with fail
                first | exact ⟨rfl, te_of (by simp), _, _, _, TW.out, HDX.out⟩ | exact ⟨trivial, te_of (by simp), _, _, _, TW.out, HDX.out⟩ | exact ⟨te_of (by simp), _, _, _, TW.out, HDX.out⟩
              | false =>
                have RG := hid (rget_any ao cap zs (k2 : Int) b wr HL.out HCAP.out HB.out BS2.out.src ((HS.out rfl).2 k2 hk1 hlt))
                have hkb2 : (k2 : Int) + 1 ≤ 10001 := by omega
                gi_wp2_with fail
                refine ⟨trivial, (callsIn_wide.2 RG.out).mono ?_⟩
                rintro r wc ⟨rfl, kc⟩
                have KC := hid kc
                have HZ2 : Hid ((!eqE zE zE) = false) := (by show _ = _; decide)
                clear kc c15 cT cB cK cS
                gi_wp2_with (first | (refine wpListIn_store_en (by rfl) (.tmp 24) (.tmp 141) rfl wc.heap.size rfl (e := zE) (e' := zE) rfl (Eb.new wc zE) ?_; intro wd b2 j2; have B2 := hid b2; have KD : Hid (Kp (fun _ => False) wr wd) := (KC.out.alloc _).trans j2 (fun i h1 h2 => by have := KC.out.size; omega); have SA := hid (HAT.out.kp KD.out (fun x => x)); have c15 : wd.cell? ⟨At, 0, none⟩ = some (.int .i64 (k2 : Int)) := SA.out.cell 0; have f15 : wd.frozen? ⟨At, 0, none⟩ = false := SA.out.frozen 0; have l15 : At < wd.heap.size := SA.out.lt; clear b2 j2) | (refine wpListIn_load_en (by rfl) (.tmp 24) rfl wc.heap.size rfl B2.out ?_) | (refine wpListIn_ne_en (by rfl) (.tmp 143) (.tmp 144) rfl (h := zE) (k := zE) rfl rfl HZ2.out ?_))
                have SA1 : St 3 (wd.setCell ⟨At, 0, none⟩ (.int .i64 ((k2 : Int) + 1))) At #[.int .i64 ((k2 + 1 : Nat) : Int)] := by
                  have h := SA.out.set 0 (.int .i64 ((k2 : Int) + 1))
                  simpa using h
                refine ⟨⟨k2 + 1, by omega, by omega, SA1, (KX.out.trans (KD.out.mono (fun _ _ x => x.elim)) (fun _ _ x => x)).trans (kp_setCell wd At 0 _ (fun j => j = At) rfl) (fun _ _ x => x)⟩, ?_⟩
                rw [cvn_of SA1, cvn_of HAT.out]
                omega
            · have hki2 : ¬ (k2 : Int) < (K : Int) := by omega
              clear hlt
              gi_wp2_with fail
              first | exact ⟨rfl, te_of (by simp), _, _, _, TW.out, HDX.out⟩ | exact ⟨trivial, te_of (by simp), _, _, _, TW.out, HDX.out⟩ | exact ⟨te_of (by simp), _, _, _, TW.out, HDX.out⟩
        case next0 =>
          rintro a' X0 ⟨⟨u24, u25, u129, u130, u131, u132, u133, u134, u135, u136, u137, u138, u139, u140, u141, u142, u143, u144, u145, u146, u147, rfl⟩, p2, q2, s2, ti2, hd2⟩
          subst hA2
          simp only [List.setIfInBounds_toArray, List.set_cons_succ, List.set_cons_zero]
          have cN : X0.cell? ⟨Tn, 0, none⟩ = some (.int .i64 0) := ti2.n.cell 0
          have BSX := hid (BSE.out.below ti2.bw)
          have HD2 := hid hd2
          have BWX := hid ti2.bw
          clear ti2 hd2
          gi_wp2_with fail
          have KB1 : Hid (Below X0.heap.size X0 (X0.alloc (.cells #[.int .i64 1] 3))) := (Below.refl _ _).alloc (Nat.le_refl _) _
          have SN1 : Hid (St 3 (X0.alloc (.cells #[.int .i64 1] 3)) X0.heap.size #[.int .i64 ((1 : Nat) : Int)]) := St.new 3 X0 _
          have hcn : (X0.alloc (.cells #[.int .i64 1] 3)).cell? ⟨X0.heap.size, 0, none⟩ = some (.int .i64 1) := SN1.out.cell 0
          generalize X0.alloc (.cells #[.int .i64 1] 3) = V1 at *
          obtain ⟨Tn1, hTn⟩ : ∃ Tn1, Tn1 = X0.heap.size := ⟨_, rfl⟩
          have LNn1 : Hid (X0.heap.size ≤ Tn1) := (by show _ ≤ _; omega)
          rw [← hTn] at SN1 hcn ⊢
          have MD : Hid (T + 1 + 1 + 1 < D0 ∧ D0 < X0.heap.size) := (by
            have h1 := LNn.out
            have h2 := LAt.out
            have h3 := LSb.out
            have h4 := HD.out
            have h5 := BSE.out.sR.lt
            have h6 := (Array.getElem?_eq_some_iff.1 HD2.out).1
            exact ⟨by omega, h6⟩)
          clear hTn TZ HD HDD HS cN
          rw [roundsIn_succ]
          gi_wp2_with fail
          have tiX : TI X0 Tn1 V1.heap.size (V1.heap.size + 1) (V1.heap.size + 1 + 1) 1 0 0 false (((V1.alloc (.cells #[.int .i64 0] 3)).alloc (.cells #[.int .i64 0] 3)).alloc (.cells #[.bool false] 4)) := by
            have hb := KB1.out
            have k1 : Kp (fun _ => False) V1 (((V1.alloc (.cells #[.int .i64 0] 3)).alloc (.cells #[.int .i64 0] 3)).alloc (.cells #[.bool false] 4)) := (((Kp.refl _ _).alloc _).alloc _).alloc _
            have e1 := (St.new 3 V1 #[.int .i64 0]).kp ((((Kp.refl (fun _ => False) _).alloc (.cells #[.int .i64 0] 3)).alloc (.cells #[.bool false] 4))) (fun x => x)
            have e2 := (St.new 3 (V1.alloc (.cells #[.int .i64 0] 3)) #[.int .i64 0]).kp (((Kp.refl (fun _ => False) _).alloc (.cells #[.bool false] 4))) (fun x => x)
            have e3 := (St.new 4 ((V1.alloc (.cells #[.int .i64 0] 3)).alloc (.cells #[.int .i64 0] 3)) #[.bool false])
            rw [World.size_alloc] at e2
            rw [World.size_alloc, World.size_alloc] at e3
            exact ⟨hb.trans (k1.below hb.size (fun _ x => x.elim)), SN1.out.kp k1 (fun x => x), e1, e2, e3⟩
          have TI1 := hid tiX
          have OR1 : Hid (Tn1 < V1.heap.size) := SN1.out.lt
          clear tiX hcn KB1 SN1
          generalize ((V1.alloc (.cells #[.int .i64 0] 3)).alloc (.cells #[.int .i64 0] 3)).alloc (.cells #[.bool false] 4) = Y1 at *
          obtain ⟨At1, hAt⟩ : ∃ At1, At1 = V1.heap.size := ⟨_, rfl⟩
          rw [← hAt] at TI1 OR1 ⊢
          clear hAt
          have LAt1 : Hid (Tn1 < At1) := OR1
          have LSb1 : Hid (At1 + 1 + 1 < Y1.heap.size) := TI1.out.s.lt
          have BS1 := hid (BSX.out.below TI1.out.bw)
          have SS1 := hid (all_seq 19 (by omega) bk bb a6 c6 zs b K Y1 HL.out HB.out BS1.out.sra BS1.out.s1 BS1.out.s2 HK.out)
          refine abs_act ?_
          intro A hA
          refine wp_cut (TR zs b X0 Tn1 At1 (At1 + 1) (At1 + 1 + 1) 1 K Y1.heap.size A) ?range1 ?cont1 ?same1
          case same1 => exact fun _ _ h => h
          case range1 =>
            refine wpIn_rangeFunc_P rfl (by omega) (gf := 34) (lb := #[.pointer (some ⟨bk, 0, none⟩), .pointer (some ⟨bb, 0, none⟩)]) (by subst hA; rfl) trivial (enters_of Try.func34 (by kernel_rfl) rfl) SS1.out
              ?hO (Below.refl _ _) (fun _ => rfl) (TJ X0 Tn1 At1 (At1 + 1) (At1 + 1 + 1) 1) (TX X0 Tn1 At1 (At1 + 1) (At1 + 1 + 1) 1) ?hI ?hIx ?hI2 ?hIx2 ?h0 (AAy A Y1.heap.size) ?hAx ?assign ?body ?done ?stop
            case hO =>
              rintro i (rfl | rfl | ⟨hp, off, e⟩)
              · exact BS1.out.s1.lt
              · exact BS1.out.s2.lt
              · obtain ⟨g, of2, e2, hc⟩ := BS1.out.sra hp
                rw [e] at e2
                cases e2
                exact block_lt_of_cell (hc 0 hp)
            case hI =>
              rintro s O X Z ⟨ti, o1, o2, o3⟩ kk
              have h1 := LAt1.out
              have h2 := LSb1.out
              have h3 := ti.s.lt
              have h4 := LNn1.out
              exact ⟨ti.kp kk (fun i x => by have := x.2; omega) (fun x => by have := x.2; omega) (fun x => by have := x.2; omega) (fun x => by have := x.2; omega) (fun x => by have := x.2; omega), fun x => x.elim o1 (fun x => by omega), fun x => x.elim o2 (fun x => by omega), fun x => x.elim o3 (fun x => by omega)⟩
            case hIx =>
              rintro c s O X Z ⟨rfl, p, q, hp, ti⟩ kk
              have h1 := LAt1.out
              have h2 := LSb1.out
              have h4 := LNn1.out
              exact ⟨rfl, p, q, hp, ti.kp kk (fun i x => by have := x.2; omega) (fun x => by have := x.2; omega) (fun x => by have := x.2; omega) (fun x => by have := x.2; omega) (fun x => by have := x.2; omega)⟩
            case hI2 =>
              rintro s O X o' ⟨ti, o1, o2, o3⟩ hlt
              have h1 := LAt1.out
              have h2 := LSb1.out
              have h4 := LNn1.out
              exact ⟨ti.kp (kp_putG X _ o') (fun i x => by omega) (by omega) (by omega) (by omega) (by omega), o1, o2, o3⟩
            case hIx2 =>
              rintro c s O X o' ⟨rfl, p, q, hp, ti⟩ hlt
              have h1 := LAt1.out
              have h2 := LSb1.out
              have h4 := LNn1.out
              exact ⟨rfl, p, q, hp, ti.kp (kp_putG X _ o') (fun i x => by omega) (by omega) (by omega) (by omega) (by omega)⟩
            case h0 =>
              intro r
              have ka : Kp (fun _ => False) Y1 ((Y1.alloc (.deferred (some []))).alloc (.loop r)) := ((Kp.refl _ _).alloc _).alloc _
              have no : ∀ j, Tn1 < j → ¬ RO bk bb a6 zs j := fun j hj h => by
                have h4 := LNn1.out
                rcases h with rfl | rfl | ⟨hp, off, e⟩
                · have := BSX.out.s1.lt
                  omega
                · have := BSX.out.s2.lt
                  omega
                · obtain ⟨g, of2, e2, hc⟩ := BSX.out.sra hp
                  rw [e] at e2
                  cases e2
                  have h := block_lt_of_cell (hc 0 hp)
                  simp only at h
                  omega
              have h1 := LAt1.out
              exact ⟨TI1.out.kp ka (fun _ x => x.elim) (fun x => x) (fun x => x) (fun x => x) (fun x => x), no _ (by omega), no _ (by omega), no _ (by omega)⟩
            case hAx =>
              rintro x a' X o' ⟨Be, hBe, hE, rfl⟩
              exact ⟨Be, hBe, hE.kp (kp_putG X _ o') (by omega), rfl⟩
            case assign =>
              intro l' pre O x X Kk hll hsz hi hKk
              subst hA
              unfold xenc
              have HKk := hid hKk
              have HSZ := hid hsz
              have HI := hid hi
              clear hKk hsz hi hll
              gi_wp2_with (refine wpListIn_store_en (by rfl) (.tmp 19) (.tmp 74) rfl X.heap.size rfl (e := zE) (e' := x.1.2) rfl (Eb.new X zE) ?_; intro X2 b2 j2)
              have k2 : Kp (fun _ => False) X X2 := ((Kp.refl (fun _ => False) X).alloc _).trans j2 (fun i h1 h2 => by omega)
              obtain ⟨ti, o1, o2, o3⟩ := HI.out
              exact HKk.out _ _ (k2.mono (fun _ _ x => x.elim)) ⟨ti.kp k2 (fun _ x => x.elim) (fun x => x) (fun x => x) (fun x => x) (fun x => x), o1, o2, o3⟩ ⟨X.heap.size, HSZ.out, b2, by simp⟩
            case body =>
              rintro l' pre O x a' X hll hsz n1 n2 ⟨ti, o1, o2, o3⟩ ⟨Be, hBe, hE, rfl⟩ hlen hsp
              subst hA
              obtain ⟨g1, g2, g3, g4⟩ := sp_snoc hsp
              have ti0 := hid ti
              have O1 := hid o1
              have O2 := hid o2
              have O3 := hid o3
              have HEB := hid hE
              have HSZ := hid hsz
              have HBE := hid hBe
              have N1 := hid n1
              have N2 := hid n2
              have G3 := hid g3
              have G4 := hid g4
              have HLN := hid hlen
              have g2i : (x.1.1 : Int) < (K : Int) := by omega
              have lA := LAt1.out
              have lN := LNn1.out
              have LTB : Hid (T + 1 + 1 + 1 < X0.heap.size ∧ QK < X0.heap.size) := ⟨BSX.out.sR.lt, BSX.out.sK.lt⟩
              clear ti o1 o2 o3 hE hsz hBe n1 n2 g3 g4 hlen hsp hll
              simp only [List.setIfInBounds_toArray, List.set_cons_succ, List.set_cons_zero]
              have c15 : X.cell? ⟨At1, 0, none⟩ = some (.int .i64 ((atv pre : Nat) : Int)) := ti0.out.a.cell 0
              gi_wp2_with fail
              clear c15
              gi_loopw [75] (fun _ wr => ∃ k2 : Nat, atv pre ≤ k2 ∧ k2 ≤ x.1.1 ∧ St 3 wr At1 #[.int .i64 (k2 : Int)] ∧ Kp (fun j => j = At1) X wr) (fun _ wr => x.1.1 - cvn wr At1)
              case atStart => exact ⟨_, Nat.le_refl _, g1, ti0.out.a, Kp.refl _ _⟩
              case round =>
                obtain ⟨k2, hk1, hk2, hAt2, kx⟩ := hrel
                have KX := hid kx
                have HAT := hid hAt2
                have BS2 : Hid (Base w wr T QK bk bb ao cap a6 c6 zs b lv K) := BSX.out.below (ti0.out.bw.trans (kx.below ti0.out.bw.size (fun i h => by omega)))
                have c15 : wr.cell? ⟨At1, 0, none⟩ = some (.int .i64 (k2 : Int)) := hAt2.cell 0
                have cT : wr.cell? ⟨T, 0, none⟩ = some (.slice ao zs.length cap) := BS2.out.sT.cell 0
                have cB : wr.cell? ⟨T + 1, 0, none⟩ = some (.int .i64 b) := BS2.out.sB.cell 0
                clear kx hAt2
                by_cases hlt : k2 < x.1.1
                · have RG := hid (rget_any ao cap zs (k2 : Int) b wr HL.out HCAP.out HB.out BS2.out.src (G4.out k2 hk1 hlt))
                  have hki2 : (k2 : Int) < (x.1.1 : Int) := by omega
                  have hkb2 : (k2 : Int) + 1 ≤ 10001 := by omega
                  gi_wp2_with fail
                  refine ⟨trivial, ((callsIn_wide.2 RG.out).inRound l').mono ?_⟩
                  rintro r wc ⟨rfl, kc⟩
                  have KC := hid kc
                  have HZ2 : Hid ((!eqE zE zE) = false) := (by show _ = _; decide)
                  clear kc c15 cT cB
                  gi_wp2_with (first | (refine wpListIn_store_en (by rfl) (.tmp 20) (.tmp 83) rfl wc.heap.size rfl (e := zE) (e' := zE) rfl (Eb.new wc zE) ?_; intro wd b2 j2; have B2 := hid b2; have KD : Hid (Kp (fun _ => False) wr wd) := (KC.out.alloc _).trans j2 (fun i h1 h2 => by have := KC.out.size; omega); have SA := hid (HAT.out.kp KD.out (fun x => x)); have c15 : wd.cell? ⟨At1, 0, none⟩ = some (.int .i64 (k2 : Int)) := SA.out.cell 0; have f15 : wd.frozen? ⟨At1, 0, none⟩ = false := SA.out.frozen 0; have l15 : At1 < wd.heap.size := SA.out.lt; clear b2 j2) | (refine wpListIn_load_en (by rfl) (.tmp 20) rfl wc.heap.size rfl B2.out ?_) | (refine wpListIn_ne_en (by rfl) (.tmp 88) (.tmp 89) rfl (h := zE) (k := zE) rfl rfl HZ2.out ?_))
                  have SA1 : St 3 (wd.setCell ⟨At1, 0, none⟩ (.int .i64 ((k2 : Int) + 1))) At1 #[.int .i64 ((k2 + 1 : Nat) : Int)] := by
                    have h := SA.out.set 0 (.int .i64 ((k2 : Int) + 1))
                    simpa using h
                  refine ⟨⟨k2 + 1, by omega, hlt, SA1, (KX.out.trans (KD.out.mono (fun _ _ x => x.elim)) (fun _ _ x => x)).trans (kp_setCell wd At1 0 _ (fun j => j = At1) rfl) (fun _ _ x => x)⟩, ?_⟩
                  rw [cvn_of SA1, cvn_of HAT.out]
                  omega
                · have hke : k2 = x.1.1 := by omega
                  subst hke
                  have RG := hid (rget_any ao cap zs (x.1.1 : Int) b wr HL.out HCAP.out HB.out BS2.out.src x.2)
                  have hkb2 : (x.1.1 : Int) + 1 ≤ 10001 := by omega
                  have hge : ¬ (K : Int) ≤ (x.1.1 : Int) := by omega
                  have hgd : decide ((K : Int) ≤ (x.1.1 : Int)) = false := by simp; omega
                  have hgn : decide (K ≤ x.1.1) = false := by simp; omega
                  have hge2 : ¬ (x.1.1 : Int) < (x.1.1 : Int) := by omega
                  have ne1 : Tn1 ≠ At1 := by omega
                  have ne2 : At1 ≠ Tn1 := by omega
                  have ne3 : Tn1 ≠ At1 + 1 := by omega
                  have ne4 : At1 + 1 ≠ Tn1 := by omega
                  have ne5 : T + 1 + 1 ≠ At1 := by have := LTB.out.1; omega
                  have ne6 : T + 1 + 1 ≠ At1 + 1 := by have := LTB.out.1; omega
                  have hlb : (pre.length : Int) + 1 ≤ 10001 := by have := HLN.out; omega
                  have TIN : Hid (∀ wd, Kp (fun _ => False) wr wd → TI X0 Tn1 At1 (At1 + 1) (At1 + 1 + 1) 1 x.1.1 pre.length false wd) := fun wd kd => by
                    have kk : Kp (fun j => j = At1) X wd := KX.out.trans (kd.mono (fun _ _ x => x.elim)) (fun _ _ x => x)
                    have b0 := ti0.out.bw
                    exact ⟨b0.trans (kk.below b0.size (fun i h => by omega)), ti0.out.n.kp kk (by omega), HAT.out.kp kd (fun x => x), ti0.out.d.kp kk (by omega), ti0.out.s.kp kk (by omega)⟩
                  clear hlt
                  gi_wp2_with fail
                  refine ⟨trivial, ((callsIn_wide.2 RG.out).inRound l').mono ?_⟩
                  rintro r wc ⟨rfl, kc⟩
                  have KC := hid kc
                  have HZ2 : Hid ((!eqE x.1.2 x.1.2) = false) := (by show _ = _; simp [eqE_self])
                  have HZ3 : Hid (eqE x.1.2 zE = false) := (by show _ = _; have h := G3.out; simpa using h)
                  clear kc c15 cT cB
                  gi_wp2_with (first | (refine wpListIn_store_en (by rfl) (.tmp 22) (.tmp 99) rfl wc.heap.size rfl (e := zE) (e' := x.1.2) rfl (Eb.new wc zE) ?_; intro wd b2 j2; have B2 := hid b2; have KD : Hid (Kp (fun _ => False) wr wd) := (KC.out.alloc _).trans j2 (fun i h1 h2 => by have := KC.out.size; omega); have BX := hid ((HEB.out.kp KX.out (by have := HBE.out; have := LSb1.out; omega)).kp KD.out (fun x => x)); have cK : wd.cell? ⟨QK, 0, none⟩ = some (.int .i64 (K : Int)) := (BS2.out.sK.kp KD.out (fun x => x)).cell 0; have cL : wd.cell? ⟨T + 1 + 1, 0, none⟩ = some (.int .i64 lv) := (BS2.out.sL.kp KD.out (fun x => x)).cell 0; have TW := hid (TIN.out wd KD.out); have cA : wd.cell? ⟨At1, 0, none⟩ = some (.int .i64 (x.1.1 : Int)) := TW.out.a.cell 0; have fA : wd.frozen? ⟨At1, 0, none⟩ = false := TW.out.a.frozen 0; have cD : wd.cell? ⟨At1 + 1, 0, none⟩ = some (.int .i64 (pre.length : Int)) := TW.out.d.cell 0; have fD : wd.frozen? ⟨At1 + 1, 0, none⟩ = false := TW.out.d.frozen 0; have cN : wd.cell? ⟨Tn1, 0, none⟩ = some (.int .i64 1) := TW.out.n.cell 0; have cS : wd.cell? ⟨At1 + 1 + 1, 0, none⟩ = some (.bool false) := TW.out.s.cell 0; have fS : wd.frozen? ⟨At1 + 1 + 1, 0, none⟩ = false := TW.out.s.frozen 0; clear b2 j2) | (refine wpListIn_load_en (by rfl) (.tmp 19) rfl Be rfl BX.out ?_) | (refine wpListIn_load_en (by rfl) (.tmp 22) rfl wc.heap.size rfl B2.out ?_) | (refine wpListIn_ne_en (by rfl) (.tmp 109) (.tmp 110) rfl (h := x.1.2) (k := x.1.2) rfl rfl HZ2.out ?_) | (refine wpListIn_eq_en (by rfl) (.tmp 114) (.tmp 115) rfl (h := x.1.2) (k := zE) rfl rfl HZ3.out ?_))
                  have lS := LSb1.out
                  refine ⟨(kp_next At1 X wd _ _ ((KX.out.mono (G := fun i => ¬ O i ∧ i ≠ Y1.heap.size ∧ i ≠ Y1.heap.size + 1) (fun i _ e => by rw [e]; exact ⟨O1.out, by omega, by omega⟩)).trans (KD.out.mono (fun _ _ x => x.elim)) (fun _ _ x => x)) ⟨O1.out, by omega, by omega⟩ ⟨O2.out, by omega, by omega⟩), ⟨?_, O1.out, O2.out, O3.out⟩⟩
                  have h := TW.out.next (p1 := x.1.1 + 1) (q1 := pre.length + 1) (P := (x.1.1 : Int) + 1) (Q := (pre.length : Int) + 1) lA lN (by omega) (by omega)
                  rw [atv_snoc, List.length_append]
                  exact h
            case done =>
              rintro D xs O X rfl ⟨full, hf, rfl⟩ ⟨ti, _, _, _⟩ hd
              have hg := gap K full hf
              exact ⟨Or.inl rfl, _, _, _, _, rfl, Nat.le_refl _, hd, ti, by omega, fun _ => hg⟩
            case stop =>
              rintro D c pre O X rfl _ ⟨rfl, p, q, hp, ti⟩ hd
              refine wpIn_exit ?_
              exact ⟨Or.inr rfl, _, _, _, _, rfl, Nat.le_refl _, hd, ti, hp, fun h => by cases h⟩
          case cont1 =>
            rintro a' Z1 ⟨D1, p, q, s, rfl, hD, hd, ti, hp, hs⟩
            subst hA
            have TZ := hid ti
            have HD := hid hD
            have HDD := hid hd
            have HS := hid hs
            clear ti hd hs hD
            gi_wp2_with fail
            refine abs_act ?_
            intro A2 hA2
            refine wp_cutx 8 (TQ X0 Tn1 At1 1 D1 A2) ?loop1 ?next1
            case loop1 =>
              subst hA2
              gi_loopw [129] (fun _ wr => ∃ k2 : Nat, p ≤ k2 ∧ k2 ≤ 10000 ∧ St 3 wr At1 #[.int .i64 (k2 : Int)] ∧ Kp (fun j => j = At1) Z1 wr) (fun _ wr => K - cvn wr At1)
              case atStart => exact ⟨p, Nat.le_refl _, hp, TZ.out.a, Kp.refl _ _⟩
              case round =>
                obtain ⟨k2, hk1, hk2, hAt2, kx⟩ := hrel
                have KX := hid kx
                have HAT := hid hAt2
                have TW : Hid (TI X0 Tn1 At1 (At1 + 1) (At1 + 1 + 1) 1 k2 q s wr) := by
                  have h4 := LNn1.out
                  have h5 := LAt1.out
                  have b0 := TZ.out.bw
                  exact ⟨b0.trans (kx.below b0.size (fun i h => by omega)), TZ.out.n.kp kx (by omega), hAt2, TZ.out.d.kp kx (by omega), TZ.out.s.kp kx (by omega)⟩
                have HDX : Hid (wr.heap[D1]? = some (.deferred (some []))) := by
                  have h5 := LSb1.out
                  have h6 := HD.out
                  exact (kx.block D1 (Array.getElem?_eq_some_iff.1 HDD.out).1 (by omega)).trans HDD.out
                have BS2 := hid (BSX.out.below TW.out.bw)
                have c15 : wr.cell? ⟨At1, 0, none⟩ = some (.int .i64 (k2 : Int)) := hAt2.cell 0
                have cT : wr.cell? ⟨T, 0, none⟩ = some (.slice ao zs.length cap) := BS2.out.sT.cell 0
                have cB : wr.cell? ⟨T + 1, 0, none⟩ = some (.int .i64 b) := BS2.out.sB.cell 0
                have cK : wr.cell? ⟨QK, 0, none⟩ = some (.int .i64 (K : Int)) := BS2.out.sK.cell 0
                have cS : wr.cell? ⟨At1 + 1 + 1, 0, none⟩ = some (.bool s) := TW.out.s.cell 0
                clear kx hAt2
                by_cases hlt : k2 < K
                · have hki2 : (k2 : Int) < (K : Int) := by omega
                  cases s with
                  | true =>
                    gi_wp2_with fail
                    first | exact ⟨rfl, te_of (by simp), _, _, _, TW.out, HDX.out⟩ | exact ⟨trivial, te_of (by simp), _, _, _, TW.out, HDX.out⟩ | exact ⟨te_of (by simp), _, _, _, TW.out, HDX.out⟩
                  | false =>
                    have RG := hid (rget_any ao cap zs (k2 : Int) b wr HL.out HCAP.out HB.out BS2.out.src ((HS.out rfl).2 k2 hk1 hlt))
                    have hkb2 : (k2 : Int) + 1 ≤ 10001 := by omega
                    gi_wp2_with fail
                    refine ⟨trivial, (callsIn_wide.2 RG.out).mono ?_⟩
                    rintro r wc ⟨rfl, kc⟩
                    have KC := hid kc
                    have HZ2 : Hid ((!eqE zE zE) = false) := (by show _ = _; decide)
                    clear kc c15 cT cB cK cS
                    gi_wp2_with (first | (refine wpListIn_store_en (by rfl) (.tmp 24) (.tmp 141) rfl wc.heap.size rfl (e := zE) (e' := zE) rfl (Eb.new wc zE) ?_; intro wd b2 j2; have B2 := hid b2; have KD : Hid (Kp (fun _ => False) wr wd) := (KC.out.alloc _).trans j2 (fun i h1 h2 => by have := KC.out.size; omega); have SA := hid (HAT.out.kp KD.out (fun x => x)); have c15 : wd.cell? ⟨At1, 0, none⟩ = some (.int .i64 (k2 : Int)) := SA.out.cell 0; have f15 : wd.frozen? ⟨At1, 0, none⟩ = false := SA.out.frozen 0; have l15 : At1 < wd.heap.size := SA.out.lt; clear b2 j2) | (refine wpListIn_load_en (by rfl) (.tmp 24) rfl wc.heap.size rfl B2.out ?_) | (refine wpListIn_ne_en (by rfl) (.tmp 143) (.tmp 144) rfl (h := zE) (k := zE) rfl rfl HZ2.out ?_))
                    have SA1 : St 3 (wd.setCell ⟨At1, 0, none⟩ (.int .i64 ((k2 : Int) + 1))) At1 #[.int .i64 ((k2 + 1 : Nat) : Int)] := by
                      have h := SA.out.set 0 (.int .i64 ((k2 : Int) + 1))
                      simpa using h
                    refine ⟨⟨k2 + 1, by omega, by omega, SA1, (KX.out.trans (KD.out.mono (fun _ _ x => x.elim)) (fun _ _ x => x)).trans (kp_setCell wd At1 0 _ (fun j => j = At1) rfl) (fun _ _ x => x)⟩, ?_⟩
                    rw [cvn_of SA1, cvn_of HAT.out]
                    omega
                · have hki2 : ¬ (k2 : Int) < (K : Int) := by omega
                  clear hlt
                  gi_wp2_with fail
                  first | exact ⟨rfl, te_of (by simp), _, _, _, TW.out, HDX.out⟩ | exact ⟨trivial, te_of (by simp), _, _, _, TW.out, HDX.out⟩ | exact ⟨te_of (by simp), _, _, _, TW.out, HDX.out⟩
            case next1 =>
              rintro a' X1 ⟨⟨u24, u25, u129, u130, u131, u132, u133, u134, u135, u136, u137, u138, u139, u140, u141, u142, u143, u144, u145, u146, u147, rfl⟩, p2, q2, s2, ti2, hd2⟩
              subst hA2
              simp only [List.setIfInBounds_toArray, List.set_cons_succ, List.set_cons_zero]
              have cN : X1.cell? ⟨Tn1, 0, none⟩ = some (.int .i64 1) := ti2.n.cell 0
              have BSX1 := hid (BSX.out.below ti2.bw)
              have HD21 := hid hd2
              have BWX1 := hid ti2.bw
              clear ti2 hd2
              gi_wp2_with fail
              have cN2 : (X1.alloc (.cells #[.int .i64 2] 3)).cell? ⟨X1.heap.size, 0, none⟩ = some (.int .i64 2) := (St.new 3 X1 _).cell 0
              have B2 : Hid (Below X1.heap.size X1 (X1.alloc (.cells #[.int .i64 2] 3))) := (Below.refl _ _).alloc (Nat.le_refl _) _
              generalize X1.alloc (.cells #[.int .i64 2] 3) = V2 at *
              have BZ := hid (BSX1.out.below B2.out)
              have M1 : Hid (D0 < D1 ∧ D1 < X1.heap.size) := (by
                have h1 := LNn1.out
                have h2 := LAt1.out
                have h3 := LSb1.out
                have h4 := HD.out
                have h5 := MD.out
                have h6 := (Array.getElem?_eq_some_iff.1 HD21.out).1
                exact ⟨by omega, h6⟩)
              have H0 : Hid (V2.heap[D0]? = some (.deferred (some []))) := (B2.out.block D0 (by have := M1.out; omega)).trans ((BWX1.out.block D0 MD.out.2).trans HD2.out)
              have H1 : Hid (V2.heap[D1]? = some (.deferred (some []))) := (B2.out.block D1 M1.out.2).trans HD21.out
              clear B2 cN TZ HD HDD HS
              rw [roundsIn_succ]
              gi_wp2_with fail
              refine ⟨trivial, (callsIn_wide.2 (KN.out V2)).mono ?_⟩
              rintro r V3 ⟨rfl, k3⟩
              have K3 := hid k3
              have SR3 := hid (BZ.out.sR.kp k3 (fun x => x))
              have cR : V3.cell? ⟨T + 1 + 1 + 1, 0, none⟩ = some (.bool false) := SR3.out.cell 0
              have fR : V3.frozen? ⟨T + 1 + 1 + 1, 0, none⟩ = false := SR3.out.frozen 0
              have lR : T + 1 + 1 + 1 < V3.heap.size := SR3.out.lt
              clear k3
              gi_wp2_with fail
              have hm := MD.out
              have hm1 := M1.out
              have h0 := (K3.out.block D0 (Array.getElem?_eq_some_iff.1 H0.out).1 (fun x => x)).trans H0.out
              have h1 := (K3.out.block D1 (Array.getElem?_eq_some_iff.1 H1.out).1 (fun x => x)).trans H1.out
              have k4 := kp_setCell V3 (T + 1 + 1 + 1) 0 (.bool true) (fun j => j = T + 1 + 1 + 1) rfl
              have s4 := SR3.out.set 0 (.bool true)
              have h0' := (k4.block D0 (Array.getElem?_eq_some_iff.1 h0).1 (by omega)).trans h0
              have h1' := (k4.block D1 (Array.getElem?_eq_some_iff.1 h1).1 (by omega)).trans h1
              have k5 := kp_putG (V3.setCell ⟨T + 1 + 1 + 1, 0, none⟩ (.bool true)) D1 (.deferred none)
              have h0'' := (k5.block D0 (Array.getElem?_eq_some_iff.1 h0').1 (by omega)).trans h0'
              have k6 := kp_putG ((V3.setCell ⟨T + 1 + 1 + 1, 0, none⟩ (.bool true)).putObj D1 (.deferred none)) D0 (.deferred none)
              have s6 := (s4.kp k5 (by omega)).kp k6 (by omega)
              refine ⟨by simp, .inl ⟨_, _, rfl, run_takeDeferred h1', ?_⟩⟩
              refine ⟨by simp, .inl ⟨_, _, rfl, run_takeDeferred h0'', ?_⟩⟩
              refine ⟨_, results_cell1 Try.results5 _ _ (T + 1 + 1 + 1) rfl (load_bool4 (s6.cell 0)), rfl, ?_⟩
              exact (((BZ.out.kp.trans K3.out (fun _ _ x => x)).trans k4 (fun i h1 h2 => by omega)).trans k5 (fun i h1 h2 => by omega)).trans k6 (fun i h1 h2 => by omega)
end Go.Proofs.Ytkmkhjcmgockkaa
