/-
  LaterPlays answers true, whatever runs and whatever script of calls come in, and leaves what was there as it was: no conditions.
  The walk lies in the texts that are imported; here the arguments are opened and read again.
-/
import Derived.Test.YtgfondgejimkkaaPeX
namespace Go.Proofs.Ytgfondgejimkkaa
open Go.RowKit
set_option linter.unusedVariables false
set_option linter.unusedSimpArgs false
theorem own_shape {w : World} {base : Nat} {t : TypeId} {v : Value} {n : Nat} {xs : List Value} (h : w.ownsRow base t 1 v n xs) : ∃ a c, v = .slice a n c := by
  rcases h.2 with ⟨e, h0⟩ | ⟨g, cap, cur, e, _⟩
  · exact ⟨none, 0, by rw [e, h0]⟩
  · exact ⟨_, _, e⟩
theorem tb_none (w : World) : Tb w none := fun b off e => by cases e
theorem gds_mem {S : List Sp} {k : Nat} (h : k < S.length) : S.getD k zSp ∈ S := by
  have : S.getD k zSp = S[k] := by simp [List.getD, h]
  rw [this]
  exact List.getElem_mem h
theorem own_at {w : World} {base j : Nat} {t : TypeId} {v : Value} {xs : List Value} (h : w.ownsRow base t 1 v xs.length xs) (hj : j < xs.length) : ∃ g cap, v = .slice (some ⟨g, 0, none⟩) xs.length cap ∧ w.cell? ⟨g, j, none⟩ = xs[j]? ∧ xs.length ≤ cap := by
  rcases h.2 with ⟨_, h0⟩ | ⟨g, cap, cur, e, _, h2, h3, _, h5, h6⟩
  · omega
  · refine ⟨g, cap, e, ?_, h3⟩
    have h7 : w.cell? ⟨g, j, none⟩ = cur[j]? := St.cell (t := t) h2 j
    rw [h7, ← h6, List.getElem?_take, if_pos (by omega)]
    simp
set_option maxRecDepth 100000 in
set_option maxHeartbeats 16000000 in
theorem plays_ok (a1 a2 : Option Addr) (n1 c1 n2 c2 : Nat) (M : List Rn) (S : List Sp) (w : World) (hM : M.length = n1) (hn1 : n1 ≤ 40) (hS : S.length = n2) (hn2 : n2 ≤ 40) (hz : a1 = none → c1 = 0) (hs : Srcr w a1 M) (hb : ∀ x ∈ M, Mayr x) (hss : Srcs w a2 S) (hok : ∀ s ∈ S, s.ok w) : Calls Try.prog 3 #[.slice a1 n1 c1, .slice a2 n2 c2] w fun e w' => e = .returned (.bool true) ∧ Kp (fun _ => False) w w' := by
  have hmix : Try.prog.follows .mixedOrders = true := by kernel_rfl
  have ka : Kp (fun _ => False) w (w.alloc (.cells #[.slice none 0 0] 27)) := (Kp.refl _ _).alloc _
  have HNU := hid num_any
  have hR0 : RL w.heap.size (w.alloc (.cells #[.slice none 0 0] 27)) [] := ⟨⟨none, 0, St.new 27 w #[.slice none 0 0], Srcr.nil _ _, tb_none _, fun _ => rfl⟩, Can.nil, by simp⟩
  have htl : (tog M).length ≤ 40 := Nat.le_trans (tog_len hb) (by omega)
  have HRP : Hid (Calls Try.prog 9 #[.pointer (some ⟨w.heap.size, 0, none⟩), .slice a1 n1 c1] (w.alloc (.cells #[.slice none 0 0] 27)) fun e w' => (∃ sm, e = .returned (.tuple #[.int .i64 sm, .int .i64 0])) ∧ RL w.heap.size w' (tog M) ∧ Kp (fun i => i = w.heap.size) (w.alloc (.cells #[.slice none 0 0] 27)) w') := (rput_ok _ w.heap.size [] a1 n1 c1 M hR0 hM (by omega) (hs.kp ka (fun _ _ _ _ h => h)) hb).mono (by
    rintro e w' (⟨h1, _⟩ | ⟨_, h2, h3, h4⟩)
    · rw [List.nil_append] at h1; omega
    · rw [List.nil_append] at h2 h3
      exact ⟨⟨_, h2⟩, h3, h4⟩)
  have HNW : Hid (∀ U, Kp (fun _ => False) w U → Calls Try.prog 10 #[.slice a1 n1 c1] U fun e w' => ∃ Q F, e = .returned (.tuple #[.pointer (some ⟨Q, 0, none⟩), .int .i64 0]) ∧ Lw Q (tog M) F w' ∧ (∀ k, F k → U.heap.size ≤ k) ∧ Kp (fun _ => False) U w') := fun U k => (new_w U a1 n1 c1 M hM (by omega) (fun x hx => (hb x hx).i6) hz (hs.kp k (fun _ _ _ _ h => h))).mono (by
    rintro e w' ⟨k2, (⟨⟨x, hx, h1⟩, _⟩ | ⟨_, h1, _⟩ | ⟨_, _, Q, F, h2, h3, h4⟩)⟩
    · exact absurd (hb x hx) h1
    · omega
    · exact ⟨Q, F, h2, h3, h4, k2⟩)
  have KA := hid ka
  have HXS : Hid ((w.alloc (.cells #[.slice none 0 0] 27)).heap.size = w.heap.size + 1) := World.size_alloc _ _
  have HWK := hid works_any
  have HNO := hid nothing_any
  have HSS := hid hss
  have HOK := hid hok
  have HSN := hid hS
  clear ka hz hs hb hM hR0 htl hss hok hS
  have d1 : ¬ (40 : Int) < (n2 : Int) := by omega
  have d2 : decide ((40 : Int) < (n2 : Int)) = false := by simpa using d1
  have d3 : ¬ (40 : Int) < (n1 : Int) := by omega
  have d4 : decide ((40 : Int) < (n1 : Int)) = false := by simpa using d3
  go_enter Try.func3, Try.ntmps3
  go_wp2_with fail
  refine HRP.out.mono ?_
  rintro e w1 ⟨⟨sm, rfl⟩, r1, k1⟩
  have K1 : Hid (Kp (fun _ => False) w w1) := KA.out.trans k1 (fun i hi e => by omega)
  have R1 := hid r1
  have Z1 : Hid (w.heap.size + 1 ≤ w1.heap.size) := by rw [Hid, ← HXS.out]; exact k1.size
  have HN1 := hid (HNW.out w1 K1.out)
  clear k1 r1 HRP HNW d1 d2 d3 d4
  go_wp2_with fail
  refine HN1.out.mono ?_
  rintro e w2 ⟨Q0, F0, rfl, l2, f2, k2⟩
  have P2 : Hid (Pj w w.heap.size (w.heap.size + 1) Q0 (tog M) (.slice none 0 0) (.slice none 0 0) [] w2) := ⟨K1.out.trans k2 (fun _ _ h => h), ⟨F0, l2, fun i hi => Nat.le_trans K1.out.size (f2 i hi), fun o ho => by simp at ho⟩, R1.out.kp k2 (fun _ h => h), Nat.le_refl _, World.ownsRow_nil _ _ _ _, World.ownsRow_nil _ _ _ _, fun o ho => by simp at ho, by omega, Nat.le_trans Z1.out k2.size⟩
  clear l2 f2 k2 HN1 K1 R1 Z1 HXS KA
  generalize tog M = L0 at *
  go_wp2_with (first | (go_at_call 11; refine (HNU.out _ _).mono ?_; rintro e1 w9 ⟨rfl, rfl⟩))
  obtain ⟨rq, hrq⟩ : ∃ rq, rq = w.heap.size := ⟨_, rfl⟩
  rw [← hrq] at P2 ⊢
  have HRQ := hid hrq
  clear hrq
  go_loopw [8, 10, 11, 12] (fun v8 vo vw i wr => ∃ (k Q : Nat) (l : List Rn) (OL : List Od), i = .int .i64 (k : Int) ∧ v8 = .pointer (some ⟨Q, 0, none⟩) ∧ k ≤ n2 ∧ OL.length ≤ k ∧ Hid (Pj w rq (rq + 1) Q l vo vw OL wr)) (fun _ _ _ i _ => n2 - (intOf i).toNat)
  case atStart => exact ⟨0, Q0, L0, [], rfl, rfl, Nat.zero_le _, Nat.le_refl _, P2⟩
  case round =>
    clear P2
    obtain ⟨k, Q, l, OL, rfl, rfl, hk, hol, PP⟩ := hrel
    by_cases hlt : k < n2
    · have hkl : k < S.length := by have := HSN.out; omega
      obtain ⟨sb, off, hbe, hsb, hcs⟩ := HSS.out.at hkl
      have hok := HOK.out _ (gds_mem hkl)
      obtain ⟨⟨kd, lv, sao, sn, scap, sL, sx, smm⟩, hse⟩ : ∃ s, S.getD k zSp = s := ⟨_, rfl⟩
      rw [hse] at hcs hok
      have HSC : Hid (∀ U, Kp (fun _ => False) w U → U.cell? ⟨sb, off + k * 6, none⟩ = some (.int .i64 kd) ∧ U.cell? ⟨sb, off + k * 6 + 1, none⟩ = some (.int .i64 lv) ∧ U.cell? ⟨sb, off + k * 6 + 2, none⟩ = some (.slice sao sn scap) ∧ U.cell? ⟨sb, off + k * 6 + 3, none⟩ = some (.int .i64 sx.a) ∧ U.cell? ⟨sb, off + k * 6 + 4, none⟩ = some (.int .i64 sx.n) ∧ U.cell? ⟨sb, off + k * 6 + 5, none⟩ = some (.int .i64 smm)) := fun U ku => ⟨kp_cell ku (hcs 0 _ rfl) (fun h => h), kp_cell ku (hcs 1 _ rfl) (fun h => h), kp_cell ku (hcs 2 _ rfl) (fun h => h), kp_cell ku (hcs 3 _ rfl) (fun h => h), kp_cell ku (hcs 4 _ rfl) (fun h => h), kp_cell ku (hcs 5 _ rfl) (fun h => h)⟩
      have HO := hid hok
      clear hcs hok hse hkl
      subst hbe
      obtain ⟨y0, y1, y2, _, _, _⟩ := HSC.out wr PP.out.k
      have hsl : sn ≤ 9223372036854775807 := by have h1 := HO.out.lc; have h2 := HO.out.cm; unfold maxLen at h2; dsimp only at h1 h2; omega
      have hki : (k : Int) < (n2 : Int) := by omega
      have hk0 : (0 : Int) ≤ (k : Int) := by omega
      by_cases hsn : 40 < sn
      · have e1 : (40 : Int) < (sn : Int) := by omega
        have e2 : decide ((40 : Int) < (sn : Int)) = true := by simpa using e1
        go_wp2_with fail
        refine (HWK.out wr).mono ?_
        rintro e w5 ⟨rfl, k5⟩
        go_wp2_with fail
        go_ret
        exact ⟨rfl, PP.out.k.trans k5 (fun _ _ h => h)⟩
      · have e1 : ¬ (40 : Int) < (sn : Int) := by omega
        have e2 : decide ((40 : Int) < (sn : Int)) = false := by simpa using e1
        go_upto_if 74 with fail
        go_cut [8, 10, 11] from 55 to 99 (fun v8 vo vw wx => ∃ (Q : Nat) (l : List Rn) (OL : List Od), v8 = .pointer (some ⟨Q, 0, none⟩) ∧ OL.length ≤ k + 1 ∧ Hid (Pj w rq (rq + 1) Q l vo vw OL wx))
        case first =>
          by_cases h9 : kd = 9
          · subst h9
            obtain ⟨ar, cr, g1, g2, g3, g4⟩ := PP.out.rl.mem
            have ha : wr.cell? ⟨rq, 0, none⟩ = some (.slice ar l.length cr) := g1.cell 0
            have hml : (OL.map Od.p).length ≤ 100 := by rw [List.length_map]; omega
            have hml2 : (OL.map Od.v).length ≤ 100 := by rw [List.length_map]; omega
            have ka : Kp (fun _ => False) wr (wr.alloc (.cells #[.pointer (some ⟨Q, 0, none⟩)] 30)) := (Kp.refl _ _).alloc _
            obtain ⟨v1, x1, rr, o1, k1⟩ := own_appq (ty := 35) (own_kp PP.out.po ka (fun _ _ h => h)) (St.new 30 wr #[.pointer (some ⟨Q, 0, none⟩)]) rfl (by omega) (Nat.le_trans PP.out.b0.2 ka.size)
            have K1 : Hid (Kp (fun i => u10.ownBlock = some i) wr x1) := (ka.mono (fun _ _ h => h.elim)).trans k1 (fun _ _ h => h)
            have KR1 : Hid (Kp (Rws u10 u11) wr x1) := K1.out.mono (fun _ _ h => .inl h)
            have O1 := hid o1
            have ha1 : x1.cell? ⟨rq, 0, none⟩ = some (.slice ar l.length cr) := (PP.out.core KR1.out).2.2.trans ha
            have kb : Kp (fun _ => False) x1 (x1.alloc (.cells #[.slice ar l.length cr] 27)) := (Kp.refl _ _).alloc _
            obtain ⟨v2, x2, rr2, o2, k2⟩ := own_appw (ty := 36) (own_kp (PP.out.pw1 K1.out) kb (fun _ _ h => h)) (St.new 27 x1 #[.slice ar l.length cr]) rfl (by omega) (Nat.le_trans PP.out.b0.2 (Nat.le_trans K1.out.size kb.size))
            have K12 : Hid (Kp (fun i => u11.ownBlock = some i) x1 x2) := (kb.mono (fun _ _ h => h.elim)).trans k2 (fun _ _ h => h)
            have KR2 : Hid (Kp (Rws u10 u11) wr x2) := KR1.out.trans (K12.out.mono (fun _ _ h => .inr h)) (fun _ _ h => h)
            have O2 := hid o2
            have O12 : Hid (x2.ownsRow (rq + 1) 30 1 v1 (OL.map Od.p ++ [Value.pointer (some ⟨Q, 0, none⟩)]).length (OL.map Od.p ++ [Value.pointer (some ⟨Q, 0, none⟩)])) := own_kp O1.out K12.out (fun g e h => by
              obtain ⟨cur, hc, _⟩ := ownb (PP.out.pw1 K1.out) h
              obtain ⟨cur2, hc2, _⟩ := ownb O1.out e
              exact apart_types hc hc2 (by decide))
            obtain ⟨F, hL, hF, hO⟩ := PP.out.two
            have L2 := hid ((PP.out.core KR2.out).1 F hL)
            have HCY := hid (copy_w L2.out)
            clear o1 k1 ka g1 g2 g3 g4 o2 k2 kb hL hF hO
            go_wp2_with (first | (at_builtin; refine Lib.wpList_append_run _ rfl _ _ _ _ rfl _ _ rfl rfl _ _ rr ?_; clear rr) | (at_builtin; refine Lib.wpList_append_run _ rfl _ _ _ _ rfl _ _ rfl rfl _ _ rr2 ?_; clear rr2))
            refine HCY.out.mono ?_
            rintro e x3 ⟨k3, Q2, F2, rfl, l3, f3⟩
            have HP3 := hid (PP.out.rows ha KR2.out O12.out O2.out k3 l3 f3)
            have HSM := hid (same_w l3 (L2.out.kp0 k3))
            obtain ⟨g, cp, e1, hcell, hcap⟩ := own_at (j := OL.length) O12.out (by simp)
            have hcell3 : x3.cell? ⟨g, OL.length, none⟩ = some (.pointer (some ⟨Q, 0, none⟩)) := by
              rw [cell_kp k3 (block_lt_of_cell (hcell.trans (by simp; rfl))) (fun h => h), hcell]
              simp
            simp only [List.length_append, List.length_map, List.length_singleton] at e1 hcap
            subst e1
            clear k3 l3 f3 HCY O12 hcell hcap O1 O2 ha ha1 K1 KR1 K12 KR2
            obtain ⟨m, hm⟩ : ∃ m, m = OL.length := ⟨_, rfl⟩
            rw [← hm] at hcell3 ⊢
            have hm4 : m ≤ 40 := by omega
            have w1 : IntKind.i64.wrap ((m : Int) + 1 - 1) = (m : Int) := by rw [IntKind.wrap_i64]; omega
            have w2 : IntKind.i64.wrap (((m + 1 : Nat) : Int) - 1) = (m : Int) := by rw [IntKind.wrap_i64]; omega
            have w3 : (0 : Int) ≤ (m : Int) := by omega
            have w4 : (m : Int) < (m : Int) + 1 := by omega
            have w5 : (m : Int) < ((m + 1 : Nat) : Int) := by omega
            have HM := hid hm
            clear hm
            go_wp2_with fail
            refine HSM.out.mono ?_
            rintro e x4 ⟨⟨bl, rfl, hbl⟩, k4⟩
            obtain rfl : bl = true := hbl.2 rfl
            have HP4 := hid (HP3.out.same k4)
            clear k4 hbl HSM HP3 hcell3
            go_wp2_with fail
            go_meet
            case rel => exact ⟨Q2, l, OL ++ [⟨Q, l, ar, cr⟩], rfl, by simp; omega, by rw [HM.out] at *; exact HP4⟩
          · have e9 : (kd == 9) = false := by simpa using h9
            go_wp2_with fail
            go_meet
            case rel => exact ⟨Q, l, OL, rfl, by omega, PP⟩
        case rest =>
          clear PP y0 y1 y2
          obtain ⟨Q, l, OL, rfl, hol2, PC⟩ := hcut
          obtain ⟨F, hL, hF, hO⟩ := PC.out.two
          have HST := hid (step_any wc Q rq l F ⟨kd, lv, sao, sn, scap, sL, sx, smm⟩ (by dsimp only; omega) HO.out.ln (HO.out.sr.kp PC.out.k (fun _ _ _ _ h => h)) HO.out.i6 HO.out.no HO.out.x6 HO.out.m6 (fun b bo e hp => by
            obtain ⟨b2, o2, e2, hb2, _⟩ := HO.out.sr hp
            dsimp only at e e2
            rw [e] at e2
            cases e2
            exact ⟨fun hf => by have := hF b hf; omega, by have := PC.out.lo; omega⟩) hL PC.out.rl)
          have HPC : Hid (∀ (l' : List Rn) Y, Ch F Q rq wc l' Y → Pj w rq (rq + 1) Q l' _ _ OL Y) := fun l' Y c => PC.out.ch hL hF hO c
          unfold Sp.cs at HST
          dsimp only at HST
          obtain ⟨y0, y1, y2, y3, y4, y5⟩ := HSC.out wc PC.out.k
          clear hL hF hO
          go_wp2_with fail
          refine HST.out.mono ?_
          rintro e w5 ⟨rfl, l', c5⟩
          have P5 := hid (HPC.out l' w5 c5)
          clear c5 HPC HST PC y0 y1 y2 y3 y4 y5
          obtain ⟨F5, hL5, hF5, hO5⟩ := P5.out.two
          have HAL := hid (all_w hL5)
          have HSZ : Hid (∀ U, Kp (fun _ => False) w5 U → Calls Try.prog 16 #[.pointer (some ⟨Q, 0, none⟩)] U fun e w' => e = .returned (.tuple #[.int .i64 (l'.length : Int), .int .i64 (sz l')]) ∧ Kp (fun _ => False) U w') := fun U ku => size_w (hL5.kp0 ku)
          have HLN : Hid (l'.length ≤ 4096) := hL5.len
          have HCN : Hid (Can l') := hL5.can
          clear hL5 hF5 hO5
          go_wp2_with fail
          refine HAL.out.mono ?_
          rintro e w6 ⟨bt, a6, c6, rfl, hbt, s6, r6, n6, k6⟩
          have HS6 := hid (HSZ.out w6 k6)
          have S6 := hid s6
          have R6 := hid r6
          have N6 := hid n6
          have K6 := hid k6
          clear HAL HSZ s6 r6 n6 k6 hbt
          go_wp2_with fail
          refine HS6.out.mono ?_
          rintro e w7 ⟨rfl, k7⟩
          have K7 := hid k7
          obtain ⟨ar, cr, g1, g2, g3, g4⟩ := P5.out.rl.mem
          have HGO : Hid (∀ U, Kp (fun _ => False) w7 U → ∀ lv : Int, Calls Try.prog 18 #[.func (.func 56) #[] #[.pointer (some ⟨bt, 0, none⟩)], .slice ar l'.length cr, .int .i64 lv] U fun e w' => e = .returned (.bool true) ∧ Kp (fun _ => False) U w') := fun U ku lv => by
            have k67 := K7.out.trans ku (fun _ _ h => h)
            have k57 := K6.out.trans k67 (fun _ _ h => h)
            refine goes_val U bt a6 c6 l' HLN.out (R6.out.kp k67 (fun _ _ _ _ h => h)) (S6.out.kp k67 (fun h => h)) ar cr (g2.kp k57 (fun _ _ _ _ h => h)) (fun b bo e hp ro => ?_) lv
            obtain ⟨cur, hc⟩ := g3 b bo e
            rcases ro with ro | ⟨_, o2, ro⟩
            · subst ro
              exact apart_types (hc.kp K6.out (fun h => h)) S6.out (by decide)
            · have h1 := N6.out b o2 ro
              have h2 := hc.lt
              omega
          have HBY : Hid (∀ U, Kp (fun _ => False) w7 U → Calls Try.prog 17 #[.slice ar l'.length cr] U fun e w' => e = .returned (.int .i64 (sz l')) ∧ Kp (fun _ => False) U w') := fun U ku => rbytes_any U ar _ cr l' rfl (by have := HLN.out; omega) HCN.out (g2.kp ((K6.out.trans K7.out (fun _ _ h => h)).trans ku (fun _ _ h => h)) (fun _ _ _ _ h => h))
          have P7 := hid ((P5.out.same K6.out).same K7.out)
          have HPR : Hid (∀ U, Kp (fun _ => False) w7 U → U.cell? ⟨rq, 0, none⟩ = some (.slice ar l'.length cr) ∧ U.cell? ⟨sb, off + k * 6 + 1, none⟩ = some (.int .i64 lv)) := fun U ku => ⟨(((g1.kp K6.out (fun h => h)).kp K7.out (fun h => h)).kp ku (fun h => h)).cell 0, (HSC.out U (P7.out.k.trans ku (fun _ _ h => h))).2.1⟩
          have KD : Hid (Kp (fun _ => False) w7 w7.drew) := (Kp.refl (fun _ => False) w7).drew
          have cc0 := HPR.out w7 (Kp.refl _ _)
          have cd0 := HPR.out w7.drew KD.out
          have HB7 := hid (HBY.out w7.drew KD.out)
          clear k7 HS6 S6 R6 N6 K6 K7 P5 g1 g2 g3 g4 HBY
          obtain ⟨sl, hsl2⟩ : ∃ sl, sl = sz l' := ⟨_, rfl⟩
          obtain ⟨nl, hnl⟩ : ∃ nl, nl = l'.length := ⟨_, rfl⟩
          rw [← hnl] at HGO HPR cc0 cd0 HB7 HLN
          rw [← hsl2] at HB7
          rw [← hnl, ← hsl2]
          have hnl4 : nl ≤ 4096 := HLN.out
          clear hsl2 hnl
          go_wp2_with fail
          go_region_held3 (fun U : World => U.cell? ⟨rq, 0, none⟩ = some (.slice ar nl cr) ∧ U.cell? ⟨sb, off + k * 6 + 1, none⟩ = some (.int .i64 lv)) (first | exact cc0 | exact cd0 | exact cc8 | exact cc9 | exact cca) (first | (go_at_call 17; refine HB7.out.mono ?_; rintro e w8 ⟨rfl, k8⟩; have K8 := hid (KD.out.trans k8 (fun _ _ h => h)); have cc8 := HPR.out w8 K8.out; have HG8 := hid (HGO.out w8 K8.out lv); clear k8 HB7) | (go_at_call 18; refine HG8.out.mono ?_; rintro e w9 ⟨rfl, k9⟩; have K9 := hid (K8.out.trans k9 (fun _ _ h => h)); have cc9 := HPR.out w9 K9.out; have HG9 := hid (HGO.out w9 K9.out 0); clear k9 HG8) | (go_at_call 18; refine HG9.out.mono ?_; rintro e wa ⟨rfl, ka⟩; have KA := hid (K9.out.trans ka (fun _ _ h => h)); have cca := HPR.out wa KA.out; clear ka HG9))
          go_wp2_with fail
          go_roundw
          case rel => exact ⟨k + 1, Q, l', OL, by go_num, rfl, hlt, hol2, P7.out.same KA.out⟩
          case measure => simp [intOf]; omega
    · obtain rfl : k = n2 := by omega
      clear hlt HSS HOK HSN
      obtain ⟨V, hV⟩ : ∃ V, V = wr := ⟨_, rfl⟩
      subst hV
      obtain ⟨a10, c10, e10⟩ := own_shape PP.out.po
      obtain ⟨a11, c11, e11⟩ := own_shape PP.out.pw
      rw [List.length_map] at e10 e11
      subst e10 e11
      obtain ⟨m, hm⟩ : ∃ m, m = OL.length := ⟨_, rfl⟩
      rw [← hm] at PP hol ⊢
      have HM := hid hm
      have hki : ¬ (k : Int) < (k : Int) := by omega
      clear hm
      go_wp2_with fail
      go_loopw [16] (fun i wz => ∃ (j : Nat), i = .int .i64 (j : Int) ∧ j ≤ m ∧ Hid (Kp (fun _ => False) V wz)) (fun i _ => m - (intOf i).toNat)
      case atStart => exact ⟨0, rfl, Nat.zero_le _, Kp.refl _ _⟩
      case round =>
        obtain ⟨j, rfl, hj, HK⟩ := hrel
        by_cases hlt : j < m
        · have hjl : j < OL.length := by have := HM.out; omega
          obtain ⟨o, ho⟩ : ∃ o, OL[j]? = some o := ⟨_, List.getElem?_eq_getElem hjl⟩
          have hmem : o ∈ OL := List.mem_of_getElem? ho
          obtain ⟨g, cg, e1, hg, hcg⟩ := own_at (j := j) PP.out.po (by rw [List.length_map]; exact hjl)
          obtain ⟨h, ch, e2, hh, hch⟩ := own_at (j := j) PP.out.pw (by rw [List.length_map]; exact hjl)
          rw [List.getElem?_map, ho] at hg hh
          simp only [Option.map_some, Value.slice.injEq] at hg hh e1 e2
          obtain ⟨ar, cr, g1, g2, g3, g4⟩ := PP.out.rl.mem
          obtain ⟨F, hL, hF, hO⟩ := PP.out.two
          obtain ⟨Fo, lo, _⟩ := hO o hmem
          obtain ⟨so, qo⟩ := PP.out.pr o hmem
          have e1a := e1.1
          have e1c := e1.2.2
          have e2a := e2.1
          have e2c := e2.2.2
          clear e1 e2
          subst e1a e1c e2a e2c
          have HPR : Hid (∀ U, Kp (fun _ => False) V U → U.cell? ⟨g, j, none⟩ = some (.pointer (some ⟨o.Q, 0, none⟩)) ∧ U.cell? ⟨h, j, none⟩ = some (.slice o.ao o.l.length o.cap) ∧ U.cell? ⟨rq, 0, none⟩ = some (.slice ar l.length cr)) := fun U ku => ⟨kp_cell ku hg (fun x => x), kp_cell ku hh (fun x => x), (g1.kp ku (fun x => x)).cell 0⟩
          have HAL : Hid (∀ U, Kp (fun _ => False) V U → Calls Try.prog 15 #[.pointer (some ⟨o.Q, 0, none⟩)] U (AlR U o.l)) := fun U ku => all_w (lo.kp0 ku)
          have HGO : Hid (∀ U w5 bt a5 c5, Kp (fun _ => False) V U → Kp (fun _ => False) U w5 → St 22 w5 bt #[.slice a5 o.l.length c5] → Srcr w5 a5 o.l → (∀ b off, a5 = some ⟨b, off, none⟩ → U.heap.size ≤ b) → Calls Try.prog 18 #[.func (.func 56) #[] #[.pointer (some ⟨bt, 0, none⟩)], .slice o.ao o.l.length o.cap, .int .i64 0] w5 fun e w' => e = .returned (.bool true) ∧ Kp (fun _ => False) w5 w') := fun U w5 bt a5 c5 ku k5 s5 r5 n5 => by
            refine goes_val w5 bt a5 c5 o.l lo.len r5 s5 o.ao o.cap (so.kp (ku.trans k5 (fun _ _ x => x)) (fun _ _ _ _ x => x)) (fun b bo e hp ro => ?_) 0
            obtain ⟨cur, hc⟩ := qo b bo e
            rcases ro with ro | ⟨_, o2, ro⟩
            · subst ro
              exact apart_types ((hc.kp ku (fun x => x)).kp k5 (fun x => x)) s5 (by decide)
            · have h1 := n5 b o2 ro
              have h2 := (hc.kp ku (fun x => x)).lt
              omega
          have HSM : Hid (∀ U, Kp (fun _ => False) V U → Calls Try.prog 13 #[.pointer (some ⟨o.Q, 0, none⟩), .pointer (some ⟨Q, 0, none⟩)] U fun e w' => SmR o.l l e ∧ Kp (fun _ => False) U w') := fun U ku => same_w (lo.kp0 ku) (hL.kp0 ku)
          have HRS : Hid (∀ U, Kp (fun _ => False) V U → Calls Try.prog 19 #[.slice o.ao o.l.length o.cap, .slice ar l.length cr] U fun e w' => ∃ r : Bool, e = .returned (.bool r) ∧ (r = true ↔ o.l = l) ∧ Kp (fun _ => False) U w') := fun U ku => rsame_any U o.ao ar _ _ o.cap cr o.l l rfl rfl (by have := lo.len; omega) (by have := hL.len; omega) (so.kp ku (fun _ _ _ _ x => x)) (g2.kp ku (fun _ _ _ _ x => x))
          have HSO : Hid (∀ U, Kp (fun _ => False) V U → Calls Try.prog 13 #[.pointer (some ⟨o.Q, 0, none⟩), .pointer none] U fun e w' => e = .returned (.bool false) ∧ Kp (fun _ => False) U w') := fun U ku => same_non (lo.kp0 ku)
          have KD : Hid (Kp (fun _ => False) V wr.drew) := HK.out.drew
          have cc0 := HPR.out wr HK.out
          have cd0 := HPR.out wr.drew KD.out
          have HA0 := hid (HAL.out wr.drew KD.out)
          have hj0 : (0 : Int) ≤ (j : Int) := by omega
          have hji : (j : Int) < (m : Int) := by omega
          clear g1 g2 g3 g4 hL hF hO lo so qo hg hh hcg hch hmem ho HAL hjl
          go_wp2_with fail
          go_region_held3 (fun U : World => U.cell? ⟨g, j, none⟩ = some (.pointer (some ⟨o.Q, 0, none⟩)) ∧ U.cell? ⟨h, j, none⟩ = some (.slice o.ao o.l.length o.cap) ∧ U.cell? ⟨rq, 0, none⟩ = some (.slice ar l.length cr)) (first | exact cc0 | exact cd0 | exact cc5 | exact cc6 | exact cc7 | exact cc8 | exact cc9) (first | (go_at_call 15; refine HA0.out.mono ?_; rintro e w5 ⟨bt, a5, c5, rfl, hbt, s5, r5, n5, k5⟩; have K5 := hid (KD.out.trans k5 (fun _ _ h => h)); have cc5 := HPR.out w5 K5.out; have HG5 := hid (HGO.out wr.drew w5 bt a5 c5 KD.out k5 s5 r5 n5); clear k5 s5 r5 n5 hbt HA0) | (go_at_call 18; refine HG5.out.mono ?_; rintro e w6 ⟨rfl, k6⟩; have K6 := hid (K5.out.trans k6 (fun _ _ h => h)); have cc6 := HPR.out w6 K6.out; have HS6 := hid (HSM.out w6 K6.out); clear k6 HG5) | (go_at_call 13; refine HS6.out.mono ?_; rintro e w7 ⟨⟨bl, rfl, hbl⟩, k7⟩; have HBL := hid hbl; have K7 := hid (K6.out.trans k7 (fun _ _ h => h)); have cc7 := HPR.out w7 K7.out; have HR7 := hid (HRS.out w7 K7.out); clear k7 HS6 hbl) | (go_at_call 19; refine HR7.out.mono ?_; rintro e w8 ⟨r, rfl, hr, k8⟩; obtain rfl : r = bl := (by have h9 := HBL.out; cases r <;> cases bl <;> simp_all); have K8 := hid (K7.out.trans k8 (fun _ _ h => h)); have cc8 := HPR.out w8 K8.out; have HO8 := hid (HSO.out w8 K8.out); clear k8 HR7 hr) | (go_at_call 13; refine HO8.out.mono ?_; rintro e w9 ⟨rfl, k9⟩; have K9 := hid (K8.out.trans k9 (fun _ _ h => h)); have cc9 := HPR.out w9 K9.out; clear k9 HO8))
          go_wp2_with fail
          go_roundw
          case rel => exact ⟨j + 1, by go_num, by omega, K9⟩
          case measure => simp [intOf]; omega
        · obtain rfl : j = m := by omega
          have hji : ¬ (j : Int) < (j : Int) := by omega
          have K1 := hid (PP.out.k.trans HK.out (fun _ _ h => h))
          have HN1 := hid (HNO.out wr)
          go_wp2_with fail
          refine HN1.out.mono ?_
          rintro e w5 ⟨rfl, k5⟩
          have K5 := hid (K1.out.trans k5 (fun _ _ h => h))
          have HW5 := hid (HWK.out w5)
          clear k5 HN1
          go_wp2_with fail
          refine HW5.out.mono ?_
          rintro e w6 ⟨rfl, k6⟩
          have K6 := hid (K5.out.trans k6 (fun _ _ h => h))
          clear k6 HW5
          go_wp2_with fail
          go_ret
          exact ⟨rfl, K6.out⟩
theorem plays_any (a1 a2 : Option Addr) (n1 c1 n2 c2 : Nat) (M : List Rn) (S : List Sp) (w : World) (hM : n1 = M.length) (hS : n2 = S.length) (hn1 : n1 ≤ 9223372036854775807) (hn2 : n2 ≤ 9223372036854775807) (hz : a1 = none → c1 = 0) (h6 : ∀ x ∈ M, x.i6) (hs : Srcr w a1 M) (hss : Srcs w a2 S) (hok : ∀ s ∈ S, s.ok w) : Calls Try.prog 3 #[.slice a1 n1 c1, .slice a2 n2 c2] w fun e w' => e = .returned (.bool true) ∧ Below w.heap.size w w' := by
  have hb : Calls Try.prog 3 #[.slice a1 n1 c1, .slice a2 n2 c2] w fun e w' => e = .returned (.bool true) ∧ Kp (fun _ => False) w w' := by
    by_cases h : 40 < n1 ∨ 40 < n2
    · exact plays_short a1 a2 n1 c1 n2 c2 w h hn1 hn2
    · by_cases hm : ∀ x ∈ M, Mayr x
      · exact plays_ok a1 a2 n1 c1 n2 c2 M S w hM.symm (by omega) hS.symm (by omega) hz hs hm hss hok
      · refine plays_bad a1 a2 n1 c1 n2 c2 M w hM.symm (by omega) (by omega) h6 hz hs ?_
        exact Classical.byContradiction fun hc => hm fun x hx => Classical.byContradiction fun hn => hc ⟨x, hx, hn⟩
  exact hb.mono fun e w' ⟨h1, k⟩ => ⟨h1, k.below (Nat.le_refl _) (fun _ h => h.elim)⟩
end Go.Proofs.Ytgfondgejimkkaa

namespace Go.Proofs.Ytgfondgejimkkaa.laterPlays
open Go.ChangeShapes Go.WideShapes Go.ChangeAt Go.RowKit
set_option linter.unusedVariables false

theorem own : ownKnob Try.prog.godebug = none := by kernel_rfl
theorem laidOut : laidOutB Try.prog = true := by kernel_rfl
/-! From the walk to the row. -/
set_option maxRecDepth 100000 in
theorem lifted (os : Os) (started : os.Started) (H : Type) (enc : TypeId × Value → H) :
    ReturnsInHanded {} Try.checked os 3 .any (Rows.laterPlaysSpec.pre6 enc Try.prog Try.f3 Rows.laterPlaysRow.domain false) (Rows.laterPlaysSpec.post enc Try.prog Try.f3 false true false false) := by
  refine returnsInHanded_of_change (C := Try.checked) own started (by kernel_rfl) Try.func3
    (ChangeSpec.witness6 (enc := enc) (C := Try.checked) false ⟨#[], #[.slice none 0 0, .slice none 0 0], []⟩ 8 (by kernel_rfl) (by kernel_rfl) (by kernel_rfl) (by kernel_rfl)) ?_
  intro W base args ds gs before hval0 hW hcnd _
  have hval : ∀ (j : Nat) t v, Try.f3.params[j]? = some t → args[j]? = some v → Value.okWide Try.prog W .any base t v := hval0
  have hW' := hW
  obtain ⟨p, q, hA0, hV, rfl, hfz, hnd⟩ := hW
  have hA : DataW.TrodAll enc Try.prog W 0 (fun _ => true) true Try.f3.params.toList args.toList ds p := hA0
  rw [Try.params3] at hA hval
  obtain ⟨v0, vs0, d0, ds0, p0, q0, hargs, rfl, rfl, h0, r0⟩ := trodAll_cons hA
  obtain ⟨v1, vs1, d1, ds1, p1, q1, rfl, rfl, rfl, h1, r1⟩ := trodAll_cons r0
  obtain ⟨rfl, rfl, rfl⟩ := trodAll_nil r1
  obtain rfl : args = #[v0, v1] := by cases args; simp_all
  obtain ⟨rfl, rfl⟩ := trodVars_none hV
  obtain ⟨a0, len0, cap0, rfl⟩ := okWide_slice Try.underlying22 (hval 0 22 v0 rfl rfl)
  have k0 := h0
  have lt0 : ∀ x ∈ p0, x.block < W.heap.size := by obtain ⟨m, hm⟩ := k0; exact DataW.trod_lt m _ _ _ hm
  obtain ⟨l0, ln0, src0, i60, lc0, cm0, no0⟩ : ∃ l : List Rn, len0 = l.length ∧ Srcr W a0 l ∧ (∀ e ∈ l, e.i6) ∧ len0 ≤ cap0 ∧ cap0 ≤ maxLen ∧ (a0 = none → cap0 = 0) := by
    obtain ⟨fuel, hf⟩ := h0
    exact open_r (by simpa [Value.cells] using hf)
  obtain ⟨a1, len1, cap1, rfl⟩ := okWide_slice Try.underlying23 (hval 1 23 v1 rfl rfl)
  have k1 := h1
  have lt1 : ∀ x ∈ p1, x.block < W.heap.size := by obtain ⟨m, hm⟩ := k1; exact DataW.trod_lt m _ _ _ hm
  obtain ⟨S, ln1, src1, ok1, lc1, cm1⟩ : ∃ S : List Sp, len1 = S.length ∧ Srcs W a1 S ∧ (∀ s ∈ S, s.ok W) ∧ len1 ≤ cap1 ∧ cap1 ≤ maxLen := by
    obtain ⟨fuel, hf⟩ := h1
    exact open_steps (by simpa [Value.cells] using hf)
  have m0 : len0 ≤ 9223372036854775807 := by unfold maxLen at cm0; omega
  have m1 : len1 ≤ 9223372036854775807 := by unfold maxLen at cm1; omega
  clear hA0 hval0
  simp only [List.append_nil] at hW'
  refine (plays_any a0 a1 _ cap0 _ cap1 l0 S W ln0 ln1 m0 m1 no0 i60 src0 src1 ok1).mono fun e W' ⟨he, bel⟩ => ?_
  subst he
  exact ⟨_, rfl, _, _, _, [], _, [], hW', trodAll_mk1 (shut_bool Try.underlying4 _), (trodAll_cons_mk (Below.trod laidOut (by kernel_rfl) (of_decide_eq_true (by kernel_rfl)) k0 bel lt0) (trodAll_cons_mk (Below.trod laidOut (by kernel_rfl) (of_decide_eq_true (by kernel_rfl)) k1 bel lt1) trodAll_mk0)), rfl, bel.frame _, fun h => by cases h⟩

theorem over : Rows.laterPlaysRow.holds Try.pinned (OpenSpec.ofChange Rows.laterPlaysSpec) :=
  OpenClaim.holds_of_wide 3 Try.f3 rfl rfl rfl rfl rfl rfl rfl ⟨rfl, rfl, rfl, rfl, rfl⟩ rfl rfl rfl rfl rfl (by kernel_rfl) Try.func3 (by kernel_rfl)
    (of_decide_eq_true (by kernel_rfl)) (by unfold Func.isWrapper; first | (rw [if_pos (by decide +kernel)]; kernel_rfl) | (rw [if_neg (by decide +kernel)]; exact ⟨rfl, rfl⟩))
    (fun os started H enc _ => lifted os started H enc)
end Go.Proofs.Ytgfondgejimkkaa.laterPlays
namespace Go.Proofs.Ytgfondgejimkkaa
/-- THE STATEMENT. -/
theorem laterPlays_holds : Rows.LaterPlaysSaid := laterPlays.over
#print axioms laterPlays_holds
end Go.Proofs.Ytgfondgejimkkaa
