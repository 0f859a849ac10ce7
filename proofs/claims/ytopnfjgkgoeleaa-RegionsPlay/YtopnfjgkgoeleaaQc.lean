/- RegionsPlay: the document's Put. -/
import Derived.Test.YtopnfjgkgoeleaaQa
import Derived.Deep.CutRange
import Derived.Lib.AppendZeros
import Derived.Laws.AppendOwnNone
import Derived.Maps.AppendAt
namespace Go.Proofs.Ytopnfjgkgoeleaa
open Go.RowKit
set_option linter.unusedVariables false
set_option linter.unusedSimpArgs false
theorem ite_pos2 {c : Prop} [Decidable c] {a b : Prop} (h : c) (k : a) : (if c then a else b) := by rw [if_pos h]; exact k
theorem own_kp {F : Nat → Prop} {w w' : World} {base n : Nat} {v : Value} {xs : List Value} {t : TypeId} {s : Nat} (h : w.ownsRow base t s v n xs) (k : Kp F w w') (hg : ∀ g, v.ownBlock = some g → ¬ F g) : w'.ownsRow base t s v n xs := by
  refine ⟨h.1, ?_⟩
  rcases h.2 with h0 | ⟨g, cap, cur, rfl, h1, h2, h3, h4, h5, h6⟩
  · exact .inl h0
  · exact .inr ⟨g, cap, cur, rfl, h1, by rw [k.block g (Array.getElem?_eq_some_iff.1 h2).1 (hg g rfl)]; exact h2, h3, h4, h5, h6⟩
theorem Ownr.kp {F : Nat → Prop} {w w' : World} {base : Nat} {v : Value} {l : List Rn} (h : Ownr w base v l) (k : Kp F w w') (hg : ∀ g, v.ownBlock = some g → ¬ F g) : Ownr w' base v l := own_kp h k hg
theorem ownr_blk {w : World} {base g : Nat} {v : Value} {l : List Rn} (h : Ownr w base v l) (e : v.ownBlock = some g) : base ≤ g ∧ g < w.heap.size ∧ ∃ cur, St 46 w g cur := by
  rcases h.2 with ⟨e0, _⟩ | ⟨g2, cap, cur, e0, h1, h2, _⟩
  · rw [e0] at e; cases e
  · rw [e0] at e
    cases e
    exact ⟨h1, (Array.getElem?_eq_some_iff.1 h2).1, cur, h2⟩
theorem own_appr2 {w : World} {base : Nat} {v : Value} {l M : List Rn} {ao : Option Addr} {m c : Nat} {ty : TypeId} (h : Ownr w base v l) (hm : m = M.length) (hz : ao = none → c = 0) (hS : Srcr w ao M) (hl : l.length + m ≤ 1000000) (hbase : base ≤ w.heap.size) :
    ∃ v' w', (Builtin.append_ #[27, 27] ty #[v, .slice ao m c]).run Try.prog w = .ok v' w' ∧ Ownr w' base v' (l ++ M) ∧ Kp (fun i => v.ownBlock = some i) w w' := by
  obtain ⟨i0, hi, hz0, hz1, hz2⟩ := info_parts Try.inf46
  cases ao with
  | none =>
    have hc := hz rfl
    have h0 : M.length = 0 := by
      by_cases h0 : M.length = 0
      · exact h0
      · obtain ⟨b, off, e, _⟩ := hS (by omega)
        cases e
    obtain rfl : M = [] := List.length_eq_zero_iff.1 h0
    rw [h0] at hm
    subst hm hc
    exact ⟨v, w, run_append_owned_none (P := Try.prog) (w := w) base 27 ty 46 i0 3 Try.underlying27 hi v l.length (flr l) h, by rw [List.append_nil]; exact h, Kp.refl _ _⟩
  | some ad =>
    obtain ⟨v', w', h1, h2, h3, h4, h5⟩ := run_append_own_at (P := Try.prog) w base 27 ty 46 i0 _ 3 24 Try.underlying27 hi hz0 hz1 hz2 rfl (by decide) v l.length (flr l) h ad m c (flr M) (by rw [flr_len, hm]) (hS.news ad rfl) (flr_one M) (by unfold maxLen; omega) (by omega) hbase
    refine ⟨v', w', h1, ?_, Kp.of_grown h3 (fun i e => e)⟩
    unfold Ownr
    rw [flr_append, List.length_append, ← hm]
    exact h2
theorem own_app12 {w : World} {base b : Nat} {v : Value} {l : List Rn} {x : Rn} {ty : TypeId} (h : Ownr w base v l) (hb : St 46 w b x.cs) (hl : l.length ≤ 100000) (hbase : base ≤ w.heap.size) :
    ∃ v' w', (Builtin.append_ #[27, 27] ty #[v, .slice (some ⟨b, 0, none⟩) 1 1]).run Try.prog w = .ok v' w' ∧ Ownr w' base v' (l ++ [x]) ∧ Kp (fun i => v.ownBlock = some i) w w' := by
  obtain ⟨i0, hi, hz0, hz1, hz2⟩ := info_parts Try.inf46
  obtain ⟨v', w', h1, h2, h3, h4, h5⟩ := run_append_own_at (P := Try.prog) w base 27 ty 46 i0 _ 3 24 Try.underlying27 hi hz0 hz1 hz2 rfl (by decide) v l.length (flr l) h ⟨b, 0, none⟩ 1 1 x.cl rfl (fun j u hu => by rw [add_z, hb.cell j]; simpa [Rn.cs, Rn.cl] using hu) (fun u hu => by simp [Rn.cl] at hu; rcases hu with rfl | rfl | rfl <;> rfl) (by unfold maxLen; omega) (by omega) hbase
  refine ⟨v', w', h1, ?_, Kp.of_grown h3 (fun i e => e)⟩
  unfold Ownr
  rw [flr_append, List.length_append, List.length_singleton]
  simpa [flr] using h2
/-- A new row is put into q. -/
theorem RL.store {q base : Nat} {w : World} {l M : List Rn} {v : Value} (h : RL q w l) (o : Ownr w base v M) (hq : q < base) (hs : Srt M) (hl : M.length ≤ 65536) : RL q (w.setCell ⟨q, 0, none⟩ v) M ∧ ∀ b off n cap, (w.setCell ⟨q, 0, none⟩ v).cell? ⟨q, 0, none⟩ = some (.slice (some ⟨b, off, none⟩) n cap) → base ≤ b := by
  obtain ⟨a0, c0, h1, h2, h3, h4⟩ := h.mem
  obtain ⟨ao, cap, rfl, s, hc1, hc2, hz⟩ := o.src
  have k := kp_setCell w q 0 (.slice ao M.length cap) (fun i => i = q) rfl
  have ht : ∀ b off, ao = some ⟨b, off, none⟩ → base ≤ b ∧ ∃ cur, St 46 w b cur := fun b off e => by
    subst e
    have := ownr_blk o (g := b) rfl
    exact ⟨this.1, this.2.2⟩
  have s1 : St 29 (w.setCell ⟨q, 0, none⟩ (.slice ao M.length cap)) q #[.slice ao M.length cap] := h1.set 0 _
  have hsh : ∀ b off sp, ao = some ⟨b, off, sp⟩ → sp = none ∧ base ≤ b ∧ ∃ cur, St 46 w b cur := fun b off sp e => by
    rcases o.2 with ⟨e0, _⟩ | ⟨g2, cap2, cur, e0, h6, h7, _⟩
    · simp only [Value.slice.injEq] at e0
      rw [e0.1] at e
      cases e
    · simp only [Value.slice.injEq] at e0
      rw [e0.1] at e
      cases e
      exact ⟨rfl, h6, cur, h7⟩
  refine ⟨⟨⟨ao, cap, s1, s.kp k (fun b off e _ => by have := (ht b off e).1; omega), fun b off sp e => ?_, hc1, hc2, hz⟩, hs, hl⟩, fun b off n cp hc => ?_⟩
  · obtain ⟨rfl, h6, cur, h7⟩ := hsh b off sp e
    exact ⟨rfl, cur, h7.kp k (by omega)⟩
  · have h5 : (w.setCell ⟨q, 0, none⟩ (.slice ao M.length cap)).cell? ⟨q, 0, none⟩ = some (.slice ao M.length cap) := s1.cell 0
    rw [h5] at hc
    simp only [Option.some.injEq, Value.slice.injEq] at hc
    exact (ht b off hc.1).1
set_option maxRecDepth 100000 in
set_option maxHeartbeats 16000000 in
theorem rput_any (w : World) (q : Nat) (l : List Rn) (x : Rn) (hx : Mayr x) (h : RL q w l) :
    Calls Try.prog 54 #[.pointer (some ⟨q, 0, none⟩), .agg #[.int .i64 x.k, .int .i64 x.a, .int .i64 x.n]] w fun e w' => e = .returned (.int .i64 (plE l x)) ∧ ((plE l x ≠ 0 ∧ Kp (fun _ => False) w w') ∨ (plE l x = 0 ∧ RL q w' (ins l x) ∧ Kp (fun i => i = q) w w' ∧ ∀ b off n cap, w'.cell? ⟨q, 0, none⟩ = some (.slice (some ⟨b, off, none⟩) n cap) → w.heap.size ≤ b)) := by
  have hmix : Try.prog.follows .mixedOrders = true := by kernel_rfl
  have HR := hid h
  obtain ⟨ao, cap, hq, hs, ht, hc1, hc2, hz⟩ := h.mem
  have ka : Kp (fun _ => False) w (w.alloc (.cells #[.int .i64 x.k, .int .i64 x.a, .int .i64 x.n] 46)) := (Kp.refl _ _).alloc _
  have ST := hid (St.new 46 w #[.int .i64 x.k, .int .i64 x.a, .int .i64 x.n])
  have HQ := hid (hq.kp ka (fun h => h))
  have HS := hid (hs.kp ka (fun _ _ _ _ h => h))
  have KA := hid ka
  have HSR := hid h.srt
  have hl6 := h.len
  have HX := hid hx
  have HBO := hid both_any
  obtain ⟨n, hn⟩ : ∃ n, n = l.length := ⟨_, rfl⟩
  rw [← hn] at HQ hl6 hc1
  have HL := hid hn
  have HQL : Hid (q < w.heap.size) := h.lt
  have HZ := hid hz
  have HTB := hid ht
  unfold maxLen at hc2
  clear hn hq hs h ht hz ka
  obtain ⟨xk, xa, xn⟩ := x
  dsimp only at *
  by_cases h65 : n = 65536
  · have e65 : ((n : Int) == 65536) = true := by simp; omega
    have HE : Hid (plE l ⟨xk, xa, xn⟩ = 6) := by show plE _ _ = _; unfold plE; rw [if_pos (by have := HL.out; omega)]
    have z0 : (w.alloc (.cells #[.int .i64 xk, .int .i64 xa, .int .i64 xn] 46)).cell? ⟨q, 0, none⟩ = some (.slice ao n cap) := HQ.out.cell 0
    go_enter Try.func54, Try.ntmps54
    go_wp2_with fail
    go_ret
    rw [HE.out]
    exact ⟨rfl, .inl ⟨by decide, KA.out⟩⟩
  have e65 : ((n : Int) == 65536) = false := by simp; omega
  have hl5 : n < 65536 := by omega
  have z0 : (w.alloc (.cells #[.int .i64 xk, .int .i64 xa, .int .i64 xn] 46)).cell? ⟨q, 0, none⟩ = some (.slice ao n cap) := HQ.out.cell 0
  go_enter Try.func54, Try.ntmps54
  go_wp2_with fail
  clear z0
  generalize w.alloc (.cells #[.int .i64 xk, .int .i64 xa, .int .i64 xn] 46) = X at *
  obtain ⟨T, hT⟩ : ∃ T, T = w.heap.size := ⟨_, rfl⟩
  rw [← hT] at ST HQL ⊢
  have HT := hid hT
  clear hT
  go_loopw [5, 6] (fun a i wr => ∃ (k at_ : Nat), i = .int .i64 (k : Int) ∧ a = .int .i64 (at_ : Int) ∧ k ≤ n ∧ Hid (Kp (fun _ => False) X wr) ∧ Hid (AtI l ⟨xk, xa, xn⟩ k at_)) (fun _ i _ => n - (intOf i).toNat)
  case atStart => exact ⟨0, 0, rfl, rfl, Nat.zero_le _, Kp.refl _ _, AtI.zero _ _⟩
  case round =>
    obtain ⟨k, at_, rfl, rfl, hk, HK, HA⟩ := hrel
    have zq : wr.cell? ⟨q, 0, none⟩ = some (.slice ao n cap) := (HQ.out.kp HK.out (fun h => h)).cell 0
    have zt := ST.out.kp HK.out (fun h => h)
    have t0 : wr.cell? ⟨T, 0, none⟩ = some (.int .i64 xk) := zt.cell 0
    have t1 : wr.cell? ⟨T, 1, none⟩ = some (.int .i64 xa) := zt.cell 1
    have t2 : wr.cell? ⟨T, 2, none⟩ = some (.int .i64 xn) := zt.cell 2
    clear zt
    by_cases hlt : k < n
    · have hkl : k < l.length := by have := HL.out; omega
      obtain ⟨gb, off, rfl, _, x0, x1, x2⟩ := (HS.out.kp HK.out (fun _ _ _ _ h => h)).at (i := k) hkl
      have hym := HSR.out.may hkl
      have HBT := hid (bth_apt HX.out hym)
      have HLI : Hid (bthb xa xn (l.getD k zRn).a (l.getD k zRn).n = true → plE l ⟨xk, xa, xn⟩ = 220) := fun h => put_lies HSR.out HX.out hkl (by have := HL.out; omega) h
      have HAL : Hid (Apt ⟨xk, xa, xn⟩ (l.getD k zRn) → (l.getD k zRn).a < xa → AtI l ⟨xk, xa, xn⟩ (k + 1) (k + 1)) := fun h1 h2 => HA.out.less HSR.out hkl h1 h2
      have HAM : Hid (Apt ⟨xk, xa, xn⟩ (l.getD k zRn) → ¬ (l.getD k zRn).a < xa → AtI l ⟨xk, xa, xn⟩ (k + 1) at_) := fun h1 h2 => HA.out.more h1 h2
      have hxm := HX.out
      unfold Mayr at hxm hym
      dsimp only at hxm
      have HB1 : Hid (∀ U, Calls Try.prog 56 #[.int .i64 xa, .int .i64 xn, .int .i64 (l.getD k zRn).a, .int .i64 (l.getD k zRn).n] U fun e w' => e = .returned (.bool (bthb xa xn (l.getD k zRn).a (l.getD k zRn).n)) ∧ U = w') := fun U => HBO.out xa xn _ _ U (by omega) (by omega) (by omega) (by omega)
      clear hym hxm
      generalize l.getD k zRn = y at *
      obtain ⟨bb, hbb⟩ : ∃ bb, bb = bthb xa xn y.a y.n := ⟨_, rfl⟩
      rw [← hbb] at HBT HLI HB1
      clear hbb
      have cc0 : wr.cell? ⟨q, 0, none⟩ = some (.slice (some ⟨gb, off, none⟩) n cap) ∧ (wr.cell? ⟨T, 1, none⟩ = some (.int .i64 xa) ∧ wr.cell? ⟨T, 2, none⟩ = some (.int .i64 xn)) ∧ wr.cell? ⟨gb, off + k * 3 + 1, none⟩ = some (.int .i64 y.a) ∧ wr.cell? ⟨gb, off + k * 3 + 2, none⟩ = some (.int .i64 y.n) := ⟨zq, ⟨t1, t2⟩, x1, x2⟩
      have KD : Hid (Kp (fun _ => False) wr wr.drew) := (Kp.refl (fun _ => False) wr).drew
      have cd0 : wr.drew.cell? ⟨q, 0, none⟩ = some (.slice (some ⟨gb, off, none⟩) n cap) ∧ (wr.drew.cell? ⟨T, 1, none⟩ = some (.int .i64 xa) ∧ wr.drew.cell? ⟨T, 2, none⟩ = some (.int .i64 xn)) ∧ wr.drew.cell? ⟨gb, off + k * 3 + 1, none⟩ = some (.int .i64 y.a) ∧ wr.drew.cell? ⟨gb, off + k * 3 + 2, none⟩ = some (.int .i64 y.n) := cc0
      have hk0 : (0 : Int) ≤ (k : Int) := by omega
      have hki : (k : Int) < (n : Int) := by omega
      cases bb with
      | true =>
        have HE := hid (HLI.out rfl)
        go_wp2_with fail
        go_region_held3 (fun U : World => U.cell? ⟨q, 0, none⟩ = some (.slice (some ⟨gb, off, none⟩) n cap) ∧ (U.cell? ⟨T, 1, none⟩ = some (.int .i64 xa) ∧ U.cell? ⟨T, 2, none⟩ = some (.int .i64 xn)) ∧ U.cell? ⟨gb, off + k * 3 + 1, none⟩ = some (.int .i64 y.a) ∧ U.cell? ⟨gb, off + k * 3 + 2, none⟩ = some (.int .i64 y.n)) (first | exact cc0 | exact cd0) (first | (go_at_call 56; refine (HB1.out _).mono ?_; rintro e w3 ⟨rfl, rfl⟩))
        go_wp2_with fail
        go_ret
        rw [HE.out]
        exact ⟨rfl, .inl ⟨by decide, (KA.out.trans HK.out (fun _ _ h => h)).trans KD.out (fun _ _ h => h)⟩⟩
      | false =>
        have HAP := hid (HBT.out.1 rfl)
        go_wp2_with fail
        go_region_held3 (fun U : World => U.cell? ⟨q, 0, none⟩ = some (.slice (some ⟨gb, off, none⟩) n cap) ∧ (U.cell? ⟨T, 1, none⟩ = some (.int .i64 xa) ∧ U.cell? ⟨T, 2, none⟩ = some (.int .i64 xn)) ∧ U.cell? ⟨gb, off + k * 3 + 1, none⟩ = some (.int .i64 y.a) ∧ U.cell? ⟨gb, off + k * 3 + 2, none⟩ = some (.int .i64 y.n)) (first | exact cc0 | exact cd0) (first | (go_at_call 56; refine (HB1.out _).mono ?_; rintro e w3 ⟨rfl, rfl⟩))
        by_cases hya : y.a < xa
        · have HNX := hid (HAL.out HAP.out hya)
          go_wp2_with fail
          go_quiet (fail)
          go_wp2_with fail
          go_roundw
          case rel => exact ⟨k + 1, k + 1, by go_num, by go_num, hlt, HK.out.trans (drewN_kp _ _ _) (fun _ _ h => h), HNX⟩
          case measure => simp [intOf]; omega
        · have HNX := hid (HAM.out HAP.out (by omega))
          go_wp2_with fail
          go_quiet (fail)
          go_wp2_with fail
          go_roundw
          case rel => exact ⟨k + 1, at_, by go_num, rfl, hlt, HK.out.trans (drewN_kp _ _ _) (fun _ _ h => h), HNX⟩
          case measure => simp [intOf]; omega
    · obtain rfl : k = n := by omega
      have hki : ¬ (k : Int) < (k : Int) := by omega
      have hai := HA.out.le
      have HA2 : Hid (AtI l ⟨xk, xa, xn⟩ l.length at_) := by rw [Hid, ← HL.out]; exact HA.out
      have HPL := hid (HA2.out.fits HSR.out HX.out (by have := HL.out; omega))
      have HIN := hid (ins_at HSR.out HX.out HA2.out)
      have HIS := hid (ins_srt HSR.out HX.out HPL.out (by have := HL.out; omega))
      have HIL := hid (ins_len l ⟨xk, xa, xn⟩)
      have KD : Hid (Kp (fun _ => False) wr wr.drew) := (Kp.refl (fun _ => False) wr).drew
      have KE : Hid (Kp (fun _ => False) wr (wr.alloc (.cells #[.int .i64 xk, .int .i64 xa, .int .i64 xn] 46)).drew) := ((Kp.refl _ _).alloc _).drew
      have SE : Hid (St 46 (wr.alloc (.cells #[.int .i64 xk, .int .i64 xa, .int .i64 xn] 46)).drew wr.heap.size #[.int .i64 xk, .int .i64 xa, .int .i64 xn]) := (St.new 46 wr #[.int .i64 xk, .int .i64 xa, .int .i64 xn]).kp (Kp.refl (fun _ => False) _).drew (fun h => h)
      have HSC : Hid (∀ U, Kp (fun _ => False) wr U → U.cell? ⟨q, 0, none⟩ = some (.slice ao k cap) ∧ U.cell? ⟨T, 0, none⟩ = some (.int .i64 xk) ∧ U.cell? ⟨T, 1, none⟩ = some (.int .i64 xa) ∧ U.cell? ⟨T, 2, none⟩ = some (.int .i64 xn)) := fun U ku => by
        have h1 := (ST.out.kp HK.out (fun h => h)).kp ku (fun h => h)
        exact ⟨((HQ.out.kp HK.out (fun h => h)).kp ku (fun h => h)).cell 0, h1.cell 0, h1.cell 1, h1.cell 2⟩
      have HSW := hid (HS.out.kp HK.out (fun _ _ _ _ h => h))
      have HRW := hid ((HR.out.kp KA.out).kp HK.out)
      have HQW := hid (HQ.out.kp HK.out (fun h => h))
      have KWR := hid (KA.out.trans HK.out (fun _ _ h => h))
      clear HS HQ ST HA t0 t1 t2 zq
      have HS := HSW
      cases ao with
      | none =>
        obtain rfl : cap = 0 := HZ.out rfl
        obtain rfl : k = 0 := by omega
        obtain rfl : at_ = 0 := by omega
        have zq := (HSC.out wr (Kp.refl _ _)).1
        go_wp2_with fail
        go_cut [7] from 57 to 67 (fun v7 wx => Hid (Ownr wx wr.heap.size v7 (l.take 0 ++ [⟨xk, xa, xn⟩])) ∧ Hid (Kp (fun _ => False) wr wx))
        case first =>
          refine wp_region_G (fun U => U.cell? ⟨q, 0, none⟩ = some (.slice none 0 0) ∧ U.cell? ⟨T, 0, none⟩ = some (.int .i64 xk) ∧ U.cell? ⟨T, 1, none⟩ = some (.int .i64 xa) ∧ U.cell? ⟨T, 2, none⟩ = some (.int .i64 xn)) [] hmix (HSC.out _ KD.out) (fun h0 => ?_)
          refine wpAnyG_take (i := 0) (oi := { dst := some 57, op := Go.Op.move (Go.Operand.tmp 7), type := 27, pos := "ref.go:47", after := #[], guard := none }) (v := ?vsn0) rfl (by kernel_rfl) (fun _ _ _ h => h) (Or.inl ⟨by rfl, ?hysn0⟩) h0 ?restsn0
          case hysn0 => (intro w hSw; (try dsimp only at hSw); obtain ⟨hS0, hS1, hS2, hS3⟩ := hSw; go_simp; try with_reducible rfl)
          try simp only [Act.put, List.setIfInBounds_toArray, List.set_cons_zero, List.set_cons_succ]
          refine wpAnyG_take (i := 1) (oi := { dst := some 58, op := Go.Op.move (Go.Operand.tmp 0), type := 26, pos := "ref.go:47", after := #[], guard := none }) (v := ?vsn1) rfl (by kernel_rfl) (fun _ _ _ h => h) (Or.inl ⟨by rfl, ?hysn1⟩) h0 ?restsn1
          case hysn1 => (intro w hSw; (try dsimp only at hSw); obtain ⟨hS0, hS1, hS2, hS3⟩ := hSw; go_simp; try with_reducible rfl)
          try simp only [Act.put, List.setIfInBounds_toArray, List.set_cons_zero, List.set_cons_succ]
          refine wpAnyG_take (i := 2) (oi := { dst := some 59, op := Go.Op.nilCheck (Go.Operand.tmp 58), type := 0, pos := "ref.go:47", after := #[{ on := 1, ground := Go.Ground.data }], guard := none }) (v := ?vsn2) rfl (by kernel_rfl) (fun _ _ _ h => h) (Or.inl ⟨by rfl, ?hysn2⟩) h0 ?restsn2
          case hysn2 => (intro w hSw; (try dsimp only at hSw); obtain ⟨hS0, hS1, hS2, hS3⟩ := hSw; go_simp; try with_reducible rfl)
          try simp only [Act.put, List.setIfInBounds_toArray, List.set_cons_zero, List.set_cons_succ]
          refine wpAnyG_take (i := 3) (oi := { dst := some 60, op := Go.Op.fieldAddr 29 (Go.Operand.tmp 59) 0, type := 0, pos := "ref.go:47", after := #[{ on := 2, ground := Go.Ground.data }], guard := none }) (v := ?vsn3) rfl (by kernel_rfl) (fun _ _ _ h => h) (Or.inl ⟨by rfl, ?hysn3⟩) h0 ?restsn3
          case hysn3 => (intro w hSw; (try dsimp only at hSw); obtain ⟨hS0, hS1, hS2, hS3⟩ := hSw; go_simp; try with_reducible rfl)
          try simp only [Act.put, List.setIfInBounds_toArray, List.set_cons_zero, List.set_cons_succ]
          refine wpAnyG_take (i := 4) (oi := { dst := some 61, op := Go.Op.load 27 (Go.Operand.tmp 60), type := 27, pos := "ref.go:47", after := #[{ on := 3, ground := Go.Ground.data }], guard := none }) (v := ?vsn4) rfl (by kernel_rfl) (fun _ _ _ h => h) (Or.inl ⟨by rfl, ?hysn4⟩) h0 ?restsn4
          case hysn4 => (intro w hSw; (try dsimp only at hSw); obtain ⟨hS0, hS1, hS2, hS3⟩ := hSw; go_simp; try with_reducible rfl)
          try simp only [Act.put, List.setIfInBounds_toArray, List.set_cons_zero, List.set_cons_succ]
          refine wpAnyG_take (i := 5) (oi := { dst := some 62, op := Go.Op.move (Go.Operand.tmp 5), type := 3, pos := "ref.go:47", after := #[], guard := none }) (v := ?vsn5) rfl (by kernel_rfl) (fun _ _ _ h => h) (Or.inl ⟨by rfl, ?hysn5⟩) h0 ?restsn5
          case hysn5 => (intro w hSw; (try dsimp only at hSw); obtain ⟨hS0, hS1, hS2, hS3⟩ := hSw; go_simp; try with_reducible rfl)
          try simp only [Act.put, List.setIfInBounds_toArray, List.set_cons_zero, List.set_cons_succ]
          refine wpAnyG_take (i := 6) (oi := { dst := some 63, op := Go.Op.slice 27 (Go.Operand.tmp 61) none (some (Go.Operand.tmp 62)) none, type := 27, pos := "ref.go:47", after := #[{ on := 4, ground := Go.Ground.data }, { on := 5, ground := Go.Ground.data }], guard := none }) (v := ?vsn6) rfl (by kernel_rfl) (fun _ _ _ h => h) (Or.inl ⟨by rfl, ?hysn6⟩) h0 ?restsn6
          case hysn6 => (intro w hSw; (try dsimp only at hSw); obtain ⟨hS0, hS1, hS2, hS3⟩ := hSw; go_simp; try with_reducible rfl)
          try simp only [Act.put, List.setIfInBounds_toArray, List.set_cons_zero, List.set_cons_succ]
          refine wpAnyG_take (i := 8) (oi := { dst := some 65, op := Go.Op.load 46 (Go.Operand.tmp 3), type := 46, pos := "ref.go:47", after := #[], guard := none }) (v := ?vsn8) rfl (by kernel_rfl) (fun _ _ _ h => h) (Or.inl ⟨by rfl, ?hysn8⟩) h0 ?restsn8
          case hysn8 => (intro w hSw; (try dsimp only at hSw); obtain ⟨hS0, hS1, hS2, hS3⟩ := hSw; go_simp; try with_reducible rfl)
          try simp only [Act.put, List.setIfInBounds_toArray, List.set_cons_zero, List.set_cons_succ]
          refine wpAnyG_two (i := 7) (j := 9) (o := { dst := some 64, op := Go.Op.call { callee := Go.Callee.builtin Go.Builtin.append, args := #[Go.Operand.tmp 57, Go.Operand.tmp 63], argTypes := #[27, 27] }, type := 27, pos := "ref.go:47", after := #[{ on := 0, ground := Go.Ground.data }, { on := 6, ground := Go.Ground.data }], guard := none }) (o' := { dst := some 66, op := Go.Op.buildSlice 27 1 #[(0, Go.Operand.tmp 65)], type := 27, pos := "ref.go:47", after := #[{ on := 8, ground := Go.Ground.data }], guard := none }) (by kernel_rfl) rfl rfl (fun K hK => ?_) (fun K hK => ?_)
          · skip
            obtain ⟨v1, w1, rr, o1, k1⟩ := own_appr2 (ty := 27) (M := l.take 0) (ao := none) (m := 0) (c := 0) (Ownr.nil _ _) (by rw [List.length_take]; have := HL.out; omega) (fun _ => by omega) ((HS.out.kp KD.out (fun _ _ _ _ h => h)).take 0) (by have := HL.out; simp only [List.length_nil, List.length_take] at *; omega) KD.out.size
            refine ite_pos2 (by rfl) ?_
            refine Lib.wp_append_run _ _ _ _ _ rfl _ _ rfl rfl _ _ rr ?_
            have K1 : Hid (Kp (fun _ => False) wr w1) := KD.out.trans k1 (fun i hi e => by simp [Value.ownBlock] at e)
            have O1 : Hid (Ownr w1 wr.heap.size v1 (l.take 0)) := by rw [List.nil_append] at o1; exact o1
            refine hK.out _ _ (fun _ _ => (HSC.out _ K1.out)) ?_
            clear hK K
            try simp only [Act.put, List.setIfInBounds_toArray, List.set_cons_zero, List.set_cons_succ]
            clear rr o1 k1
            refine wpAnyG_one (i := 9) (o := { dst := some 66, op := Go.Op.buildSlice 27 1 #[(0, Go.Operand.tmp 65)], type := 27, pos := "ref.go:47", after := #[{ on := 8, ground := Go.Ground.data }], guard := none }) (by kernel_rfl) rfl (fun K hK => ?_)
            go_simp
            have K1b : Hid (Kp (fun _ => False) wr (w1.alloc (.cells #[.int .i64 xk, .int .i64 xa, .int .i64 xn] 46))) := K1.out.alloc _
            have O1b := hid (O1.out.kp ((Kp.refl (fun _ => False) w1).alloc (.cells #[.int .i64 xk, .int .i64 xa, .int .i64 xn] 46)) (fun _ _ h => h))
            refine hK.out _ _ (fun _ _ => (HSC.out _ K1b.out)) ?_
            clear hK K
            try simp only [Act.put, List.setIfInBounds_toArray, List.set_cons_zero, List.set_cons_succ]
            refine wpAnyG_one (i := 10) (o := { dst := some 67, op := Go.Op.call { callee := Go.Callee.builtin Go.Builtin.append, args := #[Go.Operand.tmp 64, Go.Operand.tmp 66], argTypes := #[27, 27] }, type := 27, pos := "ref.go:47", after := #[{ on := 7, ground := Go.Ground.data }, { on := 9, ground := Go.Ground.data }, { on := 7, ground := Go.Ground.chain }], guard := none }) (by kernel_rfl) rfl (fun K hK => ?_)
            obtain ⟨v2, w2, rr, o2, k2⟩ := own_app12 (ty := 27) (x := ⟨xk, xa, xn⟩) O1b.out (St.new 46 w1 #[.int .i64 xk, .int .i64 xa, .int .i64 xn]) (by rw [List.length_take]; have := HL.out; omega) K1b.out.size
            try simp only [Rn.cs] at rr
            refine ite_pos2 (by rfl) ?_
            refine Lib.wp_append_run _ _ _ _ _ rfl _ _ rfl rfl _ _ rr ?_
            have K2 : Hid (Kp (fun _ => False) wr w2) := K1b.out.trans k2 (fun i hi e => by have := (ownr_blk O1b.out e).1; omega)
            have O2 := hid o2
            refine hK.out _ _ (fun _ _ => (HSC.out _ K2.out)) ?_
            clear hK K
            try simp only [Act.put, List.setIfInBounds_toArray, List.set_cons_zero, List.set_cons_succ]
            clear rr o2 k2
            refine wpAnyG_take (i := 11) (oi := { dst := some 7, op := Go.Op.assign (Go.Operand.tmp 67), type := 27, pos := "ref.go:47", after := #[{ on := 10, ground := Go.Ground.data }, { on := 10, ground := Go.Ground.chain }, { on := 0, ground := Go.Ground.phase }, { on := 1, ground := Go.Ground.phase }, { on := 2, ground := Go.Ground.phase }, { on := 3, ground := Go.Ground.phase }, { on := 4, ground := Go.Ground.phase }, { on := 5, ground := Go.Ground.phase }, { on := 6, ground := Go.Ground.phase }, { on := 7, ground := Go.Ground.phase }, { on := 8, ground := Go.Ground.phase }, { on := 9, ground := Go.Ground.phase }, { on := 10, ground := Go.Ground.phase }], guard := none }) (v := ?van11) rfl (by kernel_rfl) (fun _ _ _ h => h) (Or.inl ⟨by rfl, ?hyan11⟩) (HSC.out _ K2.out) ?restan11
            case hyan11 => (intro w hSw; (try dsimp only at hSw); obtain ⟨hS0, hS1, hS2, hS3⟩ := hSw; go_simp; try with_reducible rfl)
            try simp only [Act.put, List.setIfInBounds_toArray, List.set_cons_zero, List.set_cons_succ]
            refine wpAnyG_done (by kernel_rfl) ?_ _
            go_wp2_with fail
            go_meet
            case rel => exact ⟨O2, K2⟩
          · go_simp
            refine hK.out _ _ (fun _ _ => (HSC.out _ KE.out)) ?_
            clear hK K
            try simp only [Act.put, List.setIfInBounds_toArray, List.set_cons_zero, List.set_cons_succ]
            refine wpAnyG_one (i := 7) (o := { dst := some 64, op := Go.Op.call { callee := Go.Callee.builtin Go.Builtin.append, args := #[Go.Operand.tmp 57, Go.Operand.tmp 63], argTypes := #[27, 27] }, type := 27, pos := "ref.go:47", after := #[{ on := 0, ground := Go.Ground.data }, { on := 6, ground := Go.Ground.data }], guard := none }) (by kernel_rfl) rfl (fun K hK => ?_)
            obtain ⟨v1, w1, rr, o1, k1⟩ := own_appr2 (ty := 27) (M := l.take 0) (ao := none) (m := 0) (c := 0) (Ownr.nil _ _) (by rw [List.length_take]; have := HL.out; omega) (fun _ => by omega) ((HS.out.kp KE.out (fun _ _ _ _ h => h)).take 0) (by have := HL.out; simp only [List.length_nil, List.length_take] at *; omega) KE.out.size
            refine ite_pos2 (by rfl) ?_
            refine Lib.wp_append_run _ _ _ _ _ rfl _ _ rfl rfl _ _ rr ?_
            have K1 : Hid (Kp (fun _ => False) wr w1) := KE.out.trans k1 (fun i hi e => by simp [Value.ownBlock] at e)
            have O1 : Hid (Ownr w1 wr.heap.size v1 (l.take 0)) := by rw [List.nil_append] at o1; exact o1
            have S7 : Hid (St 46 w1 wr.heap.size #[.int .i64 xk, .int .i64 xa, .int .i64 xn]) := SE.out.kp k1 (fun e => by simp [Value.ownBlock] at e)
            refine hK.out _ _ (fun _ _ => (HSC.out _ K1.out)) ?_
            clear hK K
            try simp only [Act.put, List.setIfInBounds_toArray, List.set_cons_zero, List.set_cons_succ]
            clear rr o1 k1
            refine wpAnyG_one (i := 10) (o := { dst := some 67, op := Go.Op.call { callee := Go.Callee.builtin Go.Builtin.append, args := #[Go.Operand.tmp 64, Go.Operand.tmp 66], argTypes := #[27, 27] }, type := 27, pos := "ref.go:47", after := #[{ on := 7, ground := Go.Ground.data }, { on := 9, ground := Go.Ground.data }, { on := 7, ground := Go.Ground.chain }], guard := none }) (by kernel_rfl) rfl (fun K hK => ?_)
            obtain ⟨v2, w2, rr, o2, k2⟩ := own_app12 (ty := 27) (x := ⟨xk, xa, xn⟩) O1.out S7.out (by rw [List.length_take]; have := HL.out; omega) K1.out.size
            try simp only [Rn.cs] at rr
            refine ite_pos2 (by rfl) ?_
            refine Lib.wp_append_run _ _ _ _ _ rfl _ _ rfl rfl _ _ rr ?_
            have K2 : Hid (Kp (fun _ => False) wr w2) := K1.out.trans k2 (fun i hi e => by have := (ownr_blk O1.out e).1; omega)
            have O2 := hid o2
            refine hK.out _ _ (fun _ _ => (HSC.out _ K2.out)) ?_
            clear hK K
            try simp only [Act.put, List.setIfInBounds_toArray, List.set_cons_zero, List.set_cons_succ]
            clear rr o2 k2
            refine wpAnyG_take (i := 11) (oi := { dst := some 7, op := Go.Op.assign (Go.Operand.tmp 67), type := 27, pos := "ref.go:47", after := #[{ on := 10, ground := Go.Ground.data }, { on := 10, ground := Go.Ground.chain }, { on := 0, ground := Go.Ground.phase }, { on := 1, ground := Go.Ground.phase }, { on := 2, ground := Go.Ground.phase }, { on := 3, ground := Go.Ground.phase }, { on := 4, ground := Go.Ground.phase }, { on := 5, ground := Go.Ground.phase }, { on := 6, ground := Go.Ground.phase }, { on := 7, ground := Go.Ground.phase }, { on := 8, ground := Go.Ground.phase }, { on := 9, ground := Go.Ground.phase }, { on := 10, ground := Go.Ground.phase }], guard := none }) (v := ?vbn11) rfl (by kernel_rfl) (fun _ _ _ h => h) (Or.inl ⟨by rfl, ?hybn11⟩) (HSC.out _ K2.out) ?restbn11
            case hybn11 => (intro w hSw; (try dsimp only at hSw); obtain ⟨hS0, hS1, hS2, hS3⟩ := hSw; go_simp; try with_reducible rfl)
            try simp only [Act.put, List.setIfInBounds_toArray, List.set_cons_zero, List.set_cons_succ]
            refine wpAnyG_done (by kernel_rfl) ?_ _
            go_wp2_with fail
            go_meet
            case rel => exact ⟨O2, K2⟩
        case rest =>
          obtain ⟨OC, KC⟩ := hcut
          have KCW := hid (KWR.out.trans KC.out (fun _ _ h => h))
          have yq := (HSC.out wc KC.out).1
          obtain ⟨v8, w8, rr, o8, k8⟩ := own_appr2 (ty := 27) (M := l.drop 0) (ao := none) (m := 0) (c := 0) OC.out (by rw [List.length_drop]; have := HL.out; omega) (fun _ => rfl) (by have h1 : l.length = 0 := HL.out.symm; rw [List.length_eq_zero_iff.1 h1]; exact Srcr.nil _ _) (by have := HL.out; simp only [List.length_append, List.length_take, List.length_singleton]; omega) KC.out.size
          have K8 : Hid (Kp (fun _ => False) wr w8) := KC.out.trans k8 (fun i hi e => by have := (ownr_blk OC.out e).1; omega)
          have O8 : Hid (Ownr w8 wr.heap.size v8 (ins l ⟨xk, xa, xn⟩)) := by
            rw [List.append_assoc, List.singleton_append, ← HIN.out] at o8
            exact o8
          have SQ8 := hid (HQW.out.kp K8.out (fun h => h))
          have f8 : w8.frozen? ⟨q, 0, none⟩ = false := SQ8.out.frozen 0
          have y8 : w8.cell? ⟨q, 0, none⟩ = some (.slice none 0 0) := SQ8.out.cell 0
          clear o8 k8
          obtain ⟨a8, c8, e8, _⟩ := O8.out.src
          subst e8
          obtain ⟨n8, hn8⟩ : ∃ n8, n8 = (ins l ⟨xk, xa, xn⟩).length := ⟨_, rfl⟩
          rw [← hn8] at rr O8
          clear hn8
          go_wp2_with (at_builtin; refine Lib.wpList_append_run _ rfl _ _ _ _ rfl _ _ rfl rfl _ _ rr ?_; clear rr)
          go_ret
          rw [HPL.out]
          have hst := RL.store (HRW.out.kp K8.out) O8.out (by have h1 : q < T := HQL.out; have h2 : T = w.heap.size := HT.out; have := KWR.out.size; omega) HIS.out (by rw [HIL.out]; have := HL.out; omega)
          exact ⟨rfl, .inr ⟨rfl, hst.1, (KWR.out.trans K8.out (fun _ _ h => h) |>.mono (fun _ _ h => h.elim)).trans (kp_setCell w8 q 0 _ (fun i => i = q) rfl) (fun _ _ h => h), fun b off n cap hc => Nat.le_trans KWR.out.size (hst.2 b off n cap hc)⟩⟩
      | some ad =>
        obtain ⟨gb, off, hsp⟩ := ad
        obtain rfl : hsp = none := (HTB.out gb off hsp rfl).1
        have zq := (HSC.out wr (Kp.refl _ _)).1
        have hc5 : (at_ : Int) ≤ (cap : Int) := by omega
        have hc6 : (0 : Int) ≤ (at_ : Int) := by omega
        have hc7 : (at_ : Int) ≤ (k : Int) := by omega
        go_wp2_with fail
        go_cut [7] from 57 to 67 (fun v7 wx => Hid (Ownr wx wr.heap.size v7 (l.take at_ ++ [⟨xk, xa, xn⟩])) ∧ Hid (Kp (fun _ => False) wr wx))
        case first =>
          refine wp_region_G (fun U => U.cell? ⟨q, 0, none⟩ = some (.slice (some ⟨gb, off, none⟩) k cap) ∧ U.cell? ⟨T, 0, none⟩ = some (.int .i64 xk) ∧ U.cell? ⟨T, 1, none⟩ = some (.int .i64 xa) ∧ U.cell? ⟨T, 2, none⟩ = some (.int .i64 xn)) [] hmix (HSC.out _ KD.out) (fun h0 => ?_)
          refine wpAnyG_take (i := 0) (oi := { dst := some 57, op := Go.Op.move (Go.Operand.tmp 7), type := 27, pos := "ref.go:47", after := #[], guard := none }) (v := ?vss0) rfl (by kernel_rfl) (fun _ _ _ h => h) (Or.inl ⟨by rfl, ?hyss0⟩) h0 ?restss0
          case hyss0 => (intro w hSw; (try dsimp only at hSw); obtain ⟨hS0, hS1, hS2, hS3⟩ := hSw; go_simp; try with_reducible rfl)
          try simp only [Act.put, List.setIfInBounds_toArray, List.set_cons_zero, List.set_cons_succ]
          refine wpAnyG_take (i := 1) (oi := { dst := some 58, op := Go.Op.move (Go.Operand.tmp 0), type := 26, pos := "ref.go:47", after := #[], guard := none }) (v := ?vss1) rfl (by kernel_rfl) (fun _ _ _ h => h) (Or.inl ⟨by rfl, ?hyss1⟩) h0 ?restss1
          case hyss1 => (intro w hSw; (try dsimp only at hSw); obtain ⟨hS0, hS1, hS2, hS3⟩ := hSw; go_simp; try with_reducible rfl)
          try simp only [Act.put, List.setIfInBounds_toArray, List.set_cons_zero, List.set_cons_succ]
          refine wpAnyG_take (i := 2) (oi := { dst := some 59, op := Go.Op.nilCheck (Go.Operand.tmp 58), type := 0, pos := "ref.go:47", after := #[{ on := 1, ground := Go.Ground.data }], guard := none }) (v := ?vss2) rfl (by kernel_rfl) (fun _ _ _ h => h) (Or.inl ⟨by rfl, ?hyss2⟩) h0 ?restss2
          case hyss2 => (intro w hSw; (try dsimp only at hSw); obtain ⟨hS0, hS1, hS2, hS3⟩ := hSw; go_simp; try with_reducible rfl)
          try simp only [Act.put, List.setIfInBounds_toArray, List.set_cons_zero, List.set_cons_succ]
          refine wpAnyG_take (i := 3) (oi := { dst := some 60, op := Go.Op.fieldAddr 29 (Go.Operand.tmp 59) 0, type := 0, pos := "ref.go:47", after := #[{ on := 2, ground := Go.Ground.data }], guard := none }) (v := ?vss3) rfl (by kernel_rfl) (fun _ _ _ h => h) (Or.inl ⟨by rfl, ?hyss3⟩) h0 ?restss3
          case hyss3 => (intro w hSw; (try dsimp only at hSw); obtain ⟨hS0, hS1, hS2, hS3⟩ := hSw; go_simp; try with_reducible rfl)
          try simp only [Act.put, List.setIfInBounds_toArray, List.set_cons_zero, List.set_cons_succ]
          refine wpAnyG_take (i := 4) (oi := { dst := some 61, op := Go.Op.load 27 (Go.Operand.tmp 60), type := 27, pos := "ref.go:47", after := #[{ on := 3, ground := Go.Ground.data }], guard := none }) (v := ?vss4) rfl (by kernel_rfl) (fun _ _ _ h => h) (Or.inl ⟨by rfl, ?hyss4⟩) h0 ?restss4
          case hyss4 => (intro w hSw; (try dsimp only at hSw); obtain ⟨hS0, hS1, hS2, hS3⟩ := hSw; go_simp; try with_reducible rfl)
          try simp only [Act.put, List.setIfInBounds_toArray, List.set_cons_zero, List.set_cons_succ]
          refine wpAnyG_take (i := 5) (oi := { dst := some 62, op := Go.Op.move (Go.Operand.tmp 5), type := 3, pos := "ref.go:47", after := #[], guard := none }) (v := ?vss5) rfl (by kernel_rfl) (fun _ _ _ h => h) (Or.inl ⟨by rfl, ?hyss5⟩) h0 ?restss5
          case hyss5 => (intro w hSw; (try dsimp only at hSw); obtain ⟨hS0, hS1, hS2, hS3⟩ := hSw; go_simp; try with_reducible rfl)
          try simp only [Act.put, List.setIfInBounds_toArray, List.set_cons_zero, List.set_cons_succ]
          refine wpAnyG_take (i := 6) (oi := { dst := some 63, op := Go.Op.slice 27 (Go.Operand.tmp 61) none (some (Go.Operand.tmp 62)) none, type := 27, pos := "ref.go:47", after := #[{ on := 4, ground := Go.Ground.data }, { on := 5, ground := Go.Ground.data }], guard := none }) (v := ?vss6) rfl (by kernel_rfl) (fun _ _ _ h => h) (Or.inl ⟨by rfl, ?hyss6⟩) h0 ?restss6
          case hyss6 => (intro w hSw; (try dsimp only at hSw); obtain ⟨hS0, hS1, hS2, hS3⟩ := hSw; go_simp; try with_reducible rfl)
          try simp only [Act.put, List.setIfInBounds_toArray, List.set_cons_zero, List.set_cons_succ]
          refine wpAnyG_take (i := 8) (oi := { dst := some 65, op := Go.Op.load 46 (Go.Operand.tmp 3), type := 46, pos := "ref.go:47", after := #[], guard := none }) (v := ?vss8) rfl (by kernel_rfl) (fun _ _ _ h => h) (Or.inl ⟨by rfl, ?hyss8⟩) h0 ?restss8
          case hyss8 => (intro w hSw; (try dsimp only at hSw); obtain ⟨hS0, hS1, hS2, hS3⟩ := hSw; go_simp; try with_reducible rfl)
          try simp only [Act.put, List.setIfInBounds_toArray, List.set_cons_zero, List.set_cons_succ]
          refine wpAnyG_two (i := 7) (j := 9) (o := { dst := some 64, op := Go.Op.call { callee := Go.Callee.builtin Go.Builtin.append, args := #[Go.Operand.tmp 57, Go.Operand.tmp 63], argTypes := #[27, 27] }, type := 27, pos := "ref.go:47", after := #[{ on := 0, ground := Go.Ground.data }, { on := 6, ground := Go.Ground.data }], guard := none }) (o' := { dst := some 66, op := Go.Op.buildSlice 27 1 #[(0, Go.Operand.tmp 65)], type := 27, pos := "ref.go:47", after := #[{ on := 8, ground := Go.Ground.data }], guard := none }) (by kernel_rfl) rfl rfl (fun K hK => ?_) (fun K hK => ?_)
          · skip
            obtain ⟨v1, w1, rr, o1, k1⟩ := own_appr2 (ty := 27) (M := l.take at_) (ao := (some ⟨gb, off, none⟩)) (m := at_) (c := cap) (Ownr.nil _ _) (by rw [List.length_take]; have := HL.out; omega) (fun e => by cases e) ((HS.out.kp KD.out (fun _ _ _ _ h => h)).take at_) (by have := HL.out; simp only [List.length_nil, List.length_take] at *; omega) KD.out.size
            refine ite_pos2 (by rfl) ?_
            refine Lib.wp_append_run _ _ _ _ _ rfl _ _ rfl rfl _ _ rr ?_
            have K1 : Hid (Kp (fun _ => False) wr w1) := KD.out.trans k1 (fun i hi e => by simp [Value.ownBlock] at e)
            have O1 : Hid (Ownr w1 wr.heap.size v1 (l.take at_)) := by rw [List.nil_append] at o1; exact o1
            refine hK.out _ _ (fun _ _ => (HSC.out _ K1.out)) ?_
            clear hK K
            try simp only [Act.put, List.setIfInBounds_toArray, List.set_cons_zero, List.set_cons_succ]
            clear rr o1 k1
            refine wpAnyG_one (i := 9) (o := { dst := some 66, op := Go.Op.buildSlice 27 1 #[(0, Go.Operand.tmp 65)], type := 27, pos := "ref.go:47", after := #[{ on := 8, ground := Go.Ground.data }], guard := none }) (by kernel_rfl) rfl (fun K hK => ?_)
            go_simp
            have K1b : Hid (Kp (fun _ => False) wr (w1.alloc (.cells #[.int .i64 xk, .int .i64 xa, .int .i64 xn] 46))) := K1.out.alloc _
            have O1b := hid (O1.out.kp ((Kp.refl (fun _ => False) w1).alloc (.cells #[.int .i64 xk, .int .i64 xa, .int .i64 xn] 46)) (fun _ _ h => h))
            refine hK.out _ _ (fun _ _ => (HSC.out _ K1b.out)) ?_
            clear hK K
            try simp only [Act.put, List.setIfInBounds_toArray, List.set_cons_zero, List.set_cons_succ]
            refine wpAnyG_one (i := 10) (o := { dst := some 67, op := Go.Op.call { callee := Go.Callee.builtin Go.Builtin.append, args := #[Go.Operand.tmp 64, Go.Operand.tmp 66], argTypes := #[27, 27] }, type := 27, pos := "ref.go:47", after := #[{ on := 7, ground := Go.Ground.data }, { on := 9, ground := Go.Ground.data }, { on := 7, ground := Go.Ground.chain }], guard := none }) (by kernel_rfl) rfl (fun K hK => ?_)
            obtain ⟨v2, w2, rr, o2, k2⟩ := own_app12 (ty := 27) (x := ⟨xk, xa, xn⟩) O1b.out (St.new 46 w1 #[.int .i64 xk, .int .i64 xa, .int .i64 xn]) (by rw [List.length_take]; have := HL.out; omega) K1b.out.size
            try simp only [Rn.cs] at rr
            refine ite_pos2 (by rfl) ?_
            refine Lib.wp_append_run _ _ _ _ _ rfl _ _ rfl rfl _ _ rr ?_
            have K2 : Hid (Kp (fun _ => False) wr w2) := K1b.out.trans k2 (fun i hi e => by have := (ownr_blk O1b.out e).1; omega)
            have O2 := hid o2
            refine hK.out _ _ (fun _ _ => (HSC.out _ K2.out)) ?_
            clear hK K
            try simp only [Act.put, List.setIfInBounds_toArray, List.set_cons_zero, List.set_cons_succ]
            clear rr o2 k2
            refine wpAnyG_take (i := 11) (oi := { dst := some 7, op := Go.Op.assign (Go.Operand.tmp 67), type := 27, pos := "ref.go:47", after := #[{ on := 10, ground := Go.Ground.data }, { on := 10, ground := Go.Ground.chain }, { on := 0, ground := Go.Ground.phase }, { on := 1, ground := Go.Ground.phase }, { on := 2, ground := Go.Ground.phase }, { on := 3, ground := Go.Ground.phase }, { on := 4, ground := Go.Ground.phase }, { on := 5, ground := Go.Ground.phase }, { on := 6, ground := Go.Ground.phase }, { on := 7, ground := Go.Ground.phase }, { on := 8, ground := Go.Ground.phase }, { on := 9, ground := Go.Ground.phase }, { on := 10, ground := Go.Ground.phase }], guard := none }) (v := ?vas11) rfl (by kernel_rfl) (fun _ _ _ h => h) (Or.inl ⟨by rfl, ?hyas11⟩) (HSC.out _ K2.out) ?restas11
            case hyas11 => (intro w hSw; (try dsimp only at hSw); obtain ⟨hS0, hS1, hS2, hS3⟩ := hSw; go_simp; try with_reducible rfl)
            try simp only [Act.put, List.setIfInBounds_toArray, List.set_cons_zero, List.set_cons_succ]
            refine wpAnyG_done (by kernel_rfl) ?_ _
            go_wp2_with fail
            go_meet
            case rel => exact ⟨O2, K2⟩
          · go_simp
            refine hK.out _ _ (fun _ _ => (HSC.out _ KE.out)) ?_
            clear hK K
            try simp only [Act.put, List.setIfInBounds_toArray, List.set_cons_zero, List.set_cons_succ]
            refine wpAnyG_one (i := 7) (o := { dst := some 64, op := Go.Op.call { callee := Go.Callee.builtin Go.Builtin.append, args := #[Go.Operand.tmp 57, Go.Operand.tmp 63], argTypes := #[27, 27] }, type := 27, pos := "ref.go:47", after := #[{ on := 0, ground := Go.Ground.data }, { on := 6, ground := Go.Ground.data }], guard := none }) (by kernel_rfl) rfl (fun K hK => ?_)
            obtain ⟨v1, w1, rr, o1, k1⟩ := own_appr2 (ty := 27) (M := l.take at_) (ao := (some ⟨gb, off, none⟩)) (m := at_) (c := cap) (Ownr.nil _ _) (by rw [List.length_take]; have := HL.out; omega) (fun e => by cases e) ((HS.out.kp KE.out (fun _ _ _ _ h => h)).take at_) (by have := HL.out; simp only [List.length_nil, List.length_take] at *; omega) KE.out.size
            refine ite_pos2 (by rfl) ?_
            refine Lib.wp_append_run _ _ _ _ _ rfl _ _ rfl rfl _ _ rr ?_
            have K1 : Hid (Kp (fun _ => False) wr w1) := KE.out.trans k1 (fun i hi e => by simp [Value.ownBlock] at e)
            have O1 : Hid (Ownr w1 wr.heap.size v1 (l.take at_)) := by rw [List.nil_append] at o1; exact o1
            have S7 : Hid (St 46 w1 wr.heap.size #[.int .i64 xk, .int .i64 xa, .int .i64 xn]) := SE.out.kp k1 (fun e => by simp [Value.ownBlock] at e)
            refine hK.out _ _ (fun _ _ => (HSC.out _ K1.out)) ?_
            clear hK K
            try simp only [Act.put, List.setIfInBounds_toArray, List.set_cons_zero, List.set_cons_succ]
            clear rr o1 k1
            refine wpAnyG_one (i := 10) (o := { dst := some 67, op := Go.Op.call { callee := Go.Callee.builtin Go.Builtin.append, args := #[Go.Operand.tmp 64, Go.Operand.tmp 66], argTypes := #[27, 27] }, type := 27, pos := "ref.go:47", after := #[{ on := 7, ground := Go.Ground.data }, { on := 9, ground := Go.Ground.data }, { on := 7, ground := Go.Ground.chain }], guard := none }) (by kernel_rfl) rfl (fun K hK => ?_)
            obtain ⟨v2, w2, rr, o2, k2⟩ := own_app12 (ty := 27) (x := ⟨xk, xa, xn⟩) O1.out S7.out (by rw [List.length_take]; have := HL.out; omega) K1.out.size
            try simp only [Rn.cs] at rr
            refine ite_pos2 (by rfl) ?_
            refine Lib.wp_append_run _ _ _ _ _ rfl _ _ rfl rfl _ _ rr ?_
            have K2 : Hid (Kp (fun _ => False) wr w2) := K1.out.trans k2 (fun i hi e => by have := (ownr_blk O1.out e).1; omega)
            have O2 := hid o2
            refine hK.out _ _ (fun _ _ => (HSC.out _ K2.out)) ?_
            clear hK K
            try simp only [Act.put, List.setIfInBounds_toArray, List.set_cons_zero, List.set_cons_succ]
            clear rr o2 k2
            refine wpAnyG_take (i := 11) (oi := { dst := some 7, op := Go.Op.assign (Go.Operand.tmp 67), type := 27, pos := "ref.go:47", after := #[{ on := 10, ground := Go.Ground.data }, { on := 10, ground := Go.Ground.chain }, { on := 0, ground := Go.Ground.phase }, { on := 1, ground := Go.Ground.phase }, { on := 2, ground := Go.Ground.phase }, { on := 3, ground := Go.Ground.phase }, { on := 4, ground := Go.Ground.phase }, { on := 5, ground := Go.Ground.phase }, { on := 6, ground := Go.Ground.phase }, { on := 7, ground := Go.Ground.phase }, { on := 8, ground := Go.Ground.phase }, { on := 9, ground := Go.Ground.phase }, { on := 10, ground := Go.Ground.phase }], guard := none }) (v := ?vbs11) rfl (by kernel_rfl) (fun _ _ _ h => h) (Or.inl ⟨by rfl, ?hybs11⟩) (HSC.out _ K2.out) ?restbs11
            case hybs11 => (intro w hSw; (try dsimp only at hSw); obtain ⟨hS0, hS1, hS2, hS3⟩ := hSw; go_simp; try with_reducible rfl)
            try simp only [Act.put, List.setIfInBounds_toArray, List.set_cons_zero, List.set_cons_succ]
            refine wpAnyG_done (by kernel_rfl) ?_ _
            go_wp2_with fail
            go_meet
            case rel => exact ⟨O2, K2⟩
        case rest =>
          obtain ⟨OC, KC⟩ := hcut
          have KCW := hid (KWR.out.trans KC.out (fun _ _ h => h))
          have yq := (HSC.out wc KC.out).1
          obtain ⟨v8, w8, rr, o8, k8⟩ := own_appr2 (ty := 27) (M := l.drop at_) (ao := if cap = at_ then some ⟨gb, off, none⟩ else some ⟨gb, off + at_ * 3, none⟩) (m := k - at_) (c := cap - at_) OC.out (by rw [List.length_drop]; have := HL.out; omega) (fun e => by split at e <;> cases e) (by
            split
            · have h1 : (l.drop at_).length = 0 := by rw [List.length_drop]; have := HL.out; omega
              rw [List.length_eq_zero_iff.1 h1]
              exact Srcr.nil _ _
            · exact (HS.out.kp KC.out (fun _ _ _ _ h => h)).drop at_ (by have := HL.out; omega)) (by have := HL.out; simp only [List.length_append, List.length_take, List.length_singleton]; omega) KC.out.size
          have K8 : Hid (Kp (fun _ => False) wr w8) := KC.out.trans k8 (fun i hi e => by have := (ownr_blk OC.out e).1; omega)
          have O8 : Hid (Ownr w8 wr.heap.size v8 (ins l ⟨xk, xa, xn⟩)) := by
            rw [List.append_assoc, List.singleton_append, ← HIN.out] at o8
            exact o8
          have SQ8 := hid (HQW.out.kp K8.out (fun h => h))
          have f8 : w8.frozen? ⟨q, 0, none⟩ = false := SQ8.out.frozen 0
          have y8 : w8.cell? ⟨q, 0, none⟩ = some (.slice (some ⟨gb, off, none⟩) k cap) := SQ8.out.cell 0
          clear o8 k8
          obtain ⟨a8, c8, e8, _⟩ := O8.out.src
          subst e8
          obtain ⟨n8, hn8⟩ : ∃ n8, n8 = (ins l ⟨xk, xa, xn⟩).length := ⟨_, rfl⟩
          rw [← hn8] at rr O8
          clear hn8
          go_wp2_with (at_builtin; refine Lib.wpList_append_run _ rfl _ _ _ _ rfl _ _ rfl rfl _ _ rr ?_; clear rr)
          all_goals
            go_ret
            rw [HPL.out]
            have hst := RL.store (HRW.out.kp K8.out) O8.out (by have h1 : q < T := HQL.out; have h2 : T = w.heap.size := HT.out; have := KWR.out.size; omega) HIS.out (by rw [HIL.out]; have := HL.out; omega)
            exact ⟨rfl, .inr ⟨rfl, hst.1, (KWR.out.trans K8.out (fun _ _ h => h) |>.mono (fun _ _ h => h.elim)).trans (kp_setCell w8 q 0 _ (fun i => i = q) rfl) (fun _ _ h => h), fun b off n cap hc => Nat.le_trans KWR.out.size (hst.2 b off n cap hc)⟩⟩
end Go.Proofs.Ytopnfjgkgoeleaa
