/- later: Put. -/
import Derived.Test.YtgfondgejimkkaaBe
namespace Go.Proofs.Ytgfondgejimkkaa
open Go.RowKit
set_option linter.unusedVariables false
set_option linter.unusedSimpArgs false
theorem tog_len {l : List Rn} (h : ∀ x ∈ l, Mayr x) : (tog l).length ≤ l.length := by
  have hp := List.mergeSort_perm l (fun x y => decide (x.a ≤ y.a))
  have hs : (l.mergeSort (fun x y => decide (x.a ≤ y.a))).Pairwise (fun x y => x.a ≤ y.a) := by
    have := List.pairwise_mergeSort (le := fun (x y : Rn) => decide (x.a ≤ y.a)) (by intro a b c h1 h2; simp at *; omega) (by intro a b; simp; omega) l
    exact this.imp (fun h => by simpa using h)
  have := (mrg_ok (l := l.mergeSort (fun x y => decide (x.a ≤ y.a))) (fun x hx => h x (hp.mem_iff.1 hx)) hs).2.2.2
  rw [hp.length_eq] at this
  exact this
theorem tog_bt {l m : List Rn} (h : ∀ x ∈ l, Mayr x) (k : ∀ x ∈ m, Mayr x) (hb : ∀ p, Bt l p ↔ Bt m p) : tog l = tog m :=
  can_uniq (tog_ok h).1 (tog_ok k).1 (fun p => by rw [(tog_ok h).2, (tog_ok k).2, hb])
theorem Rwr.src {w : World} {g : Nat} {l : List Rn} (h : Rwr w g l) : Srcr w (some ⟨g, 0, none⟩) l := fun _ => ⟨g, 0, rfl, St.lt h, fun j u hu => by rw [Nat.zero_add]; exact (St.cell h j).trans (by simpa using hu)⟩
theorem Ownp.lt {w : World} {base g : Nat} {v : Value} {D : List Nat} (h : Ownp w base v D) (e : v.ownBlock = some g) : g < w.heap.size := by
  obtain ⟨cur, h1, _⟩ := ownb h e
  exact (Array.getElem?_eq_some_iff.1 h1).1
/-- append of a row of pointers that is read. -/
theorem wpList_append_pp {w : World} {ops : Array Oper} {rest : List Oper} {o : Oper} {a : Act} {Q : Exit → Act → World → Prop} (hgd : o.guard = none) (s x : Operand) (ho : o.op = .call { callee := .builtin .append, args := #[s, x], argTypes := #[66, 66] }) (base : Nat) (v : Value) (D : List Nat) (hs : a.eval s = v) (hown : Ownp w base v D)
    (ao : Option Addr) (m c : Nat) (E : List Nat) (hm : m = E.length) (hx : a.eval x = .slice ao m c) (hnone : ao = none → c = 0) (hS : Srcp w ao E) (hlen : D.length + m ≤ 1000000) (hbase : base ≤ w.heap.size)
    (h : ∀ v' w', Ownp w' base v' (D ++ E) → Kp (fun i => v.ownBlock = some i) w w' → (v'.ownBlock = v.ownBlock ∨ v'.ownBlock = some w.heap.size) → wpList Try.prog ops Q rest (a.put o.dst v') w') : wpList Try.prog ops Q (o :: rest) a w := by
  refine wpList_append_any hgd s x 66 ho base 74 (.pointer none) 1 8 Try.underlying66 Try.info74 rfl (by decide) v D.length (D.map ptr) hs hown ao m c (E.map ptr) hx (fun e => ⟨?_, hnone e⟩) (by simp [hm]) (fun ad e j u hu => ?_) (fun u hu => by simp at hu; obtain ⟨_, _, rfl⟩ := hu; rfl) (by unfold maxLen; omega) (by omega) hbase (fun v' w' h1 h2 h3 => h v' w' ?_ h2 h3)
  · subst e
    by_cases h0 : E.length = 0
    · omega
    · obtain ⟨b, off, e, _⟩ := hS (by omega)
      cases e
  · have hj : j < E.length := by
      have := (List.getElem?_eq_some_iff.1 hu).1
      simpa using this
    obtain ⟨b, off, e2, _, hc⟩ := hS (by omega)
    rw [e] at e2
    cases e2
    have h4 : u = ptr (E.getD j 0) := by
      rw [List.getElem?_map] at hu
      simp [hj] at hu
      simp [List.getD, hj, hu]
    rw [h4, add_o]
    exact hc j hj
  · unfold Ownp
    simpa [hm] using h1
theorem map_filter {c : Nat → Rn} {L : List Nat} {f : Rn → Bool} : (L.map c).filter f = (L.filter (fun b => f (c b))).map c := by
  rw [List.filter_map]; rfl
/-- What touches does not share. -/
theorem put_shr {R l : List Rn} (hR : Ap R) (hl : ∀ x ∈ l, Mayr x) {y : Rn} (hy : y ∈ R) (ht : tch (pf2 R l) y = true) : shr (pf2 R l) y = false := by
  cases hs : shr (pf2 R l) y with
  | false => rfl
  | true =>
    exfalso
    obtain ⟨⟨a1, a2⟩, ⟨b1, b2⟩, _⟩ := pf_facts hR hl
    have hym := hR.1 y hy
    obtain ⟨p, hp, hb⟩ := (shr_iff b1.1 hym).1 hs
    have key : shr (pf1 l) y = true := by
      rcases (b2 p).1 hb with h | ⟨z, hz, hzp⟩
      · exact (shr_iff a1.1 hym).2 ⟨p, hp, (a2 p).2 h⟩
      · obtain ⟨hzR, hzs⟩ := List.mem_filter.1 hz
        have : y = z := hR.mem_eq hy hzR (by rintro (h | h) <;> (obtain ⟨h1, h2⟩ := hp; obtain ⟨h3, h4⟩ := hzp; omega))
        rw [this]
        exact hzs
    rw [put_apart hR hl hy key] at ht
    cases ht
/-- What Put tells and leaves. -/
def PtR (w : World) (Q B mb me : Nat) (c : Nat → Rn) (v : Value) (L : List Nat) (l : List Rn) (e : Ending) (w' : World) : Prop :=
  ((∃ x ∈ l, ¬ Mayr x) ∧ e = .returned (.tuple #[.int .i64 0, .int .i64 2]) ∧ Kp (fun _ => False) w w') ∨
  ((∀ x ∈ l, Mayr x) ∧ 4096 < (tog (srt (L.map c) ++ l)).length ∧ e = .returned (.tuple #[.int .i64 0, .int .i64 6]) ∧ Kp (fun _ => False) w w') ∨
  ((∀ x ∈ l, Mayr x) ∧ (tog (srt (L.map c) ++ l)).length ≤ 4096 ∧ e = .returned (.tuple #[.int .i64 (sz (tog (srt (L.map c) ++ l)) - sz (L.map c)), .int .i64 0]) ∧ ∃ c' v' L', Tr w (Fp Q B mb me v L) Q B mb me c' v' L' w' ∧ srt (L'.map c') = tog (srt (L.map c) ++ l))
theorem PtR.of {w : World} {Q B mb me : Nat} {c : Nat → Rn} {v : Value} {L W D : List Nat} {l : List Rn} {e : Ending} {w1 w' : World} (hR : Ap (L.map c)) (hl : ∀ x ∈ l, Mayr x) (hlt : ∀ k, Fp Q B mb me v L k → k < w.heap.size) (k1 : Kp (fun _ => False) w w1)
    (h : TnR w1 Q B mb me c v L (prest (L.map c) l ++ pf3 (L.map c) l) e w') : PtR w Q B mb me c v L l e w' := by
  have hi := put_is hR hl
  have ha := (put_ap hR hl).1
  have hln : (prest (L.map c) l ++ pf3 (L.map c) l).length = (tog (srt (L.map c) ++ l)).length := by rw [← hi, (srt_perm _).length_eq]
  have hsz : sz (prest (L.map c) l ++ pf3 (L.map c) l) = sz (tog (srt (L.map c) ++ l)) := by rw [← hi, sz_perm (srt_perm _)]
  rcases h with ⟨h1, h2, h3⟩ | ⟨h1, h2, c', v', L', h3, h4⟩
  · exact .inr (.inl ⟨hl, by omega, h2, k1.trans h3 (fun _ _ h => h)⟩)
  · refine .inr (.inr ⟨hl, by omega, by rw [← hsz]; exact h2, c', v', L', ⟨h3.lc, (k1.mono (fun _ _ h => h.elim)).trans h3.kp (fun _ _ h => h), fun k hk => ?_⟩, ?_⟩)
    · rcases h3.fp k hk with h5 | h5
      · exact .inl h5
      · exact .inr (Nat.le_trans k1.size h5)
    · rw [srt_of_perm (ha.perm h4.symm) h4, hi]
set_option maxRecDepth 100000 in
set_option maxHeartbeats 16000000 in
theorem put_any (c : Nat → Rn) (w : World) (Q B mb me : Nat) (v : Value) (L : List Nat) (h : Lc c w Q B mb me v L) (ao : Option Addr) (n cap : Nat) (l : List Rn) (hl : l.length = n) (hn : n ≤ 10000) (hi : ∀ x ∈ l, x.i6) (hz : ao = none → cap = 0) (hs : Srcr w ao l) :
    Calls Try.prog 22 #[ptr Q, .slice ao n cap] w (PtR w Q B mb me c v L l) := by
  have HH := hid h
  have HS := hid hs
  have HL := hid hl
  have HI := hid hi
  have HZ := hid hz
  have HNO : Hid (∀ U, Kp (fun _ => False) w U → Calls Try.prog 32 #[.pointer (some ⟨Q, 0, none⟩)] U fun e w' => e = .returned (.bool false) ∧ U = w') := fun U hU => none_yes Q B _ _ _ U (h.st.kp hU (fun h => h))
  clear h hs hl hi hz
  unfold ptr
  go_enter Try.func22, Try.ntmps22
  go_wp2_with fail
  refine (HNO.out w (Kp.refl _ _)).mono ?_
  rintro e w0 ⟨rfl, rfl⟩
  go_wp2_with fail
  go_loopw [15] (fun i wr => ∃ k : Nat, i = .int .i64 (k : Int) ∧ k ≤ n ∧ Hid (∀ x ∈ l.take k, Mayr x) ∧ Hid (Kp (fun _ => False) w wr)) (fun i _ => n - (intOf i).toNat)
  case atStart => exact ⟨0, rfl, Nat.zero_le _, (fun x hx => by simp at hx), Kp.refl _ _⟩
  case round =>
    obtain ⟨k, rfl, hk, HM, HK⟩ := hrel
    by_cases hlt : k < n
    · have hkl : k < l.length := by have := HL.out; omega
      obtain ⟨gb, off, rfl, hgb, x0, x1⟩ := (HS.out.kp HK.out (fun _ _ _ _ h => h)).at (i := k) hkl
      have hki : (k : Int) < (n : Int) := by omega
      have HMA := hid (fun U => may_any (l.getD k zRn) U (HI.out _ (gd_mem hkl)))
      have HME := hid (gd_mem hkl)
      have HTK := hid (take_snocr hkl)
      obtain ⟨bl, hbl⟩ : ∃ bl, mayb (l.getD k zRn) = bl := ⟨_, rfl⟩
      have HBL := hid hbl
      rw [hbl] at HMA
      generalize l.getD k zRn = x at *
      obtain ⟨xa, xn⟩ := x
      unfold Rn.cs at HMA
      dsimp only at x0 x1 HMA
      clear hbl
      cases bl with
      | true =>
        go_wp2_with (first | (refine wpList_store_r rfl _ _ rfl _ rfl (e' := ⟨xa, xn⟩) rfl (Rn.B.new wr zRn) ?_; intro W1 s1 k1; have KW : Hid (Kp (fun _ => False) wr W1) := ((Kp.refl (fun _ => False) wr).alloc _).trans k1 (fun i h1 h2 => by omega); have y0 : W1.cell? ⟨wr.heap.size, 0, none⟩ = some (.int .i64 xa) := s1.cell 0; have y1 : W1.cell? ⟨wr.heap.size, 1, none⟩ = some (.int .i64 xn) := s1.cell 1; clear s1 k1 x0 x1) | (go_at_call 44; refine (HMA.out _).mono ?_; rintro e w2 ⟨rfl, b2⟩; have K2 : Hid (Kp (fun _ => False) w w2) := (HK.out.trans KW.out (fun _ _ h => h)).trans (Kp.of_below (F := fun _ => False) b2) (fun _ _ h => h); clear b2 y0 y1))
        go_roundw
        case rel => exact ⟨k + 1, by go_num, hlt, (by rw [HTK.out]; exact may_app HM.out (fun y hy => by simp at hy; subst hy; exact (mayb_iff _).1 HBL.out)), K2⟩
        case measure => simp [intOf]; omega
      | false =>
        go_wp2_with (first | (refine wpList_store_r rfl _ _ rfl _ rfl (e' := ⟨xa, xn⟩) rfl (Rn.B.new wr zRn) ?_; intro W1 s1 k1; have KW : Hid (Kp (fun _ => False) wr W1) := ((Kp.refl (fun _ => False) wr).alloc _).trans k1 (fun i h1 h2 => by omega); have y0 : W1.cell? ⟨wr.heap.size, 0, none⟩ = some (.int .i64 xa) := s1.cell 0; have y1 : W1.cell? ⟨wr.heap.size, 1, none⟩ = some (.int .i64 xn) := s1.cell 1; clear s1 k1 x0 x1) | (go_at_call 44; refine (HMA.out _).mono ?_; rintro e w2 ⟨rfl, b2⟩; have K2 : Hid (Kp (fun _ => False) w w2) := (HK.out.trans KW.out (fun _ _ h => h)).trans (Kp.of_below (F := fun _ => False) b2) (fun _ _ h => h); clear b2 y0 y1))
        go_ret2
        exact .inl ⟨⟨_, HME.out, mayb_false HBL.out⟩, rfl, K2.out⟩
    · obtain rfl : k = n := by omega
      have hki : ¬ (k : Int) < (k : Int) := by omega
      have HMl : Hid (∀ x ∈ l, Mayr x) := by
        have := HM.out
        rwa [List.take_of_length_le (by have := HL.out; omega)] at this
      clear HM
      have HLT : Hid (∀ i, Fp Q B mb me v L i → i < w.heap.size) := fun i hi => HH.out.lt hi
      have hL := HH.out.len
      -- together of what came
      have T1 : Hid (Calls Try.prog 42 #[.slice (some ⟨wr.heap.size, 0, none⟩) 1 1] (wr.alloc (.cells #[.slice ao k cap] 22)) fun e w' => ∃ ao1 cap1, e = .returned (.slice ao1 (pf1 l).length cap1) ∧ Srcr w' ao1 (pf1 l) ∧ (ao1 = none → cap1 = 0) ∧ Kp (fun _ => False) w w') := by
        have hk1 : Kp (fun _ => False) w (wr.alloc (.cells #[.slice ao k cap] 22)) := HK.out.alloc _
        refine (together_any (wr.alloc (.cells #[.slice ao k cap] 22)) wr.heap.size 1 1 [⟨ao, cap, l⟩] rfl (by omega) ?_ ?_ ?_ ?_).mono ?_
        · have := St.new 22 wr #[.slice ao k cap]
          simpa [Sll.v, HL.out] using this
        · intro s hs
          simp at hs
          subst hs
          exact ⟨HS.out.kp hk1 (fun _ _ _ _ h => h), HZ.out⟩
        · have := HL.out; simp [cat]; omega
        · simpa [cat] using HMl.out
        · rintro e w' ⟨v1, rfl, o1, k1⟩
          rw [show cat [⟨ao, cap, l⟩] = l by simp [cat]] at o1
          obtain ⟨ao1, cap1, rfl, s1, _, _, h0⟩ := o1.src
          exact ⟨ao1, cap1, rfl, s1, h0, hk1.trans k1 (fun _ _ h => h)⟩
      go_wp2_with fail
      refine T1.out.mono ?_
      rintro e w1 ⟨ao1, cap1, rfl, s1, z1, k1⟩
      obtain ⟨C1, _⟩ := tog_ok HMl.out
      have HC1 : Hid (Can (pf1 l)) := C1
      have hl1 : (pf1 l).length ≤ 10000 := Nat.le_trans (tog_len HMl.out) (by have := HL.out; omega)
      have W1 : Hid (Calls Try.prog 45 #[.pointer (some ⟨Q, 0, none⟩), .slice ao1 (pf1 l).length cap1] w1 fun e w' => ∃ v', e = .returned v' ∧ Ownp w' w1.heap.size v' (L.filter (fun b => shr (pf1 l) (c b))) ∧ Kp (fun _ => False) w1 w') := within_any c w1 Q B mb me v L (HH.out.kp0 k1) ao1 _ cap1 (pf1 l) rfl (by omega) C1 s1
      have S1 := hid s1
      have Z1 := hid z1
      have K1 := hid k1
      have HL1 := hid hl1
      clear T1 HS HI HZ HK s1 z1 k1 C1 hl1
      go_wp2_with fail
      refine W1.out.mono ?_
      rintro e w2 ⟨v2, rfl, o2, k2⟩
      obtain ⟨R, hR⟩ : ∃ R, R = L.map c := ⟨_, rfl⟩
      have HR := hid hR
      obtain ⟨W, hW⟩ : ∃ W, W = L.filter (fun b => shr (pf1 l) (c b)) := ⟨_, rfl⟩
      rw [← hW] at o2
      have HW := hid hW
      have hWl : W.length ≤ 4096 := by rw [hW]; exact Nat.le_trans (List.length_filter_le _ _) hL
      have HWR : Hid (W.map c = R.filter (shr (pf1 l))) := by show _ = _; rw [hR, hW, map_filter]
      have HWI : Hid (∀ b ∈ W, b ∈ L) := fun b hb => by rw [HW.out] at hb; exact (List.mem_filter.1 hb).1
      have HAP : Hid (Ap R) := by have := HH.out.ap; rw [← HR.out] at this; exact this
      obtain ⟨ao2, cap2, rfl, s2, _, _, _, b2⟩ := o2.src
      have HB2 : Hid (∀ g, (Value.slice ao2 W.length cap2).ownBlock = some g → w1.heap.size ≤ g ∧ g < w2.heap.size) := fun g hg => ⟨o2.blk hg, o2.lt hg⟩
      have R2 : Hid (Calls Try.prog 43 #[.slice ao2 W.length cap2] w2 fun e w' => ∃ g, e = .returned (.slice (some ⟨g, 0, none⟩) W.length W.length) ∧ w2.heap.size ≤ g ∧ Rwr w' g (W.map c) ∧ Kp (fun _ => False) w2 w') := runs_any c w2 ao2 _ cap2 W rfl (by omega) s2 (fun b hb => ((HH.out.kp0 (K1.out.trans k2 (fun _ _ h => h))).ln.wt (HWI.out b hb)))
      have O2 := hid o2
      have K2 := hid k2
      have HWL := hid hWl
      clear W1 o2 k2 s2 b2 hR hW hWl
      go_wp2_with fail
      refine R2.out.mono ?_
      rintro e w3 ⟨g3, rfl, hg3, r3, k3⟩
      have K3 : Hid (Kp (fun _ => False) w1 w3) := K2.out.trans k3 (fun _ _ h => h)
      have K23 := hid k3
      have HF2 : Hid (pf2 R l = tog (pf1 l ++ W.map c)) := by show _ = _; rw [HWR.out]; rfl
      obtain ⟨_, ⟨C2, _⟩, _⟩ := pf_facts HAP.out HMl.out
      have HC2 := hid C2
      have HM2 : Hid (∀ x ∈ pf1 l ++ W.map c, Mayr x) := by rw [HWR.out]; exact may_app HC1.out.1 (may_fil HAP.out.1 _)
      have hl2 : (pf2 R l).length ≤ 20000 := by
        rw [HF2.out]
        refine Nat.le_trans (tog_len HM2.out) ?_
        have := HL1.out
        have := HWL.out
        simp
        omega
      have T2 : Hid (Calls Try.prog 42 #[.slice (some ⟨w3.heap.size, 0, none⟩) 2 2] (w3.alloc (.cells #[.slice ao1 (pf1 l).length cap1, .slice (some ⟨g3, 0, none⟩) W.length W.length] 22)) fun e w' => ∃ ao4 cap4, e = .returned (.slice ao4 (pf2 R l).length cap4) ∧ Srcr w' ao4 (pf2 R l) ∧ (ao4 = none → cap4 = 0) ∧ (∀ b off, ao4 = some ⟨b, off, none⟩ → w3.heap.size ≤ b) ∧ Kp (fun _ => False) w3 w') := by
        refine (together_any _ w3.heap.size 2 2 [⟨ao1, cap1, pf1 l⟩, ⟨some ⟨g3, 0, none⟩, W.length, W.map c⟩] rfl (by omega) ?_ ?_ ?_ ?_).mono ?_
        · have := St.new 22 w3 #[.slice ao1 (pf1 l).length cap1, .slice (some ⟨g3, 0, none⟩) W.length W.length]
          simpa [Sll.v] using this
        · intro s hs
          simp at hs
          rcases hs with rfl | rfl
          · exact ⟨S1.out.kp (K3.out.alloc _) (fun _ _ _ _ h => h), Z1.out⟩
          · exact ⟨r3.src.kp ((Kp.refl (fun _ => False) _).alloc _) (fun _ _ _ _ h => h), fun e => by cases e⟩
        · have := HL1.out; have := HWL.out; simp [cat]; omega
        · simpa [cat] using HM2.out
        · rintro e w' ⟨v1, rfl, o1, k1⟩
          rw [show cat [⟨ao1, cap1, pf1 l⟩, ⟨some ⟨g3, 0, none⟩, W.length, W.map c⟩] = pf1 l ++ W.map c by simp [cat], ← HF2.out] at o1
          obtain ⟨ao1, cap1, rfl, s1, _, _, h0⟩ := o1.src
          refine ⟨ao1, cap1, rfl, s1, h0, fun b off e => ?_, ((Kp.refl (fun _ => False) _).alloc _).trans k1 (fun _ _ h => h)⟩
          subst e
          rcases o1.2 with ⟨e0, _⟩ | ⟨g, cp, cur, e0, hb, _⟩
          · cases e0
          · cases e0; rw [World.size_alloc] at hb; omega
      have R3 := hid r3
      clear R2 k3 r3 C2
      go_wp2_with fail
      refine T2.out.mono ?_
      rintro e w4 ⟨ao4, cap4, rfl, s4, z4, b4, k4⟩
      have K4 : Hid (Kp (fun _ => False) w1 w4) := K3.out.trans k4 (fun _ _ h => h)
      have KW4 : Hid (Kp (fun _ => False) w w4) := K1.out.trans K4.out (fun _ _ h => h)
      have HNB : Hid (∀ b ∈ L, tch (pf2 R l) (c b) = true → shr (pf2 R l) (c b) = false) := fun b hb ht => by
        have hbR : c b ∈ R := by rw [HR.out]; exact List.mem_map_of_mem hb
        exact put_shr HAP.out HMl.out hbR ht
      have B4 : Hid (Calls Try.prog 46 #[.pointer (some ⟨Q, 0, none⟩), .slice ao4 (pf2 R l).length cap4] w4 fun e w' => ∃ ao' cap' D, e = .returned (.slice ao' (D.length) cap') ∧ Srcp w' ao' D ∧ D.Nodup ∧ (∀ b, b ∈ D ↔ b ∈ L ∧ tch (pf2 R l) (c b) = true) ∧ (ao' = none → cap' = 0) ∧ (∀ b off, ao' = some ⟨b, off, none⟩ → w4.heap.size ≤ b) ∧ Kp (fun _ => False) w4 w') := beside_any c w4 Q B mb me v L (HH.out.kp0 KW4.out) ao4 _ cap4 (pf2 R l) rfl (by omega) HC2.out s4 HNB.out
      have S4 := hid s4
      have Z4 := hid z4
      have B4b := hid b4
      have HL2 := hid hl2
      have HS34 : Hid (w2.heap.size ≤ w3.heap.size ∧ w3.heap.size ≤ w4.heap.size) := ⟨K23.out.size, k4.size⟩
      have K24 : Hid (Kp (fun _ => False) w2 w4) := K23.out.trans k4 (fun _ _ h => h)
      clear T2 s4 z4 b4 k4 hl2 hg3
      go_wp2_with fail
      refine B4.out.mono ?_
      rintro e w5 ⟨ao5, cap5, D, rfl, s5, nd5, m5, z5, b5, k5⟩
      have S5 := hid s5
      have ND5 := hid nd5
      have M5 := hid m5
      have Z5 := hid z5
      have B5 := hid b5
      have K5 := hid k5
      have K25 : Hid (Kp (fun _ => False) w2 w5) := K24.out.trans k5 (fun _ _ h => h)
      have KW5 : Hid (Kp (fun _ => False) w w5) := KW4.out.trans k5 (fun _ _ h => h)
      have HDL : Hid (D.length ≤ 4096) := by
        have := (rst_perm HH.out.ln.nodup ND5.out (fun b hb => ((M5.out b).1 hb).1)).length_eq
        simp at this
        show _ ≤ _
        omega
      clear B4 s5 nd5 m5 z5 b5 k5
      have hz1 : w1.heap.size ≤ w5.heap.size := by have := K2.out.size; have := K25.out.size; omega
      go_wp2_with (at_builtin; refine wpList_append_pp rfl _ _ rfl w1.heap.size (.slice ao2 W.length cap2) W rfl (O2.out.kp K25.out (fun _ _ h => h)) ao5 D.length cap5 D rfl rfl Z5.out S5.out (by have := HWL.out; have := HDL.out; omega) hz1 ?_; intro v6 w6 o6 k6 _; have O6 := hid o6; have K56 := hid k6; clear o6 k6)
      have KW6 : Hid (Kp (fun _ => False) w w6) := KW5.out.trans K56.out (fun i hi e => by have := (HB2.out i e).1; have := K1.out.size; omega)
      have S6 : Hid (Srcp w6 ao5 D) := S5.out.kp K56.out (fun _ b off e h => by have := (HB2.out b h).2; have := B5.out b off e; have := HS34.out; omega)
      have S46 : Hid (Srcr w6 ao4 (pf2 R l)) := (S4.out.kp K5.out (fun _ _ _ _ h => h)).kp K56.out (fun b off e _ h => by have := (HB2.out b h).2; have := B4b.out b off e; have := HS34.out; omega)
      have R6 : Hid (Calls Try.prog 43 #[.slice ao5 D.length cap5] w6 fun e w' => ∃ g, e = .returned (.slice (some ⟨g, 0, none⟩) D.length D.length) ∧ w6.heap.size ≤ g ∧ Rwr w' g (D.map c) ∧ Kp (fun _ => False) w6 w') := runs_any c w6 ao5 _ cap5 D rfl (by have := HDL.out; omega) S6.out (fun b hb => ((HH.out.kp0 KW6.out).ln.wt ((M5.out b).1 hb).1))
      clear hz1
      go_wp2_with fail
      refine R6.out.mono ?_
      rintro e w7 ⟨g7, rfl, hg7, r7, k7⟩
      have HMD : Hid (∀ x ∈ D.map c, Mayr x) := fun x hx => by
        obtain ⟨b, hb, rfl⟩ := List.mem_map.1 hx
        exact HH.out.ln.may b ((M5.out b).1 hb).1
      have HM3 : Hid (∀ x ∈ pf2 R l ++ D.map c, Mayr x) := may_app HC2.out.1 HMD.out
      have HF3 : Hid (pf3 R l = tog (pf2 R l ++ D.map c)) := by
        refine tog_bt (may_app HC2.out.1 (may_fil HAP.out.1 _)) HM3.out (fun p => ?_)
        rw [bt_append, bt_append]
        have : Bt (R.filter (tch (pf2 R l))) p ↔ Bt (D.map c) p := by
          constructor
          · rintro ⟨y, hy, hp⟩
            obtain ⟨hyR, hyt⟩ := List.mem_filter.1 hy
            rw [HR.out] at hyR
            obtain ⟨b, hb, rfl⟩ := List.mem_map.1 hyR
            exact ⟨_, List.mem_map_of_mem ((M5.out b).2 ⟨hb, hyt⟩), hp⟩
          · rintro ⟨y, hy, hp⟩
            obtain ⟨b, hb, rfl⟩ := List.mem_map.1 hy
            obtain ⟨h1, h2⟩ := (M5.out b).1 hb
            exact ⟨_, List.mem_filter.2 ⟨by rw [HR.out]; exact List.mem_map_of_mem h1, h2⟩, hp⟩
        rw [this]
      have T7 : Hid (Calls Try.prog 42 #[.slice (some ⟨w7.heap.size, 0, none⟩) 2 2] (w7.alloc (.cells #[.slice ao4 (pf2 R l).length cap4, .slice (some ⟨g7, 0, none⟩) D.length D.length] 22)) fun e w' => ∃ ao8 cap8, e = .returned (.slice ao8 (pf3 R l).length cap8) ∧ Srcr w' ao8 (pf3 R l) ∧ (∀ b off, ao8 = some ⟨b, off, none⟩ → w7.heap.size ≤ b) ∧ Kp (fun _ => False) w7 w') := by
        refine (together_any _ w7.heap.size 2 2 [⟨ao4, cap4, pf2 R l⟩, ⟨some ⟨g7, 0, none⟩, D.length, D.map c⟩] rfl (by omega) ?_ ?_ ?_ ?_).mono ?_
        · have := St.new 22 w7 #[.slice ao4 (pf2 R l).length cap4, .slice (some ⟨g7, 0, none⟩) D.length D.length]
          simpa [Sll.v] using this
        · intro s hs
          simp at hs
          rcases hs with rfl | rfl
          · exact ⟨S46.out.kp (k7.alloc _) (fun _ _ _ _ h => h), Z4.out⟩
          · exact ⟨r7.src.kp ((Kp.refl (fun _ => False) _).alloc _) (fun _ _ _ _ h => h), fun e => by cases e⟩
        · have := HL2.out; have := HDL.out; simp [cat]; omega
        · simpa [cat] using HM3.out
        · rintro e w' ⟨v1, rfl, o1, k1⟩
          rw [show cat [⟨ao4, cap4, pf2 R l⟩, ⟨some ⟨g7, 0, none⟩, D.length, D.map c⟩] = pf2 R l ++ D.map c by simp [cat], ← HF3.out] at o1
          obtain ⟨ao1, cap1, rfl, s1, _, _, h0⟩ := o1.src
          refine ⟨ao1, cap1, rfl, s1, fun b off e => ?_, ((Kp.refl (fun _ => False) _).alloc _).trans k1 (fun _ _ h => h)⟩
          subst e
          rcases o1.2 with ⟨e0, _⟩ | ⟨g, cp, cur, e0, hb, _⟩
          · cases e0
          · cases e0; rw [World.size_alloc] at hb; omega
      have K7 := hid k7
      clear R6 r7 k7 hg7
      go_wp2_with fail
      refine T7.out.mono ?_
      rintro e w8 ⟨ao8, cap8, rfl, s8, b8, k8⟩
      have K68 : Hid (Kp (fun _ => False) w6 w8) := K7.out.trans k8 (fun _ _ h => h)
      have KW8 : Hid (Kp (fun _ => False) w w8) := KW6.out.trans K68.out (fun _ _ h => h)
      have HND : Hid ((W ++ D).Nodup) := by
        refine List.nodup_append.2 ⟨by rw [HW.out]; exact HH.out.ln.nodup.filter _, ND5.out, fun a ha b hb e => ?_⟩
        subst e
        rw [HW.out] at ha
        obtain ⟨h1, h2⟩ := List.mem_filter.1 ha
        have h3 := put_apart HAP.out HMl.out (by rw [HR.out]; exact List.mem_map_of_mem h1) h2
        rw [((M5.out a).1 hb).2] at h3
        cases h3
      have HIN : Hid (∀ b ∈ W ++ D, b ∈ L) := fun b hb => by
        rcases List.mem_append.1 hb with h | h
        · exact HWI.out b h
        · exact ((M5.out b).1 h).1
      have HRS : Hid ((rst L (W ++ D)).map c ++ pf3 R l = prest R l ++ pf3 R l) := by
        show _ = _
        congr 1
        unfold prest
        rw [show R.filter (fun y => !(shr (pf1 l) y || tch (pf2 R l) y)) = (L.filter (fun b => !(shr (pf1 l) (c b) || tch (pf2 R l) (c b)))).map c by
          have := map_filter (c := c) (L := L) (f := fun y => !(shr (pf1 l) y || tch (pf2 R l) y))
          rw [← HR.out] at this
          exact this]
        congr 1
        unfold rst
        refine List.filter_congr (fun b hb => ?_)
        congr 1
        rw [Bool.eq_iff_iff, List.contains_iff_mem, List.mem_append, HW.out, List.mem_filter, M5.out b, Bool.or_eq_true]
        constructor
        · rintro (h | h)
          · exact .inl h.2
          · exact .inr h.2
        · rintro (h | h)
          · exact .inl ⟨hb, h⟩
          · exact .inr ⟨hb, h⟩
      obtain ⟨ao6, cap6, hv6, s6, _, _, _, b6⟩ := (O6.out.kp K68.out (fun _ _ h => h)).src
      obtain ⟨m6, hm6⟩ : ∃ m, m = (W ++ D).length := ⟨_, rfl⟩
      rw [← hm6] at hv6
      subst hv6
      have hl3 : (pf3 R l).length ≤ 1000000 := by
        rw [HF3.out]
        refine Nat.le_trans (tog_len HM3.out) ?_
        have := HL2.out
        have := HDL.out
        simp
        omega
      have TU := hid (turn_any c w8 Q B mb me v L (W ++ D) (pf3 R l) ao6 ao8 m6 cap6 _ cap8 (HH.out.kp0 KW8.out) hm6 rfl hl3 HND.out HIN.out s6 s8 (fun _ b off e hf => by have := (b6 b off e).1; have := HLT.out b hf; have := K1.out.size; omega) (fun _ b off e hf => by have := b8 b off e; have := HLT.out b hf; have := (KW6.out.trans K7.out (fun _ _ h => h)).size; omega) (by rw [HRS.out]; exact (put_ap HAP.out HMl.out).1))
      rw [HRS.out] at TU
      unfold ptr at TU
      clear hm6
      clear T7 s6 s8 b6 b8 hl3 k8
      go_wp2_with fail
      refine TU.out.mono ?_
      intro e w9 ht
      have hfin : PtR w Q B mb me c v L l e w9 := by
        have := HAP.out
        rw [HR.out] at ht this
        exact PtR.of (W := W) (D := D) this HMl.out HLT.out KW8.out ht
      have HFI := hid hfin
      rcases ht with ⟨_, rfl, _⟩ | ⟨_, rfl, _⟩
      · clear hfin
        go_wp2_with fail
        go_ret2
        exact HFI.out
      · clear hfin
        go_wp2_with fail
        go_ret2
        exact HFI.out
end Go.Proofs.Ytgfondgejimkkaa
