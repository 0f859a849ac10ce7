/- flush: the first pieces last. -/
import Derived.Test.YtlnknkeagonmpaaGreatCd
import Derived.Test.YtlnknkeagonmpaaGreatWr
import Derived.Laws.AppendOwnNone
namespace Go.Proofs.YtlnknkeagonmpaaGreat
open Go.RowKit

theorem ovs_high {f : Nat → Int} {sz i : Nat} (ps : List (Nat × List Int)) (hp : ∀ p ∈ ps, p.1 + p.2.length ≤ sz) (h : sz ≤ i) : ovs f ps i = f i := by
  induction ps generalizing f with
  | nil => rfl
  | cons p ps ih =>
    show ovs (ov f p) ps i = f i
    rw [ih (fun q hq => hp q (List.mem_cons_of_mem _ hq)), ov_high (hp p (by simp)) h]
theorem sec_ovs_other (f : Nat → Int) (ps : List (Nat × List Int)) (k : Nat) (h : ∀ p ∈ ps, p.1 % 512 + p.2.length ≤ 512 ∧ k ≠ p.1 / 512) : sec (ovs f ps) k = sec f k := by
  induction ps generalizing f with
  | nil => rfl
  | cons p ps ih =>
    show sec (ovs (ov f p) ps) k = _
    rw [ih (ov f p) (fun q hq => h q (List.mem_cons_of_mem _ hq))]
    exact sec_ov_other f p k (h p (by simp)).1 (h p (by simp)).2
/-- A sector that 'over' has not: no piece touches it. -/
theorem cov_sec {es : List (Int × Value × Nat)} {ps : List (Nat × List Int)} {L : Nat → Int} {k n : Nat} (hc : Cov es ps) (hr : ∀ p ∈ ps, p.1 % 512 + p.2.length ≤ 512) (hk : mget es (k : Int) = none) : sec (ovs L (ps.take n)) k = sec L k :=
  sec_ovs_other L _ k (fun p hp => ⟨hr p (List.mem_of_mem_take hp), fun e => hc p (List.mem_of_mem_take hp) (by rw [← e]; exact hk)⟩)
/-- What flush's loop keeps. -/
structure FlI (D : Nat → Prop) (w : World) (fb lm om : Nat) (pv : Value) (sz : Nat) (L : Nat → Int) (ps : List (Nat × List Int)) (vs : List Value) (eo : List (Int × Value × Nat)) (co : Nat) (k : Nat) (W : World) (D' : Nat → Prop) : Prop where
  st : St 123 W fb #[.int .i64 sz, .map (some lm), .map (some om), pv]
  la : ∃ es c, Sm D' W lm (ovs L (ps.take k)) zero es c
  ov : Sm D' W om (ovs L ps) L eo co
  pc : Pr D' W pv ps vs
  d : ∀ i, D i → D' i
  d2 : ∀ i, D' i → D i ∨ w.heap.size ≤ i
  db : ∀ i, D' i → i < W.heap.size
  kp : Kp (fun i => i = lm) w W
theorem FlI.step {D : Nat → Prop} {w : World} {fb lm om : Nat} {pv : Value} {sz : Nat} {L : Nat → Int} {ps : List (Nat × List Int)} {vs : List Value} {eo : List (Int × Value × Nat)} {co k : Nat} {wr X w3 : World} {D' : Nat → Prop} {p : Nat × List Int} {es : List (Int × Value × Nat)} {c : Nat} (h : FlI D w fb lm om pv sz L ps vs eo co k wr D') (hf : Fr D w ⟨fb, lm, om, pv⟩ sz L ps) (kx : Kp (fun _ => False) wr X) (hk : k < ps.length) (hp : p = ps.getD k (0, [])) (hm : Sm (fun i => D' i ∨ (X.heap.size ≤ i ∧ i < w3.heap.size)) w3 lm (YtlnknkeagonmpaaGreat.ov (ovs L (ps.take k)) p) zero es c) (km : Kp (fun i => i = lm) X w3) : FlI D w fb lm om pv sz L ps vs eo co (k + 1) w3 (fun i => D' i ∨ (X.heap.size ≤ i ∧ i < w3.heap.size)) := by
  have hll : lm < w.heap.size := hf.lt lm ((Fa.mem _ _).2 (.inr (.inl rfl)))
  have hDm : ∀ i, D' i → ¬ i = lm := fun i hi e => by
    rcases h.d2 i hi with h1 | h1
    · exact hf.nd i h1 ((Fa.mem _ _).2 (.inr (.inl e)))
    · omega
  have k13 : Kp (fun i => i = lm) wr w3 := (kx.mono (fun _ _ h => h.elim)).trans km (fun _ _ h => h)
  have hzw := h.kp.size
  have hzx := kx.size
  have hlm := hf.lm_ne
  have hne := hf.ne
  dsimp only at hlm hne
  refine ⟨h.st.kp k13 (fun e => hlm.1 e.symm), ⟨es, c, ?_⟩, (h.ov.kp k13 (fun e => hne e.symm) hDm).mono (fun i _ hi => .inl hi), (h.pc.kp k13 (fun b hb e => (hf.fb_ne hb).2.1 e) hDm).mono (fun i _ hi => .inl hi), fun i hi => .inl (h.d i hi), fun i hi => ?_, fun i hi => ?_, h.kp.trans k13 (fun _ _ h => h)⟩
  · have e : ps.take (k + 1) = ps.take k ++ [p] := by
      rw [List.take_add_one, List.getElem?_eq_getElem hk, hp, List.getD_eq_getElem?_getD, List.getElem?_eq_getElem hk]
      rfl
    rw [e, ovs_snoc]
    exact hm
  · rcases hi with hi | hi
    · exact h.d2 i hi
    · right; omega
  · rcases hi with hi | hi
    · exact Nat.lt_of_lt_of_le (h.db i hi) k13.size
    · exact hi.2
theorem wpList_append_new {w : World} {ops : Array Oper} {rest : List Oper} {o : Oper} {a : Act} {Q : Exit → Act → World → Prop} (hgd : o.guard = none) (s x : Operand)
    (ho : o.op = .call { callee := .builtin .append, args := #[s, x], argTypes := #[121, 121] }) (hs : a.eval s = .slice none 0 0)
    (ao : Option Addr) (m c : Nat) (news : List Value) (hx : a.eval x = .slice ao m c) (hnone : ao = none → m = 0 ∧ c = 0) (hl : news.length = m * 2) (hnews : ∀ ad, ao = some ad → ∀ j u, news[j]? = some u → w.cell? (ad.add j) = some u) (h1 : ∀ u ∈ news, u.oneCell' = true) (hm : m ≤ 1000000000)
    (h : ∀ v' w', w'.ownsRow w.heap.size 133 2 v' m news → Kp (fun _ => False) w w' → (m = 0 → v' = .slice none 0 0) → wpList Tryz.prog ops Q rest (a.put o.dst v') w') : wpList Tryz.prog ops Q (o :: rest) a w := by
  obtain ⟨i0, hi, hz0, hz1, hz2⟩ := info_parts Tryz.info133
  have hown : w.ownsRow w.heap.size 133 2 (.slice none 0 0) 0 [] := ⟨rfl, .inl ⟨rfl, rfl⟩⟩
  cases ao with
  | none =>
    obtain ⟨hm0, hc⟩ := hnone rfl
    subst hm0 hc
    obtain rfl : news = [] := List.eq_nil_of_length_eq_zero hl
    exact wpList_append_own_none hgd s x 121 ho w.heap.size 133 i0 2 Tryz.underlying121 hi (.slice none 0 0) 0 [] hs hown hx (h _ w hown (Kp.refl _ _) (fun _ => rfl))
  | some ad =>
    refine wpList_append_own w hgd s x 121 ho w.heap.size 133 i0 (.agg #[.int .i64 0, .slice none 0 0]) 2 32 Tryz.underlying121 hi hz0 hz1 hz2 rfl (by decide) (.slice none 0 0) 0 [] hs hown ad m c news hx hl (hnews ad rfl) h1 (by unfold maxLen; omega) (by omega) (Nat.le_refl _) ?_
    intro v' w' h2 h3 h4
    rw [Nat.zero_add, List.nil_append] at h2
    exact h v' w' h2 (Kp.of_grown h3 (fun i e => by cases e)) (fun hm0 => h4.2 ⟨rfl, hm0⟩)
theorem pcl_drop (ps : List (Nat × List Int)) (vs : List Value) (n : Nat) : pcl (ps.drop n) (vs.drop n) = (pcl ps vs).drop (n * 2) := by
  induction n generalizing ps vs with
  | zero => simp
  | succ n ih =>
    cases ps with
    | nil => simp [pcl]
    | cons p ps =>
      cases vs with
      | nil => simp [pcl]
      | cons v vs =>
        rw [List.drop_succ_cons, List.drop_succ_cons, ih, show (n + 1) * 2 = n * 2 + 2 by omega]
        rfl
theorem fl_fin {D : Nat → Prop} {w : World} {fb lm om : Nat} {pv : Value} {sz : Nat} {L : Nat → Int} {ps : List (Nat × List Int)} {vs : List Value} {eo : List (Int × Value × Nat)} {co n : Nat} {wr W2 : World} {D' : Nat → Prop} {om' : Nat} {v' : Value} (h : FlI D w fb lm om pv sz L ps vs eo co n wr D') (hf : Fr D w ⟨fb, lm, om, pv⟩ sz L ps) (k : Kp (fun i => i = fb) wr W2) (hs : St 123 W2 fb #[.int .i64 sz, .map (some lm), .map (some om'), v']) (hrow : W2.ownsRow 0 133 2 v' (ps.length - n) (pcl (ps.drop n) (vs.drop n))) (hvo : ∀ b, v'.ownBlock = some b → wr.heap.size ≤ b) (hom : om' = om ∨ wr.heap.size ≤ om') (hov : ∃ es c, Sm D' W2 om' (ovs (ovs L (ps.take n)) (ps.drop n)) (ovs L (ps.take n)) es c ∧ Cov es (ps.drop n)) :
    Fr D' W2 ⟨fb, lm, om', v'⟩ sz (ovs L (ps.take n)) (ps.drop n) ∧ Wk D w (Fa.mk fb lm om pv).own W2 D' (Fa.mk fb lm om' v').own := by
  have hlt := hf.lt
  have hfl : fb < w.heap.size := hlt fb ((Fa.mem _ _).2 (.inl rfl))
  have hll : lm < w.heap.size := hlt lm ((Fa.mem _ _).2 (.inr (.inl rfl)))
  have hol : om < w.heap.size := hlt om ((Fa.mem _ _).2 (.inr (.inr (.inl rfl))))
  have hz := h.kp.size
  have hne := hf.ne
  have hlm := hf.lm_ne
  dsimp only at hne hlm
  have hD : ∀ i, D' i → i ≠ fb ∧ i ≠ lm ∧ i ≠ om ∧ i < wr.heap.size := fun i hi => by
    refine ⟨?_, ?_, ?_, h.db i hi⟩
    all_goals
      intro e
      rcases h.d2 i hi with h1 | h1
      · have h2 := hf.nd i h1
        rw [Fa.mem] at h2
        first
          | exact h2 (.inl e)
          | exact h2 (.inr (.inl e))
          | exact h2 (.inr (.inr (.inl e)))
      · omega
  obtain ⟨el, cl, hla⟩ := h.la
  refine ⟨⟨hs, ⟨el, cl, hla.kp k (fun e => hlm.1 e) (fun i hi => (hD i hi).1)⟩, hov, ⟨vs.drop n, by simp [h.pc.len], fun i hi => ?_, by rw [List.length_drop]; exact hrow⟩, ?_, fun i hi hm => ?_, fun i hi => Nat.lt_of_lt_of_le (h.db i hi) k.size, fun i hi => ?_, fun p hp => hf.pb p (List.mem_of_mem_drop hp), hf.sb, by have := hf.nb; simp; omega⟩, ⟨(h.kp.mono (fun i _ e => ?_)).trans k (fun i _ e => ?_), fun i hi => ?_, h.d, h.d2⟩⟩
  · have := h.pc.bs (n + i) (by simp at hi; omega)
    have e1 : (vs.drop n).getD i undef = vs.getD (n + i) undef := by simp [List.getD, List.getElem?_drop]
    have e2 : (ps.drop n).getD i (0, []) = ps.getD (n + i) (0, []) := by simp [List.getD, List.getElem?_drop]
    rw [e1, e2]
    exact this.kp k (fun j hj => (hD j hj).1)
  · show lm ≠ om'
    rcases hom with e | e
    · rw [e]; exact hne
    · omega
  · have hd := hD i hi
    rcases (Fa.mem _ i).1 hm with e | e | e | e
    · exact hd.1 e
    · exact hd.2.1 e
    · rcases hom with e2 | e2
      · exact hd.2.2.1 (by rw [e]; exact e2)
      · dsimp only at e; omega
    · have := hvo i e; omega
  · rw [ovs_high _ (fun p hp => (hf.pb p (List.mem_of_mem_take hp)).2.2) hi]
    exact hf.lz i hi
  · rw [e]; exact (Fa.mem _ _).2 (.inr (.inl rfl))
  · rw [e]; exact (Fa.mem _ _).2 (.inl rfl)
  · rcases (Fa.mem _ i).1 hi with e | e | e | e
    · exact .inl ((Fa.mem _ _).2 (.inl e))
    · exact .inl ((Fa.mem _ _).2 (.inr (.inl e)))
    · rcases hom with e2 | e2
      · exact .inl ((Fa.mem _ _).2 (.inr (.inr (.inl (by rw [e]; exact e2)))))
      · right; dsimp only at e; omega
    · right; have := hvo i e; omega
theorem pcl_one (ps : List (Nat × List Int)) (vs : List Value) (h : ∀ v ∈ vs, v.oneCell' = true) : ∀ u ∈ pcl ps vs, u.oneCell' = true := by
  induction ps generalizing vs with
  | nil => intro u hu; simp [pcl] at hu
  | cons p ps ih =>
    cases vs with
    | nil => intro u hu; simp [pcl] at hu
    | cons v vs =>
      intro u hu
      simp only [pcl, List.mem_cons] at hu
      rcases hu with rfl | rfl | hu
      · rfl
      · exact h _ (by simp)
      · exact ih vs (fun x hx => h x (List.mem_cons_of_mem _ hx)) u hu
theorem Pr.one {D : Nat → Prop} {w : World} {pv : Value} {ps : List (Nat × List Int)} {vs : List Value} (h : Pr D w pv ps vs) : ∀ v ∈ vs, v.oneCell' = true := by
  intro v hv
  obtain ⟨i, hi⟩ := List.getElem?_of_mem hv
  have hil := (List.getElem?_eq_some_iff.1 hi).1
  obtain ⟨g, off, cap, e, _⟩ := (h.bs i (by rw [← h.len]; exact hil)).le
  have : vs.getD i undef = v := by rw [List.getD_eq_getElem?_getD, hi]; rfl
  rw [← this, e]
  rfl
theorem Pr.rowoff {D : Nat → Prop} {w : World} {ao : Option Addr} {cap n : Nat} {ps : List (Nat × List Int)} {vs : List Value} (h : Pr D w (.slice ao n cap) ps vs) (hc : 0 < cap) : ∃ g off, ao = some ⟨g, off, none⟩ ∧ ∀ j u, (pcl ps vs)[j]? = some u → w.cell? ⟨g, off + j, none⟩ = some u := by
  rcases h.row.2 with ⟨h1, _⟩ | ⟨g, cap', cur, h1, _, h2, _, _, _, h6⟩
  · simp only [Value.slice.injEq] at h1; omega
  · simp only [Value.slice.injEq] at h1
    refine ⟨g, 0, h1.1, fun j u hu => (cell_of_row w g _ _ 133 _ h2).trans ?_⟩
    rw [← h6, List.getElem?_take] at hu
    rw [Nat.zero_add]
    split at hu
    · simpa using hu
    · cases hu
set_option maxRecDepth 100000 in
set_option maxHeartbeats 4000000 in
theorem flush_any (D : Nat → Prop) (w : World) (a : Fa) (sz : Nat) (L : Nat → Int) (ps : List (Nat × List Int)) (hf : Fr D w a sz L ps) (n : Nat) (hn : n ≤ ps.length) :
    Calls Tryz.prog 54 #[.pointer (some ⟨a.fb, 0, none⟩), .int .i64 n] w fun e w' => e = .returned (.tuple #[]) ∧ ∃ D' a', a'.fb = a.fb ∧ Fr D' w' a' sz (ovs L (ps.take n)) (ps.drop n) ∧ Wk D w a.own w' D' a'.own := by
  have HF : Hid (Fr D w a sz L ps) := hf
  obtain ⟨fb, lm, om, pv⟩ := a
  dsimp only at *
  obtain ⟨vs, hpr⟩ := hf.pc
  obtain ⟨eo, co, hov, hcv⟩ := hf.ov
  have hla := hf.la
  dsimp only at hpr hov hla
  obtain ⟨pao, pcap, hpv⟩ := ownsRow_shape hpr.row
  subst hpv
  have c3 : w.cell? ⟨fb, 3, none⟩ = some (.slice pao ps.length pcap) := hf.st.cell 3
  have hnb := hf.nb
  have H0 : Hid (FlI D w fb lm om (.slice pao ps.length pcap) sz L ps vs eo co 0 w D) := ⟨hf.st, hla, hov, hpr, fun _ h => h, fun _ h => .inl h, hf.db, Kp.refl _ _⟩
  have HCV : Hid (Cov eo ps) := hcv
  have HPR : Hid (Pr D w (.slice pao ps.length pcap) ps vs) := hpr
  have hcl : ps.length ≤ pcap := by
    rcases hpr.row.2 with ⟨h1, h2⟩ | ⟨g, cap, cur, h1, _, _, h2, _⟩
    · omega
    · simp only [Value.slice.injEq] at h1; omega
  have hn2 : n ≤ pcap := by omega
  clear hf hla hov hcv hpr
  go_enter Tryz.func54, Tryz.ntmps54
  go_wp2_with fail
  go_loopw [5, 13] (fun _ iv wr => ∃ (k : Nat) (D' : Nat → Prop), k ≤ n ∧ iv = .int .i64 k ∧ FlI D w fb lm om (.slice pao ps.length pcap) sz L ps vs eo co k wr D') (fun _ iv _ => n - (intOf iv).toNat)
  case atStart => exact ⟨0, D, Nat.zero_le _, rfl, H0.out⟩
  case round =>
    clear H0 c3
    obtain ⟨k, D', hk, rfl, hI⟩ := hrel
    have HI : Hid (FlI D w fb lm om (.slice pao ps.length pcap) sz L ps vs eo co k wr D') := hI
    clear hI
    by_cases hlt : k < n
    · have hkl : k < ps.length := by omega
      obtain ⟨g, off, cap', hpe, hgl, hgo, hcs⟩ := HI.out.pc.cells (by omega)
      obtain ⟨rfl, rfl⟩ : pao = some ⟨g, off, none⟩ ∧ pcap = cap' := by
        simp only [Value.slice.injEq] at hpe; exact ⟨hpe.1, hpe.2.2⟩
      obtain ⟨y0, y1⟩ := hcs k hkl
      have hbs := HI.out.pc.bs k hkl
      have hpb := HF.out.pb (ps.getD k (0, [])) (getD_mem2 ps k hkl)
      obtain ⟨⟨p, xs⟩, hpx⟩ : ∃ t, t = ps.getD k (0, []) := ⟨_, rfl⟩
      rw [← hpx] at y0 hbs hpb
      dsimp only at y0 hbs hpb
      obtain ⟨pvv, hpvv⟩ : ∃ t, t = vs.getD k undef := ⟨_, rfl⟩
      rw [← hpvv] at y1 hbs
      obtain ⟨pg, po, pc, hpq, -⟩ := hbs.le
      subst hpq
      have HBS : Hid (Bs D' wr (.slice (some ⟨pg, po, none⟩) xs.length pc) xs) := hbs
      have HPX : Hid ((p, xs) = ps.getD k (0, [])) := hpx
      obtain ⟨xl, hxl⟩ : ∃ x, x = xs.length := ⟨_, rfl⟩
      rw [← hxl] at HBS y1 hpb
      have HXL : Hid (xl = xs.length) := hxl
      have t1 : wr.cell? ⟨fb, 1, none⟩ = some (.map (some lm)) := HI.out.st.cell 1
      clear hcs hpe hgo hbs hpx hpvv hxl
      go_wp2_with fail
      have st := St.new 133 wr #[.int .i64 p, .slice (some ⟨pg, po, none⟩) xl pc]
      have k1 : Kp (fun _ => False) wr (wr.alloc (.cells #[.int .i64 p, .slice (some ⟨pg, po, none⟩) xl pc] 133)) := (Kp.refl _ _).alloc _
      generalize wr.alloc (.cells #[.int .i64 p, .slice (some ⟨pg, po, none⟩) xl pc] 133) = W1 at st k1 ⊢
      have q0 : W1.cell? ⟨wr.heap.size, 0, none⟩ = some (.int .i64 p) := st.cell 0
      have q1 : W1.cell? ⟨wr.heap.size, 1, none⟩ = some (.slice (some ⟨pg, po, none⟩) xl pc) := st.cell 1
      have e1 : W1.cell? ⟨fb, 1, none⟩ = some (.map (some lm)) := kp_cell k1 t1 (fun h => h)
      clear t1 y0 y1 st
      have HK1 : Hid (Kp (fun _ => False) wr W1) := k1
      clear k1
      refine wp_region_tail hmix (by kernel_rfl) ?_
      dsimp only [List.dropLast, List.getLast]
      repeat (gi_big_quiet_step (fail))
      refine wpQuietIn_nil ?_
      intro _ hw'
      obtain ⟨nq, hw2⟩ := hw'
      subst hw2
      have kq := drewN_kp (fun _ => False) W1 nq
      generalize W1.drewN nq = X at kq ⊢
      obtain ⟨es1, cs1, hsm⟩ := HI.out.la
      have kx : Kp (fun _ => False) wr X := HK1.out.trans kq (fun _ _ h => h)
      gi_wp2_with fail
      refine ⟨trivial, rfl, ?_⟩
      refine (callsIn_wide.2 ((hsm.kp kx (fun h => h) (fun _ _ h => h)).putp p xs (.slice (some ⟨pg, po, none⟩) xl pc) (by rw [← HXL.out]; omega) (by rw [← HXL.out]; omega) (by have := HF.out.sb; rw [← HXL.out]; omega) (HBS.out.kp kx (fun _ _ h => h)) ?_ ?_)).mono ?_
      · intro hD
        rcases HI.out.d2 _ hD with h1 | h1
        · exact HF.out.nd _ h1 ((Fa.mem _ _).2 (.inr (.inl rfl)))
        · have := HF.out.lt lm ((Fa.mem _ _).2 (.inr (.inl rfl))); omega
      · exact fun h => hsm.no _ h
      rintro e w3 ⟨rfl, es3, c3, sm3, k3, -⟩
      have HC : Hid (FlI D w fb lm om (.slice (some ⟨g, off, none⟩) ps.length pcap) sz L ps vs eo co (k + 1) w3 (fun i => D' i ∨ (X.heap.size ≤ i ∧ i < w3.heap.size))) := HI.out.step HF.out kx hkl HPX.out sm3 k3
      clear sm3 k3 e1 q0 q1 hsm kq kx
      gi_wp2
      go_wp2
      exact ⟨⟨k + 1, _, hlt, rfl, HC.out⟩, by simp only [intOf]; omega⟩
    · obtain rfl : k = n := by omega
      have t3 : wr.cell? ⟨fb, 3, none⟩ = some (.slice pao ps.length pcap) := HI.out.st.cell 3
      clear hlt
      have hmm := @run_makeMap Tryz.prog
      by_cases hpc : pcap = k
      · have hlk : ps.length = k := by omega
        go_wp2_with (first | (at_builtin; refine wpList_append_new rfl (.const (.slice none 0 0)) (.tmp 30) rfl rfl pao 0 0 [] (by first | rfl | simp [Act.eval]) (fun _ => ⟨rfl, rfl⟩) rfl (fun _ _ j u h => by simp at h) (fun u h => by simp at h) (by omega) ?_; intro v' w2 r2 k2 z2; obtain rfl := z2 rfl; have st2 := HI.out.st.kp k2 (fun h => h); have f3 := st2.frozen 3; have g3 : w2.cell? ⟨fb, 3, none⟩ = some (.slice pao ps.length pcap) := st2.cell 3; have st4 : St 123 ((w2.setCell ⟨fb, 3, none⟩ (.slice none 0 0)).alloc (.map #[] 0)) fb #[.int .i64 sz, .map (some lm), .map (some om), .slice none 0 0] := (st2.set 3 (.slice none 0 0)).kp (F := fun _ => False) ((Kp.refl _ _).alloc _) (fun h => h); have g2 : ((w2.setCell ⟨fb, 3, none⟩ (.slice none 0 0)).alloc (.map #[] 0)).cell? ⟨fb, 2, none⟩ = some (.map (some om)) := st4.cell 2; have f2 := st4.frozen 2; have ST4 : Hid (St 123 ((w2.setCell ⟨fb, 3, none⟩ (.slice none 0 0)).alloc (.map #[] 0)) fb #[.int .i64 sz, .map (some lm), .map (some om), .slice none 0 0]) := st4; have K2 : Hid (Kp (fun _ => False) wr w2) := k2; clear st4 st2 k2 r2 z2))
        have k2 := K2.out
        have kA : Kp (fun i => i = fb) wr ((w2.setCell ⟨fb, 3, none⟩ (.slice none 0 0)).alloc (.map #[] 0)) := (((k2.mono (fun _ _ h => h.elim)).trans (kp_setCell w2 fb 3 (.slice none 0 0) (fun i => i = fb) rfl) (fun _ _ h => h))).alloc _
        have hsz : (w2.setCell ⟨fb, 3, none⟩ (.slice none 0 0)).heap.size = w2.heap.size := by simp
        have m4 := Mp.new (Value.int .i64) (w2.setCell ⟨fb, 3, none⟩ (.slice none 0 0))
        rw [hsz] at m4
        have st5 := ST4.out.set 2 (.map (some w2.heap.size))
        have kB := kp_setCell ((w2.setCell ⟨fb, 3, none⟩ (.slice none 0 0)).alloc (.map #[] 0)) fb 2 (.map (some w2.heap.size)) (fun i => i = fb) rfl
        have hz2 := k2.size
        have hfw : fb < wr.heap.size := HI.out.st.lt
        have m5 := kp_mp m4 kB (by omega)
        have hdn : ps.drop k = [] := List.drop_eq_nil_of_le (by omega)
        have fin := fl_fin (om' := w2.heap.size) (v' := .slice none 0 0) HI.out HF.out (kA.trans kB (fun _ _ h => h)) st5 (by rw [hdn, show ps.length - k = 0 by omega]; exact ⟨rfl, .inl ⟨rfl, rfl⟩⟩) (fun b hb => by cases hb) (.inr hz2) (by rw [hdn]; exact ⟨[], 0, ⟨m5, (fun _ h => by cases h), (fun _ _ h => by cases h), fun _ _ => rfl⟩, fun p hp => by cases hp⟩)
        go_end0
        exact ⟨rfl, D', _, rfl, fin⟩
      · have hcp : 0 < pcap := by omega
        obtain ⟨g, off, hpa, hcs⟩ := HI.out.pc.rowoff hcp
        subst hpa
        have hkc : k < pcap := by omega
        by_cases hm0 : ps.length = k
        · have hlk : ps.length = k := hm0
          go_wp2_with (first | (at_builtin; refine wpList_append_new rfl (.const (.slice none 0 0)) (.tmp 30) rfl rfl (some ⟨g, off + k * 2, none⟩) 0 (pcap - k) [] (by first | rfl | simp [Act.eval]) (fun h => by cases h) rfl (fun _ _ j u h => by simp at h) (fun u h => by simp at h) (by omega) ?_; intro v' w2 r2 k2 z2; obtain rfl := z2 rfl; have st2 := HI.out.st.kp k2 (fun h => h); have f3 := st2.frozen 3; have g3 : w2.cell? ⟨fb, 3, none⟩ = some (.slice (some ⟨g, off, none⟩) ps.length pcap) := st2.cell 3; have st4 : St 123 ((w2.setCell ⟨fb, 3, none⟩ (.slice none 0 0)).alloc (.map #[] 0)) fb #[.int .i64 sz, .map (some lm), .map (some om), .slice none 0 0] := (st2.set 3 (.slice none 0 0)).kp (F := fun _ => False) ((Kp.refl _ _).alloc _) (fun h => h); have g2 : ((w2.setCell ⟨fb, 3, none⟩ (.slice none 0 0)).alloc (.map #[] 0)).cell? ⟨fb, 2, none⟩ = some (.map (some om)) := st4.cell 2; have f2 := st4.frozen 2; have ST4 : Hid (St 123 ((w2.setCell ⟨fb, 3, none⟩ (.slice none 0 0)).alloc (.map #[] 0)) fb #[.int .i64 sz, .map (some lm), .map (some om), .slice none 0 0]) := st4; have K2 : Hid (Kp (fun _ => False) wr w2) := k2; clear st4 st2 k2 r2 z2))
          have k2 := K2.out
          have kA : Kp (fun i => i = fb) wr ((w2.setCell ⟨fb, 3, none⟩ (.slice none 0 0)).alloc (.map #[] 0)) := (((k2.mono (fun _ _ h => h.elim)).trans (kp_setCell w2 fb 3 (.slice none 0 0) (fun i => i = fb) rfl) (fun _ _ h => h))).alloc _
          have hsz : (w2.setCell ⟨fb, 3, none⟩ (.slice none 0 0)).heap.size = w2.heap.size := by simp
          have m4 := Mp.new (Value.int .i64) (w2.setCell ⟨fb, 3, none⟩ (.slice none 0 0))
          rw [hsz] at m4
          have st5 := ST4.out.set 2 (.map (some w2.heap.size))
          have kB := kp_setCell ((w2.setCell ⟨fb, 3, none⟩ (.slice none 0 0)).alloc (.map #[] 0)) fb 2 (.map (some w2.heap.size)) (fun i => i = fb) rfl
          have hz2 := k2.size
          have hfw : fb < wr.heap.size := HI.out.st.lt
          have m5 := kp_mp m4 kB (by omega)
          have hdn : ps.drop k = [] := List.drop_eq_nil_of_le (by omega)
          have fin := fl_fin (om' := w2.heap.size) (v' := .slice none 0 0) HI.out HF.out (kA.trans kB (fun _ _ h => h)) st5 (by rw [hdn, show ps.length - k = 0 by omega]; exact ⟨rfl, .inl ⟨rfl, rfl⟩⟩) (fun b hb => by cases hb) (.inr hz2) (by rw [hdn]; exact ⟨[], 0, ⟨m5, (fun _ h => by cases h), (fun _ _ h => by cases h), fun _ _ => rfl⟩, fun p hp => by cases hp⟩)
          go_end0
          exact ⟨rfl, D', _, rfl, fin⟩
        · have hkl : k < ps.length := by omega
          have hsub : ((ps.length - k : Nat) : Int) ≠ 0 := by omega
          have hsb : (((ps.length - k : Nat) : Int) == 0) = false := by simpa using hsub
          go_wp2_with (first | (at_builtin; refine wpList_append_new rfl (.const (.slice none 0 0)) (.tmp 30) rfl rfl (some ⟨g, off + k * 2, none⟩) (ps.length - k) (pcap - k) (pcl (ps.drop k) (vs.drop k)) (by first | rfl | simp [Act.eval]) (fun h => by cases h) (by rw [pcl_len _ _ (by simp [HI.out.pc.len]), List.length_drop]) (fun ad e j u h => by cases e; rw [pcl_drop, List.getElem?_drop] at h; rw [add_o, Nat.add_assoc]; exact hcs _ u h) (fun u h => pcl_one _ _ (fun x hx => HI.out.pc.one x (List.mem_of_mem_drop hx)) u h) (by omega) ?_; intro v' w2 r2 k2 z2; obtain ⟨ao', c', rfl⟩ := ownsRow_shape r2; have st2 := HI.out.st.kp k2 (fun h => h); have f3 := st2.frozen 3; have g3 : w2.cell? ⟨fb, 3, none⟩ = some (.slice (some ⟨g, off, none⟩) ps.length pcap) := st2.cell 3; have ST2 : Hid (St 123 w2 fb #[.int .i64 sz, .map (some lm), .map (some om), .slice (some ⟨g, off, none⟩) ps.length pcap]) := st2; have K2 : Hid (Kp (fun _ => False) wr w2) := k2; have R2 : Hid (w2.ownsRow wr.heap.size 133 2 (.slice ao' (ps.length - k) c') (ps.length - k) (pcl (ps.drop k) (vs.drop k))) := r2; clear st2 k2 r2 z2))
          have k2 := K2.out
          have hfw : fb < wr.heap.size := HI.out.st.lt
          have kB := kp_setCell w2 fb 3 (.slice ao' (ps.length - k) c') (fun i => i = fb) rfl
          have kA : Kp (fun i => i = fb) wr (w2.setCell ⟨fb, 3, none⟩ (.slice ao' (ps.length - k) c')) := (k2.mono (fun _ _ h => h.elim)).trans kB (fun _ _ h => h)
          have st3 := ST2.out.set 3 (.slice ao' (ps.length - k) c')
          have hvo : ∀ b, (Value.slice ao' (ps.length - k) c').ownBlock = some b → wr.heap.size ≤ b := by
            intro b hb
            rcases R2.out.2 with ⟨h4, _⟩ | ⟨gg, cap, cur, h4, h5, _⟩
            · rw [h4] at hb; cases hb
            · rw [h4] at hb
              have : gg = b := by simpa [Value.ownBlock] using hb
              omega
          have hrow : (w2.setCell ⟨fb, 3, none⟩ (.slice ao' (ps.length - k) c')).ownsRow 0 133 2 (.slice ao' (ps.length - k) c') (ps.length - k) (pcl (ps.drop k) (vs.drop k)) := by
            refine ⟨R2.out.1, ?_⟩
            rcases R2.out.2 with h4 | ⟨gg, cap, cur, h4, h5, h6, h7⟩
            · exact .inl h4
            · exact .inr ⟨gg, cap, cur, h4, Nat.zero_le _, (heap_setCell_other _ _ _ _ (by show gg ≠ fb; omega)).trans h6, h7⟩
          have hov : Sm D' (w2.setCell ⟨fb, 3, none⟩ (.slice ao' (ps.length - k) c')) om (ovs (ovs L (ps.take k)) (ps.drop k)) (ovs L (ps.take k)) eo co := by
            rw [← ovs_append, List.take_append_drop]
            have hDf : ∀ i, D' i → ¬ i = fb := fun i hi e => by
              rcases HI.out.d2 i hi with h1 | h1
              · exact HF.out.nd i h1 ((Fa.mem _ _).2 (.inl e))
              · have := HF.out.lt fb ((Fa.mem _ _).2 (.inl rfl)); omega
            have hs := HI.out.ov.kp kA (fun e => HF.out.lm_ne.2 e) hDf
            exact ⟨hs.mp, hs.ks, hs.so, fun j hj => by rw [hs.no j hj, cov_sec HCV.out (fun p hp => (HF.out.pb p hp).2.1) hj]⟩
          have fin := fl_fin (om' := om) (v' := .slice ao' (ps.length - k) c') HI.out HF.out kA st3 hrow hvo (.inl rfl) ⟨eo, co, hov, fun p hp => HCV.out p (List.mem_of_mem_drop hp)⟩
          go_end0
          exact ⟨rfl, D', _, rfl, fin⟩
end Go.Proofs.YtlnknkeagonmpaaGreat
