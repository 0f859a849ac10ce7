import Derived.Test.YtnccklbnncaeoaaGreatJaj
import Derived.Test.YtnccklbnncaeoaaGreatJae
import Derived.Test.YtnccklbnncaeoaaGreatJaf
import Derived.Test.YtnccklbnncaeoaaGreatJad
import Derived.Test.YtnccklbnncaeoaaGreatJai
import Derived.Test.YtnccklbnncaeoaaGreatJab
import Derived.Laws.AppendOwnNone
/- flush: the first pieces last. -/
namespace Go.Proofs.YtnccklbnncaeoaaGreat
open Go.RowKit

theorem ovs_high {f : Nat → Int} {sz i : Nat} (ps : List (Nat × List Int)) (hp : ∀ p ∈ ps, p.1 + p.2.length ≤ sz) (h : sz ≤ i) : ovs f ps i = f i := by
  induction ps generalizing f with
  | nil => rfl
  | cons p ps ih =>
    show ovs (ov f p) ps i = f i
    rw [ih (fun q hq => hp q (List.mem_cons_of_mem _ hq)), ov_high (hp p (by simp)) h]
theorem sec_ovs_other (f : Nat → Int) (ps : List (Nat × List Int)) (k : Nat) (h : ∀ p ∈ ps, p.1 % 512 + p.2.length ≤ 512 ∧ k ≠ p.1 / 512) : sec (ovs f ps) k = sec f k := by
  induction ps generalizing f with
  | nil => rfl
  | cons p ps ih =>
    show sec (ovs (ov f p) ps) k = _
    rw [ih (ov f p) (fun q hq => h q (List.mem_cons_of_mem _ hq))]
    exact sec_ov_other f p k (h p (by simp)).1 (h p (by simp)).2
/-- A sector that 'over' has not: no piece touches it. -/
theorem cov_sec {es : List (Int × Value × Nat)} {ps : List (Nat × List Int)} {L : Nat → Int} {k n : Nat} (hc : Cov es ps) (hr : ∀ p ∈ ps, p.1 % 512 + p.2.length ≤ 512) (hk : mget es (k : Int) = none) : sec (ovs L (ps.take n)) k = sec L k :=
  sec_ovs_other L _ k (fun p hp => ⟨hr p (List.mem_of_mem_take hp), fun e => hc p (List.mem_of_mem_take hp) (by rw [← e]; exact hk)⟩)
/-- What flush's loop keeps. -/
structure FlI (D : Nat → Prop) (w : World) (fb lm om : Nat) (pv : Value) (sz : Nat) (L : Nat → Int) (ps : List (Nat × List Int)) (vs : List Value) (eo : List (Int × Value × Nat)) (co : Nat) (k : Nat) (W : World) (D' : Nat → Prop) : Prop where
  st : St 164 W fb #[.int .i64 sz, .map (some lm), .map (some om), pv]
  la : ∃ es c, Sm D' W lm (ovs L (ps.take k)) zero es c
  ov : Sm D' W om (ovs L ps) L eo co
  pc : Pr D' W pv ps vs
  d : ∀ i, D i → D' i
  d2 : ∀ i, D' i → D i ∨ w.heap.size ≤ i
  db : ∀ i, D' i → i < W.heap.size
  kp : Kp (fun i => i = lm) w W
theorem FlI.step {D : Nat → Prop} {w : World} {fb lm om : Nat} {pv : Value} {sz : Nat} {L : Nat → Int} {ps : List (Nat × List Int)} {vs : List Value} {eo : List (Int × Value × Nat)} {co k : Nat} {wr X w3 : World} {D' : Nat → Prop} {p : Nat × List Int} {es : List (Int × Value × Nat)} {c : Nat} (h : FlI D w fb lm om pv sz L ps vs eo co k wr D') (hf : Fr D w ⟨fb, lm, om, pv⟩ sz L ps) (kx : Kp (fun _ => False) wr X) (hk : k < ps.length) (hp : p = ps.getD k (0, [])) (hm : Sm (fun i => D' i ∨ (X.heap.size ≤ i ∧ i < w3.heap.size)) w3 lm (YtnccklbnncaeoaaGreat.ov (ovs L (ps.take k)) p) zero es c) (km : Kp (fun i => i = lm) X w3) : FlI D w fb lm om pv sz L ps vs eo co (k + 1) w3 (fun i => D' i ∨ (X.heap.size ≤ i ∧ i < w3.heap.size)) := by
  have hll : lm < w.heap.size := hf.lt lm ((Fa.mem _ _).2 (.inr (.inl rfl)))
  have hDm : ∀ i, D' i → ¬ i = lm := fun i hi e => by
    rcases h.d2 i hi with h1 | h1
    · exact hf.nd i h1 ((Fa.mem _ _).2 (.inr (.inl e)))
    · omega
  have k13 : Kp (fun i => i = lm) wr w3 := (kx.mono (fun _ _ h => h.elim)).trans km (fun _ _ h => h)
  have hzw := h.kp.size
  have hzx := kx.size
  have hlm := hf.lm_ne
  have hne := hf.ne
  dsimp only at hlm hne
  refine ⟨h.st.kp k13 (fun e => hlm.1 e.symm), ⟨es, c, ?_⟩, (h.ov.kp k13 (fun e => hne e.symm) hDm).mono (fun i _ hi => .inl hi), (h.pc.kp k13 (fun b hb e => (hf.fb_ne hb).2.1 e) hDm).mono (fun i _ hi => .inl hi), fun i hi => .inl (h.d i hi), fun i hi => ?_, fun i hi => ?_, h.kp.trans k13 (fun _ _ h => h)⟩
  · have e : ps.take (k + 1) = ps.take k ++ [p] := by
      rw [List.take_add_one, List.getElem?_eq_getElem hk, hp, List.getD_eq_getElem?_getD, List.getElem?_eq_getElem hk]
      rfl
    rw [e, ovs_snoc]
    exact hm
  · rcases hi with hi | hi
    · exact h.d2 i hi
    · right; omega
  · rcases hi with hi | hi
    · exact Nat.lt_of_lt_of_le (h.db i hi) k13.size
    · exact hi.2
theorem wpList_append_new {w : World} {ops : Array Oper} {rest : List Oper} {o : Oper} {a : Act} {Q : Exit → Act → World → Prop} (hgd : o.guard = none) (s x : Operand)
    (ho : o.op = .call { callee := .builtin .append, args := #[s, x], argTypes := #[162, 162] }) (hs : a.eval s = .slice none 0 0)
    (ao : Option Addr) (m c : Nat) (news : List Value) (hx : a.eval x = .slice ao m c) (hnone : ao = none → m = 0 ∧ c = 0) (hl : news.length = m * 2) (hnews : ∀ ad, ao = some ad → ∀ j u, news[j]? = some u → w.cell? (ad.add j) = some u) (h1 : ∀ u ∈ news, u.oneCell' = true) (hm : m ≤ 1000000000)
    (h : ∀ v' w', w'.ownsRow w.heap.size 215 2 v' m news → Kp (fun _ => False) w w' → (m = 0 → v' = .slice none 0 0) → wpList Tryz.prog ops Q rest (a.put o.dst v') w') : wpList Tryz.prog ops Q (o :: rest) a w := by
  obtain ⟨i0, hi, hz0, hz1, hz2⟩ := info_parts Tryz.info215
  have hown : w.ownsRow w.heap.size 215 2 (.slice none 0 0) 0 [] := ⟨rfl, .inl ⟨rfl, rfl⟩⟩
  cases ao with
  | none =>
    obtain ⟨hm0, hc⟩ := hnone rfl
    subst hm0 hc
    obtain rfl : news = [] := List.eq_nil_of_length_eq_zero hl
    exact wpList_append_own_none hgd s x 162 ho w.heap.size 215 i0 2 Tryz.underlying162 hi (.slice none 0 0) 0 [] hs hown hx (h _ w hown (Kp.refl _ _) (fun _ => rfl))
  | some ad =>
    refine wpList_append_own w hgd s x 162 ho w.heap.size 215 i0 (.agg #[.int .i64 0, .slice none 0 0]) 2 32 Tryz.underlying162 hi hz0 hz1 hz2 rfl (by decide) (.slice none 0 0) 0 [] hs hown ad m c news hx hl (hnews ad rfl) h1 (by unfold maxLen; omega) (by omega) (Nat.le_refl _) ?_
    intro v' w' h2 h3 h4
    rw [Nat.zero_add, List.nil_append] at h2
    exact h v' w' h2 (Kp.of_grown h3 (fun i e => by cases e)) (fun hm0 => h4.2 ⟨rfl, hm0⟩)
theorem pcl_drop (ps : List (Nat × List Int)) (vs : List Value) (n : Nat) : pcl (ps.drop n) (vs.drop n) = (pcl ps vs).drop (n * 2) := by
  induction n generalizing ps vs with
  | zero => simp
  | succ n ih =>
    cases ps with
    | nil => simp [pcl]
    | cons p ps =>
      cases vs with
      | nil => simp [pcl]
      | cons v vs =>
        rw [List.drop_succ_cons, List.drop_succ_cons, ih, show (n + 1) * 2 = n * 2 + 2 by omega]
        rfl
theorem fl_fin {D : Nat → Prop} {w : World} {fb lm om : Nat} {pv : Value} {sz : Nat} {L : Nat → Int} {ps : List (Nat × List Int)} {vs : List Value} {eo : List (Int × Value × Nat)} {co n : Nat} {wr W2 : World} {D' : Nat → Prop} {om' : Nat} {v' : Value} (h : FlI D w fb lm om pv sz L ps vs eo co n wr D') (hf : Fr D w ⟨fb, lm, om, pv⟩ sz L ps) (k : Kp (fun i => i = fb) wr W2) (hs : St 164 W2 fb #[.int .i64 sz, .map (some lm), .map (some om'), v']) (hrow : W2.ownsRow 0 215 2 v' (ps.length - n) (pcl (ps.drop n) (vs.drop n))) (hvo : ∀ b, v'.ownBlock = some b → wr.heap.size ≤ b) (hom : om' = om ∨ wr.heap.size ≤ om') (hov : ∃ es c, Sm D' W2 om' (ovs (ovs L (ps.take n)) (ps.drop n)) (ovs L (ps.take n)) es c ∧ Cov es (ps.drop n)) :
    Fr D' W2 ⟨fb, lm, om', v'⟩ sz (ovs L (ps.take n)) (ps.drop n) ∧ Wk D w (Fa.mk fb lm om pv).own W2 D' (Fa.mk fb lm om' v').own := by
  have hlt := hf.lt
  have hfl : fb < w.heap.size := hlt fb ((Fa.mem _ _).2 (.inl rfl))
  have hll : lm < w.heap.size := hlt lm ((Fa.mem _ _).2 (.inr (.inl rfl)))
  have hol : om < w.heap.size := hlt om ((Fa.mem _ _).2 (.inr (.inr (.inl rfl))))
  have hz := h.kp.size
  have hne := hf.ne
  have hlm := hf.lm_ne
  dsimp only at hne hlm
  have hD : ∀ i, D' i → i ≠ fb ∧ i ≠ lm ∧ i ≠ om ∧ i < wr.heap.size := fun i hi => by
    refine ⟨?_, ?_, ?_, h.db i hi⟩
    all_goals
      intro e
      rcases h.d2 i hi with h1 | h1
      · have h2 := hf.nd i h1
        rw [Fa.mem] at h2
        first
          | exact h2 (.inl e)
          | exact h2 (.inr (.inl e))
          | exact h2 (.inr (.inr (.inl e)))
      · omega
  obtain ⟨el, cl, hla⟩ := h.la
  refine ⟨⟨hs, ⟨el, cl, hla.kp k (fun e => hlm.1 e) (fun i hi => (hD i hi).1)⟩, hov, ⟨vs.drop n, by simp [h.pc.len], fun i hi => ?_, by rw [List.length_drop]; exact hrow⟩, ?_, fun i hi hm => ?_, fun i hi => Nat.lt_of_lt_of_le (h.db i hi) k.size, fun i hi => ?_, fun p hp => hf.pb p (List.mem_of_mem_drop hp), hf.sb, by have := hf.nb; simp; omega⟩, ⟨(h.kp.mono (fun i _ e => ?_)).trans k (fun i _ e => ?_), fun i hi => ?_, h.d, h.d2⟩⟩
  · have := h.pc.bs (n + i) (by simp at hi; omega)
    have e1 : (vs.drop n).getD i undef = vs.getD (n + i) undef := by simp [List.getD, List.getElem?_drop]
    have e2 : (ps.drop n).getD i (0, []) = ps.getD (n + i) (0, []) := by simp [List.getD, List.getElem?_drop]
    rw [e1, e2]
    exact this.kp k (fun j hj => (hD j hj).1)
  · show lm ≠ om'
    rcases hom with e | e
    · rw [e]; exact hne
    · omega
  · have hd := hD i hi
    rcases (Fa.mem _ i).1 hm with e | e | e | e
    · exact hd.1 e
    · exact hd.2.1 e
    · rcases hom with e2 | e2
      · exact hd.2.2.1 (by rw [e]; exact e2)
      · dsimp only at e; omega
    · have := hvo i e; omega
  · rw [ovs_high _ (fun p hp => (hf.pb p (List.mem_of_mem_take hp)).2.2) hi]
    exact hf.lz i hi
  · rw [e]; exact (Fa.mem _ _).2 (.inr (.inl rfl))
  · rw [e]; exact (Fa.mem _ _).2 (.inl rfl)
  · rcases (Fa.mem _ i).1 hi with e | e | e | e
    · exact .inl ((Fa.mem _ _).2 (.inl e))
    · exact .inl ((Fa.mem _ _).2 (.inr (.inl e)))
    · rcases hom with e2 | e2
      · exact .inl ((Fa.mem _ _).2 (.inr (.inr (.inl (by rw [e]; exact e2)))))
      · right; dsimp only at e; omega
    · right; have := hvo i e; omega
theorem pcl_one (ps : List (Nat × List Int)) (vs : List Value) (h : ∀ v ∈ vs, v.oneCell' = true) : ∀ u ∈ pcl ps vs, u.oneCell' = true := by
  induction ps generalizing vs with
  | nil => intro u hu; simp [pcl] at hu
  | cons p ps ih =>
    cases vs with
    | nil => intro u hu; simp [pcl] at hu
    | cons v vs =>
      intro u hu
      simp only [pcl, List.mem_cons] at hu
      rcases hu with rfl | rfl | hu
      · rfl
      · exact h _ (by simp)
      · exact ih vs (fun x hx => h x (List.mem_cons_of_mem _ hx)) u hu
theorem Pr.one {D : Nat → Prop} {w : World} {pv : Value} {ps : List (Nat × List Int)} {vs : List Value} (h : Pr D w pv ps vs) : ∀ v ∈ vs, v.oneCell' = true := by
  intro v hv
  obtain ⟨i, hi⟩ := List.getElem?_of_mem hv
  have hil := (List.getElem?_eq_some_iff.1 hi).1
  obtain ⟨g, off, cap, e, _⟩ := (h.bs i (by rw [← h.len]; exact hil)).le
  have : vs.getD i undef = v := by rw [List.getD_eq_getElem?_getD, hi]; rfl
  rw [← this, e]
  rfl
theorem Pr.rowoff {D : Nat → Prop} {w : World} {ao : Option Addr} {cap n : Nat} {ps : List (Nat × List Int)} {vs : List Value} (h : Pr D w (.slice ao n cap) ps vs) (hc : 0 < cap) : ∃ g off, ao = some ⟨g, off, none⟩ ∧ ∀ j u, (pcl ps vs)[j]? = some u → w.cell? ⟨g, off + j, none⟩ = some u := by
  rcases h.row.2 with ⟨h1, _⟩ | ⟨g, cap', cur, h1, _, h2, _, _, _, h6⟩
  · simp only [Value.slice.injEq] at h1; omega
  · simp only [Value.slice.injEq] at h1
    refine ⟨g, 0, h1.1, fun j u hu => (cell_of_row w g _ _ 215 _ h2).trans ?_⟩
    rw [← h6, List.getElem?_take] at hu
    rw [Nat.zero_add]
    split at hu
    · simpa using hu
    · cases hu
set_option maxRecDepth 100000 in
set_option maxHeartbeats 4000000 in
theorem flush_any (D : Nat → Prop) (w : World) (a : Fa) (sz : Nat) (L : Nat → Int) (ps : List (Nat × List Int)) (hf : Fr D w a sz L ps) (n : Nat) (hn : n ≤ ps.length) :
    Calls Tryz.prog 154 #[.pointer (some ⟨a.fb, 0, none⟩), .int .i64 n] w fun e w' => e = .returned (.tuple #[]) ∧ ∃ D' a', a'.fb = a.fb ∧ Fr D' w' a' sz (ovs L (ps.take n)) (ps.drop n) ∧ Wk D w a.own w' D' a'.own := by
  have HF : Hid (Fr D w a sz L ps) := hf
  obtain ⟨fb, lm, om, pv⟩ := a
  dsimp only at *
  obtain ⟨vs, hpr⟩ := hf.pc
  obtain ⟨eo, co, hov, hcv⟩ := hf.ov
  have hla := hf.la
  dsimp only at hpr hov hla
  obtain ⟨pao, pcap, hpv⟩ := ownsRow_shape hpr.row
  subst hpv
  have c3 : w.cell? ⟨fb, 3, none⟩ = some (.slice pao ps.length pcap) := hf.st.cell 3
  have hnb := hf.nb
  have H0 : Hid (FlI D w fb lm om (.slice pao ps.length pcap) sz L ps vs eo co 0 w D) := ⟨hf.st, hla, hov, hpr, fun _ h => h, fun _ h => .inl h, hf.db, Kp.refl _ _⟩
  have HCV : Hid (Cov eo ps) := hcv
  have HPR : Hid (Pr D w (.slice pao ps.length pcap) ps vs) := hpr
  have hcl : ps.length ≤ pcap := by
    rcases hpr.row.2 with ⟨h1, h2⟩ | ⟨g, cap, cur, h1, _, _, h2, _⟩
    · omega
    · simp only [Value.slice.injEq] at h1; omega
  have hn2 : n ≤ pcap := by omega
  clear hf hla hov hcv hpr
  go_enter Tryz.func154, Tryz.ntmps154
  go_wp2_with fail
  go_loopw [5, 13] (fun _ iv wr => ∃ (k : Nat) (D' : Nat → Prop), k ≤ n ∧ iv = .int .i64 k ∧ FlI D w fb lm om (.slice pao ps.length pcap) sz L ps vs eo co k wr D') (fun _ iv _ => n - (intOf iv).toNat)
  case atStart => exact ⟨0, D, Nat.zero_le _, rfl, H0.out⟩
  case round =>
    clear H0 c3
    obtain ⟨k, D', hk, rfl, hI⟩ := hrel
    have HI : Hid (FlI D w fb lm om (.slice pao ps.length pcap) sz L ps vs eo co k wr D') := hI
    clear hI
    by_cases hlt : k < n
    · have hkl : k < ps.length := by omega
      obtain ⟨g, off, cap', hpe, hgl, hgo, hcs⟩ := HI.out.pc.cells (by omega)
      obtain ⟨rfl, rfl⟩ : pao = some ⟨g, off, none⟩ ∧ pcap = cap' := by
        simp only [Value.slice.injEq] at hpe; exact ⟨hpe.1, hpe.2.2⟩
      obtain ⟨y0, y1⟩ := hcs k hkl
      have hbs := HI.out.pc.bs k hkl
      have hpb := HF.out.pb (ps.getD k (0, [])) (getD_mem2 ps k hkl)
      obtain ⟨⟨p, xs⟩, hpx⟩ : ∃ t, t = ps.getD k (0, []) := ⟨_, rfl⟩
      rw [← hpx] at y0 hbs hpb
      dsimp only at y0 hbs hpb
      obtain ⟨pvv, hpvv⟩ : ∃ t, t = vs.getD k undef := ⟨_, rfl⟩
      rw [← hpvv] at y1 hbs
      obtain ⟨pg, po, pc, hpq, -⟩ := hbs.le
      subst hpq
      have HBS : Hid (Bs D' wr (.slice (some ⟨pg, po, none⟩) xs.length pc) xs) := hbs
      have HPX : Hid ((p, xs) = ps.getD k (0, [])) := hpx
      obtain ⟨xl, hxl⟩ : ∃ x, x = xs.length := ⟨_, rfl⟩
      rw [← hxl] at HBS y1 hpb
      have HXL : Hid (xl = xs.length) := hxl
      have t1 : wr.cell? ⟨fb, 1, none⟩ = some (.map (some lm)) := HI.out.st.cell 1
      clear hcs hpe hgo hbs hpx hpvv hxl
      go_wp2_with fail
      have st := St.new 215 wr #[.int .i64 p, .slice (some ⟨pg, po, none⟩) xl pc]
      have k1 : Kp (fun _ => False) wr (wr.alloc (.cells #[.int .i64 p, .slice (some ⟨pg, po, none⟩) xl pc] 215)) := (Kp.refl _ _).alloc _
      generalize wr.alloc (.cells #[.int .i64 p, .slice (some ⟨pg, po, none⟩) xl pc] 215) = W1 at st k1 ⊢
      have q0 : W1.cell? ⟨wr.heap.size, 0, none⟩ = some (.int .i64 p) := st.cell 0
      have q1 : W1.cell? ⟨wr.heap.size, 1, none⟩ = some (.slice (some ⟨pg, po, none⟩) xl pc) := st.cell 1
      have e1 : W1.cell? ⟨fb, 1, none⟩ = some (.map (some lm)) := kp_cell k1 t1 (fun h => h)
      clear t1 y0 y1 st
      have HK1 : Hid (Kp (fun _ => False) wr W1) := k1
      clear k1
      refine wp_region_tail hmix (by kernel_rfl) ?_
      dsimp only [List.dropLast, List.getLast]
      repeat (gi_big_quiet_step (fail))
      refine wpQuietIn_nil ?_
      intro _ hw'
      obtain ⟨nq, hw2⟩ := hw'
      subst hw2
      have kq := drewN_kp (fun _ => False) W1 nq
      generalize W1.drewN nq = X at kq ⊢
      obtain ⟨es1, cs1, hsm⟩ := HI.out.la
      have kx : Kp (fun _ => False) wr X := HK1.out.trans kq (fun _ _ h => h)
      gi_wp2_with fail
      refine ⟨trivial, rfl, ?_⟩
      refine (callsIn_wide.2 ((hsm.kp kx (fun h => h) (fun _ _ h => h)).putp p xs (.slice (some ⟨pg, po, none⟩) xl pc) (by rw [← HXL.out]; omega) (by rw [← HXL.out]; omega) (by have := HF.out.sb; rw [← HXL.out]; omega) (HBS.out.kp kx (fun _ _ h => h)) ?_ ?_)).mono ?_
      · intro hD
        rcases HI.out.d2 _ hD with h1 | h1
        · exact HF.out.nd _ h1 ((Fa.mem _ _).2 (.inr (.inl rfl)))
        · have := HF.out.lt lm ((Fa.mem _ _).2 (.inr (.inl rfl))); omega
      · exact fun h => hsm.no _ h
      rintro e w3 ⟨rfl, es3, c3, sm3, k3, -⟩
      have HC : Hid (FlI D w fb lm om (.slice (some ⟨g, off, none⟩) ps.length pcap) sz L ps vs eo co (k + 1) w3 (fun i => D' i ∨ (X.heap.size ≤ i ∧ i < w3.heap.size))) := HI.out.step HF.out kx hkl HPX.out sm3 k3
      clear sm3 k3 e1 q0 q1 hsm kq kx
      gi_wp2
      go_wp2
      exact ⟨⟨k + 1, _, hlt, rfl, HC.out⟩, by simp only [intOf]; omega⟩
    · obtain rfl : k = n := by omega
      have t3 : wr.cell? ⟨fb, 3, none⟩ = some (.slice pao ps.length pcap) := HI.out.st.cell 3
      clear hlt
      have hmm := @run_makeMap Tryz.prog
      by_cases hpc : pcap = k
      · have hlk : ps.length = k := by omega
        go_wp2_with (first | (at_builtin; refine wpList_append_new rfl (.const (.slice none 0 0)) (.tmp 30) rfl rfl pao 0 0 [] (by first | rfl | simp [Act.eval]) (fun _ => ⟨rfl, rfl⟩) rfl (fun _ _ j u h => by simp at h) (fun u h => by simp at h) (by omega) ?_; intro v' w2 r2 k2 z2; obtain rfl := z2 rfl; have st2 := HI.out.st.kp k2 (fun h => h); have f3 := st2.frozen 3; have g3 : w2.cell? ⟨fb, 3, none⟩ = some (.slice pao ps.length pcap) := st2.cell 3; have st4 : St 164 ((w2.setCell ⟨fb, 3, none⟩ (.slice none 0 0)).alloc (.map #[] 0)) fb #[.int .i64 sz, .map (some lm), .map (some om), .slice none 0 0] := (st2.set 3 (.slice none 0 0)).kp (F := fun _ => False) ((Kp.refl _ _).alloc _) (fun h => h); have g2 : ((w2.setCell ⟨fb, 3, none⟩ (.slice none 0 0)).alloc (.map #[] 0)).cell? ⟨fb, 2, none⟩ = some (.map (some om)) := st4.cell 2; have f2 := st4.frozen 2; have ST4 : Hid (St 164 ((w2.setCell ⟨fb, 3, none⟩ (.slice none 0 0)).alloc (.map #[] 0)) fb #[.int .i64 sz, .map (some lm), .map (some om), .slice none 0 0]) := st4; have K2 : Hid (Kp (fun _ => False) wr w2) := k2; clear st4 st2 k2 r2 z2))
        have k2 := K2.out
        have kA : Kp (fun i => i = fb) wr ((w2.setCell ⟨fb, 3, none⟩ (.slice none 0 0)).alloc (.map #[] 0)) := (((k2.mono (fun _ _ h => h.elim)).trans (kp_setCell w2 fb 3 (.slice none 0 0) (fun i => i = fb) rfl) (fun _ _ h => h))).alloc _
        have hsz : (w2.setCell ⟨fb, 3, none⟩ (.slice none 0 0)).heap.size = w2.heap.size := by simp
        have m4 := Mp.new (Value.int .i64) (w2.setCell ⟨fb, 3, none⟩ (.slice none 0 0))
        rw [hsz] at m4
        have st5 := ST4.out.set 2 (.map (some w2.heap.size))
        have kB := kp_setCell ((w2.setCell ⟨fb, 3, none⟩ (.slice none 0 0)).alloc (.map #[] 0)) fb 2 (.map (some w2.heap.size)) (fun i => i = fb) rfl
        have hz2 := k2.size
        have hfw : fb < wr.heap.size := HI.out.st.lt
        have m5 := kp_mp m4 kB (by omega)
        have hdn : ps.drop k = [] := List.drop_eq_nil_of_le (by omega)
        have fin := fl_fin (om' := w2.heap.size) (v' := .slice none 0 0) HI.out HF.out (kA.trans kB (fun _ _ h => h)) st5 (by rw [hdn, show ps.length - k = 0 by omega]; exact ⟨rfl, .inl ⟨rfl, rfl⟩⟩) (fun b hb => by cases hb) (.inr hz2) (by rw [hdn]; exact ⟨[], 0, ⟨m5, (fun _ h => by cases h), (fun _ _ h => by cases h), fun _ _ => rfl⟩, fun p hp => by cases hp⟩)
        go_end0
        exact ⟨rfl, D', _, rfl, fin⟩
      · have hcp : 0 < pcap := by omega
        obtain ⟨g, off, hpa, hcs⟩ := HI.out.pc.rowoff hcp
        subst hpa
        have hkc : k < pcap := by omega
        by_cases hm0 : ps.length = k
        · have hlk : ps.length = k := hm0
          go_wp2_with (first | (at_builtin; refine wpList_append_new rfl (.const (.slice none 0 0)) (.tmp 30) rfl rfl (some ⟨g, off + k * 2, none⟩) 0 (pcap - k) [] (by first | rfl | simp [Act.eval]) (fun h => by cases h) rfl (fun _ _ j u h => by simp at h) (fun u h => by simp at h) (by omega) ?_; intro v' w2 r2 k2 z2; obtain rfl := z2 rfl; have st2 := HI.out.st.kp k2 (fun h => h); have f3 := st2.frozen 3; have g3 : w2.cell? ⟨fb, 3, none⟩ = some (.slice (some ⟨g, off, none⟩) ps.length pcap) := st2.cell 3; have st4 : St 164 ((w2.setCell ⟨fb, 3, none⟩ (.slice none 0 0)).alloc (.map #[] 0)) fb #[.int .i64 sz, .map (some lm), .map (some om), .slice none 0 0] := (st2.set 3 (.slice none 0 0)).kp (F := fun _ => False) ((Kp.refl _ _).alloc _) (fun h => h); have g2 : ((w2.setCell ⟨fb, 3, none⟩ (.slice none 0 0)).alloc (.map #[] 0)).cell? ⟨fb, 2, none⟩ = some (.map (some om)) := st4.cell 2; have f2 := st4.frozen 2; have ST4 : Hid (St 164 ((w2.setCell ⟨fb, 3, none⟩ (.slice none 0 0)).alloc (.map #[] 0)) fb #[.int .i64 sz, .map (some lm), .map (some om), .slice none 0 0]) := st4; have K2 : Hid (Kp (fun _ => False) wr w2) := k2; clear st4 st2 k2 r2 z2))
          have k2 := K2.out
          have kA : Kp (fun i => i = fb) wr ((w2.setCell ⟨fb, 3, none⟩ (.slice none 0 0)).alloc (.map #[] 0)) := (((k2.mono (fun _ _ h => h.elim)).trans (kp_setCell w2 fb 3 (.slice none 0 0) (fun i => i = fb) rfl) (fun _ _ h => h))).alloc _
          have hsz : (w2.setCell ⟨fb, 3, none⟩ (.slice none 0 0)).heap.size = w2.heap.size := by simp
          have m4 := Mp.new (Value.int .i64) (w2.setCell ⟨fb, 3, none⟩ (.slice none 0 0))
          rw [hsz] at m4
          have st5 := ST4.out.set 2 (.map (some w2.heap.size))
          have kB := kp_setCell ((w2.setCell ⟨fb, 3, none⟩ (.slice none 0 0)).alloc (.map #[] 0)) fb 2 (.map (some w2.heap.size)) (fun i => i = fb) rfl
          have hz2 := k2.size
          have hfw : fb < wr.heap.size := HI.out.st.lt
          have m5 := kp_mp m4 kB (by omega)
          have hdn : ps.drop k = [] := List.drop_eq_nil_of_le (by omega)
          have fin := fl_fin (om' := w2.heap.size) (v' := .slice none 0 0) HI.out HF.out (kA.trans kB (fun _ _ h => h)) st5 (by rw [hdn, show ps.length - k = 0 by omega]; exact ⟨rfl, .inl ⟨rfl, rfl⟩⟩) (fun b hb => by cases hb) (.inr hz2) (by rw [hdn]; exact ⟨[], 0, ⟨m5, (fun _ h => by cases h), (fun _ _ h => by cases h), fun _ _ => rfl⟩, fun p hp => by cases hp⟩)
          go_end0
          exact ⟨rfl, D', _, rfl, fin⟩
        · have hkl : k < ps.length := by omega
          have hsub : ((ps.length - k : Nat) : Int) ≠ 0 := by omega
          have hsb : (((ps.length - k : Nat) : Int) == 0) = false := by simpa using hsub
          go_wp2_with (first | (at_builtin; refine wpList_append_new rfl (.const (.slice none 0 0)) (.tmp 30) rfl rfl (some ⟨g, off + k * 2, none⟩) (ps.length - k) (pcap - k) (pcl (ps.drop k) (vs.drop k)) (by first | rfl | simp [Act.eval]) (fun h => by cases h) (by rw [pcl_len _ _ (by simp [HI.out.pc.len]), List.length_drop]) (fun ad e j u h => by cases e; rw [pcl_drop, List.getElem?_drop] at h; rw [add_o, Nat.add_assoc]; exact hcs _ u h) (fun u h => pcl_one _ _ (fun x hx => HI.out.pc.one x (List.mem_of_mem_drop hx)) u h) (by omega) ?_; intro v' w2 r2 k2 z2; obtain ⟨ao', c', rfl⟩ := ownsRow_shape r2; have st2 := HI.out.st.kp k2 (fun h => h); have f3 := st2.frozen 3; have g3 : w2.cell? ⟨fb, 3, none⟩ = some (.slice (some ⟨g, off, none⟩) ps.length pcap) := st2.cell 3; have ST2 : Hid (St 164 w2 fb #[.int .i64 sz, .map (some lm), .map (some om), .slice (some ⟨g, off, none⟩) ps.length pcap]) := st2; have K2 : Hid (Kp (fun _ => False) wr w2) := k2; have R2 : Hid (w2.ownsRow wr.heap.size 215 2 (.slice ao' (ps.length - k) c') (ps.length - k) (pcl (ps.drop k) (vs.drop k))) := r2; clear st2 k2 r2 z2))
          have k2 := K2.out
          have hfw : fb < wr.heap.size := HI.out.st.lt
          have kB := kp_setCell w2 fb 3 (.slice ao' (ps.length - k) c') (fun i => i = fb) rfl
          have kA : Kp (fun i => i = fb) wr (w2.setCell ⟨fb, 3, none⟩ (.slice ao' (ps.length - k) c')) := (k2.mono (fun _ _ h => h.elim)).trans kB (fun _ _ h => h)
          have st3 := ST2.out.set 3 (.slice ao' (ps.length - k) c')
          have hvo : ∀ b, (Value.slice ao' (ps.length - k) c').ownBlock = some b → wr.heap.size ≤ b := by
            intro b hb
            rcases R2.out.2 with ⟨h4, _⟩ | ⟨gg, cap, cur, h4, h5, _⟩
            · rw [h4] at hb; cases hb
            · rw [h4] at hb
              have : gg = b := by simpa [Value.ownBlock] using hb
              omega
          have hrow : (w2.setCell ⟨fb, 3, none⟩ (.slice ao' (ps.length - k) c')).ownsRow 0 215 2 (.slice ao' (ps.length - k) c') (ps.length - k) (pcl (ps.drop k) (vs.drop k)) := by
            refine ⟨R2.out.1, ?_⟩
            rcases R2.out.2 with h4 | ⟨gg, cap, cur, h4, h5, h6, h7⟩
            · exact .inl h4
            · exact .inr ⟨gg, cap, cur, h4, Nat.zero_le _, (heap_setCell_other _ _ _ _ (by show gg ≠ fb; omega)).trans h6, h7⟩
          have hov : Sm D' (w2.setCell ⟨fb, 3, none⟩ (.slice ao' (ps.length - k) c')) om (ovs (ovs L (ps.take k)) (ps.drop k)) (ovs L (ps.take k)) eo co := by
            rw [← ovs_append, List.take_append_drop]
            have hDf : ∀ i, D' i → ¬ i = fb := fun i hi e => by
              rcases HI.out.d2 i hi with h1 | h1
              · exact HF.out.nd i h1 ((Fa.mem _ _).2 (.inl e))
              · have := HF.out.lt fb ((Fa.mem _ _).2 (.inl rfl)); omega
            have hs := HI.out.ov.kp kA (fun e => HF.out.lm_ne.2 e) hDf
            exact ⟨hs.mp, hs.ks, hs.so, fun j hj => by rw [hs.no j hj, cov_sec HCV.out (fun p hp => (HF.out.pb p hp).2.1) hj]⟩
          have fin := fl_fin (om' := om) (v' := .slice ao' (ps.length - k) c') HI.out HF.out kA st3 hrow hvo (.inl rfl) ⟨eo, co, hov, fun p hp => HCV.out p (List.mem_of_mem_drop hp)⟩
          go_end0
          exact ⟨rfl, D', _, rfl, fin⟩
end Go.Proofs.YtnccklbnncaeoaaGreat
/- Flush, of a file that is there. -/
namespace Go.Proofs.YtnccklbnncaeoaaGreat
open Go.RowKit

theorem lft_le (k0 n0 : Int) (m : Nat) : lft k0 n0 m ≤ m := by
  unfold lft
  split
  · exact Nat.le_refl _
  · omega
/-- A file of which so many pieces have come to last. -/
def gfl (q : Gf) (n : Nat) : Gf := ⟨q.sz, ovs q.L (q.ps.take n), q.ps.drop n⟩
set_option maxRecDepth 100000 in
set_option maxHeartbeats 4000000 in
theorem flush_go (D : Nat → Prop) (w : World) (g fm : Nat) (fv : Value) (steps : Nat) (l r : List Fe) (ft : List (Int × Int)) (es : List (ByteArray × Value × Nat)) (c : Nat) (s : ByteArray) (a : Fa) (q : Gf) (h : Sr D w g fm fv steps (l ++ (s, a, q) :: r) ft es c) (hq : fget (l ++ (s, a, q) :: r) s = some (s, a, q)) (hsb : steps < 1000000000) (k0 n0 : Int) (hk : ft.headD (0, 0) = (k0, n0)) :
    Calls Tryz.prog 121 #[.pointer (some ⟨g, 0, none⟩), .string s] w fun e w' => e = .returned (.int .i64 (ferr k0)) ∧ ∃ D' fv' a', Sr D' w' g fm fv' (steps + 1) (l ++ (s, a', gfl q (lft k0 n0 q.ps.length)) :: r) ft.tail es c ∧ fv'.ownBlock = fv.ownBlock ∧ Wk D w (g :: a.own) w' D' (g :: a'.own) := by
  have hn : nmd s = true := h.nm (s, a, q) (by simp)
  have HFI : Hid (Calls Tryz.prog 79 #[.pointer (some ⟨g, 0, none⟩), .string s] w fun e w' => e = .returned (.tuple #[.pointer (some ⟨a.fb, 0, none⟩), .int .i64 0]) ∧ w' = w) := h.file_some s hn (s, a, q) hq
  have HS : Hid (Sr D w g fm fv steps (l ++ (s, a, q) :: r) ft es c) := h
  have HK : Hid (ft.headD (0, 0) = (k0, n0)) := hk
  clear h hq hk hn
  go_enter Tryz.func121, Tryz.ntmps121
  go_wp2_with fail
  refine HFI.out.mono ?_
  rintro e w1 ⟨rfl, hw1⟩
  replace hw1 := hw1.symm
  subst hw1
  go_wp2_with fail
  refine (step_any g _ fv steps ft _ HS.out.st (by have := HS.out.sb; omega) HS.out.fa HS.out.fvg).mono ?_
  rintro e w2 ⟨rfl, fv1, s2, f2, o2, k2⟩
  rw [HK.out]
  have HS2 : Hid (Sr D w2 g fm fv1 (steps + 1) (l ++ (s, a, q) :: r) ft.tail es c) := HS.out.stepped s2 f2 o2 k2 hsb
  have HO2 : Hid (fv1.ownBlock = fv.ownBlock) := o2
  have K2 : Hid (Kp (fun i => i = g) w w2) := k2
  clear s2 f2 o2 k2
  go_wp2_with fail
  have tf := St.new 137 w2 #[.int .i64 k0, .int .i64 n0]
  have k3 : Kp (fun _ => False) w2 (w2.alloc (.cells #[.int .i64 k0, .int .i64 n0] 137)) := (Kp.refl _ _).alloc _
  generalize w2.alloc (.cells #[.int .i64 k0, .int .i64 n0] 137) = W3 at tf k3 ⊢
  have S3 := HS2.out.kp k3 (fun _ _ h => h) (fun _ _ h => h)
  have f3 : Fr D W3 a q.sz q.L q.ps := S3.fr (s, a, q) (by simp)
  obtain ⟨vs, hpr⟩ := f3.pc
  obtain ⟨pao, pcap, hpv⟩ := ownsRow_shape hpr.row
  have c0 : W3.cell? ⟨w2.heap.size, 0, none⟩ = some (.int .i64 k0) := tf.cell 0
  have c1 : W3.cell? ⟨w2.heap.size, 1, none⟩ = some (.int .i64 n0) := tf.cell 1
  have c3 : W3.cell? ⟨a.fb, 3, none⟩ = some (.slice pao q.ps.length pcap) := by rw [← hpv]; exact f3.st.cell 3
  have HS3 : Hid (Sr D W3 g fm fv1 (steps + 1) (l ++ (s, a, q) :: r) ft.tail es c) := S3
  have HTF : Hid (St 137 W3 w2.heap.size #[.int .i64 k0, .int .i64 n0]) := tf
  have K3 : Hid (Kp (fun i => i = g) w W3) := K2.out.trans k3 (fun _ _ h => h.elim)
  have HTN : Hid (∀ i, i ∈ ownS g fm fv1 (l ++ (s, a, q) :: r) → i < w2.heap.size) := HS2.out.lt
  clear S3 f3 hpr hpv tf k3
  refine wp_region_G (fun w' => w'.cell? ⟨w2.heap.size, 0, none⟩ = some (.int .i64 k0) ∧ w'.cell? ⟨w2.heap.size, 1, none⟩ = some (.int .i64 n0) ∧ w'.cell? ⟨a.fb, 3, none⟩ = some (.slice pao q.ps.length pcap)) [8] hmix ⟨c0, c1, c3⟩ (fun h0 => ?_)
  refine wpAnyG_takeW (i := 0) (v := .pointer (some ⟨a.fb, 0, none⟩)) rfl (by kernel_rfl) (fun _ _ _ h => h) (Or.inl ⟨by rfl, fun w _ => by go_simp⟩) ?_
  refine wpAnyG_take (i := 1) (v := .agg #[.int .i64 k0, .int .i64 n0]) rfl (by kernel_rfl) (fun _ _ _ h => h) (Or.inl ⟨by rfl, fun w hSw => by (try dsimp only at hSw); go_simp⟩) h0 ?_
  refine wpAnyG_takeW (i := 2) (v := .pointer (some ⟨a.fb, 0, none⟩)) rfl (by kernel_rfl) (fun _ _ _ h => h) (Or.inl ⟨by rfl, fun w _ => by go_simp⟩) ?_
  refine wpAnyG_takeW (i := 3) (v := .pointer (some ⟨a.fb, 0, none⟩)) rfl (by kernel_rfl) (fun _ _ _ h => h) (Or.inl ⟨by rfl, fun w _ => by go_simp⟩) ?_
  refine wpAnyG_takeW (i := 4) (v := .pointer (some ⟨a.fb, 3, none⟩)) rfl (by kernel_rfl) (fun _ _ _ h => h) (Or.inl ⟨by rfl, fun w _ => by go_simp⟩) ?_
  refine wpAnyG_take (i := 5) (v := .slice pao q.ps.length pcap) rfl (by kernel_rfl) (fun _ _ _ h => h) (Or.inl ⟨by rfl, fun w hSw => by (try dsimp only at hSw); go_simp⟩) h0 ?_
  refine wpAnyG_takeW (i := 6) (v := .int .i64 (q.ps.length : Int)) rfl (by kernel_rfl) (fun _ _ _ h => h) (Or.inl ⟨by rfl, fun w _ => by go_simp⟩) ?_
  refine wpAnyG_one (i := 7) (by kernel_rfl) rfl (fun K1 hK => ?_)
  go_simp
  refine (kept_f k0 n0 q.ps.length _).mono ?_
  rintro e w4 ⟨rfl, b4⟩
  have k4 : Kp (fun _ => False) W3 w4 := ((Kp.refl _ _).drew).trans (Kp.of_below (F := fun _ => False) b4) (fun _ _ h => h)
  have S4 := HS3.out.kp k4 (fun _ _ h => h) (fun _ _ h => h)
  have f4 : Fr D w4 a q.sz q.L q.ps := S4.fr (s, a, q) (by simp)
  go_wp2_with fail
  refine hK.out _ _ (fun _ h => ⟨(b4.cell (block_lt_of_cell h.1)).trans h.1, (b4.cell (block_lt_of_cell h.2.1)).trans h.2.1, (b4.cell (block_lt_of_cell h.2.2)).trans h.2.2⟩) ?_
  clear hK K1
  refine wpAnyG_one (i := 8) (by kernel_rfl) rfl (fun K1 hK => ?_)
  go_simp
  refine (flush_any D w4 a q.sz q.L q.ps f4 (lft k0 n0 q.ps.length) (lft_le _ _ _)).mono ?_
  rintro e w5 ⟨rfl, D5, a5, hb5, fr5, wk5⟩
  have hnt : w2.heap.size ∉ a.own := fun hm => by
    have := HTN.out _ (mem_ownS.2 (.inr (.inr (.inr ⟨(s, a, q), by simp, hm⟩))))
    omega
  have tf5 := (HTF.out.kp k4 (fun h => h)).kp wk5.k hnt
  have S5 : Sr D5 w5 g fm fv1 (steps + 1) (l ++ (s, a5, gfl q (lft k0 n0 q.ps.length)) :: r) ft.tail es c := S4.upd (q' := gfl q (lft k0 n0 q.ps.length)) wk5 hb5 fr5
  have wk : Wk D w (g :: a.own) w5 D5 (g :: a5.own) := by
    have hz : w.heap.size ≤ w4.heap.size := Nat.le_trans K3.out.size k4.size
    refine ⟨((K3.out.mono (fun i _ e => by rw [e]; exact List.mem_cons_self)).trans k4 (fun _ _ h => h.elim)).trans wk5.k (fun i _ h => List.mem_cons_of_mem _ h), fun i hi => ?_, wk5.d, fun i hi => (wk5.e i hi).elim .inl (fun x => .inr (by omega))⟩
    rcases List.mem_cons.1 hi with e | e
    · exact .inl (by rw [e]; exact List.mem_cons_self)
    · exact (wk5.o i e).elim (fun x => .inl (List.mem_cons_of_mem _ x)) (fun x => .inr (by omega))
  have HS5 : Hid (Sr D5 w5 g fm fv1 (steps + 1) (l ++ (s, a5, gfl q (lft k0 n0 q.ps.length)) :: r) ft.tail es c) := S5
  have HWK : Hid (Wk D w (g :: a.own) w5 D5 (g :: a5.own)) := wk
  have d0 : w5.cell? ⟨w2.heap.size, 0, none⟩ = some (.int .i64 k0) := tf5.cell 0
  have d1 : w5.cell? ⟨w2.heap.size, 1, none⟩ = some (.int .i64 n0) := tf5.cell 1
  go_wp2_with fail
  refine hK.out _ _ (fun h => absurd h (by decide)) ?_
  clear hK K1
  refine wpAnyG_done (by kernel_rfl) ?_ _
  clear S5 wk tf5 f4 S4 k4 b4 fr5 wk5 c0 c1 c3 h0
  go_wp2_with (first | (go_at_call 90; refine (came_f k0 n0 _).mono ?_; rintro e w6 ⟨rfl, b6⟩))
  have k6 : Kp (fun _ => False) w5 w6 := Kp.of_below b6
  go_ret
  exact ⟨rfl, D5, fv1, a5, HS5.out.kp k6 (fun _ _ h => h) (fun _ _ h => h), HO2.out, HWK.out.kp k6⟩
end Go.Proofs.YtnccklbnncaeoaaGreat
/- cache: the store beneath, said by its one file, its fates, its blocks. -/
namespace Go.Proofs.YtnccklbnncaeoaaGreat
open Go.RowKit
set_option linter.unusedVariables false
/-- The store at g with one file S, that is q; its fates are ft; it did at most N steps; its blocks are F. -/
def Sw (S : ByteArray) (g N : Nat) (F : Nat → Prop) (q : Gf) (ft : List (Int × Int)) (w : World) : Prop :=
  ∃ D fm fv steps es c a, Sr D w g fm fv steps [(S, a, q)] ft es c ∧ steps ≤ N ∧ q.ps.length ≤ 65536 * N ∧ ∀ i, F i ↔ (D i ∨ i ∈ ownS g fm fv [(S, a, q)])
theorem Sw.kp {S : ByteArray} {g N : Nat} {F X : Nat → Prop} {q : Gf} {ft : List (Int × Int)} {w w' : World} (h : Sw S g N F q ft w) (k : Kp X w w') (hf : ∀ i, F i → ¬ X i) : Sw S g N F q ft w' := by
  obtain ⟨D, fm, fv, steps, es, c, a, h1, h2, h3, h4⟩ := h
  exact ⟨D, fm, fv, steps, es, c, a, h1.kp k (fun i hi => hf i ((h4 i).2 (.inr hi))) (fun i hi => hf i ((h4 i).2 (.inl hi))), h2, h3, h4⟩
theorem Sw.kp0 {S : ByteArray} {g N : Nat} {F : Nat → Prop} {q : Gf} {ft : List (Int × Int)} {w w' : World} (h : Sw S g N F q ft w) (k : Kp (fun _ => False) w w') : Sw S g N F q ft w' := h.kp k (fun _ _ h => h)
theorem Sw.lt {S : ByteArray} {g N : Nat} {F : Nat → Prop} {q : Gf} {ft : List (Int × Int)} {w : World} (h : Sw S g N F q ft w) {i : Nat} (hi : F i) : i < w.heap.size := by
  obtain ⟨D, fm, fv, steps, es, c, a, h1, h2, h3, h4⟩ := h
  rcases (h4 i).1 hi with h | h
  · exact h1.db i h
  · exact h1.lt i h
theorem Sw.self {S : ByteArray} {g N : Nat} {F : Nat → Prop} {q : Gf} {ft : List (Int × Int)} {w : World} (h : Sw S g N F q ft w) : F g := by
  obtain ⟨D, fm, fv, steps, es, c, a, h1, h2, h3, h4⟩ := h
  exact (h4 g).2 (.inr (mem_ownS.2 (.inl rfl)))
theorem Sw.grow {S : ByteArray} {g N M : Nat} {F : Nat → Prop} {q : Gf} {ft : List (Int × Int)} {w : World} (h : Sw S g N F q ft w) (hM : N ≤ M) : Sw S g M F q ft w := by
  obtain ⟨D, fm, fv, steps, es, c, a, h1, h2, h3, h4⟩ := h
  exact ⟨D, fm, fv, steps, es, c, a, h1, by omega, by omega, h4⟩
theorem Sw.szb {S : ByteArray} {g N : Nat} {F : Nat → Prop} {q : Gf} {ft : List (Int × Int)} {w : World} (h : Sw S g N F q ft w) : q.sz ≤ 268435456 := by
  obtain ⟨D, fm, fv, steps, es, c, a, h1, h2, h3, h4⟩ := h
  exact (h1.fr (S, a, q) (by simp)).sb
theorem Sw.named {S : ByteArray} {g N : Nat} {F : Nat → Prop} {q : Gf} {ft : List (Int × Int)} {w : World} (h : Sw S g N F q ft w) : nmd S = true := by
  obtain ⟨D, fm, fv, steps, es, c, a, h1, h2, h3, h4⟩ := h
  exact h1.nm (S, a, q) (by simp)
theorem fget_one (S : ByteArray) (a : Fa) (q : Gf) : fget [(S, a, q)] S = some (S, a, q) := by simp [fget]
section
variable {S : ByteArray} {g N : Nat} {F : Nat → Prop} {q : Gf} {ft : List (Int × Int)} {w : World}
theorem size_w (h : Sw S g N F q ft w) : Calls Tryz.prog 30 #[ptr g, .string S] w fun e w' => e = .returned (.tuple #[.int .i64 q.sz, .int .i64 0]) ∧ w' = w := by
  have hn := h.named
  obtain ⟨D, fm, fv, steps, es, c, a, h1, h2, h3, h4⟩ := h
  exact size_some S _ a.fb q.sz w (h1.file_some S hn (S, a, q) (fget_one S a q)) ((h1.fr (S, a, q) (by simp)).st.cell 0)
set_option maxRecDepth 100000 in
set_option maxHeartbeats 1000000 in
theorem read_rng (s : ByteArray) (v : Value) (p n fb sz : Nat) (w : World) (hf : Calls Tryz.prog 79 #[v, .string s] w fun e w' => e = .returned (.tuple #[.pointer (some ⟨fb, 0, none⟩), .int .i64 0]) ∧ w' = w) (c0 : w.cell? ⟨fb, 0, none⟩ = some (.int .i64 sz)) (hp : sz < p) :
    Calls Tryz.prog 31 #[v, .string s, .int .i64 p, .int .i64 n] w fun e w' => e = .returned (.tuple #[.slice none 0 0, .int .i64 4]) ∧ w' = w := by
  have HF : Hid (Calls Tryz.prog 79 #[v, .string s] w fun e w' => e = .returned (.tuple #[.pointer (some ⟨fb, 0, none⟩), .int .i64 0]) ∧ w' = w) := hf
  have b1 : decide ((p : Int) < 0) = false := by simp
  have b2 : decide ((sz : Int) < (p : Int)) = true := by simp; omega
  clear hf
  go_enter Tryz.func31, Tryz.ntmps31
  go_wp2_with (first | (go_at_call 79; refine HF.out.mono ?_; rintro e w' ⟨rfl, rfl⟩))
  go_ret2
  exact ⟨rfl, rfl⟩
/-- What is read from p on, at most n bytes. -/
def rdz (q : Gf) (p n : Nat) : List Int := (List.range (min n (q.sz - p))).map fun i => ovs q.L q.ps (p + i)
def RdW (w : World) (q : Gf) (p n : Nat) (e : Ending) (w' : World) : Prop :=
  Kp (fun _ => False) w w' ∧ ((q.sz < p ∧ e = .returned (.tuple #[.slice none 0 0, .int .i64 4])) ∨
  (p ≤ q.sz ∧ ∃ b, e = .returned (.tuple #[.slice (some ⟨b, 0, none⟩) (rdz q p n).length (rdz q p n).length, .int .i64 0]) ∧ w.heap.size ≤ b ∧ Rw .u8 5 w' b (rdz q p n)))
theorem read_w (h : Sw S g N F q ft w) (p n : Nat) : Calls Tryz.prog 31 #[ptr g, .string S, .int .i64 p, .int .i64 n] w (RdW w q p n) := by
  have hn := h.named
  obtain ⟨D, fm, fv, steps, es, c, a, h1, h2, h3, h4⟩ := h
  have hfi := h1.file_some S hn (S, a, q) (fget_one S a q)
  have hfr := h1.fr (S, a, q) (by simp)
  by_cases hp : p ≤ q.sz
  · refine (read_some S _ p n D a.fb a.lm a.om a.pv q.sz q.L q.ps w hfi hfr hp).mono ?_
    rintro e w' ⟨b, rfl, hb, hr, hk⟩
    refine ⟨Kp.of_below hk, .inr ⟨hp, b, ?_, hb, hr⟩⟩
    simp [rdz, rdn]
  · refine (read_rng S _ p n a.fb q.sz w hfi (hfr.st.cell 0) (by omega)).mono ?_
    rintro e w' ⟨rfl, rfl⟩
    exact ⟨Kp.refl _ _, .inl ⟨by omega, rfl⟩⟩
/-- What a step leaves. -/
def Stp (S : ByteArray) (g N : Nat) (F : Nat → Prop) (q' : Gf) (ft' : List (Int × Int)) (w w' : World) : Prop := Kp F w w' ∧ ∃ F', Sw S g N F' q' ft' w' ∧ ∀ i, F' i → F i ∨ w.heap.size ≤ i
theorem stp_of {D D' : Nat → Prop} {W : World} {fm : Nat} {fv fv' : Value} {steps : Nat} {ft' : List (Int × Int)} {es es' : List (ByteArray × Value × Nat)} {c c' : Nat} {a a' : Fa} {q' : Gf} (h1 : Sr D w g fm fv steps [(S, a, q)] ft es c) (h2 : steps ≤ N) (h4 : ∀ i, F i ↔ (D i ∨ i ∈ ownS g fm fv [(S, a, q)])) (k1 : Sr D' W g fm fv' (steps + 1) [(S, a', q')] ft' es' c') (ho : fv'.ownBlock = fv.ownBlock) (hk : Wk D w (g :: a.own) W D' (g :: a'.own)) (hq : q'.ps.length ≤ 65536 * (N + 1)) : Stp S g (N + 1) F q' ft' w W := by
  have memo : ∀ i, i ∈ g :: a.own → F i := fun i hi => (h4 i).2 (.inr (by
    rcases List.mem_cons.1 hi with rfl | h
    · exact mem_ownS.2 (.inl rfl)
    · exact mem_ownS.2 (.inr (.inr (.inr ⟨(S, a, q), by simp, h⟩)))))
  refine ⟨hk.k.mono (fun i _ hi => memo i hi), fun i => D' i ∨ i ∈ ownS g fm fv' [(S, a', q')], ⟨D', fm, fv', steps + 1, es', c', a', k1, by omega, hq, fun _ => Iff.rfl⟩, fun i hi => ?_⟩
  rcases hi with hi | hi
  · exact (hk.e i hi).imp (fun h => (h4 i).2 (.inl h)) id
  · rcases mem_ownS.1 hi with h | h | h | ⟨f, hf, h⟩
    · exact .inl (memo i (by simp [h]))
    · exact .inl ((h4 i).2 (.inr (mem_ownS.2 (.inr (.inl h)))))
    · exact .inl ((h4 i).2 (.inr (mem_ownS.2 (.inr (.inr (.inl (ho ▸ h)))))))
    · rw [List.mem_singleton.1 hf] at h
      exact (hk.o i (List.mem_cons_of_mem _ h)).imp (memo i) id
theorem write_w (h : Sw S g N F q ft w) (hN : N ≤ 10000) (p m cap : Nat) (ao : Option Addr) (xs : List Int) (hm : m = xs.length) (hm6 : m ≤ 65536) (hb : p + m ≤ 268435456) (hS : Src .u8 w ao xs) (hcap : m ≤ cap) (hdis : ∀ b off, ao = some ⟨b, off, none⟩ → ¬ F b) :
    Calls Tryz.prog 115 #[ptr g, .string S, .int .i64 p, .slice ao m cap] w fun e w' => e = .returned (.int .i64 (ferr (ft.headD (0, 0)).1)) ∧ Stp S g (N + 1) F (gwr p xs q ((pcs p m).take (lft (ft.headD (0, 0)).1 (ft.headD (0, 0)).2 m))) ft.tail w w' := by
  obtain ⟨D, fm, fv, steps, es, c, a, h1, h2, h3, h4⟩ := h
  refine (callsIn_wide.1 (write_go D w g fm fv steps [] [] ft es c S a q h1 (fget_one S a q) (by omega) _ _ rfl p m cap ao xs hm hb hS hcap (fun _ b off e hx => hdis b off e ((h4 b).2 (.inr hx))) (by omega))).mono ?_
  rintro e w' ⟨rfl, D', fv', a', k1, ho, hk⟩
  refine ⟨rfl, stp_of h1 h2 h4 k1 ho hk ?_⟩
  rw [gwr_len]
  have h5 : ((pcs p m).take (lft (ft.headD (0, 0)).1 (ft.headD (0, 0)).2 m)).length ≤ (pcs p m).length := by rw [List.length_take]; exact Nat.min_le_right _ _
  have h6 := pcs_len m p
  omega
theorem flush_w (h : Sw S g N F q ft w) (hN : N ≤ 10000) :
    Calls Tryz.prog 121 #[ptr g, .string S] w fun e w' => e = .returned (.int .i64 (ferr (ft.headD (0, 0)).1)) ∧ Stp S g (N + 1) F (gfl q (lft (ft.headD (0, 0)).1 (ft.headD (0, 0)).2 q.ps.length)) ft.tail w w' := by
  obtain ⟨D, fm, fv, steps, es, c, a, h1, h2, h3, h4⟩ := h
  refine (flush_go D w g fm fv steps [] [] ft es c S a q h1 (fget_one S a q) (by omega) _ _ rfl).mono ?_
  rintro e w' ⟨rfl, D', fv', a', k1, ho, hk⟩
  refine ⟨rfl, stp_of h1 h2 h4 k1 ho hk ?_⟩
  show (q.ps.drop _).length ≤ _
  rw [List.length_drop]
  omega
theorem pending_w (h : Sw S g N F q ft w) : Calls Tryz.prog 29 #[ptr g] w fun e w' => e = .returned (.int .i64 q.ps.length) ∧ Kp (fun _ => False) w w' := by
  obtain ⟨D, fm, fv, steps, es, c, a, h1, h2, h3, h4⟩ := h
  refine (pending_any D w g fm fv steps [(S, a, q)] ft es c h1).mono ?_
  rintro e w' ⟨rfl, k⟩
  exact ⟨by simp [pnd], k⟩
end
end Go.Proofs.YtnccklbnncaeoaaGreat
/- cache: a cache and its store, together; flush. -/
namespace Go.Proofs.YtnccklbnncaeoaaGreat
open Go.RowKit
set_option linter.unusedVariables false
set_option linter.unusedSimpArgs false
/-- A cache and the store beneath it. -/
structure Cv (S : ByteArray) (g bits room Q N : Nat) (G : Gc) (q : Gf) (ft : List (Int × Int)) (F : Nat → Prop) (w : World) : Prop where
  cm : Cm S g bits room Q G w
  sw : Sw S g N F q ft w
  ap : ∀ i, Fc Q G i → ¬ F i
  iv : Iv G
  op : Op G
  pp : ∀ b ∈ G.P, (G.c b).pe = true
  pn : G.P.Nodup
  nn : G.n3 + G.n4 ≤ N
  tt : G.n1 + G.n2 = G.t
  tk : ∀ b ∈ G.B, (G.c b).tk ≤ G.t
  nb : ∀ b ∈ G.B, (G.c b).n < 268435456 / 2 ^ bits
  yl : ∀ b ∈ G.B, ∀ i zs, G.y b = some (i, zs) → zs.length = 2 ^ bits
  lr : G.L.length ≤ room
  bb : 9 ≤ bits ∧ bits ≤ 16
  rr : 1 ≤ room ∧ room ≤ 1024
/-- What a change leaves alone. -/
structure Cch (Q : Nat) (G G' : Gc) (F F' : Nat → Prop) (w w' : World) : Prop where
  kp : Kp (fun i => Fc Q G i ∨ F i) w w'
  fc : ∀ i, Fc Q G' i → Fc Q G i ∨ w.heap.size ≤ i
  ff : ∀ i, F' i → F i ∨ w.heap.size ≤ i
theorem Cch.refl (Q : Nat) (G : Gc) (F : Nat → Prop) (w : World) : Cch Q G G F F w w := ⟨Kp.refl _ _, fun _ h => .inl h, fun _ h => .inl h⟩
theorem Cch.trans {Q : Nat} {G H I : Gc} {F1 F2 F3 : Nat → Prop} {w w1 w2 : World} (h : Cch Q G H F1 F2 w w1) (k : Cch Q H I F2 F3 w1 w2) : Cch Q G I F1 F3 w w2 :=
  ⟨h.kp.trans k.kp (fun i hi e => by
      rcases e with e | e
      · exact (h.fc i e).elim .inl (fun h => by omega)
      · exact (h.ff i e).elim .inr (fun h => by omega)),
   fun i hi => (k.fc i hi).elim (h.fc i) (fun e => .inr (Nat.le_trans h.kp.size e)),
   fun i hi => (k.ff i hi).elim (h.ff i) (fun e => .inr (Nat.le_trans h.kp.size e))⟩
theorem Cch.kp0 {Q : Nat} {G G' : Gc} {F F' : Nat → Prop} {w w1 w2 : World} (h : Cch Q G G' F F' w w1) (k : Kp (fun _ => False) w1 w2) : Cch Q G G' F F' w w2 :=
  ⟨h.kp.trans k (fun _ _ e => e.elim), h.fc, h.ff⟩
theorem Cch.pre {Q : Nat} {G G' : Gc} {F F' : Nat → Prop} {w w1 w2 : World} (k : Kp (fun _ => False) w w1) (h : Cch Q G G' F F' w1 w2) : Cch Q G G' F F' w w2 :=
  ⟨(k.mono (fun _ _ e => e.elim)).trans h.kp (fun _ _ e => e), fun i hi => (h.fc i hi).imp id (fun e => Nat.le_trans k.size e), fun i hi => (h.ff i hi).imp id (fun e => Nat.le_trans k.size e)⟩
theorem Cv.kp {S : ByteArray} {g bits room Q N : Nat} {G : Gc} {q : Gf} {ft : List (Int × Int)} {F X : Nat → Prop} {w w' : World} (h : Cv S g bits room Q N G q ft F w) (k : Kp X w w') (h1 : ∀ i, Fc Q G i → ¬ X i) (h2 : ∀ i, F i → ¬ X i) : Cv S g bits room Q N G q ft F w' :=
  ⟨h.cm.kp k h1, h.sw.kp k h2, h.ap, h.iv, h.op, h.pp, h.pn, h.nn, h.tt, h.tk, h.nb, h.yl, h.lr, h.bb, h.rr⟩
theorem Cv.kp0 {S : ByteArray} {g bits room Q N : Nat} {G : Gc} {q : Gf} {ft : List (Int × Int)} {F : Nat → Prop} {w w' : World} (h : Cv S g bits room Q N G q ft F w) (k : Kp (fun _ => False) w w') : Cv S g bits room Q N G q ft F w' := h.kp k (fun _ _ h => h) (fun _ _ h => h)
/-- A page is pending no more. -/
def gUn (G : Gc) (b : Nat) : Gc := { G with c := upd G.c b { G.c b with pe := false } }
theorem gUn_c (G : Gc) (b a : Nat) : ((gUn G b).c a).n = (G.c a).n ∧ ((gUn G b).c a).bv = (G.c a).bv ∧ ((gUn G b).c a).di = (G.c a).di ∧ ((gUn G b).c a).tk = (G.c a).tk ∧ ((gUn G b).c a).wm = (G.c a).wm ∧ ((gUn G b).c a).rm = (G.c a).rm := by
  show (upd G.c b { G.c b with pe := false } a).n = _ ∧ (upd G.c b { G.c b with pe := false } a).bv = _ ∧ (upd G.c b { G.c b with pe := false } a).di = _ ∧ (upd G.c b { G.c b with pe := false } a).tk = _ ∧ (upd G.c b { G.c b with pe := false } a).wm = _ ∧ (upd G.c b { G.c b with pe := false } a).rm = _
  unfold upd
  split
  · rename_i e; rw [e]; exact ⟨rfl, rfl, rfl, rfl, rfl, rfl⟩
  · exact ⟨rfl, rfl, rfl, rfl, rfl, rfl⟩
theorem gUn_pe (G : Gc) (b a : Nat) : ((gUn G b).c a).pe = if a = b then false else (G.c a).pe := by
  show (upd G.c b { G.c b with pe := false } a).pe = _
  unfold upd
  split <;> rfl
theorem les_un (G : Gc) (b : Nat) : Les G (gUn G b) := ⟨rfl, rfl, rfl, rfl, rfl, rfl, rfl, rfl, rfl, rfl, gUn_c G b, fun _ h => h, fun _ _ h => h, fun _ _ h _ => h⟩
theorem key_congr {c d : Nat → Pc} {a : Nat} (h1 : (d a).di = (c a).di) (h2 : (d a).tk = (c a).tk) : key d a = key c a := by
  unfold key; rw [h1, h2]
theorem Iv.un {G : Gc} (h : Iv G) (b : Nat) : Iv (gUn G b) :=
  ⟨h.wk, h.wr, h.rk, h.kb, h.lk, h.ll, fun a ha hp => by
    rw [gUn_pe] at hp
    split at hp
    · cases hp
    · exact h.pk a ha hp, fun a ha hd => h.dk a ha (by rw [← (gUn_c G b a).2.2.1]; exact hd), Hpd.congr h.hp (fun a _ => key_congr (gUn_c G b a).2.2.1 (gUn_c G b a).2.2.2.1)⟩
theorem Op.un {G : Gc} (h : Op G) (b : Nat) : Opx (gUn G b) b := fun x a ha hab => by
  rw [(gUn_c G b a).2.2.1, gUn_pe, if_neg hab]
  exact h x a ha
theorem fc_un {Q : Nat} {G : Gc} {b i : Nat} (hi : Fc Q (gUn G b) i) : Fc Q G i :=
  fc_same (H := gUn G b) (G := G) rfl rfl rfl rfl rfl (fun a _ => ⟨(gUn_c G b a).2.2.2.2.1, (gUn_c G b a).2.2.2.2.2⟩) (fun a _ j zs e => ⟨zs, e⟩) i hi
theorem Les.fc {Q : Nat} {G G' : Gc} (h : Les G G') (hp : G'.pv = G.pv) (i : Nat) (hi : Fc Q G' i) : Fc Q G i :=
  fc_same h.kl h.pm h.lv hp h.B (fun a _ => ⟨(h.c a).2.2.2.2.1, (h.c a).2.2.2.2.2⟩) (fun a _ j zs e => ⟨zs, by rw [← h.y]; exact e⟩) i hi
/-- What the loop of flush holds when i are done. -/
structure Fl (S : ByteArray) (g bits room Q : Nat) (G : Gc) (i : Nat) (H : Gc) (w : World) : Prop where
  cm : Cm S g bits room Q H w
  iv : Iv H
  op : Op H
  le : Les G H
  p : H.P = G.P
  v : H.pv = G.pv
  n : H.n4 = G.n4
  pe : ∀ j, i ≤ j → j < G.P.length → (H.c (G.P.getD j 0)).pe = true
  pf : ∀ j, j < i → j < G.P.length → (H.c (G.P.getD j 0)).pe = false
theorem Fl.next {S : ByteArray} {g bits room Q : Nat} {G : Gc} {i : Nat} {H : Gc} {w : World} (h : Fl S g bits room Q G i H w) (hn : G.P.Nodup) (hi : i < G.P.length) {w' : World} (hc : Cm S g bits room Q (gSet (gUn H (G.P.getD i 0)) (G.P.getD i 0)) w') : Fl S g bits room Q G (i + 1) (gSet (gUn H (G.P.getD i 0)) (G.P.getD i 0)) w' := by
  have hb : G.P.getD i 0 ∈ G.P := gn_mem hi
  generalize hbe : G.P.getD i 0 = b at *
  have hbB : b ∈ H.B := h.cm.pb b (by rw [h.p]; exact hb)
  obtain ⟨h1, h2, h3⟩ := (h.iv.un b).set b hbB (h.op.un b)
  have hw := set_wpR (gUn H b) b
  have hpe : ∀ a, ((gSet (gUn H b) b).c a).pe = if a = b then false else (H.c a).pe := fun a => by rw [hw.1]; exact gUn_pe H b a
  have hne : ∀ j, j < G.P.length → j ≠ i → G.P.getD j 0 ≠ b := fun j hj hji e => by
    rw [← hbe, gn hj, gn hi] at e
    exact hji ((List.getElem_inj hn).1 e)
  refine ⟨hc, h1, h2, (h.le.trans (les_un H b)).trans h3, hw.2.1.trans h.p, hw.2.2.1.trans h.v, hw.2.2.2.trans h.n, fun j hj hl => ?_, fun j hj hl => ?_⟩
  · rw [hpe, if_neg (hne j hl (by omega))]
    exact h.pe j (by omega) hl
  · rw [hpe]
    by_cases e : j = i
    · subst e; rw [hbe, if_pos rfl]
    · rw [if_neg (hne j hl e)]
      exact h.pf j (by omega) hl
end Go.Proofs.YtnccklbnncaeoaaGreat
/- A region that draws its order: quiet operations, then one with an effect that waits for all of them, then one behind it. Whatever the program. -/
namespace Go.Proofs.YtnccklbnncaeoaaGreat
variable {F : Fence} {n : Nat} {P : Program} {ops : Array Oper} {C : World → Prop} {md : Region.Mode}
/-- The last operation waits for all others. -/
def lateB2 (md : Region.Mode) (ops : Array Oper) (m : Nat) : Bool := (List.range ops.size).all fun i => i == m || (anc md ops ops.size m).contains i || (anc md ops ops.size i).contains m
theorem late_not2 {listed : Array Bool} {m i : Nat} (hl : lateB2 md ops m = true) (hc : Clsd md ops listed) (hi : i ∈ Region.ready md ops listed) (hne : i ≠ m) : m ∉ Region.ready md ops listed := by
  intro hm
  obtain ⟨h0, o, ho, _⟩ := mem_ready.1 hi
  have hlt : i < ops.size := (Array.getElem?_eq_some_iff.1 ho).1
  have := (List.all_eq_true.1 hl) i (List.mem_range.2 hlt)
  rw [Bool.or_eq_true, Bool.or_eq_true] at this
  rcases this with (h | h) | h
  · exact hne (by simpa using h)
  · have := anc_ready hc hm ops.size i (by simpa using h)
    rcases Nat.lt_or_ge i listed.size with h' | h'
    · simp [h'] at h0 this; rw [h0] at this; cases this
    · simp [Array.getElem?_eq_none h'] at this
  · have := anc_ready hc hi ops.size m (by simpa using h)
    obtain ⟨h1, _, _, _⟩ := mem_ready.1 hm
    rcases Nat.lt_or_ge m listed.size with h' | h'
    · simp [h'] at h1 this; rw [h1] at this; cases this
    · simp [Array.getElem?_eq_none h'] at this

/-- Whatever order is picked, up to the last one. -/
def wpAnyV (F : Fence) (n : Nat) (P : Program) (md : Region.Mode) (ops : Array Oper) (C : World → Prop) (m : Nat) (T : Act → Prop) : Nat → Array Bool → Act → Prop
  | 0, listed, a => (Region.ready md ops listed = [m] ∧ Region.ready md ops (listed.setIfInBounds m true) = [m + 1] ∧ Region.ready md ops ((listed.setIfInBounds m true).setIfInBounds (m + 1) true) = []) ∧ T a
  | fuel + 1, listed, a => Region.ready md ops listed ≠ [] ∧ ∀ i ∈ Region.ready md ops listed, qOpIn F n P ops C i (wpAnyV F n P md ops C m T fuel (listed.setIfInBounds i true)) a
theorem wpAnyV_first {m : Nat} {T : Act → Prop} {i : Nat} {oi : Oper} {v : Value} (hl : lateB2 md ops m = true) (hi : ops[i]? = some oi) (him : i ≠ m) (hsel : ∀ (j : Nat) (o : Oper) cs b, ops[j]? = some o → o.op ≠ .select cs b) :
    ∀ (fuel : Nat) (listed : Array Bool) (a : Act), Clsd md ops listed →
      (∀ j oj, ops[j]? = some oj → j ≠ i → listed.getD j true = false → (∀ e ∈ oj.after, Region.binds md e = true → e.on ≠ i) → oi.apart ops oj = true) →
      i ∈ Region.ready md ops listed → YieldsQuiet F n P ops C oi v a →
      wpAnyV F n P md ops C m T fuel (listed.setIfInBounds i true) (a.put oi.dst v) → wpAnyV F n P md ops C m T (fuel + 1) listed a := by
  intro fuel
  induction fuel with
  | zero =>
    intro listed a hc _ hr hy H
    refine ⟨fun h => (by rw [h] at hr; cases hr), fun j hj => ?_⟩
    by_cases hji : j = i
    · subst hji; exact hy.qOpIn hi H
    · have h2 := ready_mono hj hji
      rw [H.1.1] at h2
      have : j = m := by simpa using h2
      subst this
      exact absurd hj (late_not2 hl hc hr him)
  | succ fuel ih =>
    intro listed a hc hfree hr hy H
    refine ⟨fun h => (by rw [h] at hr; cases hr), fun j hj => ?_⟩
    by_cases hji : j = i
    · subst hji; exact hy.qOpIn hi H
    · have h1 := H.2 j (ready_mono hj hji)
      obtain ⟨hjun, oj, hoj, hall⟩ := mem_ready.1 hj
      have hnot : ∀ e ∈ oj.after, Region.binds md e = true → e.on ≠ i := fun e he hb heq => by
        have h1 := hall e he hb
        have h0 := (mem_ready.1 hr).1
        rw [heq] at h1
        rcases Nat.lt_or_ge i listed.size with h' | h'
        · simp [h'] at h0 h1; rw [h0] at h1; cases h1
        · simp [Array.getElem?_eq_none h'] at h1
      have h2 := qOpIn_put hoj (hfree j oj hoj hji hjun hnot) (fun cs b => hsel i oi cs b hi) (fun cs b => hsel j oj cs b hoj) hy h1
      have hfree' : ∀ k ok, ops[k]? = some ok → k ≠ i → (listed.setIfInBounds j true).getD k true = false →
          (∀ e ∈ ok.after, Region.binds md e = true → e.on ≠ i) → oi.apart ops ok = true := fun k ok hk hki hun hno => by
        refine hfree k ok hk hki ?_ hno
        by_cases hjk : j = k
        · subst hjk; exact hjun
        · rw [getD_set_ne true hjk] at hun; exact hun
      refine qOpIn_mono (fun a' h3 => ih (listed.setIfInBounds j true) a' (hc.step hj) hfree' (ready_mono hr (Ne.symm hji)) h3.1 ?_) h2
      rw [Array.setIfInBounds_comm _ _ hji]
      exact h3.2
/-- In the order of the text, up to the last one. -/
def lexLast2 (md : Region.Mode) (ops : Array Oper) (m : Nat) : Nat → Nat → Array Bool → Bool
  | 0, _, listed => Region.ready md ops listed == [m] && (Region.ready md ops (listed.setIfInBounds m true) == [m + 1] && (Region.ready md ops ((listed.setIfInBounds m true).setIfInBounds (m + 1) true)).isEmpty)
  | fuel + 1, k, listed => (Region.ready md ops listed).contains k && Region.free md ops listed k && lexLast2 md ops m fuel (k + 1) (listed.setIfInBounds k true)
theorem wpAnyV_lex {m : Nat} {T : Act → Prop} (hl : lateB2 md ops m = true) (hs : Region.noSelect ops = true) : ∀ (l : List Oper) (k : Nat) (listed : Array Bool) (a : Act), k + l.length ≤ m → Clsd md ops listed → (∀ j, j < l.length → l[j]? = ops[k + j]?) →
    lexLast2 md ops m l.length k listed = true → wpQuietIn F n P ops C T l a → wpAnyV F n P md ops C m T l.length listed a
  | [], _, _, _, _, _, _, hB, h => ⟨by simpa [lexLast2] using hB, h⟩
  | o :: l, k, listed, a, hk, hc, hl', hB, h => by
    have h0 : ops[k]? = some o := by simpa using (hl' 0 (by simp)).symm
    simp only [List.length_cons, lexLast2, Bool.and_eq_true] at hB
    obtain ⟨⟨hr, hf⟩, hB'⟩ := hB
    have hst : qOpIn F n P ops C k (wpQuietIn F n P ops C T l) a := by unfold qOpIn; simp only [h0]; exact h
    obtain ⟨v, hy, hK⟩ := yieldsQuiet_of_qOpIn h0 hst
    have hr' : k ∈ Region.ready md ops listed := by simpa using hr
    exact wpAnyV_first hl h0 (by simp at hk; omega) (Region.noSelect_spec hs) l.length listed a hc (Region.free_spec h0 hf) hr' hy
      (wpAnyV_lex hl hs l (k + 1) _ _ (by simp at hk; omega) (hc.step hr') (fun j hj => by have := hl' (j + 1) (by simp; omega); simpa [Nat.add_assoc, Nat.add_comm 1 j] using this) hB' hK)
theorem wpAnyIn_of_V {m : Nat} {T : Act → Prop} {Q' : Exit → Act → World → Prop} (hnd : ∀ (i : Nat) (o : Oper), ops[i]? = some o → ∀ c, o.op ≠ .defer c) (hT : ∀ listed a w, Region.ready md ops listed = [m] → Region.ready md ops (listed.setIfInBounds m true) = [m + 1] → Region.ready md ops ((listed.setIfInBounds m true).setIfInBounds (m + 1) true) = [] → C w → T a → wpAnyIn F n P md ops Q' 2 listed a w) :
    ∀ (fuel : Nat) (listed : Array Bool) (a : Act) (w : World), C w → wpAnyV F n P md ops C m T fuel listed a → wpAnyIn F n P md ops Q' (fuel + 2) listed a w
  | 0, _, _, _, hw, h => hT _ _ _ h.1.1 h.1.2.1 h.1.2.2 hw h.2
  | fuel + 1, _, _, _, hw, h => ⟨fun h0 => absurd h0 h.1, fun i hi => wpOpIn_of_qOpInR hnd hw (fun a' w' hw' => wpAnyIn_of_V hnd hT fuel _ a' w' hw') (h.2 i hi)⟩
def lastB2 (l : List Oper) : Bool := noDefer l && Region.noSelect l.toArray && lateB2 .any l.toArray (l.length - 2) && lexLast2 .any l.toArray (l.length - 2) (l.length - 2) 0 (Array.replicate l.length false)
theorem wpIn_region_last2 {id : Nat} {Q : Exit → Act → World → Prop} {a : Act} {w : World} {l : List Oper} (hm : P.follows .mixedOrders = true) (hB : lastB2 l = true) (l' : List Oper) (o o2 : Oper) (hl : l = l' ++ [o, o2])
    (h : wpQuietIn F n P l.toArray (fun w' => ∃ n, w' = w.drewN n) (fun a' => ∀ w', (∃ n, w' = w.drewN n) → wpListIn F n P l.toArray Q [o, o2] a' w') l' a) : (Code.region id l.toArray true).wpIn F n P Q a w := by
  simp only [lastB2, Bool.and_eq_true] at hB
  obtain ⟨⟨⟨b1, b2⟩, b3⟩, b4⟩ := hB
  have hlen : l.length = l'.length + 2 := by rw [hl]; simp
  have hm1 : l.length - 2 = l'.length := by omega
  rw [hm1] at b3 b4
  refine wpIn_region_any hm ?_
  rw [show l.toArray.size = l'.length + 2 by simp [hlen]]
  refine wpAnyIn_of_V (C := fun w' => ∃ n, w' = w.drewN n) (m := l'.length) (T := fun a' => ∀ w', (∃ n, w' = w.drewN n) → wpListIn F n P l.toArray Q [o, o2] a' w') (fun i o ho => noDefer_spec b1 ho) ?_ l'.length _ _ _ ⟨1, rfl⟩ ?_
  · intro listed a' w' hr hr2 hr3 hw hT
    have hlast : l.toArray[l'.length]? = some o := by rw [hl]; simp
    have hlast2 : l.toArray[l'.length + 1]? = some o2 := by rw [hl]; simp
    refine ⟨fun h0 => (by rw [hr] at h0; cases h0), fun i hi => ?_⟩
    rw [hr] at hi
    have : i = l'.length := by simpa using hi
    subst this
    have hT := hT w' hw
    have two : ∀ a3 w3, wpListIn F n P l.toArray Q [o2] a3 w3 → wpAnyIn F n P .any l.toArray Q 1 (listed.setIfInBounds l'.length true) a3 w3 := by
      intro a3 w3 h3
      refine ⟨fun h0 => (by rw [hr2] at h0; cases h0), fun i hi => ?_⟩
      rw [hr2] at hi
      have : i = l'.length + 1 := by simpa using hi
      subst this
      unfold wpOpIn
      simp only [hlast2]
      unfold wpListIn at h3
      split
      · rename_i hw'; simp only [hw', if_true] at h3
        exact Oper.wpIn_mono (fun a w h => ⟨hr3, h⟩) h3
      · rename_i hw'; simp only [hw'] at h3
        exact ⟨h3.1, hr3, h3.2⟩
    unfold wpOpIn
    simp only [hlast]
    unfold wpListIn at hT
    split
    · rename_i hw'; simp only [hw', if_true] at hT
      exact Oper.wpIn_mono (fun a w h => two a w h) hT
    · rename_i hw'; simp only [hw'] at hT
      exact ⟨hT.1, two _ _ hT.2⟩
  · refine wpAnyV_lex b3 b2 l' 0 _ a (by omega) (by intro j o ho hj; simp [Array.getElem?_replicate] at hj; split at hj <;> simp at hj) (fun j hj => by rw [hl]; simp [List.getElem?_append_left hj]) (by rw [hlen] at b4; exact b4) h
theorem wpIn_region_two {id : Nat} {Q : Exit → Act → World → Prop} {a : Act} {w : World} {l : List Oper} (m : Nat) (hm : P.follows .mixedOrders = true) (hB : lastB2 l = true) (h2 : l.length = m + 2)
    (h : wpQuietIn F n P l.toArray (fun w' => ∃ n, w' = w.drewN n) (fun a' => ∀ w', (∃ n, w' = w.drewN n) → wpListIn F n P l.toArray Q (l.drop m) a' w') (l.take m) a) : (Code.region id l.toArray true).wpIn F n P Q a w := by
  obtain ⟨d, hx⟩ : ∃ d, d = l.drop m := ⟨_, rfl⟩
  have hd : d.length = 2 := by rw [hx, List.length_drop]; omega
  rw [← hx] at h
  obtain ⟨o, o2, he⟩ : ∃ o o2, d = [o, o2] := by
    cases d with
    | nil => simp at hd
    | cons o d =>
      cases d with
      | nil => simp at hd
      | cons o2 d =>
        cases d with
        | nil => exact ⟨o, o2, rfl⟩
        | cons _ _ => simp at hd
  have e2 : l = l.take m ++ [o, o2] := by rw [← he, hx, List.take_append_drop]
  rw [he] at h
  exact wpIn_region_last2 hm hB (l.take m) o o2 e2 h
end Go.Proofs.YtnccklbnncaeoaaGreat
