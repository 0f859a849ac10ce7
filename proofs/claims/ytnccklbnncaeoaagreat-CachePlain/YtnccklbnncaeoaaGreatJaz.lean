import Derived.Test.YtnccklbnncaeoaaGreatJaj
import Derived.Test.YtnccklbnncaeoaaGreatJaw
import Derived.Test.YtnccklbnncaeoaaGreatJao
import Derived.Test.YtnccklbnncaeoaaGreatJay
import Derived.Deep.CutRange
import Derived.Laws.AppendOwnNone
/- What a crash leaves of a file. -/
namespace Go.Proofs.YtnccklbnncaeoaaGreat
open Go.RowKit

def pkb (zs : List Int) (k : Nat) : Bool := if k < zs.length then pck zs k else false
/-- The pieces that last, the first pick being that of number k. -/
def pks (zs : List Int) : Nat → List (Nat × List Int) → List (Nat × List Int)
  | _, [] => []
  | k, p :: ps => if pkb zs k then p :: pks zs (k + 1) ps else pks zs (k + 1) ps
theorem pks_snoc (zs : List Int) (k : Nat) (ps : List (Nat × List Int)) (p : Nat × List Int) : pks zs k (ps ++ [p]) = pks zs k ps ++ (if pkb zs (k + ps.length) then [p] else []) := by
  induction ps generalizing k with
  | nil => simp only [List.nil_append, pks, List.length_nil, Nat.add_zero]
  | cons q ps ih =>
    simp only [List.cons_append, pks, List.length_cons]
    rw [ih (k + 1), show k + 1 + ps.length = k + (ps.length + 1) by omega]
    by_cases h : pkb zs k = true
    · rw [if_pos h, if_pos h]; rfl
    · rw [if_neg h, if_neg h]
theorem pks_sub (zs : List Int) (k : Nat) (ps : List (Nat × List Int)) : ∀ p ∈ pks zs k ps, p ∈ ps := by
  induction ps generalizing k with
  | nil => intro p h; simp [pks] at h
  | cons q ps ih =>
    intro p h
    simp only [pks] at h
    by_cases hb : pkb zs k = true
    · rw [if_pos hb] at h
      rcases List.mem_cons.1 h with rfl | h
      · simp
      · exact List.mem_cons_of_mem _ (ih _ p h)
    · rw [if_neg hb] at h
      exact List.mem_cons_of_mem _ (ih _ p h)
theorem ov_high {f : Nat → Int} {p : Nat × List Int} {sz i : Nat} (hp : p.1 + p.2.length ≤ sz) (h : sz ≤ i) : ov f p i = f i := by
  unfold ov
  rw [if_neg (by omega)]
/-- A piece has been put over what lasts of a file without pieces. -/
theorem fr_lastp {D D' : Nat → Prop} {w W : World} {a : Fa} {sz : Nat} {L : Nat → Int} {p : Nat × List Int} {es : List (Int × Value × Nat)} {c : Nat} (h : Fr D w a sz L []) (hm : Sm D' W a.lm (ov L p) zero es c) (k : Kp (fun i => i = a.lm) w W) (hd : ∀ i, D i → D' i) (hn : ∀ i, D' i → i ∉ a.own) (hb : ∀ i, D' i → i < W.heap.size) (hp : p.1 + p.2.length ≤ sz) (he : ∃ c, Mp (Value.int .i64) w a.om [] c) : Fr D' W a sz (ov L p) [] := by
  obtain ⟨vs, h3⟩ := h.pc
  obtain ⟨c0, hc⟩ := he
  have hlm := h.lm_ne
  have hne := h.ne
  have nm : ∀ i, D i → ¬ i = a.lm := fun i hi e => h.nd i hi (by rw [e, Fa.mem]; exact .inr (.inl rfl))
  refine ⟨h.st.kp k (fun e => hlm.1 e.symm), ⟨es, c, hm⟩, ⟨[], c0, ⟨kp_mp hc k (fun e => hne e.symm), (fun _ h => by cases h), (fun _ _ h => by cases h), fun _ _ => rfl⟩, fun p hp => by cases hp⟩, ⟨vs, (h3.kp k (fun b hb e => (h.fb_ne hb).2.1 e) nm).mono (fun i _ => hd i)⟩, hne, hn, hb, fun i hi => ?_, (fun p hp => by cases hp), h.sb, h.nb⟩
  rw [ov_high hp hi]
  exact h.lz i hi
theorem fr_left {D : Nat → Prop} {w W : World} {fb lm om : Nat} {sz : Nat} {L : Nat → Int} {el : List (Int × Value × Nat)} {cl m0 c0 : Nat} (hl : Sm D w m0 L zero el cl) (k : Kp (fun _ => False) w W) (hs : St 164 W fb #[.int .i64 sz, .map (some lm), .map (some om), .slice none 0 0]) (h1 : Mp (Value.int .i64) W lm el cl) (h2 : Mp (Value.int .i64) W om [] c0) (hne : lm ≠ om) (hd : ∀ i, D i → i < w.heap.size) (hn : w.heap.size ≤ fb ∧ w.heap.size ≤ lm ∧ w.heap.size ≤ om) (hz : ∀ i, sz ≤ i → L i = 0) (hsb : sz ≤ 268435456) : Fr D W ⟨fb, lm, om, .slice none 0 0⟩ sz L [] := by
  refine ⟨hs, ⟨el, cl, h1, hl.ks, fun j u hu => (hl.so j u hu).kp k (fun _ _ h => h), hl.no⟩, ⟨[], c0, ⟨h2, (fun _ h => by cases h), (fun _ _ h => by cases h), fun _ _ => rfl⟩, fun p hp => by cases hp⟩, ⟨[], rfl, (fun i hi => by simp at hi), rfl, .inl ⟨rfl, rfl⟩⟩, hne, fun i hi hm => ?_, fun i hi => Nat.lt_of_lt_of_le (hd i hi) k.size, hz, (fun p hp => by cases hp), hsb, by simp⟩
  have := hd i hi
  rcases (Fa.mem _ i).1 hm with h | h | h | h
  · dsimp only at h; omega
  · dsimp only at h; omega
  · dsimp only at h; omega
  · cases h
theorem pkb_min (zs : List Int) (K n : Nat) (hn : n = zs.length) : (if min K n < n then pck zs (min K n) else false) = pkb zs K := by
  unfold pkb
  by_cases h : K < n
  · rw [if_pos (by omega), if_pos (by omega), show min K n = K by omega]
  · rw [if_neg (by omega), if_neg (by omega)]
/-- What the loop of crashed keeps. -/
structure CdI (D : Nat → Prop) (w : World) (sz : Nat) (L : Nat → Int) (ps : List (Nat × List Int)) (zs : List Int) (K n Bn : Nat) (k : Nat) (W : World) (D' : Nat → Prop) (a' : Fa) : Prop where
  f : Fr D' W a' sz (ovs L (pks zs K (ps.take k))) []
  e : ∃ c, Mp (Value.int .i64) W a'.om [] c
  o : ∀ i, i ∈ a'.own → w.heap.size ≤ i
  d : ∀ i, D i → D' i
  d2 : ∀ i, D' i → D i ∨ w.heap.size ≤ i
  b : St 3 W Bn #[.int .i64 ((min (K + k) n : Nat) : Int)]
  kp : Kp (fun i => i = Bn) w W
theorem getD_mem2 (ps : List (Nat × List Int)) (k : Nat) (h : k < ps.length) : ps.getD k (0, []) ∈ ps := by
  rw [List.getD_eq_getElem?_getD, List.getElem?_eq_getElem h]
  exact List.getElem_mem h
theorem Pr.cells {D : Nat → Prop} {w : World} {pv : Value} {ps : List (Nat × List Int)} {vs : List Value} (h : Pr D w pv ps vs) (hp : 0 < ps.length) : ∃ g off cap, pv = .slice (some ⟨g, off, none⟩) ps.length cap ∧ g < w.heap.size ∧ pv.ownBlock = some g ∧ ∀ i, i < ps.length → w.cell? ⟨g, off + i * 2, none⟩ = some (.int .i64 (ps.getD i (0, [])).1) ∧ w.cell? ⟨g, off + i * 2 + 1, none⟩ = some (vs.getD i undef) := by
  rcases h.row.2 with ⟨_, h1⟩ | ⟨g, cap, cur, rfl, h1, h2, h3, h4, h5, h6⟩
  · omega
  · refine ⟨g, 0, cap, rfl, (Array.getElem?_eq_some_iff.1 h2).1, rfl, fun i hi => ?_⟩
    obtain ⟨e1, e2⟩ := pcl_get ps vs h.len i hi
    rw [← h6, List.getElem?_take, if_pos (by omega)] at e1
    rw [← h6, List.getElem?_take, if_pos (by omega)] at e2
    refine ⟨(cell_of_row w g _ _ 215 _ h2).trans ?_, (cell_of_row w g _ _ 215 _ h2).trans ?_⟩
    · rw [Nat.zero_add]; simpa using e1
    · rw [Nat.zero_add]; simpa using e2
theorem pks_step (zs : List Int) (K : Nat) (ps : List (Nat × List Int)) (k : Nat) (h : k < ps.length) : pks zs K (ps.take (k + 1)) = pks zs K (ps.take k) ++ (if pkb zs (K + k) then [ps.getD k (0, [])] else []) := by
  rw [List.take_add_one, List.getElem?_eq_getElem h]
  show pks zs K (ps.take k ++ [ps[k]]) = _
  rw [pks_snoc, List.length_take, Nat.min_eq_left (by omega), List.getD_eq_getElem?_getD, List.getElem?_eq_getElem h]
  rfl
theorem nxt_min (K k n : Nat) : (if min (K + k) n < n then min (K + k) n + 1 else min (K + k) n) = min (K + (k + 1)) n := by
  split <;> omega
theorem CdI.fk {D : Nat → Prop} {w : World} {sz : Nat} {L : Nat → Int} {ps : List (Nat × List Int)} {zs : List Int} {K n Bn k : Nat} {W W' : World} {D' : Nat → Prop} {a' : Fa} (h : CdI D w sz L ps zs K n Bn k W D' a') (hl : Bn < w.heap.size) (hD : ¬ D Bn) (kk : Kp (fun i => i = Bn) W W') : Fr D' W' a' sz (ovs L (pks zs K (ps.take k))) [] ∧ (∃ c, Mp (Value.int .i64) W' a'.om [] c) := by
  have hno : ∀ i, i ∈ a'.own → ¬ i = Bn := fun i hi e => by have := h.o i hi; omega
  refine ⟨h.f.kp kk hno (fun i hi e => ?_), ?_⟩
  · rcases h.d2 i hi with h1 | h1
    · exact hD (e ▸ h1)
    · omega
  · obtain ⟨c, hc⟩ := h.e
    exact ⟨c, kp_mp hc kk (hno _ ((Fa.mem _ _).2 (.inr (.inr (.inl rfl)))))⟩
theorem CdI.skip {D : Nat → Prop} {w : World} {sz : Nat} {L : Nat → Int} {ps : List (Nat × List Int)} {zs : List Int} {K n Bn k : Nat} {W W' : World} {D' : Nat → Prop} {a' : Fa} (h : CdI D w sz L ps zs K n Bn k W D' a') (hl : Bn < w.heap.size) (hD : ¬ D Bn) (kk : Kp (fun i => i = Bn) W W') (hb : St 3 W' Bn #[.int .i64 ((if min (K + k) n < n then min (K + k) n + 1 else min (K + k) n : Nat) : Int)]) (hk : k < ps.length) (hp : pkb zs (K + k) = false) : CdI D w sz L ps zs K n Bn (k + 1) W' D' a' := by
  obtain ⟨h1, h2⟩ := h.fk hl hD kk
  refine ⟨?_, h2, h.o, h.d, h.d2, by rw [← nxt_min]; exact hb, h.kp.trans kk (fun _ _ h => h)⟩
  rw [pks_step zs K ps k hk, hp, if_neg (by simp), List.append_nil]
  exact h1
theorem CdI.take {D : Nat → Prop} {w : World} {sz : Nat} {L : Nat → Int} {ps : List (Nat × List Int)} {zs : List Int} {K n Bn k : Nat} {W W' X w' : World} {D' : Nat → Prop} {a' : Fa} {p : Nat × List Int} {es : List (Int × Value × Nat)} {c : Nat} (h : CdI D w sz L ps zs K n Bn k W D' a') (hl : Bn < w.heap.size) (hD : ¬ D Bn) (kk : Kp (fun i => i = Bn) W W') (kx : Kp (fun _ => False) W' X) (hb : St 3 W' Bn #[.int .i64 ((if min (K + k) n < n then min (K + k) n + 1 else min (K + k) n : Nat) : Int)]) (hk : k < ps.length) (hp : pkb zs (K + k) = true) (hpe : p = ps.getD k (0, [])) (hpb : p.1 + p.2.length ≤ sz)
    (hm : Sm (fun i => D' i ∨ (X.heap.size ≤ i ∧ i < w'.heap.size)) w' a'.lm (ov (ovs L (pks zs K (ps.take k))) p) zero es c) (km : Kp (fun i => i = a'.lm) X w') : CdI D w sz L ps zs K n Bn (k + 1) w' (fun i => D' i ∨ (X.heap.size ≤ i ∧ i < w'.heap.size)) a' := by
  have k2 : Kp (fun i => i = Bn) W X := kk.trans kx (fun _ _ h => h.elim)
  obtain ⟨h1, c0, h2⟩ := h.fk hl hD k2
  have hlm : w.heap.size ≤ a'.lm := h.o _ ((Fa.mem _ _).2 (.inr (.inl rfl)))
  have hsz : w.heap.size ≤ X.heap.size := Nat.le_trans h.kp.size k2.size
  refine ⟨?_, ⟨c0, kp_mp h2 km (fun e => h.f.ne e.symm)⟩, h.o, fun i hi => .inl (h.d i hi), fun i hi => ?_, ?_, (h.kp.trans k2 (fun _ _ h => h)).trans km (fun i hi e => by omega)⟩
  · rw [pks_step zs K ps k hk, hp, if_pos rfl, ← hpe, ovs_snoc]
    refine fr_lastp h1 hm km (fun i hi => .inl hi) (fun i hi hn => ?_) (fun i hi => ?_) hpb ⟨c0, h2⟩
    · rcases hi with hi | hi
      · exact h1.nd i hi hn
      · have := h1.lt i hn; omega
    · rcases hi with hi | hi
      · exact Nat.lt_of_lt_of_le (h1.db i hi) km.size
      · exact hi.2
  · rcases hi with hi | hi
    · exact h.d2 i hi
    · right; omega
  · rw [← nxt_min]
    exact (hb.kp kx (fun h => h)).kp km (fun e => by omega)
end Go.Proofs.YtnccklbnncaeoaaGreat
/- flush: the first pieces last. -/
namespace Go.Proofs.YtnccklbnncaeoaaGreat
open Go.RowKit

theorem ovs_high {f : Nat → Int} {sz i : Nat} (ps : List (Nat × List Int)) (hp : ∀ p ∈ ps, p.1 + p.2.length ≤ sz) (h : sz ≤ i) : ovs f ps i = f i := by
  induction ps generalizing f with
  | nil => rfl
  | cons p ps ih =>
    show ovs (ov f p) ps i = f i
    rw [ih (fun q hq => hp q (List.mem_cons_of_mem _ hq)), ov_high (hp p (by simp)) h]
theorem sec_ovs_other (f : Nat → Int) (ps : List (Nat × List Int)) (k : Nat) (h : ∀ p ∈ ps, p.1 % 512 + p.2.length ≤ 512 ∧ k ≠ p.1 / 512) : sec (ovs f ps) k = sec f k := by
  induction ps generalizing f with
  | nil => rfl
  | cons p ps ih =>
    show sec (ovs (ov f p) ps) k = _
    rw [ih (ov f p) (fun q hq => h q (List.mem_cons_of_mem _ hq))]
    exact sec_ov_other f p k (h p (by simp)).1 (h p (by simp)).2
/-- A sector that 'over' has not: no piece touches it. -/
theorem cov_sec {es : List (Int × Value × Nat)} {ps : List (Nat × List Int)} {L : Nat → Int} {k n : Nat} (hc : Cov es ps) (hr : ∀ p ∈ ps, p.1 % 512 + p.2.length ≤ 512) (hk : mget es (k : Int) = none) : sec (ovs L (ps.take n)) k = sec L k :=
  sec_ovs_other L _ k (fun p hp => ⟨hr p (List.mem_of_mem_take hp), fun e => hc p (List.mem_of_mem_take hp) (by rw [← e]; exact hk)⟩)
/-- What flush's loop keeps. -/
structure FlI (D : Nat → Prop) (w : World) (fb lm om : Nat) (pv : Value) (sz : Nat) (L : Nat → Int) (ps : List (Nat × List Int)) (vs : List Value) (eo : List (Int × Value × Nat)) (co : Nat) (k : Nat) (W : World) (D' : Nat → Prop) : Prop where
  st : St 164 W fb #[.int .i64 sz, .map (some lm), .map (some om), pv]
  la : ∃ es c, Sm D' W lm (ovs L (ps.take k)) zero es c
  ov : Sm D' W om (ovs L ps) L eo co
  pc : Pr D' W pv ps vs
  d : ∀ i, D i → D' i
  d2 : ∀ i, D' i → D i ∨ w.heap.size ≤ i
  db : ∀ i, D' i → i < W.heap.size
  kp : Kp (fun i => i = lm) w W
theorem FlI.step {D : Nat → Prop} {w : World} {fb lm om : Nat} {pv : Value} {sz : Nat} {L : Nat → Int} {ps : List (Nat × List Int)} {vs : List Value} {eo : List (Int × Value × Nat)} {co k : Nat} {wr X w3 : World} {D' : Nat → Prop} {p : Nat × List Int} {es : List (Int × Value × Nat)} {c : Nat} (h : FlI D w fb lm om pv sz L ps vs eo co k wr D') (hf : Fr D w ⟨fb, lm, om, pv⟩ sz L ps) (kx : Kp (fun _ => False) wr X) (hk : k < ps.length) (hp : p = ps.getD k (0, [])) (hm : Sm (fun i => D' i ∨ (X.heap.size ≤ i ∧ i < w3.heap.size)) w3 lm (YtnccklbnncaeoaaGreat.ov (ovs L (ps.take k)) p) zero es c) (km : Kp (fun i => i = lm) X w3) : FlI D w fb lm om pv sz L ps vs eo co (k + 1) w3 (fun i => D' i ∨ (X.heap.size ≤ i ∧ i < w3.heap.size)) := by
  have hll : lm < w.heap.size := hf.lt lm ((Fa.mem _ _).2 (.inr (.inl rfl)))
  have hDm : ∀ i, D' i → ¬ i = lm := fun i hi e => by
    rcases h.d2 i hi with h1 | h1
    · exact hf.nd i h1 ((Fa.mem _ _).2 (.inr (.inl e)))
    · omega
  have k13 : Kp (fun i => i = lm) wr w3 := (kx.mono (fun _ _ h => h.elim)).trans km (fun _ _ h => h)
  have hzw := h.kp.size
  have hzx := kx.size
  have hlm := hf.lm_ne
  have hne := hf.ne
  dsimp only at hlm hne
  refine ⟨h.st.kp k13 (fun e => hlm.1 e.symm), ⟨es, c, ?_⟩, (h.ov.kp k13 (fun e => hne e.symm) hDm).mono (fun i _ hi => .inl hi), (h.pc.kp k13 (fun b hb e => (hf.fb_ne hb).2.1 e) hDm).mono (fun i _ hi => .inl hi), fun i hi => .inl (h.d i hi), fun i hi => ?_, fun i hi => ?_, h.kp.trans k13 (fun _ _ h => h)⟩
  · have e : ps.take (k + 1) = ps.take k ++ [p] := by
      rw [List.take_add_one, List.getElem?_eq_getElem hk, hp, List.getD_eq_getElem?_getD, List.getElem?_eq_getElem hk]
      rfl
    rw [e, ovs_snoc]
    exact hm
  · rcases hi with hi | hi
    · exact h.d2 i hi
    · right; omega
  · rcases hi with hi | hi
    · exact Nat.lt_of_lt_of_le (h.db i hi) k13.size
    · exact hi.2
theorem wpList_append_new {w : World} {ops : Array Oper} {rest : List Oper} {o : Oper} {a : Act} {Q : Exit → Act → World → Prop} (hgd : o.guard = none) (s x : Operand)
    (ho : o.op = .call { callee := .builtin .append, args := #[s, x], argTypes := #[162, 162] }) (hs : a.eval s = .slice none 0 0)
    (ao : Option Addr) (m c : Nat) (news : List Value) (hx : a.eval x = .slice ao m c) (hnone : ao = none → m = 0 ∧ c = 0) (hl : news.length = m * 2) (hnews : ∀ ad, ao = some ad → ∀ j u, news[j]? = some u → w.cell? (ad.add j) = some u) (h1 : ∀ u ∈ news, u.oneCell' = true) (hm : m ≤ 1000000000)
    (h : ∀ v' w', w'.ownsRow w.heap.size 215 2 v' m news → Kp (fun _ => False) w w' → (m = 0 → v' = .slice none 0 0) → wpList Tryz.prog ops Q rest (a.put o.dst v') w') : wpList Tryz.prog ops Q (o :: rest) a w := by
  obtain ⟨i0, hi, hz0, hz1, hz2⟩ := info_parts Tryz.info215
  have hown : w.ownsRow w.heap.size 215 2 (.slice none 0 0) 0 [] := ⟨rfl, .inl ⟨rfl, rfl⟩⟩
  cases ao with
  | none =>
    obtain ⟨hm0, hc⟩ := hnone rfl
    subst hm0 hc
    obtain rfl : news = [] := List.eq_nil_of_length_eq_zero hl
    exact wpList_append_own_none hgd s x 162 ho w.heap.size 215 i0 2 Tryz.underlying162 hi (.slice none 0 0) 0 [] hs hown hx (h _ w hown (Kp.refl _ _) (fun _ => rfl))
  | some ad =>
    refine wpList_append_own w hgd s x 162 ho w.heap.size 215 i0 (.agg #[.int .i64 0, .slice none 0 0]) 2 32 Tryz.underlying162 hi hz0 hz1 hz2 rfl (by decide) (.slice none 0 0) 0 [] hs hown ad m c news hx hl (hnews ad rfl) h1 (by unfold maxLen; omega) (by omega) (Nat.le_refl _) ?_
    intro v' w' h2 h3 h4
    rw [Nat.zero_add, List.nil_append] at h2
    exact h v' w' h2 (Kp.of_grown h3 (fun i e => by cases e)) (fun hm0 => h4.2 ⟨rfl, hm0⟩)
theorem pcl_drop (ps : List (Nat × List Int)) (vs : List Value) (n : Nat) : pcl (ps.drop n) (vs.drop n) = (pcl ps vs).drop (n * 2) := by
  induction n generalizing ps vs with
  | zero => simp
  | succ n ih =>
    cases ps with
    | nil => simp [pcl]
    | cons p ps =>
      cases vs with
      | nil => simp [pcl]
      | cons v vs =>
        rw [List.drop_succ_cons, List.drop_succ_cons, ih, show (n + 1) * 2 = n * 2 + 2 by omega]
        rfl
theorem fl_fin {D : Nat → Prop} {w : World} {fb lm om : Nat} {pv : Value} {sz : Nat} {L : Nat → Int} {ps : List (Nat × List Int)} {vs : List Value} {eo : List (Int × Value × Nat)} {co n : Nat} {wr W2 : World} {D' : Nat → Prop} {om' : Nat} {v' : Value} (h : FlI D w fb lm om pv sz L ps vs eo co n wr D') (hf : Fr D w ⟨fb, lm, om, pv⟩ sz L ps) (k : Kp (fun i => i = fb) wr W2) (hs : St 164 W2 fb #[.int .i64 sz, .map (some lm), .map (some om'), v']) (hrow : W2.ownsRow 0 215 2 v' (ps.length - n) (pcl (ps.drop n) (vs.drop n))) (hvo : ∀ b, v'.ownBlock = some b → wr.heap.size ≤ b) (hom : om' = om ∨ wr.heap.size ≤ om') (hov : ∃ es c, Sm D' W2 om' (ovs (ovs L (ps.take n)) (ps.drop n)) (ovs L (ps.take n)) es c ∧ Cov es (ps.drop n)) :
    Fr D' W2 ⟨fb, lm, om', v'⟩ sz (ovs L (ps.take n)) (ps.drop n) ∧ Wk D w (Fa.mk fb lm om pv).own W2 D' (Fa.mk fb lm om' v').own := by
  have hlt := hf.lt
  have hfl : fb < w.heap.size := hlt fb ((Fa.mem _ _).2 (.inl rfl))
  have hll : lm < w.heap.size := hlt lm ((Fa.mem _ _).2 (.inr (.inl rfl)))
  have hol : om < w.heap.size := hlt om ((Fa.mem _ _).2 (.inr (.inr (.inl rfl))))
  have hz := h.kp.size
  have hne := hf.ne
  have hlm := hf.lm_ne
  dsimp only at hne hlm
  have hD : ∀ i, D' i → i ≠ fb ∧ i ≠ lm ∧ i ≠ om ∧ i < wr.heap.size := fun i hi => by
    refine ⟨?_, ?_, ?_, h.db i hi⟩
    all_goals
      intro e
      rcases h.d2 i hi with h1 | h1
      · have h2 := hf.nd i h1
        rw [Fa.mem] at h2
        first
          | exact h2 (.inl e)
          | exact h2 (.inr (.inl e))
          | exact h2 (.inr (.inr (.inl e)))
      · omega
  obtain ⟨el, cl, hla⟩ := h.la
  refine ⟨⟨hs, ⟨el, cl, hla.kp k (fun e => hlm.1 e) (fun i hi => (hD i hi).1)⟩, hov, ⟨vs.drop n, by simp [h.pc.len], fun i hi => ?_, by rw [List.length_drop]; exact hrow⟩, ?_, fun i hi hm => ?_, fun i hi => Nat.lt_of_lt_of_le (h.db i hi) k.size, fun i hi => ?_, fun p hp => hf.pb p (List.mem_of_mem_drop hp), hf.sb, by have := hf.nb; simp; omega⟩, ⟨(h.kp.mono (fun i _ e => ?_)).trans k (fun i _ e => ?_), fun i hi => ?_, h.d, h.d2⟩⟩
  · have := h.pc.bs (n + i) (by simp at hi; omega)
    have e1 : (vs.drop n).getD i undef = vs.getD (n + i) undef := by simp [List.getD, List.getElem?_drop]
    have e2 : (ps.drop n).getD i (0, []) = ps.getD (n + i) (0, []) := by simp [List.getD, List.getElem?_drop]
    rw [e1, e2]
    exact this.kp k (fun j hj => (hD j hj).1)
  · show lm ≠ om'
    rcases hom with e | e
    · rw [e]; exact hne
    · omega
  · have hd := hD i hi
    rcases (Fa.mem _ i).1 hm with e | e | e | e
    · exact hd.1 e
    · exact hd.2.1 e
    · rcases hom with e2 | e2
      · exact hd.2.2.1 (by rw [e]; exact e2)
      · dsimp only at e; omega
    · have := hvo i e; omega
  · rw [ovs_high _ (fun p hp => (hf.pb p (List.mem_of_mem_take hp)).2.2) hi]
    exact hf.lz i hi
  · rw [e]; exact (Fa.mem _ _).2 (.inr (.inl rfl))
  · rw [e]; exact (Fa.mem _ _).2 (.inl rfl)
  · rcases (Fa.mem _ i).1 hi with e | e | e | e
    · exact .inl ((Fa.mem _ _).2 (.inl e))
    · exact .inl ((Fa.mem _ _).2 (.inr (.inl e)))
    · rcases hom with e2 | e2
      · exact .inl ((Fa.mem _ _).2 (.inr (.inr (.inl (by rw [e]; exact e2)))))
      · right; dsimp only at e; omega
    · right; have := hvo i e; omega
theorem pcl_one (ps : List (Nat × List Int)) (vs : List Value) (h : ∀ v ∈ vs, v.oneCell' = true) : ∀ u ∈ pcl ps vs, u.oneCell' = true := by
  induction ps generalizing vs with
  | nil => intro u hu; simp [pcl] at hu
  | cons p ps ih =>
    cases vs with
    | nil => intro u hu; simp [pcl] at hu
    | cons v vs =>
      intro u hu
      simp only [pcl, List.mem_cons] at hu
      rcases hu with rfl | rfl | hu
      · rfl
      · exact h _ (by simp)
      · exact ih vs (fun x hx => h x (List.mem_cons_of_mem _ hx)) u hu
theorem Pr.one {D : Nat → Prop} {w : World} {pv : Value} {ps : List (Nat × List Int)} {vs : List Value} (h : Pr D w pv ps vs) : ∀ v ∈ vs, v.oneCell' = true := by
  intro v hv
  obtain ⟨i, hi⟩ := List.getElem?_of_mem hv
  have hil := (List.getElem?_eq_some_iff.1 hi).1
  obtain ⟨g, off, cap, e, _⟩ := (h.bs i (by rw [← h.len]; exact hil)).le
  have : vs.getD i undef = v := by rw [List.getD_eq_getElem?_getD, hi]; rfl
  rw [← this, e]
  rfl
theorem Pr.rowoff {D : Nat → Prop} {w : World} {ao : Option Addr} {cap n : Nat} {ps : List (Nat × List Int)} {vs : List Value} (h : Pr D w (.slice ao n cap) ps vs) (hc : 0 < cap) : ∃ g off, ao = some ⟨g, off, none⟩ ∧ ∀ j u, (pcl ps vs)[j]? = some u → w.cell? ⟨g, off + j, none⟩ = some u := by
  rcases h.row.2 with ⟨h1, _⟩ | ⟨g, cap', cur, h1, _, h2, _, _, _, h6⟩
  · simp only [Value.slice.injEq] at h1; omega
  · simp only [Value.slice.injEq] at h1
    refine ⟨g, 0, h1.1, fun j u hu => (cell_of_row w g _ _ 215 _ h2).trans ?_⟩
    rw [← h6, List.getElem?_take] at hu
    rw [Nat.zero_add]
    split at hu
    · simpa using hu
    · cases hu
set_option maxRecDepth 100000 in
set_option maxHeartbeats 4000000 in
theorem flush_any (D : Nat → Prop) (w : World) (a : Fa) (sz : Nat) (L : Nat → Int) (ps : List (Nat × List Int)) (hf : Fr D w a sz L ps) (n : Nat) (hn : n ≤ ps.length) :
    Calls Tryz.prog 154 #[.pointer (some ⟨a.fb, 0, none⟩), .int .i64 n] w fun e w' => e = .returned (.tuple #[]) ∧ ∃ D' a', a'.fb = a.fb ∧ Fr D' w' a' sz (ovs L (ps.take n)) (ps.drop n) ∧ Wk D w a.own w' D' a'.own := by
  have HF : Hid (Fr D w a sz L ps) := hf
  obtain ⟨fb, lm, om, pv⟩ := a
  dsimp only at *
  obtain ⟨vs, hpr⟩ := hf.pc
  obtain ⟨eo, co, hov, hcv⟩ := hf.ov
  have hla := hf.la
  dsimp only at hpr hov hla
  obtain ⟨pao, pcap, hpv⟩ := ownsRow_shape hpr.row
  subst hpv
  have c3 : w.cell? ⟨fb, 3, none⟩ = some (.slice pao ps.length pcap) := hf.st.cell 3
  have hnb := hf.nb
  have H0 : Hid (FlI D w fb lm om (.slice pao ps.length pcap) sz L ps vs eo co 0 w D) := ⟨hf.st, hla, hov, hpr, fun _ h => h, fun _ h => .inl h, hf.db, Kp.refl _ _⟩
  have HCV : Hid (Cov eo ps) := hcv
  have HPR : Hid (Pr D w (.slice pao ps.length pcap) ps vs) := hpr
  have hcl : ps.length ≤ pcap := by
    rcases hpr.row.2 with ⟨h1, h2⟩ | ⟨g, cap, cur, h1, _, _, h2, _⟩
    · omega
    · simp only [Value.slice.injEq] at h1; omega
  have hn2 : n ≤ pcap := by omega
  clear hf hla hov hcv hpr
  go_enter Tryz.func154, Tryz.ntmps154
  go_wp2_with fail
  go_loopw [5, 13] (fun _ iv wr => ∃ (k : Nat) (D' : Nat → Prop), k ≤ n ∧ iv = .int .i64 k ∧ FlI D w fb lm om (.slice pao ps.length pcap) sz L ps vs eo co k wr D') (fun _ iv _ => n - (intOf iv).toNat)
  case atStart => exact ⟨0, D, Nat.zero_le _, rfl, H0.out⟩
  case round =>
    clear H0 c3
    obtain ⟨k, D', hk, rfl, hI⟩ := hrel
    have HI : Hid (FlI D w fb lm om (.slice pao ps.length pcap) sz L ps vs eo co k wr D') := hI
    clear hI
    by_cases hlt : k < n
    · have hkl : k < ps.length := by omega
      obtain ⟨g, off, cap', hpe, hgl, hgo, hcs⟩ := HI.out.pc.cells (by omega)
      obtain ⟨rfl, rfl⟩ : pao = some ⟨g, off, none⟩ ∧ pcap = cap' := by
        simp only [Value.slice.injEq] at hpe; exact ⟨hpe.1, hpe.2.2⟩
      obtain ⟨y0, y1⟩ := hcs k hkl
      have hbs := HI.out.pc.bs k hkl
      have hpb := HF.out.pb (ps.getD k (0, [])) (getD_mem2 ps k hkl)
      obtain ⟨⟨p, xs⟩, hpx⟩ : ∃ t, t = ps.getD k (0, []) := ⟨_, rfl⟩
      rw [← hpx] at y0 hbs hpb
      dsimp only at y0 hbs hpb
      obtain ⟨pvv, hpvv⟩ : ∃ t, t = vs.getD k undef := ⟨_, rfl⟩
      rw [← hpvv] at y1 hbs
      obtain ⟨pg, po, pc, hpq, -⟩ := hbs.le
      subst hpq
      have HBS : Hid (Bs D' wr (.slice (some ⟨pg, po, none⟩) xs.length pc) xs) := hbs
      have HPX : Hid ((p, xs) = ps.getD k (0, [])) := hpx
      obtain ⟨xl, hxl⟩ : ∃ x, x = xs.length := ⟨_, rfl⟩
      rw [← hxl] at HBS y1 hpb
      have HXL : Hid (xl = xs.length) := hxl
      have t1 : wr.cell? ⟨fb, 1, none⟩ = some (.map (some lm)) := HI.out.st.cell 1
      clear hcs hpe hgo hbs hpx hpvv hxl
      go_wp2_with fail
      have st := St.new 215 wr #[.int .i64 p, .slice (some ⟨pg, po, none⟩) xl pc]
      have k1 : Kp (fun _ => False) wr (wr.alloc (.cells #[.int .i64 p, .slice (some ⟨pg, po, none⟩) xl pc] 215)) := (Kp.refl _ _).alloc _
      generalize wr.alloc (.cells #[.int .i64 p, .slice (some ⟨pg, po, none⟩) xl pc] 215) = W1 at st k1 ⊢
      have q0 : W1.cell? ⟨wr.heap.size, 0, none⟩ = some (.int .i64 p) := st.cell 0
      have q1 : W1.cell? ⟨wr.heap.size, 1, none⟩ = some (.slice (some ⟨pg, po, none⟩) xl pc) := st.cell 1
      have e1 : W1.cell? ⟨fb, 1, none⟩ = some (.map (some lm)) := kp_cell k1 t1 (fun h => h)
      clear t1 y0 y1 st
      have HK1 : Hid (Kp (fun _ => False) wr W1) := k1
      clear k1
      refine wp_region_tail hmix (by kernel_rfl) ?_
      dsimp only [List.dropLast, List.getLast]
      repeat (gi_big_quiet_step (fail))
      refine wpQuietIn_nil ?_
      intro _ hw'
      obtain ⟨nq, hw2⟩ := hw'
      subst hw2
      have kq := drewN_kp (fun _ => False) W1 nq
      generalize W1.drewN nq = X at kq ⊢
      obtain ⟨es1, cs1, hsm⟩ := HI.out.la
      have kx : Kp (fun _ => False) wr X := HK1.out.trans kq (fun _ _ h => h)
      gi_wp2_with fail
      refine ⟨trivial, rfl, ?_⟩
      refine (callsIn_wide.2 ((hsm.kp kx (fun h => h) (fun _ _ h => h)).putp p xs (.slice (some ⟨pg, po, none⟩) xl pc) (by rw [← HXL.out]; omega) (by rw [← HXL.out]; omega) (by have := HF.out.sb; rw [← HXL.out]; omega) (HBS.out.kp kx (fun _ _ h => h)) ?_ ?_)).mono ?_
      · intro hD
        rcases HI.out.d2 _ hD with h1 | h1
        · exact HF.out.nd _ h1 ((Fa.mem _ _).2 (.inr (.inl rfl)))
        · have := HF.out.lt lm ((Fa.mem _ _).2 (.inr (.inl rfl))); omega
      · exact fun h => hsm.no _ h
      rintro e w3 ⟨rfl, es3, c3, sm3, k3, -⟩
      have HC : Hid (FlI D w fb lm om (.slice (some ⟨g, off, none⟩) ps.length pcap) sz L ps vs eo co (k + 1) w3 (fun i => D' i ∨ (X.heap.size ≤ i ∧ i < w3.heap.size))) := HI.out.step HF.out kx hkl HPX.out sm3 k3
      clear sm3 k3 e1 q0 q1 hsm kq kx
      gi_wp2
      go_wp2
      exact ⟨⟨k + 1, _, hlt, rfl, HC.out⟩, by simp only [intOf]; omega⟩
    · obtain rfl : k = n := by omega
      have t3 : wr.cell? ⟨fb, 3, none⟩ = some (.slice pao ps.length pcap) := HI.out.st.cell 3
      clear hlt
      have hmm := @run_makeMap Tryz.prog
      by_cases hpc : pcap = k
      · have hlk : ps.length = k := by omega
        go_wp2_with (first | (at_builtin; refine wpList_append_new rfl (.const (.slice none 0 0)) (.tmp 30) rfl rfl pao 0 0 [] (by first | rfl | simp [Act.eval]) (fun _ => ⟨rfl, rfl⟩) rfl (fun _ _ j u h => by simp at h) (fun u h => by simp at h) (by omega) ?_; intro v' w2 r2 k2 z2; obtain rfl := z2 rfl; have st2 := HI.out.st.kp k2 (fun h => h); have f3 := st2.frozen 3; have g3 : w2.cell? ⟨fb, 3, none⟩ = some (.slice pao ps.length pcap) := st2.cell 3; have st4 : St 164 ((w2.setCell ⟨fb, 3, none⟩ (.slice none 0 0)).alloc (.map #[] 0)) fb #[.int .i64 sz, .map (some lm), .map (some om), .slice none 0 0] := (st2.set 3 (.slice none 0 0)).kp (F := fun _ => False) ((Kp.refl _ _).alloc _) (fun h => h); have g2 : ((w2.setCell ⟨fb, 3, none⟩ (.slice none 0 0)).alloc (.map #[] 0)).cell? ⟨fb, 2, none⟩ = some (.map (some om)) := st4.cell 2; have f2 := st4.frozen 2; have ST4 : Hid (St 164 ((w2.setCell ⟨fb, 3, none⟩ (.slice none 0 0)).alloc (.map #[] 0)) fb #[.int .i64 sz, .map (some lm), .map (some om), .slice none 0 0]) := st4; have K2 : Hid (Kp (fun _ => False) wr w2) := k2; clear st4 st2 k2 r2 z2))
        have k2 := K2.out
        have kA : Kp (fun i => i = fb) wr ((w2.setCell ⟨fb, 3, none⟩ (.slice none 0 0)).alloc (.map #[] 0)) := (((k2.mono (fun _ _ h => h.elim)).trans (kp_setCell w2 fb 3 (.slice none 0 0) (fun i => i = fb) rfl) (fun _ _ h => h))).alloc _
        have hsz : (w2.setCell ⟨fb, 3, none⟩ (.slice none 0 0)).heap.size = w2.heap.size := by simp
        have m4 := Mp.new (Value.int .i64) (w2.setCell ⟨fb, 3, none⟩ (.slice none 0 0))
        rw [hsz] at m4
        have st5 := ST4.out.set 2 (.map (some w2.heap.size))
        have kB := kp_setCell ((w2.setCell ⟨fb, 3, none⟩ (.slice none 0 0)).alloc (.map #[] 0)) fb 2 (.map (some w2.heap.size)) (fun i => i = fb) rfl
        have hz2 := k2.size
        have hfw : fb < wr.heap.size := HI.out.st.lt
        have m5 := kp_mp m4 kB (by omega)
        have hdn : ps.drop k = [] := List.drop_eq_nil_of_le (by omega)
        have fin := fl_fin (om' := w2.heap.size) (v' := .slice none 0 0) HI.out HF.out (kA.trans kB (fun _ _ h => h)) st5 (by rw [hdn, show ps.length - k = 0 by omega]; exact ⟨rfl, .inl ⟨rfl, rfl⟩⟩) (fun b hb => by cases hb) (.inr hz2) (by rw [hdn]; exact ⟨[], 0, ⟨m5, (fun _ h => by cases h), (fun _ _ h => by cases h), fun _ _ => rfl⟩, fun p hp => by cases hp⟩)
        go_end0
        exact ⟨rfl, D', _, rfl, fin⟩
      · have hcp : 0 < pcap := by omega
        obtain ⟨g, off, hpa, hcs⟩ := HI.out.pc.rowoff hcp
        subst hpa
        have hkc : k < pcap := by omega
        by_cases hm0 : ps.length = k
        · have hlk : ps.length = k := hm0
          go_wp2_with (first | (at_builtin; refine wpList_append_new rfl (.const (.slice none 0 0)) (.tmp 30) rfl rfl (some ⟨g, off + k * 2, none⟩) 0 (pcap - k) [] (by first | rfl | simp [Act.eval]) (fun h => by cases h) rfl (fun _ _ j u h => by simp at h) (fun u h => by simp at h) (by omega) ?_; intro v' w2 r2 k2 z2; obtain rfl := z2 rfl; have st2 := HI.out.st.kp k2 (fun h => h); have f3 := st2.frozen 3; have g3 : w2.cell? ⟨fb, 3, none⟩ = some (.slice (some ⟨g, off, none⟩) ps.length pcap) := st2.cell 3; have st4 : St 164 ((w2.setCell ⟨fb, 3, none⟩ (.slice none 0 0)).alloc (.map #[] 0)) fb #[.int .i64 sz, .map (some lm), .map (some om), .slice none 0 0] := (st2.set 3 (.slice none 0 0)).kp (F := fun _ => False) ((Kp.refl _ _).alloc _) (fun h => h); have g2 : ((w2.setCell ⟨fb, 3, none⟩ (.slice none 0 0)).alloc (.map #[] 0)).cell? ⟨fb, 2, none⟩ = some (.map (some om)) := st4.cell 2; have f2 := st4.frozen 2; have ST4 : Hid (St 164 ((w2.setCell ⟨fb, 3, none⟩ (.slice none 0 0)).alloc (.map #[] 0)) fb #[.int .i64 sz, .map (some lm), .map (some om), .slice none 0 0]) := st4; have K2 : Hid (Kp (fun _ => False) wr w2) := k2; clear st4 st2 k2 r2 z2))
          have k2 := K2.out
          have kA : Kp (fun i => i = fb) wr ((w2.setCell ⟨fb, 3, none⟩ (.slice none 0 0)).alloc (.map #[] 0)) := (((k2.mono (fun _ _ h => h.elim)).trans (kp_setCell w2 fb 3 (.slice none 0 0) (fun i => i = fb) rfl) (fun _ _ h => h))).alloc _
          have hsz : (w2.setCell ⟨fb, 3, none⟩ (.slice none 0 0)).heap.size = w2.heap.size := by simp
          have m4 := Mp.new (Value.int .i64) (w2.setCell ⟨fb, 3, none⟩ (.slice none 0 0))
          rw [hsz] at m4
          have st5 := ST4.out.set 2 (.map (some w2.heap.size))
          have kB := kp_setCell ((w2.setCell ⟨fb, 3, none⟩ (.slice none 0 0)).alloc (.map #[] 0)) fb 2 (.map (some w2.heap.size)) (fun i => i = fb) rfl
          have hz2 := k2.size
          have hfw : fb < wr.heap.size := HI.out.st.lt
          have m5 := kp_mp m4 kB (by omega)
          have hdn : ps.drop k = [] := List.drop_eq_nil_of_le (by omega)
          have fin := fl_fin (om' := w2.heap.size) (v' := .slice none 0 0) HI.out HF.out (kA.trans kB (fun _ _ h => h)) st5 (by rw [hdn, show ps.length - k = 0 by omega]; exact ⟨rfl, .inl ⟨rfl, rfl⟩⟩) (fun b hb => by cases hb) (.inr hz2) (by rw [hdn]; exact ⟨[], 0, ⟨m5, (fun _ h => by cases h), (fun _ _ h => by cases h), fun _ _ => rfl⟩, fun p hp => by cases hp⟩)
          go_end0
          exact ⟨rfl, D', _, rfl, fin⟩
        · have hkl : k < ps.length := by omega
          have hsub : ((ps.length - k : Nat) : Int) ≠ 0 := by omega
          have hsb : (((ps.length - k : Nat) : Int) == 0) = false := by simpa using hsub
          go_wp2_with (first | (at_builtin; refine wpList_append_new rfl (.const (.slice none 0 0)) (.tmp 30) rfl rfl (some ⟨g, off + k * 2, none⟩) (ps.length - k) (pcap - k) (pcl (ps.drop k) (vs.drop k)) (by first | rfl | simp [Act.eval]) (fun h => by cases h) (by rw [pcl_len _ _ (by simp [HI.out.pc.len]), List.length_drop]) (fun ad e j u h => by cases e; rw [pcl_drop, List.getElem?_drop] at h; rw [add_o, Nat.add_assoc]; exact hcs _ u h) (fun u h => pcl_one _ _ (fun x hx => HI.out.pc.one x (List.mem_of_mem_drop hx)) u h) (by omega) ?_; intro v' w2 r2 k2 z2; obtain ⟨ao', c', rfl⟩ := ownsRow_shape r2; have st2 := HI.out.st.kp k2 (fun h => h); have f3 := st2.frozen 3; have g3 : w2.cell? ⟨fb, 3, none⟩ = some (.slice (some ⟨g, off, none⟩) ps.length pcap) := st2.cell 3; have ST2 : Hid (St 164 w2 fb #[.int .i64 sz, .map (some lm), .map (some om), .slice (some ⟨g, off, none⟩) ps.length pcap]) := st2; have K2 : Hid (Kp (fun _ => False) wr w2) := k2; have R2 : Hid (w2.ownsRow wr.heap.size 215 2 (.slice ao' (ps.length - k) c') (ps.length - k) (pcl (ps.drop k) (vs.drop k))) := r2; clear st2 k2 r2 z2))
          have k2 := K2.out
          have hfw : fb < wr.heap.size := HI.out.st.lt
          have kB := kp_setCell w2 fb 3 (.slice ao' (ps.length - k) c') (fun i => i = fb) rfl
          have kA : Kp (fun i => i = fb) wr (w2.setCell ⟨fb, 3, none⟩ (.slice ao' (ps.length - k) c')) := (k2.mono (fun _ _ h => h.elim)).trans kB (fun _ _ h => h)
          have st3 := ST2.out.set 3 (.slice ao' (ps.length - k) c')
          have hvo : ∀ b, (Value.slice ao' (ps.length - k) c').ownBlock = some b → wr.heap.size ≤ b := by
            intro b hb
            rcases R2.out.2 with ⟨h4, _⟩ | ⟨gg, cap, cur, h4, h5, _⟩
            · rw [h4] at hb; cases hb
            · rw [h4] at hb
              have : gg = b := by simpa [Value.ownBlock] using hb
              omega
          have hrow : (w2.setCell ⟨fb, 3, none⟩ (.slice ao' (ps.length - k) c')).ownsRow 0 215 2 (.slice ao' (ps.length - k) c') (ps.length - k) (pcl (ps.drop k) (vs.drop k)) := by
            refine ⟨R2.out.1, ?_⟩
            rcases R2.out.2 with h4 | ⟨gg, cap, cur, h4, h5, h6, h7⟩
            · exact .inl h4
            · exact .inr ⟨gg, cap, cur, h4, Nat.zero_le _, (heap_setCell_other _ _ _ _ (by show gg ≠ fb; omega)).trans h6, h7⟩
          have hov : Sm D' (w2.setCell ⟨fb, 3, none⟩ (.slice ao' (ps.length - k) c')) om (ovs (ovs L (ps.take k)) (ps.drop k)) (ovs L (ps.take k)) eo co := by
            rw [← ovs_append, List.take_append_drop]
            have hDf : ∀ i, D' i → ¬ i = fb := fun i hi e => by
              rcases HI.out.d2 i hi with h1 | h1
              · exact HF.out.nd i h1 ((Fa.mem _ _).2 (.inl e))
              · have := HF.out.lt fb ((Fa.mem _ _).2 (.inl rfl)); omega
            have hs := HI.out.ov.kp kA (fun e => HF.out.lm_ne.2 e) hDf
            exact ⟨hs.mp, hs.ks, hs.so, fun j hj => by rw [hs.no j hj, cov_sec HCV.out (fun p hp => (HF.out.pb p hp).2.1) hj]⟩
          have fin := fl_fin (om' := om) (v' := .slice ao' (ps.length - k) c') HI.out HF.out kA st3 hrow hvo (.inl rfl) ⟨eo, co, hov, fun p hp => HCV.out p (List.mem_of_mem_drop hp)⟩
          go_end0
          exact ⟨rfl, D', _, rfl, fin⟩
end Go.Proofs.YtnccklbnncaeoaaGreat
/- Flush, of a file that is there. -/
namespace Go.Proofs.YtnccklbnncaeoaaGreat
open Go.RowKit

theorem lft_le (k0 n0 : Int) (m : Nat) : lft k0 n0 m ≤ m := by
  unfold lft
  split
  · exact Nat.le_refl _
  · omega
/-- A file of which so many pieces have come to last. -/
def gfl (q : Gf) (n : Nat) : Gf := ⟨q.sz, ovs q.L (q.ps.take n), q.ps.drop n⟩
set_option maxRecDepth 100000 in
set_option maxHeartbeats 4000000 in
theorem flush_go (D : Nat → Prop) (w : World) (g fm : Nat) (fv : Value) (steps : Nat) (l r : List Fe) (ft : List (Int × Int)) (es : List (ByteArray × Value × Nat)) (c : Nat) (s : ByteArray) (a : Fa) (q : Gf) (h : Sr D w g fm fv steps (l ++ (s, a, q) :: r) ft es c) (hq : fget (l ++ (s, a, q) :: r) s = some (s, a, q)) (hsb : steps < 1000000000) (k0 n0 : Int) (hk : ft.headD (0, 0) = (k0, n0)) :
    Calls Tryz.prog 121 #[.pointer (some ⟨g, 0, none⟩), .string s] w fun e w' => e = .returned (.int .i64 (ferr k0)) ∧ ∃ D' fv' a', Sr D' w' g fm fv' (steps + 1) (l ++ (s, a', gfl q (lft k0 n0 q.ps.length)) :: r) ft.tail es c ∧ fv'.ownBlock = fv.ownBlock ∧ Wk D w (g :: a.own) w' D' (g :: a'.own) := by
  have hn : nmd s = true := h.nm (s, a, q) (by simp)
  have HFI : Hid (Calls Tryz.prog 79 #[.pointer (some ⟨g, 0, none⟩), .string s] w fun e w' => e = .returned (.tuple #[.pointer (some ⟨a.fb, 0, none⟩), .int .i64 0]) ∧ w' = w) := h.file_some s hn (s, a, q) hq
  have HS : Hid (Sr D w g fm fv steps (l ++ (s, a, q) :: r) ft es c) := h
  have HK : Hid (ft.headD (0, 0) = (k0, n0)) := hk
  clear h hq hk hn
  go_enter Tryz.func121, Tryz.ntmps121
  go_wp2_with fail
  refine HFI.out.mono ?_
  rintro e w1 ⟨rfl, hw1⟩
  replace hw1 := hw1.symm
  subst hw1
  go_wp2_with fail
  refine (step_any g _ fv steps ft _ HS.out.st (by have := HS.out.sb; omega) HS.out.fa HS.out.fvg).mono ?_
  rintro e w2 ⟨rfl, fv1, s2, f2, o2, k2⟩
  rw [HK.out]
  have HS2 : Hid (Sr D w2 g fm fv1 (steps + 1) (l ++ (s, a, q) :: r) ft.tail es c) := HS.out.stepped s2 f2 o2 k2 hsb
  have HO2 : Hid (fv1.ownBlock = fv.ownBlock) := o2
  have K2 : Hid (Kp (fun i => i = g) w w2) := k2
  clear s2 f2 o2 k2
  go_wp2_with fail
  have tf := St.new 137 w2 #[.int .i64 k0, .int .i64 n0]
  have k3 : Kp (fun _ => False) w2 (w2.alloc (.cells #[.int .i64 k0, .int .i64 n0] 137)) := (Kp.refl _ _).alloc _
  generalize w2.alloc (.cells #[.int .i64 k0, .int .i64 n0] 137) = W3 at tf k3 ⊢
  have S3 := HS2.out.kp k3 (fun _ _ h => h) (fun _ _ h => h)
  have f3 : Fr D W3 a q.sz q.L q.ps := S3.fr (s, a, q) (by simp)
  obtain ⟨vs, hpr⟩ := f3.pc
  obtain ⟨pao, pcap, hpv⟩ := ownsRow_shape hpr.row
  have c0 : W3.cell? ⟨w2.heap.size, 0, none⟩ = some (.int .i64 k0) := tf.cell 0
  have c1 : W3.cell? ⟨w2.heap.size, 1, none⟩ = some (.int .i64 n0) := tf.cell 1
  have c3 : W3.cell? ⟨a.fb, 3, none⟩ = some (.slice pao q.ps.length pcap) := by rw [← hpv]; exact f3.st.cell 3
  have HS3 : Hid (Sr D W3 g fm fv1 (steps + 1) (l ++ (s, a, q) :: r) ft.tail es c) := S3
  have HTF : Hid (St 137 W3 w2.heap.size #[.int .i64 k0, .int .i64 n0]) := tf
  have K3 : Hid (Kp (fun i => i = g) w W3) := K2.out.trans k3 (fun _ _ h => h.elim)
  have HTN : Hid (∀ i, i ∈ ownS g fm fv1 (l ++ (s, a, q) :: r) → i < w2.heap.size) := HS2.out.lt
  clear S3 f3 hpr hpv tf k3
  refine wp_region_G (fun w' => w'.cell? ⟨w2.heap.size, 0, none⟩ = some (.int .i64 k0) ∧ w'.cell? ⟨w2.heap.size, 1, none⟩ = some (.int .i64 n0) ∧ w'.cell? ⟨a.fb, 3, none⟩ = some (.slice pao q.ps.length pcap)) [8] hmix ⟨c0, c1, c3⟩ (fun h0 => ?_)
  refine wpAnyG_takeW (i := 0) (v := .pointer (some ⟨a.fb, 0, none⟩)) rfl (by kernel_rfl) (fun _ _ _ h => h) (Or.inl ⟨by rfl, fun w _ => by go_simp⟩) ?_
  refine wpAnyG_take (i := 1) (v := .agg #[.int .i64 k0, .int .i64 n0]) rfl (by kernel_rfl) (fun _ _ _ h => h) (Or.inl ⟨by rfl, fun w hSw => by (try dsimp only at hSw); go_simp⟩) h0 ?_
  refine wpAnyG_takeW (i := 2) (v := .pointer (some ⟨a.fb, 0, none⟩)) rfl (by kernel_rfl) (fun _ _ _ h => h) (Or.inl ⟨by rfl, fun w _ => by go_simp⟩) ?_
  refine wpAnyG_takeW (i := 3) (v := .pointer (some ⟨a.fb, 0, none⟩)) rfl (by kernel_rfl) (fun _ _ _ h => h) (Or.inl ⟨by rfl, fun w _ => by go_simp⟩) ?_
  refine wpAnyG_takeW (i := 4) (v := .pointer (some ⟨a.fb, 3, none⟩)) rfl (by kernel_rfl) (fun _ _ _ h => h) (Or.inl ⟨by rfl, fun w _ => by go_simp⟩) ?_
  refine wpAnyG_take (i := 5) (v := .slice pao q.ps.length pcap) rfl (by kernel_rfl) (fun _ _ _ h => h) (Or.inl ⟨by rfl, fun w hSw => by (try dsimp only at hSw); go_simp⟩) h0 ?_
  refine wpAnyG_takeW (i := 6) (v := .int .i64 (q.ps.length : Int)) rfl (by kernel_rfl) (fun _ _ _ h => h) (Or.inl ⟨by rfl, fun w _ => by go_simp⟩) ?_
  refine wpAnyG_one (i := 7) (by kernel_rfl) rfl (fun K1 hK => ?_)
  go_simp
  refine (kept_f k0 n0 q.ps.length _).mono ?_
  rintro e w4 ⟨rfl, b4⟩
  have k4 : Kp (fun _ => False) W3 w4 := ((Kp.refl _ _).drew).trans (Kp.of_below (F := fun _ => False) b4) (fun _ _ h => h)
  have S4 := HS3.out.kp k4 (fun _ _ h => h) (fun _ _ h => h)
  have f4 : Fr D w4 a q.sz q.L q.ps := S4.fr (s, a, q) (by simp)
  go_wp2_with fail
  refine hK.out _ _ (fun _ h => ⟨(b4.cell (block_lt_of_cell h.1)).trans h.1, (b4.cell (block_lt_of_cell h.2.1)).trans h.2.1, (b4.cell (block_lt_of_cell h.2.2)).trans h.2.2⟩) ?_
  clear hK K1
  refine wpAnyG_one (i := 8) (by kernel_rfl) rfl (fun K1 hK => ?_)
  go_simp
  refine (flush_any D w4 a q.sz q.L q.ps f4 (lft k0 n0 q.ps.length) (lft_le _ _ _)).mono ?_
  rintro e w5 ⟨rfl, D5, a5, hb5, fr5, wk5⟩
  have hnt : w2.heap.size ∉ a.own := fun hm => by
    have := HTN.out _ (mem_ownS.2 (.inr (.inr (.inr ⟨(s, a, q), by simp, hm⟩))))
    omega
  have tf5 := (HTF.out.kp k4 (fun h => h)).kp wk5.k hnt
  have S5 : Sr D5 w5 g fm fv1 (steps + 1) (l ++ (s, a5, gfl q (lft k0 n0 q.ps.length)) :: r) ft.tail es c := S4.upd (q' := gfl q (lft k0 n0 q.ps.length)) wk5 hb5 fr5
  have wk : Wk D w (g :: a.own) w5 D5 (g :: a5.own) := by
    have hz : w.heap.size ≤ w4.heap.size := Nat.le_trans K3.out.size k4.size
    refine ⟨((K3.out.mono (fun i _ e => by rw [e]; exact List.mem_cons_self)).trans k4 (fun _ _ h => h.elim)).trans wk5.k (fun i _ h => List.mem_cons_of_mem _ h), fun i hi => ?_, wk5.d, fun i hi => (wk5.e i hi).elim .inl (fun x => .inr (by omega))⟩
    rcases List.mem_cons.1 hi with e | e
    · exact .inl (by rw [e]; exact List.mem_cons_self)
    · exact (wk5.o i e).elim (fun x => .inl (List.mem_cons_of_mem _ x)) (fun x => .inr (by omega))
  have HS5 : Hid (Sr D5 w5 g fm fv1 (steps + 1) (l ++ (s, a5, gfl q (lft k0 n0 q.ps.length)) :: r) ft.tail es c) := S5
  have HWK : Hid (Wk D w (g :: a.own) w5 D5 (g :: a5.own)) := wk
  have d0 : w5.cell? ⟨w2.heap.size, 0, none⟩ = some (.int .i64 k0) := tf5.cell 0
  have d1 : w5.cell? ⟨w2.heap.size, 1, none⟩ = some (.int .i64 n0) := tf5.cell 1
  go_wp2_with fail
  refine hK.out _ _ (fun h => absurd h (by decide)) ?_
  clear hK K1
  refine wpAnyG_done (by kernel_rfl) ?_ _
  clear S5 wk tf5 f4 S4 k4 b4 fr5 wk5 c0 c1 c3 h0
  go_wp2_with (first | (go_at_call 90; refine (came_f k0 n0 _).mono ?_; rintro e w6 ⟨rfl, b6⟩))
  have k6 : Kp (fun _ => False) w5 w6 := Kp.of_below b6
  go_ret
  exact ⟨rfl, D5, fv1, a5, HS5.out.kp k6 (fun _ _ h => h) (fun _ _ h => h), HO2.out, HWK.out.kp k6⟩
end Go.Proofs.YtnccklbnncaeoaaGreat
/- cutPieces: what is left of pieces below a size. -/
namespace Go.Proofs.YtnccklbnncaeoaaGreat
open Go.RowKit

def ctp (sz : Nat) : List (Nat × List Int) → List (Nat × List Int)
  | [] => []
  | p :: ps => if sz ≤ p.1 then ctp sz ps else (p.1, p.2.take (sz - p.1)) :: ctp sz ps
theorem ctp_snoc (sz : Nat) (l : List (Nat × List Int)) (p : Nat × List Int) : ctp sz (l ++ [p]) = ctp sz l ++ (if sz ≤ p.1 then [] else [(p.1, p.2.take (sz - p.1))]) := by
  induction l with
  | nil => simp only [List.nil_append, ctp]
  | cons q l ih =>
    simp only [List.cons_append, ctp]
    by_cases h : sz ≤ q.1
    · rw [if_pos h, if_pos h, ih]
    · rw [if_neg h, if_neg h, ih]; rfl
theorem ctp_len (sz : Nat) (l : List (Nat × List Int)) : (ctp sz l).length ≤ l.length := by
  induction l with
  | nil => simp [ctp]
  | cons q l ih =>
    unfold ctp
    split
    · simp; omega
    · simp; omega
/-- What the loop keeps. -/
structure CpI (D : Nat → Prop) (w : World) (sz : Nat) (ps : List (Nat × List Int)) (k : Nat) (v : Value) (vs : List Value) (W : World) : Prop where
  pr : Pr D W v (ctp sz (ps.take k)) vs
  row : W.ownsRow w.heap.size 215 2 v (ctp sz (ps.take k)).length (pcl (ctp sz (ps.take k)) vs)
  kp : Kp (fun _ => False) w W
theorem take_get (ps : List (Nat × List Int)) (k : Nat) (h : k < ps.length) : ps.take (k + 1) = ps.take k ++ [ps.getD k (0, [])] := by
  rw [List.take_add_one, List.getElem?_eq_getElem h, List.getD_eq_getElem?_getD, List.getElem?_eq_getElem h]
  rfl
theorem CpI.skip {D : Nat → Prop} {w : World} {sz : Nat} {ps : List (Nat × List Int)} {k : Nat} {v : Value} {vs : List Value} {W W' : World} (h : CpI D w sz ps k v vs W) (hk : k < ps.length) (hp : sz ≤ (ps.getD k (0, [])).1) (kk : Kp (fun _ => False) W W') : CpI D w sz ps (k + 1) v vs W' := by
  have e : ctp sz (ps.take (k + 1)) = ctp sz (ps.take k) := by rw [take_get ps k hk, ctp_snoc, if_pos hp, List.append_nil]
  refine ⟨by rw [e]; exact h.pr.kp kk (fun _ _ h => h) (fun _ _ h => h), ?_, h.kp.trans kk (fun _ _ h => h)⟩
  rw [e]
  refine ⟨h.row.1, ?_⟩
  rcases h.row.2 with h1 | ⟨g, cap, cur, h1, h2, h3, h4⟩
  · exact .inl h1
  · exact .inr ⟨g, cap, cur, h1, h2, (kk.block g (Array.getElem?_eq_some_iff.1 h3).1 (fun h => h)).trans h3, h4⟩
theorem CpI.take {D : Nat → Prop} {w : World} {sz : Nat} {ps : List (Nat × List Int)} {k : Nat} {v v' : Value} {vs : List Value} {W X W' : World} {u : Value} {p : Nat} {xs : List Int} (h : CpI D w sz ps k v vs W) (hk : k < ps.length) (hpx : (p, xs) = ps.getD k (0, [])) (hp : ¬ sz ≤ p) (hu : Bs D W u (xs.take (sz - p))) (kx : Kp (fun _ => False) W X) (kk : Kp (fun i => v.ownBlock = some i) X W') (hD : ∀ i, D i → i < w.heap.size) (hr : W'.ownsRow w.heap.size 215 2 v' ((ctp sz (ps.take k)).length + 1) (pcl (ctp sz (ps.take k)) vs ++ [.int .i64 p, u])) : CpI D w sz ps (k + 1) v' (vs ++ [u]) W' := by
  have e : ctp sz (ps.take (k + 1)) = ctp sz (ps.take k) ++ [(p, xs.take (sz - p))] := by rw [take_get ps k hk, ctp_snoc, ← hpx, if_neg hp]
  have hv : ∀ i, v.ownBlock = some i → w.heap.size ≤ i := by
    intro i hi
    rcases h.row.2 with ⟨h1, _⟩ | ⟨g, cap, cur, h1, h2, _⟩
    · rw [h1] at hi; cases hi
    · rw [h1] at hi
      have : g = i := by simpa [Value.ownBlock] using hi
      omega
  have hDv : ∀ i, D i → ¬ v.ownBlock = some i := fun i hi e => by have := hD i hi; have := hv i e; omega
  have hpcl : pcl (ctp sz (ps.take k) ++ [(p, xs.take (sz - p))]) (vs ++ [u]) = pcl (ctp sz (ps.take k)) vs ++ [.int .i64 p, u] := by
    rw [pcl_append _ _ _ _ h.pr.len]; rfl
  have hrow : W'.ownsRow w.heap.size 215 2 v' (ctp sz (ps.take (k + 1))).length (pcl (ctp sz (ps.take (k + 1))) (vs ++ [u])) := by
    rw [e, hpcl, List.length_append, List.length_singleton]; exact hr
  have hbs : ∀ i, i < (ctp sz (ps.take (k + 1))).length → Bs D W' ((vs ++ [u]).getD i undef) ((ctp sz (ps.take (k + 1))).getD i (0, [])).2 := by
    rw [e]
    intro i hi
    rw [List.length_append, List.length_singleton] at hi
    by_cases hil : i < (ctp sz (ps.take k)).length
    · have h1 := (h.pr.bs i hil).kp kx (fun _ _ h => h)
      have e1 : (vs ++ [u]).getD i undef = vs.getD i undef := by simp only [List.getD_eq_getElem?_getD]; rw [List.getElem?_append_left (by rw [h.pr.len]; exact hil)]
      have e2 : (ctp sz (ps.take k) ++ [(p, xs.take (sz - p))]).getD i (0, []) = (ctp sz (ps.take k)).getD i (0, []) := by simp only [List.getD_eq_getElem?_getD]; rw [List.getElem?_append_left hil]
      rw [e1, e2]
      exact h1.kp kk hDv
    · have hi2 : i = (ctp sz (ps.take k)).length := by omega
      have e1 : (vs ++ [u]).getD i undef = u := by simp only [List.getD_eq_getElem?_getD]; rw [hi2, ← h.pr.len]; simp
      have e2 : (ctp sz (ps.take k) ++ [(p, xs.take (sz - p))]).getD i (0, []) = (p, xs.take (sz - p)) := by simp only [List.getD_eq_getElem?_getD]; rw [hi2]; simp
      rw [e1, e2]
      exact (hu.kp kx (fun _ _ h => h)).kp kk hDv
  refine ⟨⟨by rw [e]; simp [h.pr.len], hbs, hrow.1, ?_⟩, hrow, (h.kp.trans kx (fun _ _ h => h)).trans kk (fun i hi e => by have := hv i e; omega)⟩
  rcases hrow.2 with h1 | ⟨g, cap, cur, h1, h2, h3⟩
  · exact .inl h1
  · exact .inr ⟨g, cap, cur, h1, Nat.zero_le _, h3⟩
end Go.Proofs.YtnccklbnncaeoaaGreat
/- cutPieces: the walk. -/
namespace Go.Proofs.YtnccklbnncaeoaaGreat
open Go.RowKit

theorem bs_take {D : Nat → Prop} {w : World} {g off n c : Nat} {xs : List Int} (h : Bs D w (.slice (some ⟨g, off, none⟩) n c) xs) (t : Nat) (ht : t ≤ xs.length) : Bs D w (.slice (some ⟨g, off, none⟩) t c) (xs.take t) := by
  obtain ⟨g2, off2, cap2, e, h1, h2, h3, h4, h5⟩ := h
  simp only [Value.slice.injEq, Option.some.injEq, Addr.mk.injEq, and_true] at e
  obtain ⟨⟨rfl, rfl⟩, rfl, rfl⟩ := e
  have hl : (xs.take t).length = t := by simp; omega
  refine ⟨g, off, c, by rw [hl], h1, h2, by omega, h4, fun i hi => ?_⟩
  rw [hl] at hi
  rw [h5 i (by omega)]
  simp only [List.getD_eq_getElem?_getD, List.getElem?_take, if_pos hi]
set_option maxRecDepth 100000 in
set_option maxHeartbeats 4000000 in
theorem cutp_any (D : Nat → Prop) (w : World) (pv : Value) (ps : List (Nat × List Int)) (vs0 : List Value) (hpr : Pr D w pv ps vs0) (sz : Nat) (hb : sz ≤ 268435456) (hpb : ∀ p ∈ ps, 1 ≤ p.2.length ∧ p.1 + p.2.length ≤ 268435456) (hnb : ps.length ≤ 1000000000) (hD : ∀ i, D i → i < w.heap.size) :
    Calls Tryz.prog 137 #[pv, .int .i64 sz] w fun e w' => ∃ v vs, e = .returned v ∧ CpI D w sz ps ps.length v vs w' := by
  obtain ⟨pao, pcap, hpv⟩ := ownsRow_shape hpr.row
  subst hpv
  have HPR : Hid (Pr D w (.slice pao ps.length pcap) ps vs0) := hpr
  have HPB : Hid (∀ p ∈ ps, 1 ≤ p.2.length ∧ p.1 + p.2.length ≤ 268435456) := hpb
  have HD : Hid (∀ i, D i → i < w.heap.size) := hD
  clear hpr hpb hD
  go_enter Tryz.func137, Tryz.ntmps137
  go_wp2_with fail
  go_loopw [5, 7, 8, 11] (fun v _ _ iv wr => ∃ (k : Nat) (vs : List Value), k ≤ ps.length ∧ iv = .int .i64 k ∧ CpI D w sz ps k v vs wr) (fun _ _ _ iv _ => ps.length - (intOf iv).toNat)
  case atStart => exact ⟨0, [], Nat.zero_le _, rfl, ⟨⟨rfl, (fun i hi => by simp [ctp] at hi), rfl, .inl ⟨rfl, rfl⟩⟩, ⟨rfl, .inl ⟨rfl, rfl⟩⟩, Kp.refl _ _⟩⟩
  case round =>
    obtain ⟨k, vs, hk, rfl, hI⟩ := hrel
    have HI : Hid (CpI D w sz ps k u5 vs wr) := hI
    clear hI
    by_cases hlt : k < ps.length
    · have hpw := HPR.out.kp HI.out.kp (fun _ _ h => h) (fun _ _ h => h)
      obtain ⟨g, off, cap', hpe, hgl, hgo, hcs⟩ := hpw.cells (by omega)
      obtain ⟨rfl, rfl⟩ : pao = some ⟨g, off, none⟩ ∧ pcap = cap' := by
        simp only [Value.slice.injEq] at hpe; exact ⟨hpe.1, hpe.2.2⟩
      obtain ⟨y0, y1⟩ := hcs k hlt
      have hbs := hpw.bs k hlt
      have hpb := HPB.out (ps.getD k (0, [])) (getD_mem2 ps k hlt)
      obtain ⟨⟨p, xs⟩, hpx⟩ : ∃ t, t = ps.getD k (0, []) := ⟨_, rfl⟩
      rw [← hpx] at y0 hbs hpb
      dsimp only at y0 hbs hpb
      obtain ⟨pvv, hpvv⟩ : ∃ t, t = vs0.getD k undef := ⟨_, rfl⟩
      rw [← hpvv] at y1 hbs
      obtain ⟨pg, po, pc, hpq, -, -, hxc, -⟩ := hbs.le
      subst hpq
      have HBS : Hid (Bs D wr (.slice (some ⟨pg, po, none⟩) xs.length pc) xs) := hbs
      have HPX : Hid ((p, xs) = ps.getD k (0, [])) := hpx
      obtain ⟨xl, hxl⟩ : ∃ x, x = xs.length := ⟨_, rfl⟩
      rw [← hxl] at HBS y1 hpb hxc
      have HXL : Hid (xl = xs.length) := hxl
      clear hcs hpe hgo hbs hpx hpvv hxl hpw
      have q0 : (wr.alloc (.cells #[.int .i64 p, .slice (some ⟨pg, po, none⟩) xl pc] 215)).cell? ⟨wr.heap.size, 0, none⟩ = some (.int .i64 p) := (St.new 215 wr #[.int .i64 p, .slice (some ⟨pg, po, none⟩) xl pc]).cell 0
      have q1 : (wr.alloc (.cells #[.int .i64 p, .slice (some ⟨pg, po, none⟩) xl pc] 215)).cell? ⟨wr.heap.size, 1, none⟩ = some (.slice (some ⟨pg, po, none⟩) xl pc) := (St.new 215 wr #[.int .i64 p, .slice (some ⟨pg, po, none⟩) xl pc]).cell 1
      have K1 : Hid (Kp (fun _ => False) wr (wr.alloc (.cells #[.int .i64 p, .slice (some ⟨pg, po, none⟩) xl pc] 215))) := (Kp.refl _ _).alloc _
      by_cases hsp : sz ≤ p
      · have HC : Hid (CpI D w sz ps (k + 1) u5 vs (wr.alloc (.cells #[.int .i64 p, .slice (some ⟨pg, po, none⟩) xl pc] 215))) := HI.out.skip hlt (by rw [← HPX.out]; exact hsp) K1.out
        have hspi : (sz : Int) ≤ (p : Int) := by omega
        go_wp2
        exact ⟨⟨k + 1, vs, hlt, rfl, HC.out⟩, by simp only [intOf]; omega⟩
      · have hspi : ¬ (sz : Int) ≤ (p : Int) := by omega
        obtain ⟨ao5, c5, hu5⟩ := ownsRow_shape HI.out.row
        subst hu5
        obtain ⟨t, ht⟩ : ∃ t, t = min xl (sz - p) := ⟨_, rfl⟩
        have hmin : min ((p : Int) + (xl : Int)) (sz : Int) = (p : Int) + (t : Int) := by rw [ht]; omega
        have hsub : (p : Int) + (t : Int) - (p : Int) = (t : Int) := by omega
        have htx : t ≤ xl := by omega
        have HT : Hid (t = min xl (sz - p)) := ht
        have hwt : IntKind.i64.wrap (t : Int) = (t : Int) := by rw [IntKind.wrap_i64]; omega
        have htc : ¬ pc < t := by omega
        have htc2 : t ≤ pc := by omega
        clear ht
        go_wp2_with fail
        generalize wr.alloc (.cells #[.int .i64 p, .slice (some ⟨pg, po, none⟩) xl pc] 215) = W1 at q0 q1 K1 ⊢
        refine wp_region_G (fun w' => w'.cell? ⟨wr.heap.size, 0, none⟩ = some (.int .i64 p) ∧ w'.cell? ⟨wr.heap.size, 1, none⟩ = some (.slice (some ⟨pg, po, none⟩) xl pc)) [] hmix ⟨q0, q1⟩ (fun h0 => ?_)
        refine wpAnyG_take (i := 0) (v := .agg #[.int .i64 p, .slice (some ⟨pg, po, none⟩) xl pc]) rfl (by kernel_rfl) (fun _ _ _ h => h) (Or.inl ⟨by rfl, fun w hSw => by (try dsimp only at hSw); go_simp⟩) h0 ?_
        refine wpAnyG_takeW (i := 2) (v := .int .i64 sz) rfl (by kernel_rfl) (fun _ _ _ h => h) (Or.inl ⟨by rfl, fun w _ => by go_simp⟩) ?_
        refine wpAnyG_takeW (i := 4) (v := .pointer (some ⟨wr.heap.size, 0, none⟩)) rfl (by kernel_rfl) (fun _ _ _ h => h) (Or.inl ⟨by rfl, fun w _ => by go_simp⟩) ?_
        refine wpAnyG_take (i := 5) (v := .int .i64 p) rfl (by kernel_rfl) (fun _ _ _ h => h) (Or.inl ⟨by rfl, fun w hSw => by (try dsimp only at hSw); go_simp⟩) h0 ?_
        refine wpAnyG_one (i := 1) (by kernel_rfl) rfl (fun K hK => ?_)
        go_simp
        refine (end_any (p : Int) (some ⟨pg, po, none⟩) xl pc _ (by omega) (by omega)).mono ?_
        rintro e w2 ⟨rfl, hw2⟩
        have k2 : Kp (fun _ => False) W1 w2 := by rw [hw2]; exact ((Kp.refl _ _).drew).alloc _
        clear hw2
        go_wp2_with fail
        refine hK.out _ _ (fun _ _ => ⟨kp_cell k2 q0 (fun h => h), kp_cell k2 q1 (fun h => h)⟩) ?_
        clear hK K
        refine wpAnyG_takeW (i := 3) (v := .int .i64 ((p : Int) + (t : Int))) rfl (by kernel_rfl) (fun _ _ _ h => h) (Or.inl ⟨by rfl, fun w _ => by go_simp⟩) ?_
        refine wpAnyG_takeW (i := 6) (v := .int .i64 (t : Int)) rfl (by kernel_rfl) (fun _ _ _ h => h) (Or.inl ⟨by rfl, fun w _ => by go_simp⟩) ?_
        refine wpAnyG_takeW (i := 7) (v := .int .i64 (t : Int)) rfl (by kernel_rfl) (fun _ _ _ h => h) (Or.inl ⟨by rfl, fun w _ => by go_simp⟩) ?_
        refine wpAnyG_done (by kernel_rfl) ?_ _
        have p0 : w2.cell? ⟨wr.heap.size, 0, none⟩ = some (.int .i64 p) := kp_cell k2 q0 (fun h => h)
        have p1 : w2.cell? ⟨wr.heap.size, 1, none⟩ = some (.slice (some ⟨pg, po, none⟩) xl pc) := kp_cell k2 q1 (fun h => h)
        have K2 : Hid (Kp (fun _ => False) wr w2) := K1.out.trans k2 (fun _ _ h => h)
        clear q0 q1 k2 h0 K1
        go_wp2_with fail
        refine wp_region_G (fun w' => w'.cell? ⟨wr.heap.size, 0, none⟩ = some (.int .i64 p) ∧ w'.cell? ⟨wr.heap.size, 1, none⟩ = some (.slice (some ⟨pg, po, none⟩) xl pc)) [9] hmix ⟨p0, p1⟩ (fun h0 => ?_)
        refine wpAnyG_takeW (i := 0) (v := .slice ao5 (ctp sz (ps.take k)).length c5) rfl (by kernel_rfl) (fun _ _ _ h => h) (Or.inl ⟨by rfl, fun w _ => by go_simp⟩) ?_
        refine wpAnyG_takeW (i := 1) (v := .pointer (some ⟨wr.heap.size, 0, none⟩)) rfl (by kernel_rfl) (fun _ _ _ h => h) (Or.inl ⟨by rfl, fun w _ => by go_simp⟩) ?_
        refine wpAnyG_take (i := 2) (v := .int .i64 p) rfl (by kernel_rfl) (fun _ _ _ h => h) (Or.inl ⟨by rfl, fun w hSw => by (try dsimp only at hSw); go_simp⟩) h0 ?_
        refine wpAnyG_takeW (i := 3) (v := .pointer (some ⟨wr.heap.size, 1, none⟩)) rfl (by kernel_rfl) (fun _ _ _ h => h) (Or.inl ⟨by rfl, fun w _ => by go_simp⟩) ?_
        refine wpAnyG_take (i := 4) (v := .slice (some ⟨pg, po, none⟩) xl pc) rfl (by kernel_rfl) (fun _ _ _ h => h) (Or.inl ⟨by rfl, fun w hSw => by (try dsimp only at hSw); go_simp⟩) h0 ?_
        refine wpAnyG_takeW (i := 5) (v := .int .i64 (t : Int)) rfl (by kernel_rfl) (fun _ _ _ h => h) (Or.inl ⟨by rfl, fun w _ => by go_simp⟩) ?_
        refine wpAnyG_takeW (i := 6) (v := .slice (some ⟨pg, po, none⟩) t pc) rfl (by kernel_rfl) (fun _ _ _ h => h) (Or.inl ⟨by rfl, fun w _ => by go_simp⟩) ?_
        refine wpAnyG_takeW (i := 7) (v := .agg #[.int .i64 p, .slice (some ⟨pg, po, none⟩) t pc]) rfl (by kernel_rfl) (fun _ _ _ h => h) (Or.inl ⟨by rfl, fun w _ => by go_simp⟩) ?_
        refine wpAnyG_one (i := 8) (by kernel_rfl) rfl (fun K hK => ?_)
        go_simp
        have st3 : St 215 (w2.alloc (.cells #[.int .i64 p, .slice (some ⟨pg, po, none⟩) t pc] 215)).drew w2.heap.size #[.int .i64 p, .slice (some ⟨pg, po, none⟩) t pc] := St.new 215 w2 _
        have k3 : Kp (fun _ => False) w2 (w2.alloc (.cells #[.int .i64 p, .slice (some ⟨pg, po, none⟩) t pc] 215)).drew := ((Kp.refl _ _).alloc _).drew
        generalize (w2.alloc (.cells #[.int .i64 p, .slice (some ⟨pg, po, none⟩) t pc] 215)).drew = W3 at st3 k3 ⊢
        refine hK.out _ _ (fun _ _ => ⟨kp_cell k3 p0 (fun h => h), kp_cell k3 p1 (fun h => h)⟩) ?_
        clear hK K h0
        refine wpAnyG_one (i := 9) (by kernel_rfl) rfl (fun K hK => ?_)
        have kx : Kp (fun _ => False) wr W3 := K2.out.trans k3 (fun _ _ h => h)
        have hrow3 : W3.ownsRow w.heap.size 215 2 (.slice ao5 (ctp sz (ps.take k)).length c5) (ctp sz (ps.take k)).length (pcl (ctp sz (ps.take k)) vs) := by
          refine ⟨HI.out.row.1, ?_⟩
          rcases HI.out.row.2 with h1 | ⟨gg, cap, cur, h1, h2, h3, h4⟩
          · exact .inl h1
          · exact .inr ⟨gg, cap, cur, h1, h2, (kx.block gg (Array.getElem?_eq_some_iff.1 h3).1 (fun h => h)).trans h3, h4⟩
        have hcl := ctp_len sz (ps.take k)
        rw [List.length_take] at hcl
        refine step_append_own rfl (.tmp 26) (.tmp 34) 162 rfl w.heap.size 215 (.agg #[.int .i64 0, .slice none 0 0]) 2 32 Tryz.underlying162 Tryz.info215 rfl (by decide) (.slice ao5 (ctp sz (ps.take k)).length c5) (ctp sz (ps.take k)).length (pcl (ctp sz (ps.take k)) vs) (by simp [Act.eval]) hrow3 ⟨w2.heap.size, 0, none⟩ 1 1 [.int .i64 p, .slice (some ⟨pg, po, none⟩) t pc] (by simp [Act.eval]) rfl (fun j u hj => ?_) (fun u hu => ?_) (by unfold maxLen; omega) (by omega) (Nat.le_trans HI.out.kp.size kx.size) ?_
        · rw [add_z, st3.cell]; simpa using hj
        · simp at hu; rcases hu with rfl | rfl <;> rfl
        intro v' w4 r4 g4 n4 l4
        have k4 : Kp (fun i => (Value.slice ao5 (ctp sz (ps.take k)).length c5).ownBlock = some i) W3 w4 := Kp.of_grown g4 (fun i e => e)
        have hbt : Bs D wr (.slice (some ⟨pg, po, none⟩) t pc) (xs.take (sz - p)) := by
          have h1 := bs_take HBS.out t (by rw [← HXL.out]; exact htx)
          have e2 : xs.take (sz - p) = xs.take t := by
            rw [HT.out, HXL.out]
            by_cases hh : xs.length ≤ sz - p
            · rw [Nat.min_eq_left hh, List.take_length, List.take_of_length_le hh]
            · rw [Nat.min_eq_right (by omega)]
          rw [e2]; exact h1
        have HC : Hid (CpI D w sz ps (k + 1) v' (vs ++ [.slice (some ⟨pg, po, none⟩) t pc]) w4) := HI.out.take hlt HPX.out hsp hbt kx k4 HD.out r4
        refine hK.out _ _ (fun h => absurd h (by decide)) ?_
        clear hK K
        try simp only [Act.put, List.setIfInBounds_toArray]
        refine wpAnyG_takeW (i := 10) (v := v') rfl (by kernel_rfl) (fun _ _ _ h => h) (Or.inl ⟨by rfl, fun w _ => by go_simp⟩) ?_
        refine wpAnyG_done (by kernel_rfl) ?_ _
        clear r4 g4 n4 l4 k4 hrow3 kx k3 st3 hbt p0 p1
        go_wp2
        exact ⟨⟨k + 1, _, hlt, rfl, HC.out⟩, by simp only [intOf]; omega⟩
    · obtain rfl : k = ps.length := by omega
      have hI := HI.out
      clear hlt
      go_wp2
      go_ret
      exact ⟨_, vs, rfl, hI⟩
end Go.Proofs.YtnccklbnncaeoaaGreat
