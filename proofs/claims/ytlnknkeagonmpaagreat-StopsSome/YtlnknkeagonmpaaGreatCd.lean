/- What a crash leaves of a file. -/
import Derived.Test.YtlnknkeagonmpaaGreatPk
import Derived.Test.YtlnknkeagonmpaaGreatCr
import Derived.Test.YtlnknkeagonmpaaGreatWr
import Derived.Deep.CutRange
namespace Go.Proofs.YtlnknkeagonmpaaGreat
open Go.RowKit

def pkb (zs : List Int) (k : Nat) : Bool := if k < zs.length then pck zs k else false
/-- The pieces that last, the first pick being that of number k. -/
def pks (zs : List Int) : Nat → List (Nat × List Int) → List (Nat × List Int)
  | _, [] => []
  | k, p :: ps => if pkb zs k then p :: pks zs (k + 1) ps else pks zs (k + 1) ps
theorem pks_snoc (zs : List Int) (k : Nat) (ps : List (Nat × List Int)) (p : Nat × List Int) : pks zs k (ps ++ [p]) = pks zs k ps ++ (if pkb zs (k + ps.length) then [p] else []) := by
  induction ps generalizing k with
  | nil => simp only [List.nil_append, pks, List.length_nil, Nat.add_zero]
  | cons q ps ih =>
    simp only [List.cons_append, pks, List.length_cons]
    rw [ih (k + 1), show k + 1 + ps.length = k + (ps.length + 1) by omega]
    by_cases h : pkb zs k = true
    · rw [if_pos h, if_pos h]; rfl
    · rw [if_neg h, if_neg h]
theorem pks_sub (zs : List Int) (k : Nat) (ps : List (Nat × List Int)) : ∀ p ∈ pks zs k ps, p ∈ ps := by
  induction ps generalizing k with
  | nil => intro p h; simp [pks] at h
  | cons q ps ih =>
    intro p h
    simp only [pks] at h
    by_cases hb : pkb zs k = true
    · rw [if_pos hb] at h
      rcases List.mem_cons.1 h with rfl | h
      · simp
      · exact List.mem_cons_of_mem _ (ih _ p h)
    · rw [if_neg hb] at h
      exact List.mem_cons_of_mem _ (ih _ p h)
theorem ov_high {f : Nat → Int} {p : Nat × List Int} {sz i : Nat} (hp : p.1 + p.2.length ≤ sz) (h : sz ≤ i) : ov f p i = f i := by
  unfold ov
  rw [if_neg (by omega)]
/-- A piece has been put over what lasts of a file without pieces. -/
theorem fr_lastp {D D' : Nat → Prop} {w W : World} {a : Fa} {sz : Nat} {L : Nat → Int} {p : Nat × List Int} {es : List (Int × Value × Nat)} {c : Nat} (h : Fr D w a sz L []) (hm : Sm D' W a.lm (ov L p) zero es c) (k : Kp (fun i => i = a.lm) w W) (hd : ∀ i, D i → D' i) (hn : ∀ i, D' i → i ∉ a.own) (hb : ∀ i, D' i → i < W.heap.size) (hp : p.1 + p.2.length ≤ sz) (he : ∃ c, Mp (Value.int .i64) w a.om [] c) : Fr D' W a sz (ov L p) [] := by
  obtain ⟨vs, h3⟩ := h.pc
  obtain ⟨c0, hc⟩ := he
  have hlm := h.lm_ne
  have hne := h.ne
  have nm : ∀ i, D i → ¬ i = a.lm := fun i hi e => h.nd i hi (by rw [e, Fa.mem]; exact .inr (.inl rfl))
  refine ⟨h.st.kp k (fun e => hlm.1 e.symm), ⟨es, c, hm⟩, ⟨[], c0, ⟨kp_mp hc k (fun e => hne e.symm), (fun _ h => by cases h), (fun _ _ h => by cases h), fun _ _ => rfl⟩, fun p hp => by cases hp⟩, ⟨vs, (h3.kp k (fun b hb e => (h.fb_ne hb).2.1 e) nm).mono (fun i _ => hd i)⟩, hne, hn, hb, fun i hi => ?_, (fun p hp => by cases hp), h.sb, h.nb⟩
  rw [ov_high hp hi]
  exact h.lz i hi
theorem fr_left {D : Nat → Prop} {w W : World} {fb lm om : Nat} {sz : Nat} {L : Nat → Int} {el : List (Int × Value × Nat)} {cl m0 c0 : Nat} (hl : Sm D w m0 L zero el cl) (k : Kp (fun _ => False) w W) (hs : St 123 W fb #[.int .i64 sz, .map (some lm), .map (some om), .slice none 0 0]) (h1 : Mp (Value.int .i64) W lm el cl) (h2 : Mp (Value.int .i64) W om [] c0) (hne : lm ≠ om) (hd : ∀ i, D i → i < w.heap.size) (hn : w.heap.size ≤ fb ∧ w.heap.size ≤ lm ∧ w.heap.size ≤ om) (hz : ∀ i, sz ≤ i → L i = 0) (hsb : sz ≤ 268435456) : Fr D W ⟨fb, lm, om, .slice none 0 0⟩ sz L [] := by
  refine ⟨hs, ⟨el, cl, h1, hl.ks, fun j u hu => (hl.so j u hu).kp k (fun _ _ h => h), hl.no⟩, ⟨[], c0, ⟨h2, (fun _ h => by cases h), (fun _ _ h => by cases h), fun _ _ => rfl⟩, fun p hp => by cases hp⟩, ⟨[], rfl, (fun i hi => by simp at hi), rfl, .inl ⟨rfl, rfl⟩⟩, hne, fun i hi hm => ?_, fun i hi => Nat.lt_of_lt_of_le (hd i hi) k.size, hz, (fun p hp => by cases hp), hsb, by simp⟩
  have := hd i hi
  rcases (Fa.mem _ i).1 hm with h | h | h | h
  · dsimp only at h; omega
  · dsimp only at h; omega
  · dsimp only at h; omega
  · cases h
theorem pkb_min (zs : List Int) (K n : Nat) (hn : n = zs.length) : (if min K n < n then pck zs (min K n) else false) = pkb zs K := by
  unfold pkb
  by_cases h : K < n
  · rw [if_pos (by omega), if_pos (by omega), show min K n = K by omega]
  · rw [if_neg (by omega), if_neg (by omega)]
/-- What the loop of crashed keeps. -/
structure CdI (D : Nat → Prop) (w : World) (sz : Nat) (L : Nat → Int) (ps : List (Nat × List Int)) (zs : List Int) (K n Bn : Nat) (k : Nat) (W : World) (D' : Nat → Prop) (a' : Fa) : Prop where
  f : Fr D' W a' sz (ovs L (pks zs K (ps.take k))) []
  e : ∃ c, Mp (Value.int .i64) W a'.om [] c
  o : ∀ i, i ∈ a'.own → w.heap.size ≤ i
  d : ∀ i, D i → D' i
  d2 : ∀ i, D' i → D i ∨ w.heap.size ≤ i
  b : St 3 W Bn #[.int .i64 ((min (K + k) n : Nat) : Int)]
  kp : Kp (fun i => i = Bn) w W
theorem getD_mem2 (ps : List (Nat × List Int)) (k : Nat) (h : k < ps.length) : ps.getD k (0, []) ∈ ps := by
  rw [List.getD_eq_getElem?_getD, List.getElem?_eq_getElem h]
  exact List.getElem_mem h
theorem Pr.cells {D : Nat → Prop} {w : World} {pv : Value} {ps : List (Nat × List Int)} {vs : List Value} (h : Pr D w pv ps vs) (hp : 0 < ps.length) : ∃ g off cap, pv = .slice (some ⟨g, off, none⟩) ps.length cap ∧ g < w.heap.size ∧ pv.ownBlock = some g ∧ ∀ i, i < ps.length → w.cell? ⟨g, off + i * 2, none⟩ = some (.int .i64 (ps.getD i (0, [])).1) ∧ w.cell? ⟨g, off + i * 2 + 1, none⟩ = some (vs.getD i undef) := by
  rcases h.row.2 with ⟨_, h1⟩ | ⟨g, cap, cur, rfl, h1, h2, h3, h4, h5, h6⟩
  · omega
  · refine ⟨g, 0, cap, rfl, (Array.getElem?_eq_some_iff.1 h2).1, rfl, fun i hi => ?_⟩
    obtain ⟨e1, e2⟩ := pcl_get ps vs h.len i hi
    rw [← h6, List.getElem?_take, if_pos (by omega)] at e1
    rw [← h6, List.getElem?_take, if_pos (by omega)] at e2
    refine ⟨(cell_of_row w g _ _ 133 _ h2).trans ?_, (cell_of_row w g _ _ 133 _ h2).trans ?_⟩
    · rw [Nat.zero_add]; simpa using e1
    · rw [Nat.zero_add]; simpa using e2
theorem pks_step (zs : List Int) (K : Nat) (ps : List (Nat × List Int)) (k : Nat) (h : k < ps.length) : pks zs K (ps.take (k + 1)) = pks zs K (ps.take k) ++ (if pkb zs (K + k) then [ps.getD k (0, [])] else []) := by
  rw [List.take_add_one, List.getElem?_eq_getElem h]
  show pks zs K (ps.take k ++ [ps[k]]) = _
  rw [pks_snoc, List.length_take, Nat.min_eq_left (by omega), List.getD_eq_getElem?_getD, List.getElem?_eq_getElem h]
  rfl
theorem nxt_min (K k n : Nat) : (if min (K + k) n < n then min (K + k) n + 1 else min (K + k) n) = min (K + (k + 1)) n := by
  split <;> omega
theorem CdI.fk {D : Nat → Prop} {w : World} {sz : Nat} {L : Nat → Int} {ps : List (Nat × List Int)} {zs : List Int} {K n Bn k : Nat} {W W' : World} {D' : Nat → Prop} {a' : Fa} (h : CdI D w sz L ps zs K n Bn k W D' a') (hl : Bn < w.heap.size) (hD : ¬ D Bn) (kk : Kp (fun i => i = Bn) W W') : Fr D' W' a' sz (ovs L (pks zs K (ps.take k))) [] ∧ (∃ c, Mp (Value.int .i64) W' a'.om [] c) := by
  have hno : ∀ i, i ∈ a'.own → ¬ i = Bn := fun i hi e => by have := h.o i hi; omega
  refine ⟨h.f.kp kk hno (fun i hi e => ?_), ?_⟩
  · rcases h.d2 i hi with h1 | h1
    · exact hD (e ▸ h1)
    · omega
  · obtain ⟨c, hc⟩ := h.e
    exact ⟨c, kp_mp hc kk (hno _ ((Fa.mem _ _).2 (.inr (.inr (.inl rfl)))))⟩
theorem CdI.skip {D : Nat → Prop} {w : World} {sz : Nat} {L : Nat → Int} {ps : List (Nat × List Int)} {zs : List Int} {K n Bn k : Nat} {W W' : World} {D' : Nat → Prop} {a' : Fa} (h : CdI D w sz L ps zs K n Bn k W D' a') (hl : Bn < w.heap.size) (hD : ¬ D Bn) (kk : Kp (fun i => i = Bn) W W') (hb : St 3 W' Bn #[.int .i64 ((if min (K + k) n < n then min (K + k) n + 1 else min (K + k) n : Nat) : Int)]) (hk : k < ps.length) (hp : pkb zs (K + k) = false) : CdI D w sz L ps zs K n Bn (k + 1) W' D' a' := by
  obtain ⟨h1, h2⟩ := h.fk hl hD kk
  refine ⟨?_, h2, h.o, h.d, h.d2, by rw [← nxt_min]; exact hb, h.kp.trans kk (fun _ _ h => h)⟩
  rw [pks_step zs K ps k hk, hp, if_neg (by simp), List.append_nil]
  exact h1
theorem CdI.take {D : Nat → Prop} {w : World} {sz : Nat} {L : Nat → Int} {ps : List (Nat × List Int)} {zs : List Int} {K n Bn k : Nat} {W W' X w' : World} {D' : Nat → Prop} {a' : Fa} {p : Nat × List Int} {es : List (Int × Value × Nat)} {c : Nat} (h : CdI D w sz L ps zs K n Bn k W D' a') (hl : Bn < w.heap.size) (hD : ¬ D Bn) (kk : Kp (fun i => i = Bn) W W') (kx : Kp (fun _ => False) W' X) (hb : St 3 W' Bn #[.int .i64 ((if min (K + k) n < n then min (K + k) n + 1 else min (K + k) n : Nat) : Int)]) (hk : k < ps.length) (hp : pkb zs (K + k) = true) (hpe : p = ps.getD k (0, [])) (hpb : p.1 + p.2.length ≤ sz)
    (hm : Sm (fun i => D' i ∨ (X.heap.size ≤ i ∧ i < w'.heap.size)) w' a'.lm (ov (ovs L (pks zs K (ps.take k))) p) zero es c) (km : Kp (fun i => i = a'.lm) X w') : CdI D w sz L ps zs K n Bn (k + 1) w' (fun i => D' i ∨ (X.heap.size ≤ i ∧ i < w'.heap.size)) a' := by
  have k2 : Kp (fun i => i = Bn) W X := kk.trans kx (fun _ _ h => h.elim)
  obtain ⟨h1, c0, h2⟩ := h.fk hl hD k2
  have hlm : w.heap.size ≤ a'.lm := h.o _ ((Fa.mem _ _).2 (.inr (.inl rfl)))
  have hsz : w.heap.size ≤ X.heap.size := Nat.le_trans h.kp.size k2.size
  refine ⟨?_, ⟨c0, kp_mp h2 km (fun e => h.f.ne e.symm)⟩, h.o, fun i hi => .inl (h.d i hi), fun i hi => ?_, ?_, (h.kp.trans k2 (fun _ _ h => h)).trans km (fun i hi e => by omega)⟩
  · rw [pks_step zs K ps k hk, hp, if_pos rfl, ← hpe, ovs_snoc]
    refine fr_lastp h1 hm km (fun i hi => .inl hi) (fun i hi hn => ?_) (fun i hi => ?_) hpb ⟨c0, h2⟩
    · rcases hi with hi | hi
      · exact h1.nd i hi hn
      · have := h1.lt i hn; omega
    · rcases hi with hi | hi
      · exact Nat.lt_of_lt_of_le (h1.db i hi) km.size
      · exact hi.2
  · rcases hi with hi | hi
    · exact h.d2 i hi
    · right; omega
  · rw [← nxt_min]
    exact (hb.kp kx (fun h => h)).kp km (fun e => by omega)
end Go.Proofs.YtlnknkeagonmpaaGreat
