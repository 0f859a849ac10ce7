/- What a crash leaves of a file. -/
import Derived.Test.YtalicohflfildaaPk
import Derived.Test.YtalicohflfildaaCr
import Derived.Test.YtalicohflfildaaWr
import Derived.Deep.CutRange
namespace Go.Proofs.Ytalicohflfildaa
open Go.RowKit

def pkb (zs : List Int) (k : Nat) : Bool := if k < zs.length then pck zs k else false
/-- The pieces that last, the first pick being that of number k. -/
def pks (zs : List Int) : Nat → List (Nat × List Int) → List (Nat × List Int)
  | _, [] => []
  | k, p :: ps => if pkb zs k then p :: pks zs (k + 1) ps else pks zs (k + 1) ps
theorem pks_snoc (zs : List Int) (k : Nat) (ps : List (Nat × List Int)) (p : Nat × List Int) : pks zs k (ps ++ [p]) = pks zs k ps ++ (if pkb zs (k + ps.length) then [p] else []) := by
  induction ps generalizing k with
  | nil => simp only [List.nil_append, pks, List.length_nil, Nat.add_zero]
  | cons q ps ih =>
    simp only [List.cons_append, pks, List.length_cons]
    rw [ih (k + 1), show k + 1 + ps.length = k + (ps.length + 1) by omega]
    by_cases h : pkb zs k = true
    · rw [if_pos h, if_pos h]; rfl
    · rw [if_neg h, if_neg h]
theorem pks_sub (zs : List Int) (k : Nat) (ps : List (Nat × List Int)) : ∀ p ∈ pks zs k ps, p ∈ ps := by
  induction ps generalizing k with
  | nil => intro p h; simp [pks] at h
  | cons q ps ih =>
    intro p h
    simp only [pks] at h
    by_cases hb : pkb zs k = true
    · rw [if_pos hb] at h
      rcases List.mem_cons.1 h with rfl | h
      · simp
      · exact List.mem_cons_of_mem _ (ih _ p h)
    · rw [if_neg hb] at h
      exact List.mem_cons_of_mem _ (ih _ p h)
theorem ov_high {f : Nat → Int} {p : Nat × List Int} {sz i : Nat} (hp : p.1 + p.2.length ≤ sz) (h : sz ≤ i) : ov f p i = f i := by
  unfold ov
  rw [if_neg (by omega)]
/-- A piece has been put over what lasts of a file without pieces. -/
theorem fr_lastp {D D' : Nat → Prop} {w W : World} {a : Fa} {sz : Nat} {L : Nat → Int} {p : Nat × List Int} {es : List (Int × Value × Nat)} {c : Nat} (h : Fr D w a sz L []) (hm : Sm D' W a.lm (ov L p) zero es c) (k : Kp (fun i => i = a.lm) w W) (hd : ∀ i, D i → D' i) (hn : ∀ i, D' i → i ∉ a.own) (hb : ∀ i, D' i → i < W.heap.size) (hp : p.1 + p.2.length ≤ sz) (he : ∃ c, Mp (Value.int .i64) w a.om [] c) : Fr D' W a sz (ov L p) [] := by
  obtain ⟨vs, h3⟩ := h.pc
  obtain ⟨c0, hc⟩ := he
  have hlm := h.lm_ne
  have hne := h.ne
  have nm : ∀ i, D i → ¬ i = a.lm := fun i hi e => h.nd i hi (by rw [e, Fa.mem]; exact .inr (.inl rfl))
  refine ⟨h.st.kp k (fun e => hlm.1 e.symm), ⟨es, c, hm⟩, ⟨[], c0, ⟨kp_mp hc k (fun e => hne e.symm), (fun _ h => by cases h), (fun _ _ h => by cases h), fun _ _ => rfl⟩, fun p hp => by cases hp⟩, ⟨vs, (h3.kp k (fun b hb e => (h.fb_ne hb).2.1 e) nm).mono (fun i _ => hd i)⟩, hne, hn, hb, fun i hi => ?_, (fun p hp => by cases hp), h.sb, h.nb⟩
  rw [ov_high hp hi]
  exact h.lz i hi
theorem fr_left {D : Nat → Prop} {w W : World} {fb lm om : Nat} {sz : Nat} {L : Nat → Int} {el : List (Int × Value × Nat)} {cl m0 c0 : Nat} (hl : Sm D w m0 L zero el cl) (k : Kp (fun _ => False) w W) (hs : St 70 W fb #[.int .i64 sz, .map (some lm), .map (some om), .slice none 0 0]) (h1 : Mp (Value.int .i64) W lm el cl) (h2 : Mp (Value.int .i64) W om [] c0) (hne : lm ≠ om) (hd : ∀ i, D i → i < w.heap.size) (hn : w.heap.size ≤ fb ∧ w.heap.size ≤ lm ∧ w.heap.size ≤ om) (hz : ∀ i, sz ≤ i → L i = 0) (hsb : sz ≤ 268435456) : Fr D W ⟨fb, lm, om, .slice none 0 0⟩ sz L [] := by
  refine ⟨hs, ⟨el, cl, h1, hl.ks, fun j u hu => (hl.so j u hu).kp k (fun _ _ h => h), hl.no⟩, ⟨[], c0, ⟨h2, (fun _ h => by cases h), (fun _ _ h => by cases h), fun _ _ => rfl⟩, fun p hp => by cases hp⟩, ⟨[], rfl, (fun i hi => by simp at hi), rfl, .inl ⟨rfl, rfl⟩⟩, hne, fun i hi hm => ?_, fun i hi => Nat.lt_of_lt_of_le (hd i hi) k.size, hz, (fun p hp => by cases hp), hsb, by simp⟩
  have := hd i hi
  rcases (Fa.mem _ i).1 hm with h | h | h | h
  · dsimp only at h; omega
  · dsimp only at h; omega
  · dsimp only at h; omega
  · cases h
theorem pkb_min (zs : List Int) (K n : Nat) (hn : n = zs.length) : (if min K n < n then pck zs (min K n) else false) = pkb zs K := by
  unfold pkb
  by_cases h : K < n
  · rw [if_pos (by omega), if_pos (by omega), show min K n = K by omega]
  · rw [if_neg (by omega), if_neg (by omega)]
/-- What the loop of crashed keeps. -/
structure CdI (D : Nat → Prop) (w : World) (sz : Nat) (L : Nat → Int) (ps : List (Nat × List Int)) (zs : List Int) (K n Bn : Nat) (k : Nat) (W : World) (D' : Nat → Prop) (a' : Fa) : Prop where
  f : Fr D' W a' sz (ovs L (pks zs K (ps.take k))) []
  e : ∃ c, Mp (Value.int .i64) W a'.om [] c
  o : ∀ i, i ∈ a'.own → w.heap.size ≤ i
  d : ∀ i, D i → D' i
  d2 : ∀ i, D' i → D i ∨ w.heap.size ≤ i
  b : St 3 W Bn #[.int .i64 ((min (K + k) n : Nat) : Int)]
  kp : Kp (fun i => i = Bn) w W
theorem getD_mem2 (ps : List (Nat × List Int)) (k : Nat) (h : k < ps.length) : ps.getD k (0, []) ∈ ps := by
  rw [List.getD_eq_getElem?_getD, List.getElem?_eq_getElem h]
  exact List.getElem_mem h
theorem Pr.cells {D : Nat → Prop} {w : World} {pv : Value} {ps : List (Nat × List Int)} {vs : List Value} (h : Pr D w pv ps vs) (hp : 0 < ps.length) : ∃ g off cap, pv = .slice (some ⟨g, off, none⟩) ps.length cap ∧ g < w.heap.size ∧ pv.ownBlock = some g ∧ ∀ i, i < ps.length → w.cell? ⟨g, off + i * 2, none⟩ = some (.int .i64 (ps.getD i (0, [])).1) ∧ w.cell? ⟨g, off + i * 2 + 1, none⟩ = some (vs.getD i undef) := by
  rcases h.row.2 with ⟨_, h1⟩ | ⟨g, cap, cur, rfl, h1, h2, h3, h4, h5, h6⟩
  · omega
  · refine ⟨g, 0, cap, rfl, (Array.getElem?_eq_some_iff.1 h2).1, rfl, fun i hi => ?_⟩
    obtain ⟨e1, e2⟩ := pcl_get ps vs h.len i hi
    rw [← h6, List.getElem?_take, if_pos (by omega)] at e1
    rw [← h6, List.getElem?_take, if_pos (by omega)] at e2
    refine ⟨(cell_of_row w g _ _ 102 _ h2).trans ?_, (cell_of_row w g _ _ 102 _ h2).trans ?_⟩
    · rw [Nat.zero_add]; simpa using e1
    · rw [Nat.zero_add]; simpa using e2
theorem pks_step (zs : List Int) (K : Nat) (ps : List (Nat × List Int)) (k : Nat) (h : k < ps.length) : pks zs K (ps.take (k + 1)) = pks zs K (ps.take k) ++ (if pkb zs (K + k) then [ps.getD k (0, [])] else []) := by
  rw [List.take_add_one, List.getElem?_eq_getElem h]
  show pks zs K (ps.take k ++ [ps[k]]) = _
  rw [pks_snoc, List.length_take, Nat.min_eq_left (by omega), List.getD_eq_getElem?_getD, List.getElem?_eq_getElem h]
  rfl
theorem nxt_min (K k n : Nat) : (if min (K + k) n < n then min (K + k) n + 1 else min (K + k) n) = min (K + (k + 1)) n := by
  split <;> omega
theorem CdI.fk {D : Nat → Prop} {w : World} {sz : Nat} {L : Nat → Int} {ps : List (Nat × List Int)} {zs : List Int} {K n Bn k : Nat} {W W' : World} {D' : Nat → Prop} {a' : Fa} (h : CdI D w sz L ps zs K n Bn k W D' a') (hl : Bn < w.heap.size) (hD : ¬ D Bn) (kk : Kp (fun i => i = Bn) W W') : Fr D' W' a' sz (ovs L (pks zs K (ps.take k))) [] ∧ (∃ c, Mp (Value.int .i64) W' a'.om [] c) := by
  have hno : ∀ i, i ∈ a'.own → ¬ i = Bn := fun i hi e => by have := h.o i hi; omega
  refine ⟨h.f.kp kk hno (fun i hi e => ?_), ?_⟩
  · rcases h.d2 i hi with h1 | h1
    · exact hD (e ▸ h1)
    · omega
  · obtain ⟨c, hc⟩ := h.e
    exact ⟨c, kp_mp hc kk (hno _ ((Fa.mem _ _).2 (.inr (.inr (.inl rfl)))))⟩
theorem CdI.skip {D : Nat → Prop} {w : World} {sz : Nat} {L : Nat → Int} {ps : List (Nat × List Int)} {zs : List Int} {K n Bn k : Nat} {W W' : World} {D' : Nat → Prop} {a' : Fa} (h : CdI D w sz L ps zs K n Bn k W D' a') (hl : Bn < w.heap.size) (hD : ¬ D Bn) (kk : Kp (fun i => i = Bn) W W') (hb : St 3 W' Bn #[.int .i64 ((if min (K + k) n < n then min (K + k) n + 1 else min (K + k) n : Nat) : Int)]) (hk : k < ps.length) (hp : pkb zs (K + k) = false) : CdI D w sz L ps zs K n Bn (k + 1) W' D' a' := by
  obtain ⟨h1, h2⟩ := h.fk hl hD kk
  refine ⟨?_, h2, h.o, h.d, h.d2, by rw [← nxt_min]; exact hb, h.kp.trans kk (fun _ _ h => h)⟩
  rw [pks_step zs K ps k hk, hp, if_neg (by simp), List.append_nil]
  exact h1
theorem CdI.take {D : Nat → Prop} {w : World} {sz : Nat} {L : Nat → Int} {ps : List (Nat × List Int)} {zs : List Int} {K n Bn k : Nat} {W W' X w' : World} {D' : Nat → Prop} {a' : Fa} {p : Nat × List Int} {es : List (Int × Value × Nat)} {c : Nat} (h : CdI D w sz L ps zs K n Bn k W D' a') (hl : Bn < w.heap.size) (hD : ¬ D Bn) (kk : Kp (fun i => i = Bn) W W') (kx : Kp (fun _ => False) W' X) (hb : St 3 W' Bn #[.int .i64 ((if min (K + k) n < n then min (K + k) n + 1 else min (K + k) n : Nat) : Int)]) (hk : k < ps.length) (hp : pkb zs (K + k) = true) (hpe : p = ps.getD k (0, [])) (hpb : p.1 + p.2.length ≤ sz)
    (hm : Sm (fun i => D' i ∨ (X.heap.size ≤ i ∧ i < w'.heap.size)) w' a'.lm (ov (ovs L (pks zs K (ps.take k))) p) zero es c) (km : Kp (fun i => i = a'.lm) X w') : CdI D w sz L ps zs K n Bn (k + 1) w' (fun i => D' i ∨ (X.heap.size ≤ i ∧ i < w'.heap.size)) a' := by
  have k2 : Kp (fun i => i = Bn) W X := kk.trans kx (fun _ _ h => h.elim)
  obtain ⟨h1, c0, h2⟩ := h.fk hl hD k2
  have hlm : w.heap.size ≤ a'.lm := h.o _ ((Fa.mem _ _).2 (.inr (.inl rfl)))
  have hsz : w.heap.size ≤ X.heap.size := Nat.le_trans h.kp.size k2.size
  refine ⟨?_, ⟨c0, kp_mp h2 km (fun e => h.f.ne e.symm)⟩, h.o, fun i hi => .inl (h.d i hi), fun i hi => ?_, ?_, (h.kp.trans k2 (fun _ _ h => h)).trans km (fun i hi e => by omega)⟩
  · rw [pks_step zs K ps k hk, hp, if_pos rfl, ← hpe, ovs_snoc]
    refine fr_lastp h1 hm km (fun i hi => .inl hi) (fun i hi hn => ?_) (fun i hi => ?_) hpb ⟨c0, h2⟩
    · rcases hi with hi | hi
      · exact h1.nd i hi hn
      · have := h1.lt i hn; omega
    · rcases hi with hi | hi
      · exact Nat.lt_of_lt_of_le (h1.db i hi) km.size
      · exact hi.2
  · rcases hi with hi | hi
    · exact h.d2 i hi
    · right; omega
  · rw [← nxt_min]
    exact (hb.kp kx (fun h => h)).kp km (fun e => by omega)
set_option maxRecDepth 100000 in
set_option maxHeartbeats 2000000 in
theorem crashed_any (D : Nat → Prop) (w : World) (a : Fa) (sz : Nat) (L : Nat → Int) (ps : List (Nat × List Int)) (hf : Fr D w a sz L ps) (Bn Bp : Nat) (ao : Option Addr) (zs : List Int) (n cap K : Nat) (hne : Bn ≠ Bp) (hn : n = zs.length) (hb : n ≤ 1000000000000) (hz : ∀ z ∈ zs, 0 ≤ z) (s1 : St 3 w Bn #[.int .i64 ((min K n : Nat) : Int)]) (s2 : St 24 w Bp #[.slice ao n cap]) (hS : Src .i64 w ao zs) (hno : 0 < n → ∀ b off, ao = some ⟨b, off, none⟩ → b ≠ Bn) (hbo : Bn ∉ a.own) (hbd : ¬ D Bn) :
    Calls Try.prog 29 #[.pointer (some ⟨a.fb, 0, none⟩), .func (.func 51) #[] #[.pointer (some ⟨Bn, 0, none⟩), .pointer (some ⟨Bp, 0, none⟩)]] w fun e w' => ∃ D' a', e = .returned (.pointer (some ⟨a'.fb, 0, none⟩)) ∧ Fr D' w' a' sz (ovs L (pks zs K ps)) [] ∧ (∀ i, i ∈ a'.own → w.heap.size ≤ i) ∧ (∀ i, D i → D' i) ∧ (∀ i, D' i → D i ∨ w.heap.size ≤ i) ∧ St 3 w' Bn #[.int .i64 ((min (K + ps.length) n : Nat) : Int)] ∧ Kp (fun i => i = Bn) w w' := by
  have HF : Hid (Fr D w a sz L ps) := hf
  have HN : Hid (n = zs.length) := hn
  have HZ : Hid (∀ z ∈ zs, 0 ≤ z) := hz
  have HS1 : Hid (St 3 w Bn #[.int .i64 ((min K n : Nat) : Int)]) := s1
  have HS2 : Hid (St 24 w Bp #[.slice ao n cap]) := s2
  have HSR : Hid (Src .i64 w ao zs) := hS
  have HNO : Hid (0 < n → ∀ b off, ao = some ⟨b, off, none⟩ → b ≠ Bn) := hno
  have hbl := s1.lt
  have hbp := s2.lt
  obtain ⟨fb, lm, om, pv⟩ := a
  dsimp only at *
  have c0 : w.cell? ⟨fb, 0, none⟩ = some (.int .i64 sz) := hf.st.cell 0
  have c1 : w.cell? ⟨fb, 1, none⟩ = some (.map (some lm)) := hf.st.cell 1
  obtain ⟨el, cl, hla⟩ := hf.la
  dsimp only at hla
  have HLA : Hid (Sm D w lm L zero el cl) := hla
  have hnbs := hf.nb
  have hfl := hf.st.lt
  dsimp only at hfl
  clear hf hn hz s1 s2 hS hno hla
  go_enter Try.func29, Try.ntmps29
  go_wp2_with fail
  go_cut [5] from 8 to 19 (fun v5 wx => ∃ D' a', v5 = .pointer (some ⟨a'.fb, 0, none⟩) ∧ CdI D w sz L ps zs K n Bn 0 wx D' a')
  case first =>
    refine wp_region_G (fun w' => w'.cell? ⟨fb, 0, none⟩ = some (.int .i64 sz) ∧ w'.cell? ⟨fb, 1, none⟩ = some (.map (some lm))) [] hmix ⟨c0, c1⟩ (fun h0 => ?_)
    refine wpAnyG_takeW (i := 0) (v := .pointer (some ⟨fb, 0, none⟩)) rfl (by kernel_rfl) (fun _ _ _ h => h) (Or.inl ⟨by rfl, fun w _ => by go_simp⟩) ?_
    refine wpAnyG_takeW (i := 1) (v := .pointer (some ⟨fb, 0, none⟩)) rfl (by kernel_rfl) (fun _ _ _ h => h) (Or.inl ⟨by rfl, fun w _ => by go_simp⟩) ?_
    refine wpAnyG_takeW (i := 2) (v := .pointer (some ⟨fb, 0, none⟩)) rfl (by kernel_rfl) (fun _ _ _ h => h) (Or.inl ⟨by rfl, fun w _ => by go_simp⟩) ?_
    refine wpAnyG_take (i := 3) (v := .int .i64 sz) rfl (by kernel_rfl) (fun _ _ _ h => h) (Or.inl ⟨by rfl, fun w hSw => by (try dsimp only at hSw); go_simp⟩) h0 ?_
    refine wpAnyG_takeW (i := 4) (v := .pointer (some ⟨fb, 0, none⟩)) rfl (by kernel_rfl) (fun _ _ _ h => h) (Or.inl ⟨by rfl, fun w _ => by go_simp⟩) ?_
    refine wpAnyG_takeW (i := 5) (v := .pointer (some ⟨fb, 0, none⟩)) rfl (by kernel_rfl) (fun _ _ _ h => h) (Or.inl ⟨by rfl, fun w _ => by go_simp⟩) ?_
    refine wpAnyG_takeW (i := 6) (v := .pointer (some ⟨fb, 1, none⟩)) rfl (by kernel_rfl) (fun _ _ _ h => h) (Or.inl ⟨by rfl, fun w _ => by go_simp⟩) ?_
    refine wpAnyG_take (i := 7) (v := .map (some lm)) rfl (by kernel_rfl) (fun _ _ _ h => h) (Or.inl ⟨by rfl, fun w hSw => by (try dsimp only at hSw); go_simp⟩) h0 ?_
    refine wpAnyG_two (i := 8) (j := 9) (by kernel_rfl) rfl rfl (fun K1 hK => ?_) (fun K1 hK => ?_)
    · go_simp
      refine (clone_any lm cl el _ (show Mp (Value.int .i64) w.drew lm el cl from HLA.out.mp)).mono ?_
      rintro e w1 ⟨rfl, m1, hw1⟩
      have k1 : Kp (fun _ => False) w w1 := by rw [hw1]; exact ((Kp.refl _ _).drew).alloc _
      have z1 : Hid (w1.heap.size = w.heap.size + 1) := by rw [hw1]; exact World.size_alloc _ _
      clear hw1
      go_wp2_with fail
      refine hK.out _ _ (fun _ _ => ⟨kp_cell k1 c0 (fun h => h), kp_cell k1 c1 (fun h => h)⟩) ?_
      clear hK K1
      refine wpAnyG_one (i := 9) (by kernel_rfl) rfl (fun K1 hK => ?_)
      have hmm := @run_makeMap Try.prog
      go_simp
      have m2 := Mp.new (Value.int .i64) w1
      have k2 : Kp (fun _ => False) w1 (w1.alloc (.map #[] 0)) := (Kp.refl _ _).alloc _
      have z2 : Hid ((w1.alloc (.map #[] 0)).heap.size = w.heap.size + 2) := by rw [World.size_alloc, z1.out]; rfl
      generalize w1.alloc (.map #[] 0) = W2 at m2 k2 z2 ⊢
      refine hK.out _ _ (fun _ h => ⟨kp_cell (F := fun _ => False) k2 h.1 (fun x => x), kp_cell (F := fun _ => False) k2 h.2 (fun x => x)⟩) ?_
      clear hK K1
      refine wpAnyG_takeW (i := 10) (v := .agg #[.int .i64 sz, .map (some w.heap.size), .map (some w1.heap.size), .slice none 0 0]) rfl (by kernel_rfl) (fun _ _ _ h => h) (Or.inl ⟨by rfl, fun w _ => by go_simp⟩) ?_
      refine wpAnyG_one (i := 11) (by kernel_rfl) rfl (fun K1 hK => ?_)
      go_simp
      have st := St.new 70 W2 #[.int .i64 sz, .map (some w.heap.size), .map (some w1.heap.size), .slice none 0 0]
      have k3 : Kp (fun _ => False) W2 (W2.alloc (.cells #[.int .i64 sz, .map (some w.heap.size), .map (some w1.heap.size), .slice none 0 0] 70)) := (Kp.refl _ _).alloc _
      generalize W2.alloc (.cells #[.int .i64 sz, .map (some w.heap.size), .map (some w1.heap.size), .slice none 0 0] 70) = W3 at st k3 ⊢
      refine hK.out _ _ (fun _ h => ⟨kp_cell (F := fun _ => False) k3 h.1 (fun x => x), kp_cell (F := fun _ => False) k3 h.2 (fun x => x)⟩) ?_
      clear hK K1
      refine wpAnyG_takeW (i := 12) (v := .pointer (some ⟨W2.heap.size, 0, none⟩)) rfl (by kernel_rfl) (fun _ _ _ h => h) (Or.inl ⟨by rfl, fun w _ => by go_simp⟩) ?_
      refine wpAnyG_done (by kernel_rfl) ?_ _
      go_wp2_with fail
      go_meet
      case rel =>
        have z1 := z1.out
        have z2 := z2.out
        have k03 : Kp (fun _ => False) w W3 := (k1.trans k2 (fun _ _ h => h)).trans k3 (fun _ _ h => h)
        refine ⟨D, ⟨W2.heap.size, w.heap.size, w1.heap.size, .slice none 0 0⟩, rfl, ⟨?_, ⟨0, kp_mp m2 k3 (fun h => h)⟩, ?_, fun i h => h, fun i h => .inl h, HS1.out.kp k03 (fun h => h), k03.mono (fun _ _ h => h.elim)⟩⟩
        · exact fr_left HLA.out k03 st (kp_mp (kp_mp m1 k2 (fun h => h)) k3 (fun h => h)) (kp_mp m2 k3 (fun h => h)) (by omega) HF.out.db ⟨by omega, by omega, by omega⟩ HF.out.lz HF.out.sb
        · intro i hi
          rcases (Fa.mem _ i).1 hi with h | h | h | h
          · dsimp only at h; omega
          · dsimp only at h; omega
          · dsimp only at h; omega
          · cases h
    · have hmm := @run_makeMap Try.prog
      go_simp
      have m1 := Mp.new (Value.int .i64) w.drew
      have k1 : Kp (fun _ => False) w (w.alloc (.map #[] 0)).drew := ((Kp.refl _ _).alloc _).drew
      have m1' : Mp (Value.int .i64) (w.alloc (.map #[] 0)).drew w.heap.size [] 0 := m1
      have z1 : Hid ((w.alloc (.map #[] 0)).drew.heap.size = w.heap.size + 1) := World.size_alloc _ _
      clear m1
      generalize (w.alloc (.map #[] 0)).drew = W1 at m1' k1 z1 ⊢
      refine hK.out _ _ (fun _ _ => ⟨kp_cell k1 c0 (fun h => h), kp_cell k1 c1 (fun h => h)⟩) ?_
      clear hK K1
      refine wpAnyG_one (i := 8) (by kernel_rfl) rfl (fun K1 hK => ?_)
      go_simp
      refine (clone_any lm cl el _ (kp_mp HLA.out.mp k1 (fun h => h))).mono ?_
      rintro e w2 ⟨rfl, m2, hw2⟩
      have k2 : Kp (fun _ => False) W1 w2 := by rw [hw2]; exact (Kp.refl _ _).alloc _
      have z2 : Hid (w2.heap.size = w.heap.size + 2) := by rw [hw2, World.size_alloc, z1.out]; rfl
      clear hw2
      go_wp2_with fail
      refine hK.out _ _ (fun _ h => ⟨kp_cell (F := fun _ => False) k2 h.1 (fun x => x), kp_cell (F := fun _ => False) k2 h.2 (fun x => x)⟩) ?_
      clear hK K1
      refine wpAnyG_takeW (i := 10) (v := .agg #[.int .i64 sz, .map (some W1.heap.size), .map (some w.heap.size), .slice none 0 0]) rfl (by kernel_rfl) (fun _ _ _ h => h) (Or.inl ⟨by rfl, fun w _ => by go_simp⟩) ?_
      refine wpAnyG_one (i := 11) (by kernel_rfl) rfl (fun K1 hK => ?_)
      go_simp
      have st := St.new 70 w2 #[.int .i64 sz, .map (some W1.heap.size), .map (some w.heap.size), .slice none 0 0]
      have k3 : Kp (fun _ => False) w2 (w2.alloc (.cells #[.int .i64 sz, .map (some W1.heap.size), .map (some w.heap.size), .slice none 0 0] 70)) := (Kp.refl _ _).alloc _
      generalize w2.alloc (.cells #[.int .i64 sz, .map (some W1.heap.size), .map (some w.heap.size), .slice none 0 0] 70) = W3 at st k3 ⊢
      refine hK.out _ _ (fun _ h => ⟨kp_cell (F := fun _ => False) k3 h.1 (fun x => x), kp_cell (F := fun _ => False) k3 h.2 (fun x => x)⟩) ?_
      clear hK K1
      refine wpAnyG_takeW (i := 12) (v := .pointer (some ⟨w2.heap.size, 0, none⟩)) rfl (by kernel_rfl) (fun _ _ _ h => h) (Or.inl ⟨by rfl, fun w _ => by go_simp⟩) ?_
      refine wpAnyG_done (by kernel_rfl) ?_ _
      go_wp2_with fail
      go_meet
      case rel =>
        have z1 := z1.out
        have z2 := z2.out
        have k03 : Kp (fun _ => False) w W3 := (k1.trans k2 (fun _ _ h => h)).trans k3 (fun _ _ h => h)
        refine ⟨D, ⟨w2.heap.size, W1.heap.size, w.heap.size, .slice none 0 0⟩, rfl, ⟨?_, ⟨0, kp_mp (kp_mp m1' k2 (fun h => h)) k3 (fun h => h)⟩, ?_, fun i h => h, fun i h => .inl h, HS1.out.kp k03 (fun h => h), k03.mono (fun _ _ h => h.elim)⟩⟩
        · exact fr_left HLA.out k03 st (kp_mp m2 k3 (fun h => h)) (kp_mp (kp_mp m1' k2 (fun h => h)) k3 (fun h => h)) (by omega) HF.out.db ⟨by omega, by omega, by omega⟩ HF.out.lz HF.out.sb
        · intro i hi
          rcases (Fa.mem _ i).1 hi with h | h | h | h
          · dsimp only at h; omega
          · dsimp only at h; omega
          · dsimp only at h; omega
          · cases h
  case rest =>
    obtain ⟨D0, ⟨fb0, lm0, om0, pv0⟩, rfl, hcd⟩ := hcut
    dsimp only
    have hfn : fb ≠ Bn := fun e => hbo (by rw [← e, Fa.mem]; exact .inl rfl)
    have d3 : wc.cell? ⟨fb, 3, none⟩ = some pv := kp_cell hcd.kp (HF.out.st.cell 3) hfn
    obtain ⟨vs, hpr⟩ := HF.out.pc
    dsimp only at hpr
    obtain ⟨pao, pcap, hpv⟩ := ownsRow_shape hpr.row
    subst hpv
    have HPR : Hid (Pr D w (.slice pao ps.length pcap) ps vs) := hpr
    have HCD : Hid (CdI D w sz L ps zs K n Bn 0 wc D0 ⟨fb0, lm0, om0, pv0⟩) := hcd
    clear hpr hcd
    go_wp2_with fail
    go_loopw [7, 25] (fun _ iv wr => ∃ (k : Nat) (D' : Nat → Prop) (a' : Fa), k ≤ ps.length ∧ iv = .int .i64 k ∧ a'.fb = fb0 ∧ CdI D w sz L ps zs K n Bn k wr D' a') (fun _ iv _ => ps.length - (intOf iv).toNat)
    case atStart => exact ⟨0, D0, _, Nat.zero_le _, rfl, rfl, HCD.out⟩
    case round =>
      clear HCD
      obtain ⟨k, D', ⟨fb1, lm1, om1, pv1⟩, hk, rfl, hfb, hI⟩ := hrel
      dsimp only at hfb
      subst hfb
      have HI : Hid (CdI D w sz L ps zs K n Bn k wr D' ⟨fb1, lm1, om1, pv1⟩) := hI
      clear hI
      by_cases hlt : k < ps.length
      · obtain ⟨g, off, cap', hpe, hgl, hgo, hcs⟩ := HPR.out.cells (by omega)
        obtain ⟨rfl, rfl⟩ : pao = some ⟨g, off, none⟩ ∧ pcap = cap' := by
          simp only [Value.slice.injEq] at hpe; exact ⟨hpe.1, hpe.2.2⟩
        obtain ⟨x0, x1⟩ := hcs k hlt
        have hbs := HPR.out.bs k hlt
        have hpb := HF.out.pb (ps.getD k (0, [])) (getD_mem2 ps k hlt)
        obtain ⟨⟨p, xs⟩, hpx⟩ : ∃ t, t = ps.getD k (0, []) := ⟨_, rfl⟩
        rw [← hpx] at x0 hbs hpb
        dsimp only at x0 hbs hpb
        obtain ⟨pvv, hpvv⟩ : ∃ t, t = vs.getD k undef := ⟨_, rfl⟩
        rw [← hpvv] at x1 hbs
        have hgn : g ≠ Bn := fun e => hbo (by rw [← e, Fa.mem]; exact .inr (.inr (.inr rfl)))
        have y0 := kp_cell HI.out.kp x0 hgn
        have y1 := kp_cell HI.out.kp x1 hgn
        obtain ⟨pg, po, pc, hpq, -⟩ := hbs.le
        subst hpq
        have HBS : Hid (Bs D w (.slice (some ⟨pg, po, none⟩) xs.length pc) xs) := hbs
        have HPX : Hid ((p, xs) = ps.getD k (0, [])) := hpx
        obtain ⟨xl, hxl⟩ : ∃ x, x = xs.length := ⟨_, rfl⟩
        rw [← hxl] at HBS y1 hpb
        have HXL : Hid (xl = xs.length) := hxl
        clear x0 x1 hcs hpe hgo hbs hpx hpvv hxl
        go_wp2_with fail
        have st := St.new 102 wr #[.int .i64 p, .slice (some ⟨pg, po, none⟩) xl pc]
        have k1 : Kp (fun _ => False) wr (wr.alloc (.cells #[.int .i64 p, .slice (some ⟨pg, po, none⟩) xl pc] 102)) := (Kp.refl _ _).alloc _
        generalize wr.alloc (.cells #[.int .i64 p, .slice (some ⟨pg, po, none⟩) xl pc] 102) = W1 at st k1 ⊢
        have hI1 := HI.out
        have k01 : Kp (fun i => i = Bn) w W1 := hI1.kp.trans k1 (fun _ _ h => h.elim)
        refine (pick_any Bn Bp ao zs n cap (min (K + k) n) W1 hne HN.out hb HZ.out (by omega) (hI1.b.kp k1 (fun h => h)) (HS2.out.kp k01 (fun e => hne e.symm)) (fun hp => (HSR.out.kp k01 (fun b off e he => HNO.out (by rw [HN.out]; exact hp) b off e he)) hp) HNO.out).mono ?_
        rw [pkb_min zs (K + k) n HN.out]
        rintro e w2 ⟨rfl, st2, k2⟩
        cases hpk : pkb zs (K + k) with
        | false =>
          have HC : Hid (CdI D w sz L ps zs K n Bn (k + 1) w2 D' ⟨fb1, lm1, om1, pv1⟩) := HI.out.skip hbl hbd ((k1.mono (fun _ _ h => h.elim)).trans k2 (fun _ _ h => h)) st2 hlt hpk
          clear st st2 k1 k2 k01 hI1
          go_wp2
          exact ⟨⟨k + 1, D', _, hlt, rfl, rfl, HC.out⟩, by simp only [intOf]; omega⟩
        | true =>
          have kk : Kp (fun i => i = Bn) wr w2 := (k1.mono (fun _ _ h => h.elim)).trans k2 (fun _ _ h => h)
          obtain ⟨hf2, -⟩ := HI.out.fk hbl hbd kk
          have e1 : w2.cell? ⟨fb1, 1, none⟩ = some (.map (some lm1)) := hf2.st.cell 1
          have hwn : ¬ wr.heap.size = Bn := by have := HI.out.kp.size; omega
          have q0 : w2.cell? ⟨wr.heap.size, 0, none⟩ = some (.int .i64 p) := (st.kp k2 hwn).cell 0
          have q1 : w2.cell? ⟨wr.heap.size, 1, none⟩ = some (.slice (some ⟨pg, po, none⟩) xl pc) := (st.kp k2 hwn).cell 1
          have HF2 : Hid (Fr D' w2 ⟨fb1, lm1, om1, pv1⟩ sz (ovs L (pks zs K (ps.take k))) []) := hf2
          have HKK : Hid (Kp (fun i => i = Bn) wr w2) := kk
          have HST : Hid (St 3 w2 Bn #[.int .i64 ((if min (K + k) n < n then min (K + k) n + 1 else min (K + k) n : Nat) : Int)]) := st2
          have HPK : Hid (pkb zs (K + k) = true) := hpk
          clear st st2 k1 k2 k01 hI1 hf2 kk hwn hpk
          go_wp2_with fail
          refine wp_region_tail hmix (by kernel_rfl) ?_
          dsimp only [List.dropLast, List.getLast]
          repeat (gi_big_quiet_step (fail))
          refine wpQuietIn_nil ?_
          intro _ hw'
          obtain ⟨nq, hw2⟩ := hw'
          subst hw2
          have kq := drewN_kp (fun _ => False) w2 nq
          generalize w2.drewN nq = X at kq ⊢
          obtain ⟨es1, cs1, hsm⟩ := HF2.out.la
          dsimp only at hsm
          gi_wp2_with fail
          refine ⟨trivial, rfl, ?_⟩
          refine (callsIn_wide.2 ((hsm.kp kq (fun h => h) (fun _ _ h => h)).putp p xs (.slice (some ⟨pg, po, none⟩) xl pc) (by rw [← HXL.out]; omega) (by rw [← HXL.out]; omega) (by have := HF.out.sb; rw [← HXL.out]; omega) ?_ ?_ ?_)).mono ?_
          · have h1 := HBS.out.kp (HI.out.kp.trans HKK.out (fun _ _ h => h)) (fun i hi e => hbd (e ▸ hi))
            exact (h1.kp kq (fun _ _ h => h)).mono (fun i _ hi => HI.out.d i hi)
          · exact fun h => HF2.out.nd _ h ((Fa.mem _ _).2 (.inr (.inl rfl)))
          · exact fun h => hsm.no _ h
          rintro e w3 ⟨rfl, es3, c3, sm3, k3, -⟩
          have HC : Hid (CdI D w sz L ps zs K n Bn (k + 1) w3 (fun i => D' i ∨ (X.heap.size ≤ i ∧ i < w3.heap.size)) ⟨fb1, lm1, om1, pv1⟩) := HI.out.take hbl hbd HKK.out kq HST.out hlt HPK.out HPX.out (by rw [← HXL.out]; exact hpb.2.2) sm3 k3
          clear sm3 k3 e1 q0 q1 hsm kq
          gi_wp2
          go_wp2
          exact ⟨⟨k + 1, _, _, hlt, rfl, rfl, HC.out⟩, by simp only [intOf]; omega⟩
      · obtain rfl : k = ps.length := by omega
        have hI := HI.out
        clear hlt
        go_wp2
        go_ret
        refine ⟨D', _, rfl, ?_, hI.o, hI.d, hI.d2, hI.b, hI.kp⟩
        have := hI.f
        rw [List.take_length] at this
        exact this
end Go.Proofs.Ytalicohflfildaa
