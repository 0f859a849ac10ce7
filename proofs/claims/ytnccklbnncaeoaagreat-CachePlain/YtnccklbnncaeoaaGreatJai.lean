import Derived.Test.YtnccklbnncaeoaaGreatJag
import Derived.Maps.AppendAt
/- A file in memory: its cells, its two maps of sectors, its row of pieces (Fr); bytes.Clone. -/
namespace Go.Proofs.YtnccklbnncaeoaaGreat
open Go.RowKit

set_option maxRecDepth 100000 in
set_option maxHeartbeats 1000000 in
theorem bclone_some (zs : List Int) (ad : Addr) (n cap : Nat) (w : World) (hNe : n = zs.length) (hN : n ≤ 10000000000) (h1 : 1 ≤ n) (hS : Src .u8 w (some ad) zs) :
    Calls Tryz.prog 77 #[.slice (some ad) n cap] w fun e w' => ∃ g c, e = .returned (.slice (some ⟨g, 0, none⟩) n c) ∧ w.heap.size ≤ g ∧ Bs (fun i => w.heap.size ≤ i) w' (.slice (some ⟨g, 0, none⟩) n c) zs ∧ Below w.heap.size w w' := by
  have he : ∀ w : World, (binOp .eql 47 (.slice (some ad) n cap) (.slice none 0 0)).run Tryz.prog w = .ok (.bool false) w := fun _ => rfl
  have HNE : Hid (n = zs.length) := hNe
  have HS : Hid (Src .u8 w (some ad) zs) := hS
  have hb0 : Below w.heap.size w (w.alloc (.cells #[] 5)) := (Below.refl _ _).alloc (Nat.le_refl _) _
  have HB0 : Hid (Below w.heap.size w (w.alloc (.cells #[] 5))) := hb0
  have HO : Hid (OwnI .u8 5 (w.alloc (.cells #[] 5)) w.heap.size (.slice (some ⟨w.heap.size, 0, none⟩) 0 0) []) := .inr ⟨w.heap.size, 0, [], rfl, Nat.le_refl _, St.new 5 w #[], rfl, by unfold maxLen; omega⟩
  clear hNe hS hb0
  go_enter Tryz.func77, Tryz.ntmps77
  go_wp2_with (first | (at_builtin; refine wpList_append_i (κ := .u8) 47 5 1 Tryz.underlying47 Tryz.info5 (by decide) rfl (.tmp 5) (.tmp 6) rfl w.heap.size (.slice (some ⟨w.heap.size, 0, none⟩) 0 0) [] rfl HO.out (some ad) n cap zs rfl HNE.out.symm (fun e => by cases e) (HS.out.below HB0.out) (by have := HNE.out; simp; omega) (by simp) ?_; intro v' w1 h1 h2 h3 h4))
  go_ret
  rw [List.nil_append] at h1
  rcases h1 with ⟨_, h⟩ | ⟨g, c, tl, rfl, hb, hr, h5, h6⟩
  · have := HNE.out; rw [h] at this; simp at this; omega
  · rw [← HNE.out]
    refine ⟨g, c, rfl, hb, ⟨g, 0, c, by rw [← HNE.out], hb, hr.lt, by rw [← h5]; simp, h6, fun i hi => row_zs hr i hi⟩, HB0.out.trans h4⟩

/-- A map of sectors: what is there reads as f; where nothing is there, f is as d. -/
structure Sm (D : Nat → Prop) (w : World) (m : Nat) (f d : Nat → Int) (es : List (Int × Value × Nat)) (c : Nat) : Prop where
  mp : Mp (Value.int .i64) w m es c
  ks : ∀ e ∈ es, ∃ k : Nat, e.1 = (k : Int) ∧ k ≤ 1000000
  so : ∀ (k : Nat) u, mget es (k : Int) = some u → Bs D w u (sec f k)
  no : ∀ k : Nat, mget es (k : Int) = none → sec f k = sec d k
theorem Sm.kp {D F : Nat → Prop} {w w' : World} {m c : Nat} {f d : Nat → Int} {es : List (Int × Value × Nat)} (h : Sm D w m f d es c) (k : Kp F w w') (hm : ¬ F m) (hd : ∀ i, D i → ¬ F i) : Sm D w' m f d es c :=
  ⟨kp_mp h.mp k hm, h.ks, fun j u hu => (h.so j u hu).kp k hd, h.no⟩
theorem Sm.mono {D D' : Nat → Prop} {w : World} {m c : Nat} {f d : Nat → Int} {es : List (Int × Value × Nat)} (h : Sm D w m f d es c) (hd : ∀ i, i < w.heap.size → D i → D' i) : Sm D' w m f d es c :=
  ⟨h.mp, h.ks, fun j u hu => (h.so j u hu).mono hd, h.no⟩
theorem mem_mput {κ : Type} [DecidableEq κ] {es : List (κ × Value × Nat)} {k : κ} {v : Value} {c : Nat} {e : κ × Value × Nat} (h : e ∈ mput es k v c) : e.1 = k ∨ e ∈ es := by
  induction es with
  | nil => simp [mput] at h; exact .inl (by rw [h])
  | cons x es ih =>
    unfold mput at h
    by_cases hx : k = x.1
    · rw [if_pos hx] at h
      rcases List.mem_cons.1 h with rfl | h
      · exact .inl rfl
      · exact .inr (List.mem_cons_of_mem _ h)
    · rw [if_neg hx] at h
      rcases List.mem_cons.1 h with rfl | h
      · exact .inr List.mem_cons_self
      · rcases ih h with h | h
        · exact .inl h
        · exact .inr (List.mem_cons_of_mem _ h)
/-- Another sector is laid. -/
theorem Sm.lay {D D' : Nat → Prop} {w w' : World} {m c k : Nat} {f g d : Nat → Int} {es : List (Int × Value × Nat)} {v : Value} (h : Sm D w m f d es c) (hm : Mp (Value.int .i64) w' m (mput es (k : Int) v c) (mclk es (k : Int) c)) (kp : Kp (fun i => i = m) w w') (hd : ∀ i, D i → i ≠ m) (hdd : ∀ i, i < w.heap.size → D i → D' i)
    (hv : Bs D' w' v (sec g k)) (hk : k ≤ 1000000) (hg : ∀ j, j ≠ k → sec g j = sec f j) : Sm D' w' m g d (mput es (k : Int) v c) (mclk es (k : Int) c) := by
  refine ⟨hm, fun e he => ?_, fun j u hu => ?_, fun j hj => ?_⟩
  · rcases mem_mput he with h1 | h1
    · exact ⟨k, h1, hk⟩
    · exact h.ks e h1
  · rw [mget_put] at hu
    by_cases hj : j = k
    · subst hj
      rw [if_pos rfl] at hu
      cases hu
      exact hv
    · rw [if_neg (by omega)] at hu
      rw [hg j hj]
      obtain ⟨b, hb⟩ := mem_of_mget hu
      have h1 := h.so j u hu
      obtain ⟨g0, off, cap, e, hD, hl, h2, h3, h4⟩ := h1
      have h5 : Bs D w' u (sec f j) := Bs.kp ⟨g0, off, cap, e, hD, hl, h2, h3, h4⟩ kp hd
      obtain ⟨g1, off1, cap1, e1, hD1, hl1, r⟩ := h5
      rw [e] at e1
      cases e1
      exact ⟨g0, off, cap, e, hdd _ hl hD, hl1, r⟩
  · rw [mget_put] at hj
    by_cases hjk : j = k
    · rw [if_pos (by omega)] at hj; cases hj
    · rw [if_neg (by omega)] at hj
      rw [hg j hjk, h.no j hj]
/-- A piece put over it. -/
theorem Sm.putp {D : Nat → Prop} {w : World} {m c : Nat} {f d : Nat → Int} {es : List (Int × Value × Nat)} (h : Sm D w m f d es c) (p : Nat) (xs : List Int) (v : Value) (hr : p % 512 + xs.length ≤ 512) (h1 : 1 ≤ xs.length) (hb : p + xs.length ≤ 268435456) (hv : Bs D w v xs) (hDm : ¬ D m)
    (hz : mget es ((p / 512 : Nat) : Int) = none → sec f (p / 512) = sec zero (p / 512)) :
    Calls Tryz.prog 161 #[.map (some m), .agg #[.int .i64 p, v]] w fun e w' => e = .returned (.tuple #[]) ∧ ∃ es' c', Sm (fun i => D i ∨ (w.heap.size ≤ i ∧ i < w'.heap.size)) w' m (ov f (p, xs)) d es' c' ∧ Kp (fun i => i = m) w w' ∧ (∀ j, mget es j ≠ none → mget es' j ≠ none) ∧ mget es' ((p / 512 : Nat) : Int) ≠ none := by
  refine (put_any D m c p (p / 512) (p % 512) es xs (sec f (p / 512)) v w h.mp (by omega) hr h1 (by omega) hv (sec_len _ _) (h.so _) (fun hn => by rw [hz hn, sec_zero]) hDm).mono ?_
  rintro e w' ⟨rfl, v', hm, hv', hk⟩
  have hov := sec_ov_same f (p, xs) hr
  rw [hov] at hv'
  refine ⟨rfl, _, _, h.lay hm hk (fun i hi e => hDm (by rw [← e]; exact hi)) (fun i _ x => .inl x) ?_ (by omega) (fun j hj => sec_ov_other f (p, xs) j hr hj), hk, fun j hj => ?_, ?_⟩
  rotate_left
  · rw [mget_put]; split
    · exact fun h => by cases h
    · exact hj
  · rw [mget_put, if_pos rfl]; exact fun h => by cases h
  obtain ⟨g0, off, cap, e, hD, hl, r⟩ := hv'
  exact ⟨g0, off, cap, e, hD.elim .inl (fun x => .inr ⟨x, hl⟩), hl, r⟩
/-- The cells of pieces. -/
def pcl : List (Nat × List Int) → List Value → List Value
  | p :: ps, v :: vs => .int .i64 p.1 :: v :: pcl ps vs
  | _, _ => []
theorem pcl_len (ps : List (Nat × List Int)) (vs : List Value) (h : vs.length = ps.length) : (pcl ps vs).length = ps.length * 2 := by
  induction ps generalizing vs with
  | nil => simp [pcl]
  | cons p ps ih =>
    cases vs with
    | nil => simp at h
    | cons v vs => simp only [pcl, List.length_cons] at h ⊢; rw [ih vs (by omega)]; omega
theorem pcl_append (ps qs : List (Nat × List Int)) (vs us : List Value) (h : vs.length = ps.length) : pcl (ps ++ qs) (vs ++ us) = pcl ps vs ++ pcl qs us := by
  induction ps generalizing vs with
  | nil => obtain rfl : vs = [] := List.eq_nil_of_length_eq_zero h
           rfl
  | cons p ps ih =>
    cases vs with
    | nil => simp at h
    | cons v vs => simp only [List.cons_append, pcl]; rw [ih vs (by simpa using h)]
theorem pcl_get (ps : List (Nat × List Int)) (vs : List Value) (h : vs.length = ps.length) (i : Nat) (hi : i < ps.length) : (pcl ps vs)[i * 2]? = some (.int .i64 (ps.getD i (0, [])).1) ∧ (pcl ps vs)[i * 2 + 1]? = some (vs.getD i undef) := by
  induction ps generalizing vs i with
  | nil => simp at hi
  | cons p ps ih =>
    cases vs with
    | nil => simp at h
    | cons v vs =>
      cases i with
      | zero => simp [pcl, List.getD]
      | succ i =>
        have := ih vs (by simpa using h) i (by simpa using hi)
        simp only [pcl, List.getD_cons_succ]
        rw [show (i + 1) * 2 = i * 2 + 1 + 1 by omega]
        simpa using this
/-- A row of pieces. -/
structure Pr (D : Nat → Prop) (w : World) (pv : Value) (ps : List (Nat × List Int)) (vs : List Value) : Prop where
  len : vs.length = ps.length
  bs : ∀ i, i < ps.length → Bs D w (vs.getD i undef) (ps.getD i (0, [])).2
  row : w.ownsRow 0 215 2 pv ps.length (pcl ps vs)
theorem Pr.kp {D F : Nat → Prop} {w w' : World} {pv : Value} {ps : List (Nat × List Int)} {vs : List Value} (h : Pr D w pv ps vs) (k : Kp F w w') (hp : ∀ b, pv.ownBlock = some b → ¬ F b) (hd : ∀ i, D i → ¬ F i) : Pr D w' pv ps vs := by
  refine ⟨h.len, fun i hi => (h.bs i hi).kp k hd, h.row.1, ?_⟩
  rcases h.row.2 with h1 | ⟨g, cap, cur, rfl, h1, h2, h3⟩
  · exact .inl h1
  · exact .inr ⟨g, cap, cur, rfl, h1, (k.block g (Array.getElem?_eq_some_iff.1 h2).1 (hp g rfl)).trans h2, h3⟩
theorem Pr.mono {D D' : Nat → Prop} {w : World} {pv : Value} {ps : List (Nat × List Int)} {vs : List Value} (h : Pr D w pv ps vs) (hd : ∀ i, i < w.heap.size → D i → D' i) : Pr D' w pv ps vs :=
  ⟨h.len, fun i hi => (h.bs i hi).mono hd, h.row⟩
/-- Where its parts lie. -/
structure Fa where
  fb : Nat
  lm : Nat
  om : Nat
  pv : Value
def Fa.own (a : Fa) : List Nat := [a.fb, a.lm, a.om] ++ a.pv.ownBlock.toList
theorem Fa.mem (a : Fa) (i : Nat) : i ∈ a.own ↔ i = a.fb ∨ i = a.lm ∨ i = a.om ∨ a.pv.ownBlock = some i := by
  unfold Fa.own
  cases h : a.pv.ownBlock <;> simp
  constructor
  · rintro (h | h | h | h)
    · exact .inl h
    · exact .inr (.inl h)
    · exact .inr (.inr (.inl h))
    · exact .inr (.inr (.inr h.symm))
  · rintro (h | h | h | h)
    · exact .inl h
    · exact .inr (.inl h)
    · exact .inr (.inr (.inl h))
    · exact .inr (.inr (.inr h.symm))
/-- Every piece's sector lies in the map. -/
def Cov (es : List (Int × Value × Nat)) (ps : List (Nat × List Int)) : Prop := ∀ p ∈ ps, mget es ((p.1 / 512 : Nat) : Int) ≠ none
/-- A file of sz bytes: what lasts (L), its pieces (ps). -/
structure Fr (D : Nat → Prop) (w : World) (a : Fa) (sz : Nat) (L : Nat → Int) (ps : List (Nat × List Int)) : Prop where
  st : St 164 w a.fb #[.int .i64 sz, .map (some a.lm), .map (some a.om), a.pv]
  la : ∃ es c, Sm D w a.lm L zero es c
  ov : ∃ es c, Sm D w a.om (ovs L ps) L es c ∧ Cov es ps
  pc : ∃ vs, Pr D w a.pv ps vs
  ne : a.lm ≠ a.om
  nd : ∀ i, D i → i ∉ a.own
  db : ∀ i, D i → i < w.heap.size
  lz : ∀ i, sz ≤ i → L i = 0
  pb : ∀ p ∈ ps, 1 ≤ p.2.length ∧ p.1 % 512 + p.2.length ≤ 512 ∧ p.1 + p.2.length ≤ sz
  sb : sz ≤ 268435456
  nb : ps.length ≤ 1000000000
theorem Fr.kp {D F : Nat → Prop} {w w' : World} {a : Fa} {sz : Nat} {L : Nat → Int} {ps : List (Nat × List Int)} (h : Fr D w a sz L ps) (k : Kp F w w') (ho : ∀ i, i ∈ a.own → ¬ F i) (hd : ∀ i, D i → ¬ F i) : Fr D w' a sz L ps := by
  obtain ⟨e1, c1, h1⟩ := h.la
  obtain ⟨e2, c2, h2, g2⟩ := h.ov
  obtain ⟨vs, h3⟩ := h.pc
  have m1 := ho a.fb (by rw [a.mem]; exact .inl rfl)
  have m2 := ho a.lm (by rw [a.mem]; exact .inr (.inl rfl))
  have m3 := ho a.om (by rw [a.mem]; exact .inr (.inr (.inl rfl)))
  exact ⟨h.st.kp k m1, ⟨e1, c1, h1.kp k m2 hd⟩, ⟨e2, c2, h2.kp k m3 hd, g2⟩, ⟨vs, h3.kp k (fun b hb => ho b (by rw [a.mem]; exact .inr (.inr (.inr hb)))) hd⟩, h.ne, h.nd, fun i hi => Nat.lt_of_lt_of_le (h.db i hi) k.size, h.lz, h.pb, h.sb, h.nb⟩
theorem Fr.mono {D D' : Nat → Prop} {w : World} {a : Fa} {sz : Nat} {L : Nat → Int} {ps : List (Nat × List Int)} (h : Fr D w a sz L ps) (hd : ∀ i, i < w.heap.size → D i → D' i) (hn : ∀ i, D' i → i ∉ a.own) (hb : ∀ i, D' i → i < w.heap.size) : Fr D' w a sz L ps := by
  obtain ⟨e1, c1, h1⟩ := h.la
  obtain ⟨e2, c2, h2, g2⟩ := h.ov
  obtain ⟨vs, h3⟩ := h.pc
  exact ⟨h.st, ⟨e1, c1, h1.mono hd⟩, ⟨e2, c2, h2.mono hd, g2⟩, ⟨vs, h3.mono hd⟩, h.ne, hn, hb, h.lz, h.pb, h.sb, h.nb⟩
theorem Fr.lt {D : Nat → Prop} {w : World} {a : Fa} {sz : Nat} {L : Nat → Int} {ps : List (Nat × List Int)} (h : Fr D w a sz L ps) : ∀ i, i ∈ a.own → i < w.heap.size := by
  intro i hi
  obtain ⟨e1, c1, h1⟩ := h.la
  obtain ⟨e2, c2, h2, g2⟩ := h.ov
  obtain ⟨vs, h3⟩ := h.pc
  rcases (a.mem i).1 hi with rfl | rfl | rfl | hb
  · exact h.st.lt
  · exact h1.mp.lt
  · exact h2.mp.lt
  · rcases h3.row.2 with ⟨h4, _⟩ | ⟨g, cap, cur, h4, _, h5, _⟩
    · rw [h4] at hb; cases hb
    · rw [h4] at hb
      have : g = i := by simpa [Value.ownBlock] using hb
      subst this
      exact (Array.getElem?_eq_some_iff.1 h5).1
theorem Fr.fb_ne {D : Nat → Prop} {w : World} {a : Fa} {sz : Nat} {L : Nat → Int} {ps : List (Nat × List Int)} (h : Fr D w a sz L ps) {b : Nat} (hb : a.pv.ownBlock = some b) : b ≠ a.fb ∧ b ≠ a.lm ∧ b ≠ a.om := by
  obtain ⟨e1, c1, h1⟩ := h.la
  obtain ⟨e2, c2, h2, g2⟩ := h.ov
  obtain ⟨vs, h3⟩ := h.pc
  have hst := h.st
  rcases h3.row.2 with ⟨h4, _⟩ | ⟨g, cap, cur, h4, _, h5, _⟩
  · rw [h4] at hb; cases hb
  · rw [h4] at hb
    have : g = b := by simpa [Value.ownBlock] using hb
    subst this
    refine ⟨fun e => ?_, fun e => ?_, fun e => ?_⟩
    · unfold St at hst; rw [← e, h5] at hst; cases hst
    · have := h1.mp.1; rw [← e, h5] at this; cases this
    · have := h2.mp.1; rw [← e, h5] at this; cases this
theorem Fr.lm_ne {D : Nat → Prop} {w : World} {a : Fa} {sz : Nat} {L : Nat → Int} {ps : List (Nat × List Int)} (h : Fr D w a sz L ps) : a.lm ≠ a.fb ∧ a.om ≠ a.fb := by
  obtain ⟨e1, c1, h1⟩ := h.la
  obtain ⟨e2, c2, h2, g2⟩ := h.ov
  have hst := h.st
  refine ⟨fun e => ?_, fun e => ?_⟩
  · have := h1.mp.1; unfold St at hst; rw [e, hst] at this; cases this
  · have := h2.mp.1; unfold St at hst; rw [e, hst] at this; cases this
end Go.Proofs.YtnccklbnncaeoaaGreat
/- What a file is behind a write. -/
namespace Go.Proofs.YtnccklbnncaeoaaGreat
open Go.RowKit

theorem write_fin (D : Nat → Prop) (fb lm om : Nat) (pv pv' : Value) (sz M n p : Nat) (L : Nat → Int) (ps : List (Nat × List Int)) (xs : List Int) (vs' : List Value) (w W8 X8 w9 : World) (el : List (Int × Value × Nat)) (cl : Nat) (es9 : List (Int × Value × Nat)) (c9 : Nat)
    (HF : Fr D w ⟨fb, lm, om, pv⟩ sz L ps) (hM : M = max sz (p + n)) (hn : n = xs.length) (h1 : 1 ≤ n) (hr : p % 512 + n ≤ 512) (hb : p + n ≤ 268435456) (hnb : ps.length < 1000000000)
    (hl4 : ∀ b, pv'.ownBlock = some b → pv.ownBlock = some b ∨ w.heap.size ≤ b) (K8 : Kp (fun i => i = fb ∨ i = om ∨ pv.ownBlock = some i) w W8) (kq : Kp (fun _ => False) W8 X8)
    (HL8 : Sm (fun i => D i ∨ (w.heap.size ≤ i ∧ pv'.ownBlock ≠ some i)) W8 lm L zero el cl) (HST8 : St 164 W8 fb #[.int .i64 M, .map (some lm), .map (some om), pv']) (HPR8 : Pr (fun i => D i ∨ (w.heap.size ≤ i ∧ pv'.ownBlock ≠ some i)) W8 pv' (ps ++ [(p, xs)]) vs')
    (sm9 : Sm (fun i => (D i ∨ (w.heap.size ≤ i ∧ pv'.ownBlock ≠ some i)) ∨ (X8.heap.size ≤ i ∧ i < w9.heap.size)) w9 om (ov (ovs L ps) (p, xs)) L es9 c9) (k9 : Kp (fun i => i = om) X8 w9) (hcov : Cov es9 (ps ++ [(p, xs)])) :
    ∃ a' : Fa, (a'.fb = fb ∧ a'.lm = lm ∧ a'.om = om) ∧ (∀ i, i ∈ a'.own → i ∈ (Fa.mk fb lm om pv).own ∨ w.heap.size ≤ i) ∧
      Fr (fun i => D i ∨ (w.heap.size ≤ i ∧ i < w9.heap.size ∧ i ∉ a'.own)) w9 a' M L (ps ++ [(p, xs)]) ∧ Kp (fun i => i ∈ (Fa.mk fb lm om pv).own) w w9 := by
  have hlt := HF.lt
  have hfb : fb < w.heap.size := hlt fb (by rw [Fa.mem]; exact .inl rfl)
  have hlm : lm < w.heap.size := hlt lm (by rw [Fa.mem]; exact .inr (.inl rfl))
  have hom : om < w.heap.size := hlt om (by rw [Fa.mem]; exact .inr (.inr (.inl rfl)))
  have nl := HF.lm_ne
  have hne := HF.ne
  have hsb := HF.sb
  dsimp only at nl hne
  have nd0 : ∀ i, D i → i ≠ fb ∧ i ≠ lm ∧ i ≠ om ∧ ¬ pv.ownBlock = some i := fun i hi => by
    have := HF.nd i hi
    rw [Fa.mem] at this
    exact ⟨fun h => this (.inl h), fun h => this (.inr (.inl h)), fun h => this (.inr (.inr (.inl h))), fun h => this (.inr (.inr (.inr h)))⟩
  have k89 : Kp (fun i => i = om) W8 w9 := (kq.mono (G := fun i => i = om) (fun _ _ h => h.elim)).trans k9 (fun _ _ h => h)
  have z8 := K8.size
  have z89 := k89.size
  have zq := kq.size
  have pvlt : ∀ b, pv'.ownBlock = some b → b < W8.heap.size := by
    intro b hb
    rcases HPR8.row.2 with ⟨h4, _⟩ | ⟨g, cap, cur, h4, _, h5, _⟩
    · rw [h4] at hb; cases hb
    · rw [h4] at hb
      have : g = b := by simpa [Value.ownBlock] using hb
      subst this
      exact (Array.getElem?_eq_some_iff.1 h5).1
  have pvom : pv'.ownBlock ≠ some om := by
    intro h
    rcases hl4 _ h with h | h
    · exact (HF.fb_ne h).2.2 rfl
    · omega
  have mem' : ∀ i, i ∈ (Fa.mk fb lm om pv').own ↔ i = fb ∨ i = lm ∨ i = om ∨ pv'.ownBlock = some i := fun i => Fa.mem _ i
  have D1 : ∀ i, i < w9.heap.size → (D i ∨ (w.heap.size ≤ i ∧ pv'.ownBlock ≠ some i)) → D i ∨ (w.heap.size ≤ i ∧ i < w9.heap.size ∧ i ∉ (Fa.mk fb lm om pv').own) := by
    rintro i hi (h | ⟨h, h'⟩)
    · exact .inl h
    · refine .inr ⟨h, hi, fun hm => ?_⟩
      rcases (mem' i).1 hm with rfl | rfl | rfl | e
      · omega
      · omega
      · omega
      · exact h' e
  have D2 : ∀ i, i < w9.heap.size → ((D i ∨ (w.heap.size ≤ i ∧ pv'.ownBlock ≠ some i)) ∨ (X8.heap.size ≤ i ∧ i < w9.heap.size)) → D i ∨ (w.heap.size ≤ i ∧ i < w9.heap.size ∧ i ∉ (Fa.mk fb lm om pv').own) := by
    rintro i hi (h | ⟨h, h'⟩)
    · exact D1 i hi h
    · exact D1 i hi (.inr ⟨by omega, fun e => by have := pvlt i e; omega⟩)
  have DM : ∀ i, (D i ∨ (w.heap.size ≤ i ∧ pv'.ownBlock ≠ some i)) → ¬ i = om := by
    rintro i (h | h) rfl
    · exact (nd0 _ h).2.2.1 rfl
    · omega
  refine ⟨⟨fb, lm, om, pv'⟩, ⟨rfl, rfl, rfl⟩, fun i hi => ?_, ⟨HST8.kp k89 (fun e => nl.2 e.symm), ⟨_, _, (HL8.kp k89 hne DM).mono D1⟩, ⟨es9, c9, ?_, hcov⟩, ⟨vs', (HPR8.kp k89 (fun b hb e => pvom (e ▸ hb)) DM).mono D1⟩, hne, fun i hi => ?_, fun i hi => ?_, fun i hi => HF.lz i (by omega), fun q hq => ?_, by omega, by simp; omega⟩, ?_⟩
  · rcases (mem' i).1 hi with rfl | rfl | rfl | e
    · exact .inl (by rw [Fa.mem]; exact .inl rfl)
    · exact .inl (by rw [Fa.mem]; exact .inr (.inl rfl))
    · exact .inl (by rw [Fa.mem]; exact .inr (.inr (.inl rfl)))
    · rcases hl4 _ e with h | h
      · exact .inl (by rw [Fa.mem]; exact .inr (.inr (.inr h)))
      · exact .inr h
  · rw [ovs_snoc]
    exact sm9.mono D2
  · rcases hi with h | ⟨_, _, h⟩
    · intro hm
      have h0 := nd0 i h
      have h2 := HF.db i h
      rcases (mem' i).1 hm with e | e | e | e
      · exact h0.1 e
      · exact h0.2.1 e
      · exact h0.2.2.1 e
      · rcases hl4 _ e with h' | h'
        · exact h0.2.2.2 h'
        · omega
    · exact h
  · rcases hi with h | ⟨_, h, _⟩
    · have := HF.db i h; omega
    · exact h
  · rcases List.mem_append.1 hq with h | h
    · have := HF.pb q h
      exact ⟨this.1, this.2.1, by omega⟩
    · simp at h
      subst h
      exact ⟨by show 1 ≤ xs.length; omega, by show p % 512 + xs.length ≤ 512; omega, by show p + xs.length ≤ M; omega⟩
  · refine (K8.mono (fun i hi h => ?_)).trans k89 (fun i hi h => ?_)
    · rw [Fa.mem]
      rcases h with h | h | h
      · exact .inl h
      · exact .inr (.inr (.inl h))
      · exact .inr (.inr (.inr h))
    · rw [Fa.mem]; exact .inr (.inr (.inl h))
end Go.Proofs.YtnccklbnncaeoaaGreat
