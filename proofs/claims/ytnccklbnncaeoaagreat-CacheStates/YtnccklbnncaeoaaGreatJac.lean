import Derived.Test.YtnccklbnncaeoaaGreatJab
import Derived.Maps.AppendAt
import Derived.Lib.Strings
import Derived.Lib.Slices
import Derived.Lib.Walk
import Derived.Lib.Bytealg
import Derived.RangeFuncNested
import Derived.RangeFuncBound
import Derived.RangeFuncCalls
import Derived.RangeFuncLeaves
import Derived.RangeFuncFrom
import Derived.Shelf.Abstract
import Derived.Shelf.RegionOpen
import Derived.WalkKit
import Derived.OwnWalkIn
import Derived.TacticsInMore
import Derived.LoopNIn
import Derived.LoopIn
/- A file in memory: its cells, its two maps of sectors, its row of pieces (Fr); bytes.Clone. -/
namespace Go.Proofs.YtnccklbnncaeoaaGreat
open Go.RowKit

set_option maxRecDepth 100000 in
set_option maxHeartbeats 1000000 in
theorem bclone_some (zs : List Int) (ad : Addr) (n cap : Nat) (w : World) (hNe : n = zs.length) (hN : n ≤ 10000000000) (h1 : 1 ≤ n) (hS : Src .u8 w (some ad) zs) :
    Calls Tryz.prog 77 #[.slice (some ad) n cap] w fun e w' => ∃ g c, e = .returned (.slice (some ⟨g, 0, none⟩) n c) ∧ w.heap.size ≤ g ∧ Bs (fun i => w.heap.size ≤ i) w' (.slice (some ⟨g, 0, none⟩) n c) zs ∧ Below w.heap.size w w' := by
  have he : ∀ w : World, (binOp .eql 47 (.slice (some ad) n cap) (.slice none 0 0)).run Tryz.prog w = .ok (.bool false) w := fun _ => rfl
  have HNE : Hid (n = zs.length) := hNe
  have HS : Hid (Src .u8 w (some ad) zs) := hS
  have hb0 : Below w.heap.size w (w.alloc (.cells #[] 5)) := (Below.refl _ _).alloc (Nat.le_refl _) _
  have HB0 : Hid (Below w.heap.size w (w.alloc (.cells #[] 5))) := hb0
  have HO : Hid (OwnI .u8 5 (w.alloc (.cells #[] 5)) w.heap.size (.slice (some ⟨w.heap.size, 0, none⟩) 0 0) []) := .inr ⟨w.heap.size, 0, [], rfl, Nat.le_refl _, St.new 5 w #[], rfl, by unfold maxLen; omega⟩
  clear hNe hS hb0
  go_enter Tryz.func77, Tryz.ntmps77
  go_wp2_with (first | (at_builtin; refine wpList_append_i (κ := .u8) 47 5 1 Tryz.underlying47 Tryz.info5 (by decide) rfl (.tmp 5) (.tmp 6) rfl w.heap.size (.slice (some ⟨w.heap.size, 0, none⟩) 0 0) [] rfl HO.out (some ad) n cap zs rfl HNE.out.symm (fun e => by cases e) (HS.out.below HB0.out) (by have := HNE.out; simp; omega) (by simp) ?_; intro v' w1 h1 h2 h3 h4))
  go_ret
  rw [List.nil_append] at h1
  rcases h1 with ⟨_, h⟩ | ⟨g, c, tl, rfl, hb, hr, h5, h6⟩
  · have := HNE.out; rw [h] at this; simp at this; omega
  · rw [← HNE.out]
    refine ⟨g, c, rfl, hb, ⟨g, 0, c, by rw [← HNE.out], hb, hr.lt, by rw [← h5]; simp, h6, fun i hi => row_zs hr i hi⟩, HB0.out.trans h4⟩

/-- A map of sectors: what is there reads as f; where nothing is there, f is as d. -/
structure Sm (D : Nat → Prop) (w : World) (m : Nat) (f d : Nat → Int) (es : List (Int × Value × Nat)) (c : Nat) : Prop where
  mp : Mp (Value.int .i64) w m es c
  ks : ∀ e ∈ es, ∃ k : Nat, e.1 = (k : Int) ∧ k ≤ 1000000
  so : ∀ (k : Nat) u, mget es (k : Int) = some u → Bs D w u (sec f k)
  no : ∀ k : Nat, mget es (k : Int) = none → sec f k = sec d k
theorem Sm.kp {D F : Nat → Prop} {w w' : World} {m c : Nat} {f d : Nat → Int} {es : List (Int × Value × Nat)} (h : Sm D w m f d es c) (k : Kp F w w') (hm : ¬ F m) (hd : ∀ i, D i → ¬ F i) : Sm D w' m f d es c :=
  ⟨kp_mp h.mp k hm, h.ks, fun j u hu => (h.so j u hu).kp k hd, h.no⟩
theorem Sm.mono {D D' : Nat → Prop} {w : World} {m c : Nat} {f d : Nat → Int} {es : List (Int × Value × Nat)} (h : Sm D w m f d es c) (hd : ∀ i, i < w.heap.size → D i → D' i) : Sm D' w m f d es c :=
  ⟨h.mp, h.ks, fun j u hu => (h.so j u hu).mono hd, h.no⟩
theorem mem_mput {κ : Type} [DecidableEq κ] {es : List (κ × Value × Nat)} {k : κ} {v : Value} {c : Nat} {e : κ × Value × Nat} (h : e ∈ mput es k v c) : e.1 = k ∨ e ∈ es := by
  induction es with
  | nil => simp [mput] at h; exact .inl (by rw [h])
  | cons x es ih =>
    unfold mput at h
    by_cases hx : k = x.1
    · rw [if_pos hx] at h
      rcases List.mem_cons.1 h with rfl | h
      · exact .inl rfl
      · exact .inr (List.mem_cons_of_mem _ h)
    · rw [if_neg hx] at h
      rcases List.mem_cons.1 h with rfl | h
      · exact .inr List.mem_cons_self
      · rcases ih h with h | h
        · exact .inl h
        · exact .inr (List.mem_cons_of_mem _ h)
/-- Another sector is laid. -/
theorem Sm.lay {D D' : Nat → Prop} {w w' : World} {m c k : Nat} {f g d : Nat → Int} {es : List (Int × Value × Nat)} {v : Value} (h : Sm D w m f d es c) (hm : Mp (Value.int .i64) w' m (mput es (k : Int) v c) (mclk es (k : Int) c)) (kp : Kp (fun i => i = m) w w') (hd : ∀ i, D i → i ≠ m) (hdd : ∀ i, i < w.heap.size → D i → D' i)
    (hv : Bs D' w' v (sec g k)) (hk : k ≤ 1000000) (hg : ∀ j, j ≠ k → sec g j = sec f j) : Sm D' w' m g d (mput es (k : Int) v c) (mclk es (k : Int) c) := by
  refine ⟨hm, fun e he => ?_, fun j u hu => ?_, fun j hj => ?_⟩
  · rcases mem_mput he with h1 | h1
    · exact ⟨k, h1, hk⟩
    · exact h.ks e h1
  · rw [mget_put] at hu
    by_cases hj : j = k
    · subst hj
      rw [if_pos rfl] at hu
      cases hu
      exact hv
    · rw [if_neg (by omega)] at hu
      rw [hg j hj]
      obtain ⟨b, hb⟩ := mem_of_mget hu
      have h1 := h.so j u hu
      obtain ⟨g0, off, cap, e, hD, hl, h2, h3, h4⟩ := h1
      have h5 : Bs D w' u (sec f j) := Bs.kp ⟨g0, off, cap, e, hD, hl, h2, h3, h4⟩ kp hd
      obtain ⟨g1, off1, cap1, e1, hD1, hl1, r⟩ := h5
      rw [e] at e1
      cases e1
      exact ⟨g0, off, cap, e, hdd _ hl hD, hl1, r⟩
  · rw [mget_put] at hj
    by_cases hjk : j = k
    · rw [if_pos (by omega)] at hj; cases hj
    · rw [if_neg (by omega)] at hj
      rw [hg j hjk, h.no j hj]
/-- A piece put over it. -/
theorem Sm.putp {D : Nat → Prop} {w : World} {m c : Nat} {f d : Nat → Int} {es : List (Int × Value × Nat)} (h : Sm D w m f d es c) (p : Nat) (xs : List Int) (v : Value) (hr : p % 512 + xs.length ≤ 512) (h1 : 1 ≤ xs.length) (hb : p + xs.length ≤ 268435456) (hv : Bs D w v xs) (hDm : ¬ D m)
    (hz : mget es ((p / 512 : Nat) : Int) = none → sec f (p / 512) = sec zero (p / 512)) :
    Calls Tryz.prog 161 #[.map (some m), .agg #[.int .i64 p, v]] w fun e w' => e = .returned (.tuple #[]) ∧ ∃ es' c', Sm (fun i => D i ∨ (w.heap.size ≤ i ∧ i < w'.heap.size)) w' m (ov f (p, xs)) d es' c' ∧ Kp (fun i => i = m) w w' ∧ (∀ j, mget es j ≠ none → mget es' j ≠ none) ∧ mget es' ((p / 512 : Nat) : Int) ≠ none := by
  refine (put_any D m c p (p / 512) (p % 512) es xs (sec f (p / 512)) v w h.mp (by omega) hr h1 (by omega) hv (sec_len _ _) (h.so _) (fun hn => by rw [hz hn, sec_zero]) hDm).mono ?_
  rintro e w' ⟨rfl, v', hm, hv', hk⟩
  have hov := sec_ov_same f (p, xs) hr
  rw [hov] at hv'
  refine ⟨rfl, _, _, h.lay hm hk (fun i hi e => hDm (by rw [← e]; exact hi)) (fun i _ x => .inl x) ?_ (by omega) (fun j hj => sec_ov_other f (p, xs) j hr hj), hk, fun j hj => ?_, ?_⟩
  rotate_left
  · rw [mget_put]; split
    · exact fun h => by cases h
    · exact hj
  · rw [mget_put, if_pos rfl]; exact fun h => by cases h
  obtain ⟨g0, off, cap, e, hD, hl, r⟩ := hv'
  exact ⟨g0, off, cap, e, hD.elim .inl (fun x => .inr ⟨x, hl⟩), hl, r⟩
/-- The cells of pieces. -/
def pcl : List (Nat × List Int) → List Value → List Value
  | p :: ps, v :: vs => .int .i64 p.1 :: v :: pcl ps vs
  | _, _ => []
theorem pcl_len (ps : List (Nat × List Int)) (vs : List Value) (h : vs.length = ps.length) : (pcl ps vs).length = ps.length * 2 := by
  induction ps generalizing vs with
  | nil => simp [pcl]
  | cons p ps ih =>
    cases vs with
    | nil => simp at h
    | cons v vs => simp only [pcl, List.length_cons] at h ⊢; rw [ih vs (by omega)]; omega
theorem pcl_append (ps qs : List (Nat × List Int)) (vs us : List Value) (h : vs.length = ps.length) : pcl (ps ++ qs) (vs ++ us) = pcl ps vs ++ pcl qs us := by
  induction ps generalizing vs with
  | nil => obtain rfl : vs = [] := List.eq_nil_of_length_eq_zero h
           rfl
  | cons p ps ih =>
    cases vs with
    | nil => simp at h
    | cons v vs => simp only [List.cons_append, pcl]; rw [ih vs (by simpa using h)]
theorem pcl_get (ps : List (Nat × List Int)) (vs : List Value) (h : vs.length = ps.length) (i : Nat) (hi : i < ps.length) : (pcl ps vs)[i * 2]? = some (.int .i64 (ps.getD i (0, [])).1) ∧ (pcl ps vs)[i * 2 + 1]? = some (vs.getD i undef) := by
  induction ps generalizing vs i with
  | nil => simp at hi
  | cons p ps ih =>
    cases vs with
    | nil => simp at h
    | cons v vs =>
      cases i with
      | zero => simp [pcl, List.getD]
      | succ i =>
        have := ih vs (by simpa using h) i (by simpa using hi)
        simp only [pcl, List.getD_cons_succ]
        rw [show (i + 1) * 2 = i * 2 + 1 + 1 by omega]
        simpa using this
/-- A row of pieces. -/
structure Pr (D : Nat → Prop) (w : World) (pv : Value) (ps : List (Nat × List Int)) (vs : List Value) : Prop where
  len : vs.length = ps.length
  bs : ∀ i, i < ps.length → Bs D w (vs.getD i undef) (ps.getD i (0, [])).2
  row : w.ownsRow 0 215 2 pv ps.length (pcl ps vs)
theorem Pr.kp {D F : Nat → Prop} {w w' : World} {pv : Value} {ps : List (Nat × List Int)} {vs : List Value} (h : Pr D w pv ps vs) (k : Kp F w w') (hp : ∀ b, pv.ownBlock = some b → ¬ F b) (hd : ∀ i, D i → ¬ F i) : Pr D w' pv ps vs := by
  refine ⟨h.len, fun i hi => (h.bs i hi).kp k hd, h.row.1, ?_⟩
  rcases h.row.2 with h1 | ⟨g, cap, cur, rfl, h1, h2, h3⟩
  · exact .inl h1
  · exact .inr ⟨g, cap, cur, rfl, h1, (k.block g (Array.getElem?_eq_some_iff.1 h2).1 (hp g rfl)).trans h2, h3⟩
theorem Pr.mono {D D' : Nat → Prop} {w : World} {pv : Value} {ps : List (Nat × List Int)} {vs : List Value} (h : Pr D w pv ps vs) (hd : ∀ i, i < w.heap.size → D i → D' i) : Pr D' w pv ps vs :=
  ⟨h.len, fun i hi => (h.bs i hi).mono hd, h.row⟩
/-- Where its parts lie. -/
structure Fa where
  fb : Nat
  lm : Nat
  om : Nat
  pv : Value
def Fa.own (a : Fa) : List Nat := [a.fb, a.lm, a.om] ++ a.pv.ownBlock.toList
theorem Fa.mem (a : Fa) (i : Nat) : i ∈ a.own ↔ i = a.fb ∨ i = a.lm ∨ i = a.om ∨ a.pv.ownBlock = some i := by
  unfold Fa.own
  cases h : a.pv.ownBlock <;> simp
  constructor
  · rintro (h | h | h | h)
    · exact .inl h
    · exact .inr (.inl h)
    · exact .inr (.inr (.inl h))
    · exact .inr (.inr (.inr h.symm))
  · rintro (h | h | h | h)
    · exact .inl h
    · exact .inr (.inl h)
    · exact .inr (.inr (.inl h))
    · exact .inr (.inr (.inr h.symm))
/-- Every piece's sector lies in the map. -/
def Cov (es : List (Int × Value × Nat)) (ps : List (Nat × List Int)) : Prop := ∀ p ∈ ps, mget es ((p.1 / 512 : Nat) : Int) ≠ none
/-- A file of sz bytes: what lasts (L), its pieces (ps). -/
structure Fr (D : Nat → Prop) (w : World) (a : Fa) (sz : Nat) (L : Nat → Int) (ps : List (Nat × List Int)) : Prop where
  st : St 164 w a.fb #[.int .i64 sz, .map (some a.lm), .map (some a.om), a.pv]
  la : ∃ es c, Sm D w a.lm L zero es c
  ov : ∃ es c, Sm D w a.om (ovs L ps) L es c ∧ Cov es ps
  pc : ∃ vs, Pr D w a.pv ps vs
  ne : a.lm ≠ a.om
  nd : ∀ i, D i → i ∉ a.own
  db : ∀ i, D i → i < w.heap.size
  lz : ∀ i, sz ≤ i → L i = 0
  pb : ∀ p ∈ ps, 1 ≤ p.2.length ∧ p.1 % 512 + p.2.length ≤ 512 ∧ p.1 + p.2.length ≤ sz
  sb : sz ≤ 268435456
  nb : ps.length ≤ 1000000000
theorem Fr.kp {D F : Nat → Prop} {w w' : World} {a : Fa} {sz : Nat} {L : Nat → Int} {ps : List (Nat × List Int)} (h : Fr D w a sz L ps) (k : Kp F w w') (ho : ∀ i, i ∈ a.own → ¬ F i) (hd : ∀ i, D i → ¬ F i) : Fr D w' a sz L ps := by
  obtain ⟨e1, c1, h1⟩ := h.la
  obtain ⟨e2, c2, h2, g2⟩ := h.ov
  obtain ⟨vs, h3⟩ := h.pc
  have m1 := ho a.fb (by rw [a.mem]; exact .inl rfl)
  have m2 := ho a.lm (by rw [a.mem]; exact .inr (.inl rfl))
  have m3 := ho a.om (by rw [a.mem]; exact .inr (.inr (.inl rfl)))
  exact ⟨h.st.kp k m1, ⟨e1, c1, h1.kp k m2 hd⟩, ⟨e2, c2, h2.kp k m3 hd, g2⟩, ⟨vs, h3.kp k (fun b hb => ho b (by rw [a.mem]; exact .inr (.inr (.inr hb)))) hd⟩, h.ne, h.nd, fun i hi => Nat.lt_of_lt_of_le (h.db i hi) k.size, h.lz, h.pb, h.sb, h.nb⟩
theorem Fr.mono {D D' : Nat → Prop} {w : World} {a : Fa} {sz : Nat} {L : Nat → Int} {ps : List (Nat × List Int)} (h : Fr D w a sz L ps) (hd : ∀ i, i < w.heap.size → D i → D' i) (hn : ∀ i, D' i → i ∉ a.own) (hb : ∀ i, D' i → i < w.heap.size) : Fr D' w a sz L ps := by
  obtain ⟨e1, c1, h1⟩ := h.la
  obtain ⟨e2, c2, h2, g2⟩ := h.ov
  obtain ⟨vs, h3⟩ := h.pc
  exact ⟨h.st, ⟨e1, c1, h1.mono hd⟩, ⟨e2, c2, h2.mono hd, g2⟩, ⟨vs, h3.mono hd⟩, h.ne, hn, hb, h.lz, h.pb, h.sb, h.nb⟩
theorem Fr.lt {D : Nat → Prop} {w : World} {a : Fa} {sz : Nat} {L : Nat → Int} {ps : List (Nat × List Int)} (h : Fr D w a sz L ps) : ∀ i, i ∈ a.own → i < w.heap.size := by
  intro i hi
  obtain ⟨e1, c1, h1⟩ := h.la
  obtain ⟨e2, c2, h2, g2⟩ := h.ov
  obtain ⟨vs, h3⟩ := h.pc
  rcases (a.mem i).1 hi with rfl | rfl | rfl | hb
  · exact h.st.lt
  · exact h1.mp.lt
  · exact h2.mp.lt
  · rcases h3.row.2 with ⟨h4, _⟩ | ⟨g, cap, cur, h4, _, h5, _⟩
    · rw [h4] at hb; cases hb
    · rw [h4] at hb
      have : g = i := by simpa [Value.ownBlock] using hb
      subst this
      exact (Array.getElem?_eq_some_iff.1 h5).1
theorem Fr.fb_ne {D : Nat → Prop} {w : World} {a : Fa} {sz : Nat} {L : Nat → Int} {ps : List (Nat × List Int)} (h : Fr D w a sz L ps) {b : Nat} (hb : a.pv.ownBlock = some b) : b ≠ a.fb ∧ b ≠ a.lm ∧ b ≠ a.om := by
  obtain ⟨e1, c1, h1⟩ := h.la
  obtain ⟨e2, c2, h2, g2⟩ := h.ov
  obtain ⟨vs, h3⟩ := h.pc
  have hst := h.st
  rcases h3.row.2 with ⟨h4, _⟩ | ⟨g, cap, cur, h4, _, h5, _⟩
  · rw [h4] at hb; cases hb
  · rw [h4] at hb
    have : g = b := by simpa [Value.ownBlock] using hb
    subst this
    refine ⟨fun e => ?_, fun e => ?_, fun e => ?_⟩
    · unfold St at hst; rw [← e, h5] at hst; cases hst
    · have := h1.mp.1; rw [← e, h5] at this; cases this
    · have := h2.mp.1; rw [← e, h5] at this; cases this
theorem Fr.lm_ne {D : Nat → Prop} {w : World} {a : Fa} {sz : Nat} {L : Nat → Int} {ps : List (Nat × List Int)} (h : Fr D w a sz L ps) : a.lm ≠ a.fb ∧ a.om ≠ a.fb := by
  obtain ⟨e1, c1, h1⟩ := h.la
  obtain ⟨e2, c2, h2, g2⟩ := h.ov
  have hst := h.st
  refine ⟨fun e => ?_, fun e => ?_⟩
  · have := h1.mp.1; unfold St at hst; rw [e, hst] at this; cases this
  · have := h2.mp.1; unfold St at hst; rw [e, hst] at this; cases this
end Go.Proofs.YtnccklbnncaeoaaGreat
/- Names, and what speaks against them; a file is looked up; a step. -/
namespace Go.Proofs.YtnccklbnncaeoaaGreat
open Go.RowKit

set_option maxRecDepth 100000 in
set_option maxHeartbeats 1000000 in
theorem sl_IndexByte (s : ByteArray) (c : Int) (w : World) : Calls Tryz.prog 176 #[.string s, .int .u8 c] w fun e w' => e = .returned (.int .i64 (Lib.indexByte s.data.toList c.toNat.toUInt8)) ∧ w' = w := by
  go_enter Tryz.func176, Tryz.ntmps176
  go_wp2
  rw [run_callFunc_extern Tryz.func194 (by kernel_rfl) (by kernel_rfl) (by kernel_rfl) (e := Extern.BytealgIndexByte.indexByte) (by kernel_rfl), Lib.run_indexByteString]
  simp only [Result.andThen]
  rw [Oper.upon_value]
  go_wp2
  go_ret
  exact ⟨rfl, rfl⟩
set_option maxRecDepth 100000 in
set_option maxHeartbeats 1000000 in
theorem s_IndexByte (s : ByteArray) (c : Int) (w : World) : Calls Tryz.prog 135 #[.string s, .int .u8 c] w fun e w' => e = .returned (.int .i64 (Lib.indexByte s.data.toList c.toNat.toUInt8)) ∧ w' = w := by
  go_enter Tryz.func135, Tryz.ntmps135
  go_wp2_with (go_at_call 176; refine (sl_IndexByte _ _ _).mono ?_; rintro e w' ⟨rfl, rfl⟩)
  go_ret
  exact ⟨rfl, rfl⟩
/-- Is it a name? -/
def nmd (s : ByteArray) : Bool := decide (1 ≤ s.size) && decide (s.size ≤ 64) && decide (Lib.indexByte s.data.toList 0 < 0)
theorem nmd_ne {s : ByteArray} (h : nmd s = true) : 1 ≤ s.size ∧ s.size ≤ 64 ∧ Lib.indexByte s.data.toList 0 < 0 := by
  simp only [nmd, Bool.and_eq_true, decide_eq_true_eq] at h
  exact ⟨h.1.1, h.1.2, h.2⟩
set_option maxRecDepth 100000 in
set_option maxHeartbeats 1000000 in
theorem allowed_live (s : ByteArray) (g m : Nat) (w : World) (hc : w.cell? ⟨g, 0, none⟩ = some (.map (some m))) (hs : s.size ≤ maxLen) : Calls Tryz.prog 87 #[.pointer (some ⟨g, 0, none⟩), .string s] w fun e w' => e = .returned (.int .i64 (if nmd s then 0 else 2)) ∧ w' = w := by
  unfold maxLen at hs
  by_cases h0 : s.size = 0
  · have hE : s.toList.isEmpty = true := by rw [ByteArray.toList_eq]; have : s.data = #[] := Array.eq_empty_of_size_eq_zero h0; rw [this]; rfl
    have hn : nmd s = false := by simp [nmd]; omega
    rw [hn]
    go_enter Tryz.func87, Tryz.ntmps87
    go_wp2_with (first | (go_at_call 78; refine (none_live g m _ hc).mono ?_; rintro e w' ⟨rfl, rfl⟩))
    go_ret
    exact ⟨rfl, rfl⟩
  · have hE : s.toList.isEmpty = false := by
      rw [ByteArray.toList_eq]
      cases hq : s.data.toList with
      | nil => exfalso; apply h0; have := congrArg List.length hq; simpa using this
      | cons _ _ => rfl
    have hsz : 1 ≤ s.size := by omega
    by_cases h1 : 64 < s.size
    · have h1' : decide ((64 : Int) < (s.size : Int)) = true := by simp; omega
      have hn : nmd s = false := by simp [nmd]; omega
      rw [hn]
      go_enter Tryz.func87, Tryz.ntmps87
      go_wp2_with (first | (go_at_call 78; refine (none_live g m _ hc).mono ?_; rintro e w' ⟨rfl, rfl⟩))
      go_ret
      exact ⟨rfl, rfl⟩
    · have h1' : decide ((64 : Int) < (s.size : Int)) = false := by simp; omega
      by_cases h2 : Lib.indexByte s.data.toList 0 < 0
      · have hn : nmd s = true := by simp [nmd]; omega
        rw [hn]
        have h2' : Lib.indexByte s.data.toList (0 : Int).toNat.toUInt8 < 0 := h2
        obtain ⟨x, hx⟩ : ∃ x, x = Lib.indexByte s.data.toList (0 : Int).toNat.toUInt8 := ⟨_, rfl⟩
        have HX : Hid (Lib.indexByte s.data.toList (0 : Int).toNat.toUInt8 = x) := hx.symm
        rw [← hx] at h2'
        have h2d : decide (0 ≤ x) = false := by simp; omega
        clear hx h2 hn
        go_enter Tryz.func87, Tryz.ntmps87
        go_wp2_with (first | (go_at_call 78; refine (none_live g m _ hc).mono ?_; rintro e w' ⟨rfl, rfl⟩) | (go_at_call 135; refine (s_IndexByte s 0 _).mono ?_; rintro e w' ⟨rfl, rfl⟩; rw [HX.out]))
        go_ret
        exact ⟨rfl, rfl⟩
      · have hn : nmd s = false := by simp [nmd]; omega
        rw [hn]
        have h2' : ¬ Lib.indexByte s.data.toList (0 : Int).toNat.toUInt8 < 0 := h2
        obtain ⟨x, hx⟩ : ∃ x, x = Lib.indexByte s.data.toList (0 : Int).toNat.toUInt8 := ⟨_, rfl⟩
        have HX : Hid (Lib.indexByte s.data.toList (0 : Int).toNat.toUInt8 = x) := hx.symm
        rw [← hx] at h2'
        have h2d : decide (0 ≤ x) = true := by simp; omega
        clear hx h2 hn
        go_enter Tryz.func87, Tryz.ntmps87
        go_wp2_with (first | (go_at_call 78; refine (none_live g m _ hc).mono ?_; rintro e w' ⟨rfl, rfl⟩) | (go_at_call 135; refine (s_IndexByte s 0 _).mono ?_; rintro e w' ⟨rfl, rfl⟩; rw [HX.out]))
        go_ret
        exact ⟨rfl, rfl⟩
set_option maxRecDepth 100000 in
set_option maxHeartbeats 1000000 in
theorem allowed_nos (s : ByteArray) (v : Value) (w : World) (h : Nos w v) : Calls Tryz.prog 87 #[v, .string s] w fun e w' => e = .returned (.int .i64 1) ∧ w' = w := by
  have H : Hid (Nos w v) := h
  clear h
  go_enter Tryz.func87, Tryz.ntmps87
  go_wp2_with (first | (go_at_call 78; refine (none_nos v _ H.out).mono ?_; rintro e w' ⟨rfl, rfl⟩))
  go_ret
  exact ⟨rfl, rfl⟩
end Go.Proofs.YtnccklbnncaeoaaGreat
/- Fates in memory; a step takes the next one. -/
namespace Go.Proofs.YtnccklbnncaeoaaGreat
open Go.RowKit

/-- A slice of fates. -/
def Fv (w : World) (fv : Value) (ft : List (Int × Int)) : Prop :=
  (fv = .slice none 0 0 ∧ ft = []) ∨ ∃ b o cap cs, fv = .slice (some ⟨b, o * 2, none⟩) ft.length cap ∧ w.heap[b]? = some (.cells cs 137 (0, 0)) ∧ ft.length ≤ cap ∧ cap ≤ 9223372036854775807 ∧ (o + cap) * 2 ≤ cs.size ∧
    ∀ i, i < ft.length → cs[(o + i) * 2]? = some (.int .i64 (ft.getD i (0, 0)).1) ∧ cs[(o + i) * 2 + 1]? = some (.int .i64 (ft.getD i (0, 0)).2)
theorem Fv.kp {F : Nat → Prop} {w w' : World} {fv : Value} {ft : List (Int × Int)} (h : Fv w fv ft) (k : Kp F w w') (hf : ∀ b, fv.ownBlock = some b → ¬ F b) : Fv w' fv ft := by
  rcases h with h | ⟨b, o, cap, cs, rfl, h2, h3⟩
  · exact .inl h
  · exact .inr ⟨b, o, cap, cs, rfl, (k.block b (Array.getElem?_eq_some_iff.1 h2).1 (hf b rfl)).trans h2, h3⟩
theorem Fv.lt {w : World} {fv : Value} {ft : List (Int × Int)} (h : Fv w fv ft) : ∀ b, fv.ownBlock = some b → b < w.heap.size := by
  intro b hb
  rcases h with ⟨h, _⟩ | ⟨b', o, cap, cs, rfl, h2, h3⟩
  · rw [h] at hb; cases hb
  · have : b' = b := by simpa [Value.ownBlock] using hb
    subst this
    exact (Array.getElem?_eq_some_iff.1 h2).1
theorem Fv.shape {w : World} {fv : Value} {ft : List (Int × Int)} (h : Fv w fv ft) : ∃ ao c, fv = .slice ao ft.length c := by
  rcases h with ⟨rfl, rfl⟩ | ⟨b, o, cap, cs, rfl, _⟩
  · exact ⟨none, 0, rfl⟩
  · exact ⟨_, _, rfl⟩
set_option maxRecDepth 100000 in
set_option maxHeartbeats 1000000 in
theorem step_nil (g : Nat) (mv : Value) (ao : Option Addr) (c steps : Nat) (w : World) (hs : St 158 w g #[mv, .slice ao 0 c, .int .i64 steps]) (hb : steps ≤ 1000000000000) :
    Calls Tryz.prog 88 #[.pointer (some ⟨g, 0, none⟩)] w fun e w' => e = .returned (.agg #[.int .i64 0, .int .i64 0]) ∧ St 158 w' g #[mv, .slice ao 0 c, .int .i64 ((steps + 1 : Nat) : Int)] ∧ Kp (fun i => i = g) w w' := by
  have hc1 : w.cell? ⟨g, 1, none⟩ = some (.slice ao 0 c) := hs.cell 1
  have hc2 : w.cell? ⟨g, 2, none⟩ = some (.int .i64 steps) := hs.cell 2
  have hf2 := hs.frozen 2
  have HS : Hid (St 158 w g #[mv, .slice ao 0 c, .int .i64 steps]) := hs
  have hl := hs.lt
  clear hs
  go_enter Tryz.func88, Tryz.ntmps88
  go_wp2
  refine bodyPost_ret (v := .agg #[.int .i64 0, .int .i64 0]) (by simp [results, Tryz.results88, go_sem]) rfl ⟨rfl, ?_, (kp_setCell w g 2 _ (fun i => i = g) rfl).alloc _⟩
  exact (HS.out.set 2 (.int .i64 ((steps : Int) + 1))).kp (F := fun _ => False) ((Kp.refl _ _).alloc _) (fun h => h)
set_option maxRecDepth 100000 in
set_option maxHeartbeats 1000000 in
theorem step_cons (g : Nat) (mv : Value) (b o cap steps n : Nat) (k0 n0 : Int) (w : World) (hs : St 158 w g #[mv, .slice (some ⟨b, o, none⟩) (n + 1) cap, .int .i64 steps]) (hb : steps ≤ 1000000000000) (hn : n + 1 ≤ cap) (hcap : cap ≤ 9223372036854775807)
    (h0 : w.cell? ⟨b, o, none⟩ = some (.int .i64 k0)) (h1 : w.cell? ⟨b, o + 1, none⟩ = some (.int .i64 n0)) (hbg : b ≠ g) :
    Calls Tryz.prog 88 #[.pointer (some ⟨g, 0, none⟩)] w fun e w' => e = .returned (.agg #[.int .i64 k0, .int .i64 n0]) ∧ St 158 w' g #[mv, .slice (some ⟨b, if cap = 1 then o else o + 2, none⟩) n (cap - 1), .int .i64 ((steps + 1 : Nat) : Int)] ∧ Kp (fun i => i = g) w w' := by
  have hc1 : w.cell? ⟨g, 1, none⟩ = some (.slice (some ⟨b, o, none⟩) (n + 1) cap) := hs.cell 1
  have hc2 : w.cell? ⟨g, 2, none⟩ = some (.int .i64 steps) := hs.cell 2
  have hf2 := hs.frozen 2
  have hf1 := hs.frozen 1
  have HS : Hid (St 158 w g #[mv, .slice (some ⟨b, o, none⟩) (n + 1) cap, .int .i64 steps]) := hs
  have hl := hs.lt
  have hbl := block_lt_of_cell h0
  have x0 : ∀ v, (w.setCell ⟨g, 2, none⟩ v).cell? ⟨b, o, none⟩ = some (.int .i64 k0) := fun v => kp_cell (kp_setCell w g 2 v (fun i => i = g) rfl) h0 hbg
  have x1 : ∀ v, (w.setCell ⟨g, 2, none⟩ v).cell? ⟨b, o + 1, none⟩ = some (.int .i64 n0) := fun v => kp_cell (kp_setCell w g 2 v (fun i => i = g) rfl) h1 hbg
  clear hs
  by_cases hcp : cap = 1
  · subst hcp
    obtain rfl : n = 0 := by omega
    go_enter Tryz.func88, Tryz.ntmps88
    go_wp2
    refine bodyPost_ret (v := .agg #[.int .i64 k0, .int .i64 n0]) (by simp [results, Tryz.results88, go_sem]) rfl ⟨rfl, ?_, (((kp_setCell w g 2 _ (fun i => i = g) rfl).trans (kp_setCell _ _ _ _ (fun i => i = g) rfl) (fun _ _ h => h)).alloc _).alloc _⟩
    exact ((HS.out.set 2 (.int .i64 ((steps : Int) + 1))).set 1 _).kp (F := fun _ => False) (((Kp.refl _ _).alloc _).alloc _) (fun h => h)
  · rw [if_neg hcp]
    go_enter Tryz.func88, Tryz.ntmps88
    go_wp2
    refine bodyPost_ret (v := .agg #[.int .i64 k0, .int .i64 n0]) (by simp [results, Tryz.results88, go_sem]) rfl ⟨rfl, ?_, (((kp_setCell w g 2 _ (fun i => i = g) rfl).trans (kp_setCell _ _ _ _ (fun i => i = g) rfl) (fun _ _ h => h)).alloc _).alloc _⟩
    exact ((HS.out.set 2 (.int .i64 ((steps : Int) + 1))).set 1 _).kp (F := fun _ => False) (((Kp.refl _ _).alloc _).alloc _) (fun h => h)
/-- A step: the next fate, or a good one. -/
theorem step_any (g : Nat) (mv fv : Value) (steps : Nat) (ft : List (Int × Int)) (w : World) (hs : St 158 w g #[mv, fv, .int .i64 steps]) (hb : steps ≤ 1000000000000) (hf : Fv w fv ft) (hg : fv.ownBlock ≠ some g) :
    Calls Tryz.prog 88 #[.pointer (some ⟨g, 0, none⟩)] w fun e w' => e = .returned (.agg #[.int .i64 (ft.headD (0, 0)).1, .int .i64 (ft.headD (0, 0)).2]) ∧ ∃ fv', St 158 w' g #[mv, fv', .int .i64 ((steps + 1 : Nat) : Int)] ∧ Fv w' fv' ft.tail ∧ fv'.ownBlock = fv.ownBlock ∧ Kp (fun i => i = g) w w' := by
  cases ft with
  | nil =>
    obtain ⟨ao, c, rfl⟩ := hf.shape
    refine (step_nil g mv ao c steps w hs hb).mono ?_
    rintro e w' ⟨rfl, h1, h2⟩
    exact ⟨rfl, _, h1, hf.kp h2 (fun b hb e => hg (e ▸ hb)), rfl, h2⟩
  | cons f ft =>
    rcases hf with ⟨_, h⟩ | ⟨b, o, cap, cs, rfl, h2, h3, h4, h5, h6⟩
    · cases h
    · have hbg : b ≠ g := fun e => hg (by rw [← e]; rfl)
      obtain ⟨q0, q1⟩ := h6 0 (by simp)
      rw [show o + 0 = o from rfl] at q0 q1
      have p0 : w.cell? ⟨b, o * 2, none⟩ = some (.int .i64 f.1) := (cell_of_row w b (o * 2) _ 137 _ h2).trans (by rw [q0]; rfl)
      have p1 : w.cell? ⟨b, o * 2 + 1, none⟩ = some (.int .i64 f.2) := (cell_of_row w b (o * 2 + 1) _ 137 _ h2).trans (by rw [q1]; rfl)
      refine (step_cons g mv b (o * 2) cap steps ft.length f.1 f.2 w hs hb (by simpa using h3) h4 p0 p1 hbg).mono ?_
      rintro e w' ⟨rfl, h7, h8⟩
      refine ⟨rfl, _, h7, .inr ?_, rfl, h8⟩
      have hh := (h8.block b (Array.getElem?_eq_some_iff.1 h2).1 hbg).trans h2
      by_cases hc : cap = 1
      · have hl : ft.length = 0 := by simp at h3; omega
        obtain rfl : ft = [] := List.eq_nil_of_length_eq_zero hl
        exact ⟨b, o, cap - 1, cs, by rw [if_pos hc]; rfl, hh, by simp, by omega, by omega, fun i hi => by simp at hi⟩
      · refine ⟨b, o + 1, cap - 1, cs, by rw [if_neg hc, show (o + 1) * 2 = o * 2 + 2 by omega]; rfl, hh, by simp at h3; show ft.length ≤ cap - 1; omega, by omega, by simp at h3; omega, fun i hi => ?_⟩
        have := h6 (i + 1) (by simp at hi ⊢; omega)
        rw [show o + 1 + i = o + (i + 1) by omega]
        simpa [List.getD_cons_succ] using this
end Go.Proofs.YtnccklbnncaeoaaGreat
/- A store in memory. -/
namespace Go.Proofs.YtnccklbnncaeoaaGreat
open Go.RowKit

structure Gf where
  sz : Nat
  L : Nat → Int
  ps : List (Nat × List Int)
abbrev Fe := ByteArray × Fa × Gf
/-- What came of a call that may write own. -/
structure Wk (D : Nat → Prop) (w : World) (own : List Nat) (W : World) (D' : Nat → Prop) (own' : List Nat) : Prop where
  k : Kp (fun i => i ∈ own) w W
  o : ∀ i, i ∈ own' → i ∈ own ∨ w.heap.size ≤ i
  d : ∀ i, D i → D' i
  e : ∀ i, D' i → D i ∨ w.heap.size ≤ i
theorem Wk.refl (D : Nat → Prop) (w : World) (own : List Nat) : Wk D w own w D own := ⟨Kp.refl _ _, fun _ h => .inl h, fun _ h => h, fun _ h => .inl h⟩
theorem Wk.trans {D D' D'' : Nat → Prop} {w W X : World} {own own' own'' : List Nat} (h : Wk D w own W D' own') (k : Wk D' W own' X D'' own'') : Wk D w own X D'' own'' :=
  ⟨h.k.trans k.k (fun i hi x => (h.o i x).elim id (fun y => by omega)), fun i hi => (k.o i hi).elim (fun x => h.o i x) (fun x => .inr (Nat.le_trans h.k.size x)), fun i hi => k.d i (h.d i hi), fun i hi => (k.e i hi).elim (fun x => h.e i x) (fun x => .inr (Nat.le_trans h.k.size x))⟩
theorem Wk.kp {D : Nat → Prop} {w W X : World} {own own' : List Nat} {D' : Nat → Prop} (h : Wk D w own W D' own') (k : Kp (fun _ => False) W X) : Wk D w own X D' own' :=
  ⟨h.k.trans k (fun _ _ x => x.elim), h.o, h.d, h.e⟩

def fget : List Fe → ByteArray → Option Fe
  | [], _ => none
  | f :: fs, s => if s = f.1 then some f else fget fs s
def fptr (f : Fe) : Value := .pointer (some ⟨f.2.1.fb, 0, none⟩)
theorem mget_fs {es : List (ByteArray × Value × Nat)} {fs : List Fe} (h : es.map (fun e => (e.1, e.2.1)) = fs.map (fun f => (f.1, fptr f))) (s : ByteArray) : mget es s = (fget fs s).map fptr := by
  induction es generalizing fs with
  | nil =>
    cases fs with
    | nil => rfl
    | cons f fs => simp at h
  | cons e es ih =>
    cases fs with
    | nil => simp at h
    | cons f fs =>
      simp only [List.map_cons, List.cons.injEq, Prod.mk.injEq] at h
      unfold mget fget
      rw [h.1.1]
      by_cases hs : s = f.1
      · rw [if_pos hs, if_pos hs, h.1.2]; rfl
      · rw [if_neg hs, if_neg hs, ih h.2]
theorem fget_split {fs : List Fe} {s : ByteArray} {f : Fe} (h : fget fs s = some f) : ∃ l r, fs = l ++ f :: r ∧ f.1 = s := by
  induction fs with
  | nil => cases h
  | cons x fs ih =>
    unfold fget at h
    by_cases hs : s = x.1
    · rw [if_pos hs] at h; cases h; exact ⟨[], fs, rfl, hs.symm⟩
    · rw [if_neg hs] at h
      obtain ⟨l, r, rfl, h2⟩ := ih h
      exact ⟨x :: l, r, rfl, h2⟩
theorem fget_mem {fs : List Fe} {s : ByteArray} {f : Fe} (h : fget fs s = some f) : f ∈ fs := by
  obtain ⟨l, r, rfl, _⟩ := fget_split h
  simp
def ownF (fs : List Fe) : List Nat := fs.flatMap (fun f => f.2.1.own)
def ownS (g fm : Nat) (fv : Value) (fs : List Fe) : List Nat := g :: fm :: (fv.ownBlock.toList ++ ownF fs)
theorem mem_ownS {g fm : Nat} {fv : Value} {fs : List Fe} {i : Nat} : i ∈ ownS g fm fv fs ↔ i = g ∨ i = fm ∨ fv.ownBlock = some i ∨ ∃ f ∈ fs, i ∈ f.2.1.own := by
  simp only [ownS, ownF, List.mem_cons, List.mem_append, List.mem_flatMap, Option.mem_toList]
/-- A store: its files (in the map's order), its fates, how many steps were done. -/
structure Sr (D : Nat → Prop) (w : World) (g fm : Nat) (fv : Value) (steps : Nat) (fs : List Fe) (ft : List (Int × Int)) (es : List (ByteArray × Value × Nat)) (c : Nat) : Prop where
  st : St 158 w g #[.map (some fm), fv, .int .i64 steps]
  mp : Mp Value.string w fm es c
  ef : es.map (fun e => (e.1, e.2.1)) = fs.map (fun f => (f.1, fptr f))
  fr : ∀ f ∈ fs, Fr D w f.2.1 f.2.2.sz f.2.2.L f.2.2.ps
  nm : ∀ f ∈ fs, nmd f.1 = true
  fa : Fv w fv ft
  nd : (ownS g fm fv fs).Nodup
  dn : ∀ i, D i → i ∉ ownS g fm fv fs
  db : ∀ i, D i → i < w.heap.size
  sb : steps ≤ 1000000000
  nf : fs.length ≤ 256
theorem Sr.lt {D : Nat → Prop} {w : World} {g fm : Nat} {fv : Value} {steps : Nat} {fs : List Fe} {ft : List (Int × Int)} {es : List (ByteArray × Value × Nat)} {c : Nat} (h : Sr D w g fm fv steps fs ft es c) : ∀ i, i ∈ ownS g fm fv fs → i < w.heap.size := by
  intro i hi
  rcases mem_ownS.1 hi with rfl | rfl | h1 | ⟨f, hf, h1⟩
  · exact h.st.lt
  · exact h.mp.lt
  · exact h.fa.lt i h1
  · exact (h.fr f hf).lt i h1
theorem Sr.kp {D F : Nat → Prop} {w w' : World} {g fm : Nat} {fv : Value} {steps : Nat} {fs : List Fe} {ft : List (Int × Int)} {es : List (ByteArray × Value × Nat)} {c : Nat} (h : Sr D w g fm fv steps fs ft es c) (k : Kp F w w') (ho : ∀ i, i ∈ ownS g fm fv fs → ¬ F i) (hd : ∀ i, D i → ¬ F i) : Sr D w' g fm fv steps fs ft es c :=
  ⟨h.st.kp k (ho g (mem_ownS.2 (.inl rfl))), kp_mp h.mp k (ho fm (mem_ownS.2 (.inr (.inl rfl)))), h.ef, fun f hf => (h.fr f hf).kp k (fun i hi => ho i (mem_ownS.2 (.inr (.inr (.inr ⟨f, hf, hi⟩))))) hd, h.nm, h.fa.kp k (fun b hb => ho b (mem_ownS.2 (.inr (.inr (.inl hb))))), h.nd, h.dn, fun i hi => Nat.lt_of_lt_of_le (h.db i hi) k.size, h.sb, h.nf⟩
theorem ownF_append (l r : List Fe) : ownF (l ++ r) = ownF l ++ ownF r := by simp [ownF]
theorem ownF_cons (f : Fe) (r : List Fe) : ownF (f :: r) = f.2.1.own ++ ownF r := by simp [ownF]
theorem Fr.nodup {D : Nat → Prop} {w : World} {a : Fa} {sz : Nat} {L : Nat → Int} {ps : List (Nat × List Int)} (h : Fr D w a sz L ps) : a.own.Nodup := by
  have h1 := h.lm_ne
  have h2 := h.ne
  unfold Fa.own
  cases hp : a.pv.ownBlock with
  | none => simp only [Option.toList_none, List.append_nil, List.nodup_cons, List.mem_cons, List.not_mem_nil, or_false, not_or, List.nodup_nil, and_true, not_false_eq_true]; exact ⟨⟨fun e => h1.1 e.symm, fun e => h1.2 e.symm⟩, h2⟩
  | some b =>
    have h3 := h.fb_ne hp
    simp only [Option.toList_some, List.cons_append, List.nil_append, List.nodup_cons, List.mem_cons, List.not_mem_nil, or_false, not_or, List.nodup_nil, and_true, not_false_eq_true]
    exact ⟨⟨fun e => h1.1 e.symm, fun e => h1.2 e.symm, fun e => h3.1 e.symm⟩, ⟨h2, fun e => h3.2.1 e.symm⟩, fun e => h3.2.2 e.symm⟩
/-- One of its files is another now. -/
theorem Sr.upd {D D' : Nat → Prop} {w W : World} {g fm : Nat} {fv : Value} {steps : Nat} {l r : List Fe} {s : ByteArray} {a a' : Fa} {q q' : Gf} {ft : List (Int × Int)} {es : List (ByteArray × Value × Nat)} {c : Nat} (h : Sr D w g fm fv steps (l ++ (s, a, q) :: r) ft es c) (k : Wk D w a.own W D' a'.own) (hb : a'.fb = a.fb) (hf : Fr D' W a' q'.sz q'.L q'.ps) :
    Sr D' W g fm fv steps (l ++ (s, a', q') :: r) ft es c := by
  have hnd := h.nd
  have hlt := h.lt
  have hn := hf.nodup
  have memo : ∀ i, i ∈ a.own → i ∈ ownS g fm fv (l ++ (s, a, q) :: r) := fun i hi => mem_ownS.2 (.inr (.inr (.inr ⟨(s, a, q), by simp, hi⟩)))
  -- who else owns is apart from a
  have hap : ∀ i, (i = g ∨ i = fm ∨ fv.ownBlock = some i ∨ ∃ f ∈ l ++ r, i ∈ f.2.1.own) → i ∉ a.own := by
    intro i hi hm
    unfold ownS at hnd
    rw [ownF_append, ownF_cons] at hnd
    simp only [List.nodup_cons, List.nodup_append, List.mem_cons, List.mem_append, not_or] at hnd
    obtain ⟨⟨_, h1, h2, h3, _⟩, ⟨h4, h5, h6, _⟩, _, ⟨_, ⟨_, _, h7⟩, h8⟩, h9⟩ := hnd
    rcases hi with rfl | rfl | hi | ⟨f, hf, hi⟩
    · exact h3 hm
    · exact h6 hm
    · exact h9 i (by simpa using hi) i (.inr (.inl hm)) rfl
    · rcases List.mem_append.1 hf with hf | hf
      · exact h8 i (List.mem_flatMap.2 ⟨f, hf, hi⟩) i (.inl hm) rfl
      · exact h7 i hm i (List.mem_flatMap.2 ⟨f, hf, hi⟩) rfl
  have hsz := k.k.size
  have hDo : ∀ i, D' i → ∀ f ∈ l ++ r, i ∉ f.2.1.own := by
    intro i hi f hf hm
    have hm' : i ∈ ownS g fm fv (l ++ (s, a, q) :: r) := mem_ownS.2 (.inr (.inr (.inr ⟨f, by rcases List.mem_append.1 hf with hf | hf <;> simp [hf], hm⟩)))
    rcases k.e i hi with h1 | h1
    · exact h.dn i h1 hm'
    · have := hlt i hm'; omega
  refine ⟨h.st.kp k.k (hap g (.inl rfl)), kp_mp h.mp k.k (hap fm (.inr (.inl rfl))), ?_, ?_, ?_, h.fa.kp k.k (fun b hb => hap b (.inr (.inr (.inl hb)))), ?_, ?_, ?_, h.sb, by simpa using h.nf⟩
  · rw [h.ef]
    simp [fptr, hb]
  · intro f hf'
    have hf2 : f = (s, a', q') ∨ f ∈ l ++ r := by
      simp only [List.mem_append, List.mem_cons] at hf' ⊢
      rcases hf' with h1 | h1 | h1
      · exact .inr (.inl h1)
      · exact .inl h1
      · exact .inr (.inr h1)
    rcases hf2 with rfl | hf2
    · exact hf
    · have h0 := h.fr f (by simp only [List.mem_append, List.mem_cons] at hf2 ⊢; rcases hf2 with h1 | h1; exact .inl h1; exact .inr (.inr h1))
      exact (h0.kp k.k (fun i hi => hap i (.inr (.inr (.inr ⟨f, hf2, hi⟩)))) (fun i hi x => h.dn i hi (memo i x))).mono (fun i _ => k.d i) (fun i hi => hDo i hi f hf2) hf.db
  · intro f hf'
    simp only [List.mem_append, List.mem_cons] at hf'
    rcases hf' with h1 | h1 | h1
    · exact h.nm f (by simp [h1])
    · rw [h1]; exact h.nm (s, a, q) (by simp)
    · exact h.nm f (by simp [h1])
  · -- apart
    have hnew : ∀ i, i ∈ a'.own → ¬ (i = g ∨ i = fm ∨ fv.ownBlock = some i ∨ ∃ f ∈ l ++ r, i ∈ f.2.1.own) := by
      intro i hi hx
      rcases k.o i hi with h1 | h1
      · exact hap i hx h1
      · have : i ∈ ownS g fm fv (l ++ (s, a, q) :: r) := mem_ownS.2 (by
          rcases hx with hx | hx | hx | ⟨f, hf, hx⟩
          · exact .inl hx
          · exact .inr (.inl hx)
          · exact .inr (.inr (.inl hx))
          · exact .inr (.inr (.inr ⟨f, by rcases List.mem_append.1 hf with hf | hf <;> simp [hf], hx⟩)))
        have := hlt i this
        omega
    unfold ownS at hnd ⊢
    rw [ownF_append, ownF_cons] at hnd ⊢
    simp only [List.nodup_cons, List.nodup_append, List.mem_cons, List.mem_append, not_or] at hnd ⊢
    obtain ⟨⟨h1, h2, h3, h4, h5⟩, ⟨h6, h7, h8, h9⟩, h10, ⟨h11, ⟨h12, h13, h14⟩, h15⟩, h16⟩ := hnd
    have inl : ∀ i, i ∈ ownF l → ∃ f ∈ l ++ r, i ∈ f.2.1.own := fun i hi => by obtain ⟨f, hf, hx⟩ := List.mem_flatMap.1 hi; exact ⟨f, by simp [hf], hx⟩
    have inr : ∀ i, i ∈ ownF r → ∃ f ∈ l ++ r, i ∈ f.2.1.own := fun i hi => by obtain ⟨f, hf, hx⟩ := List.mem_flatMap.1 hi; exact ⟨f, by simp [hf], hx⟩
    refine ⟨⟨h1, h2, h3, fun x => hnew _ x (.inl rfl), h5⟩, ⟨h6, h7, fun x => hnew _ x (.inr (.inl rfl)), h9⟩, h10, ⟨h11, ⟨hn, h13, fun x hx y hy e => hnew x hx (.inr (.inr (.inr (inr x (e ▸ hy)))))⟩, ?_⟩, ?_⟩
    · intro x hx y hy e
      rcases hy with hy | hy
      · exact hnew y hy (.inr (.inr (.inr (inl y (e ▸ hx)))))
      · exact h15 x hx y (.inr hy) e
    · intro x hx y hy e
      rcases hy with hy | hy | hy
      · exact h16 x hx y (.inl hy) e
      · exact hnew y hy (.inr (.inr (.inl (by rw [← e]; simpa using hx))))
      · exact h16 x hx y (.inr (.inr hy)) e
  · intro i hi hm
    rcases mem_ownS.1 hm with h1 | h1 | h1 | ⟨f, hf', h1⟩
    · rcases k.e i hi with h2 | h2
      · exact h.dn i h2 (mem_ownS.2 (.inl h1))
      · have := hlt i (mem_ownS.2 (.inl h1)); omega
    · rcases k.e i hi with h2 | h2
      · exact h.dn i h2 (mem_ownS.2 (.inr (.inl h1)))
      · have := hlt i (mem_ownS.2 (.inr (.inl h1))); omega
    · rcases k.e i hi with h2 | h2
      · exact h.dn i h2 (mem_ownS.2 (.inr (.inr (.inl h1))))
      · have := hlt i (mem_ownS.2 (.inr (.inr (.inl h1)))); omega
    · simp only [List.mem_append, List.mem_cons] at hf'
      rcases hf' with h2 | h2 | h2
      · exact hDo i hi f (by simp [h2]) h1
      · rw [h2] at h1; exact hf.nd i hi h1
      · exact hDo i hi f (by simp [h2]) h1
  · exact hf.db
end Go.Proofs.YtnccklbnncaeoaaGreat
/- The iterator over the pieces of bytes. -/
namespace Go.Proofs.YtnccklbnncaeoaaGreat
open Go.RowKit Go.Shelf
attribute [local go_sem] Oper.semAt_some

abbrev Cx (p m : Nat) := { x : Nat × Nat // x ∈ pcs p m }
def cenc {p m : Nat} (x : Cx p m) : Array Value := #[.agg #[.int .i64 (x.1.1 : Int), .int .i64 (x.1.2 : Int)]]
set_option maxRecDepth 100000 in
set_option maxHeartbeats 2000000 in
theorem cuts1_in (F : Fence) (n : Nat) (h63 : F.fn 162) (hro : F.round = none) (hn : 1 ≤ n) (l Bp Bn p m : Nat) (hb : p + m ≤ 1000000000000) (J Jx : List (Cx p m) → World → Prop)
    (hY : ∀ pre x W, J pre W → pre.length < m → YieldAt F (n - 1) Tryz.prog l (cenc x) W fun e W' => (e = .returned (.bool true) ∧ J (pre ++ [x]) W' ∧ True) ∨ (e = .returned (.bool false) ∧ Jx (pre ++ [x]) W'))
    (W : World) (hp : W.cell? ⟨Bp, 0, none⟩ = some (.int .i64 p)) (hm : W.cell? ⟨Bn, 0, none⟩ = some (.int .i64 m)) (h0 : J [] W) :
    CallsIn F n Tryz.prog 162 #[.func (.yield l) #[] #[], .pointer (some ⟨Bp, 0, none⟩), .pointer (some ⟨Bn, 0, none⟩)] W fun e W' => (∃ v, e = .returned v) ∧
      ((∃ ys, ys.map (·.1) = pcs p m ∧ J ys W') ∨ (∃ pre, pre.map (·.1) <+: pcs p m ∧ Jx pre W')) := by
  refine callsIn_of_wp Tryz.func162 rfl h63 ?_ hro
  simp only [Tryz.ntmps162, List.size_toArray, List.length_cons, List.length_nil, Nat.reduceAdd, Nat.reduceSub, Array.replicate_succ, Array.replicate_zero, List.push_toArray, List.append_toArray, List.nil_append, List.cons_append]
  obtain ⟨e, he⟩ : ∃ e, e = p + m := ⟨_, rfl⟩
  have hE : (p : Int) + (m : Int) = (e : Int) := by omega
  have heb : e ≤ 1000000000000 := by omega
  have HE : Hid (e = p + m) := he
  clear he
  gi_wp2
  gi_loopw [5, 6] (fun f _ wr => ∃ (k : Nat) (pre : List (Cx p m)), f = .int .i64 k ∧ p ≤ k ∧ k ≤ e ∧ pcs p m = pre.map (·.1) ++ pcs k (e - k) ∧ J pre wr) (fun f _ _ => e - (intOf f).toNat)
  case atStart => exact ⟨p, [], rfl, Nat.le_refl _, by have := HE.out; omega, by rw [HE.out]; simp, h0⟩
  case round =>
    obtain ⟨k, pre, rfl, hk1, hk2, hpre, hJs⟩ := hrel
    have HPRE : Hid (pcs p m = pre.map (·.1) ++ pcs k (e - k)) := hpre
    clear hpre
    by_cases hlt : k < e
    · obtain ⟨c, hc⟩ : ∃ c, c = cutl k (e - k) := ⟨_, rfl⟩
      have hstep := pcs_step k (e - k) (by omega)
      rw [← hc] at hstep
      have hmem : (k, c) ∈ pcs p m := by rw [HPRE.out, hstep]; simp
      have hc1 : 1 ≤ c := by rw [hc]; exact cutl_pos (by omega)
      have hc2 : c ≤ e - k := by rw [hc]; exact cutl_le _ _
      have hc3 : c = min (512 - k % 512) (e - k) := hc
      have hlen : pre.length < m := by
        have h1 := pcs_len m p
        rw [HPRE.out, hstep] at h1
        simp at h1
        omega
      obtain ⟨t, ht⟩ : ∃ t, t = k + c := ⟨_, rfl⟩
      have hte : t ≤ e := by omega
      have hmin : (if (e : Int) < (k : Int) - (k : Int) % 512 + 512 then (e : Int) else (k : Int) - (k : Int) % 512 + 512) = (t : Int) := by rw [ht]; split <;> omega
      have hsub : (t : Int) - (k : Int) = (c : Int) := by omega
      have HN : Hid (pcs p m = (pre ++ [(⟨(k, c), hmem⟩ : Cx p m)]).map (·.1) ++ pcs t (e - t)) := by
        refine HPRE.out.trans ?_
        rw [hstep, List.map_append, List.append_assoc, ht, show e - k - c = e - (k + c) by omega]
        rfl
      obtain ⟨fn, tmps, assign, body, hy, hR⟩ := hY pre ⟨(k, c), hmem⟩ wr hJs hlen
      unfold cenc at hy
      dsimp only at hy
      have htk : k < t := by omega
      clear hc hc3 hstep ht
      gi_wp2
      refine hR.mono ?_
      rintro ee W3 (⟨rfl, hJ3, _⟩ | ⟨rfl, hJx3⟩)
      · gi_wp2
        go_roundw
        case rel => exact ⟨t, _, rfl, by omega, hte, HN.out, hJ3⟩
        case measure => simp [intOf]; omega
      · gi_wp2
        refine bodyPost_ret (results_none rfl _ _ _) rfl ?_
        exact ⟨⟨_, rfl⟩, .inr ⟨_, ⟨_, HN.out.symm⟩, hJx3⟩⟩
    · obtain rfl : k = e := by omega
      gi_wp2
      go_end0
      exact ⟨⟨_, rfl⟩, .inl ⟨pre, (HPRE.out.trans (by rw [Nat.sub_self, pcs_zero, List.append_nil])).symm, hJs⟩⟩
theorem cuts_stops (F : Fence) (n : Nat) (h63 : F.fn 162) (hro : F.round = none) (hn : 1 ≤ n) (Bp Bn p m : Nat) (hb : p + m ≤ 1000000000000) (w : World) (hp : w.cell? ⟨Bp, 0, none⟩ = some (.int .i64 p)) (hm : w.cell? ⟨Bn, 0, none⟩ = some (.int .i64 m)) :
    SeqStopsK F n Tryz.prog 162 #[.pointer (some ⟨Bp, 0, none⟩), .pointer (some ⟨Bn, 0, none⟩)] (cenc (p := p) (m := m)) (fun _ _ => True) (fun ys => ys.map (·.1) = pcs p m) (fun pre => pre.map (·.1) <+: pcs p m) m w := fun l J Jx W hW _ _ hY h0 =>
  cuts1_in F n h63 hro hn l Bp Bn p m hb J Jx hY W ((hW.cell (block_lt_of_cell hp)).trans hp) ((hW.cell (block_lt_of_cell hm)).trans hm) h0
theorem cuts_in (F : Fence) (n : Nat) (h45 : F.fn 128) (hro : F.round = none) (p m : Int) (w : World) : CallsIn F n Tryz.prog 128 #[.int .i64 p, .int .i64 m] w fun e w' => e = .returned (.func (.func 162) #[] #[.pointer (some ⟨w.heap.size, 0, none⟩), .pointer (some ⟨w.heap.size + 1, 0, none⟩)]) ∧ w' = (w.alloc (.cells #[.int .i64 p] 2)).alloc (.cells #[.int .i64 m] 3) := by
  refine callsIn_of_wp Tryz.func128 rfl h45 ?_ hro
  simp only [Tryz.ntmps128, List.size_toArray, List.length_cons, List.length_nil, Nat.reduceAdd, Nat.reduceSub, Array.replicate_succ, Array.replicate_zero, List.push_toArray, List.append_toArray, List.nil_append, List.cons_append]
  gi_wp2
  go_ret
  exact ⟨rfl, rfl⟩
end Go.Proofs.YtnccklbnncaeoaaGreat
