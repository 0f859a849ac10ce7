/- Crash: what a crash leaves of a store. -/
import Derived.Test.YtalicohflfildaaNm
import Derived.Test.YtalicohflfildaaNw
import Derived.Test.YtalicohflfildaaCd
namespace Go.Proofs.Ytalicohflfildaa
open Go.RowKit Go.Sort

theorem Sr.mono {D D' : Nat → Prop} {w : World} {g fm : Nat} {fv : Value} {steps : Nat} {fs : List Fe} {ft : List (Int × Int)} {es : List (ByteArray × Value × Nat)} {c : Nat} (h : Sr D w g fm fv steps fs ft es c) (hd : ∀ i, D i → D' i) (hn : ∀ i, D' i → i ∉ ownS g fm fv fs) (hb : ∀ i, D' i → i < w.heap.size) : Sr D' w g fm fv steps fs ft es c :=
  ⟨h.st, h.mp, h.ef, fun f hf => (h.fr f hf).mono (fun i _ hi => hd i hi) (fun i hi hm => hn i hi (mem_ownS.2 (.inr (.inr (.inr ⟨f, hf, hm⟩))))) hb, h.nm, h.fa, h.nd, hn, hb, h.sb, h.nf⟩
theorem Sr.add {D : Nat → Prop} {w W : World} {g fm : Nat} {fv : Value} {steps : Nat} {fs : List Fe} {ft : List (Int × Int)} {es : List (ByteArray × Value × Nat)} {c : Nat} {s : ByteArray} {a : Fa} {gf : Gf} (h : Sr D w g fm fv steps fs ft es c) (hq : fget fs s = none) (hl : fs.length < 256) (hn : nmd s = true)
    (hm : Mp Value.string W fm (mput es s (.pointer (some ⟨a.fb, 0, none⟩)) c) (mclk es s c)) (k : Kp (fun i => i = fm) w W) (hf : Fr D W a gf.sz gf.L gf.ps) (hdis : ∀ i, i ∈ a.own → i ∉ ownS g fm fv fs) : Sr D W g fm fv steps (fs ++ [(s, a, gf)]) ft (mput es s (.pointer (some ⟨a.fb, 0, none⟩)) c) (mclk es s c) := by
  have hnd := h.nd
  have hap : ∀ i, (i = g ∨ fv.ownBlock = some i ∨ ∃ f ∈ fs, i ∈ f.2.1.own) → ¬ i = fm := by
    intro i hi e
    subst e
    unfold ownS at hnd
    rw [List.nodup_cons, List.nodup_cons] at hnd
    rcases hi with rfl | hi | ⟨f, hf', hi⟩
    · exact hnd.1 (by simp)
    · exact hnd.2.1 (List.mem_append_left _ (by simpa using hi))
    · exact hnd.2.1 (List.mem_append_right _ (List.mem_flatMap.2 ⟨f, hf', hi⟩))
  have hmn : mget es s = none := by rw [mget_fs h.ef, hq]; rfl
  have hput : mput es s (.pointer (some ⟨a.fb, 0, none⟩)) c = es ++ [(s, .pointer (some ⟨a.fb, 0, none⟩), c)] := by
    rcases fidx_put es s (.pointer (some ⟨a.fb, 0, none⟩)) 0 c with ⟨_, h2, _⟩ | ⟨j, u, h1, _⟩
    · exact h2
    · have := fidx_get es s 0
      rw [h1, hmn] at this
      cases this
  refine ⟨h.st.kp k (hap g (.inl rfl)), hm, ?_, ?_, ?_, h.fa.kp k (fun b hb => hap b (.inr (.inl hb))), ?_, ?_, fun i hi => Nat.lt_of_lt_of_le (h.db i hi) k.size, h.sb, by simp; omega⟩
  · rw [hput, List.map_append, h.ef]
    simp [fptr]
  · intro f hf'
    rcases List.mem_append.1 hf' with h1 | h1
    · exact (h.fr f h1).kp k (fun i hi => hap i (.inr (.inr ⟨f, h1, hi⟩))) (fun i hi e => h.dn i hi (mem_ownS.2 (.inr (.inl e))))
    · simp at h1
      rw [h1]
      exact hf
  · intro f hf'
    rcases List.mem_append.1 hf' with h1 | h1
    · exact h.nm f h1
    · simp at h1; rw [h1]; exact hn
  · have e : ownS g fm fv (fs ++ [(s, a, gf)]) = ownS g fm fv fs ++ a.own := by
      unfold ownS
      rw [ownF_append]
      simp [ownF]
    rw [e, List.nodup_append]
    exact ⟨hnd, hf.nodup, fun x hx y hy e => hdis y hy (e ▸ hx)⟩
  · intro i hi hm'
    rcases mem_ownS.1 hm' with h1 | h1 | h1 | ⟨f, hf', h1⟩
    · exact h.dn i hi (mem_ownS.2 (.inl h1))
    · exact h.dn i hi (mem_ownS.2 (.inr (.inl h1)))
    · exact h.dn i hi (mem_ownS.2 (.inr (.inr (.inl h1))))
    · rcases List.mem_append.1 hf' with h2 | h2
      · exact h.dn i hi (mem_ownS.2 (.inr (.inr (.inr ⟨f, h2, h1⟩))))
      · simp at h2
        rw [h2] at h1
        exact hf.nd i hi h1
/-- The names, rising. -/
def nms (fs : List Fe) : List ByteArray := (snm fs).map (fun x => ⟨x.toArray⟩)
theorem nms_perm (fs : List Fe) : (nms fs).Perm (fs.map (·.1)) := by
  unfold nms snm
  refine ((List.mergeSort_perm _ _).map _).trans (List.Perm.of_eq ?_)
  rw [List.map_map]
  refine List.map_congr_left (fun f _ => ?_)
  simp
theorem nms_len (fs : List Fe) : (nms fs).length = fs.length := by simpa using (nms_perm fs).length_eq
theorem nms_enc (fs : List Fe) : (snm fs).map encStr = (nms fs).map Value.string := by
  unfold nms
  rw [List.map_map]
  rfl
/-- What becomes of one file, the first pick being that of number K. -/
def crf (fs : List Fe) (zs : List Int) (K : Nat) (s : ByteArray) : Gf := match fget fs s with
  | some f => ⟨f.2.2.sz, ovs f.2.2.L (pks zs K f.2.2.ps), []⟩
  | none => ⟨0, zero, []⟩
def crl (fs : List Fe) (zs : List Int) : Nat → List ByteArray → List (ByteArray × Gf)
  | _, [] => []
  | K, s :: ss => (s, crf fs zs K s) :: crl fs zs (K + plen fs s) ss
def ksum (fs : List Fe) (l : List ByteArray) : Nat := (l.map (plen fs)).sum
theorem ksum_snoc (fs : List Fe) (l : List ByteArray) (s : ByteArray) : ksum fs (l ++ [s]) = ksum fs l + plen fs s := by simp [ksum]
theorem crl_snoc (fs : List Fe) (zs : List Int) (K : Nat) (l : List ByteArray) (s : ByteArray) : crl fs zs K (l ++ [s]) = crl fs zs K l ++ [(s, crf fs zs (K + ksum fs l) s)] := by
  induction l generalizing K with
  | nil => simp [crl, ksum]
  | cons x l ih =>
    simp only [List.cons_append, crl, ih]
    rw [show K + plen fs x + ksum fs l = K + ksum fs (x :: l) by simp [ksum]; omega]
theorem crl_names (fs : List Fe) (zs : List Int) (K : Nat) (l : List ByteArray) : (crl fs zs K l).map (·.1) = l := by
  induction l generalizing K with
  | nil => rfl
  | cons x l ih => simp [crl, ih]
structure CrI (D : Nat → Prop) (w W0 : World) (fs : List Fe) (zs : List Int) (n Bn g' fm' k : Nat) (wr : World) (D' : Nat → Prop) (fs' : List Fe) (es' : List (ByteArray × Value × Nat)) (c' : Nat) : Prop where
  sr : Sr D' wr g' fm' (.slice none 0 0) 0 fs' [] es' c'
  ev : fs'.map (fun f => (f.1, f.2.2)) = crl fs zs 0 ((nms fs).take k)
  ow : ∀ i, i ∈ ownS g' fm' (.slice none 0 0) fs' → w.heap.size ≤ i ∧ i ≠ Bn
  d : ∀ i, D i → D' i
  d2 : ∀ i, D' i → D i ∨ W0.heap.size ≤ i
  b : St 3 wr Bn #[.int .i64 ((min (ksum fs ((nms fs).take k)) n : Nat) : Int)]
  kp : Kp (fun i => i = Bn ∨ i = fm') W0 wr
theorem own_cells {w : World} {base n : Nat} {v : Value} {xs : List Value} (h : w.ownsRow base 9 1 v n xs) (hp : 0 < n) : ∃ g off cap, v = .slice (some ⟨g, off, none⟩) n cap ∧ base ≤ g ∧ g < w.heap.size ∧ ∀ i, i < n → w.cell? ⟨g, off + i, none⟩ = xs[i]? := by
  rcases h.2 with ⟨_, h1⟩ | ⟨g, cap, cur, rfl, h1, h2, h3, h4, h5, h6⟩
  · omega
  · refine ⟨g, 0, cap, rfl, h1, (Array.getElem?_eq_some_iff.1 h2).1, fun i hi => (cell_of_row w g _ _ 9 _ h2).trans ?_⟩
    rw [← h6, List.getElem?_take, if_pos (by omega), Nat.zero_add]
    simp
theorem take_snoc {α : Type} (l : List α) (k : Nat) (x : α) (h : l[k]? = some x) : l.take (k + 1) = l.take k ++ [x] := by
  rw [List.take_add_one, h]; rfl
theorem fget_some {fs : List Fe} {s : ByteArray} (h : s ∈ fs.map (·.1)) : ∃ f, fget fs s = some f := by
  induction fs with
  | nil => cases h
  | cons x fs ih =>
    unfold fget
    by_cases e : s = x.1
    · exact ⟨x, if_pos e⟩
    · rw [if_neg e]
      rcases List.mem_cons.1 h with h | h
      · exact absurd h e
      · exact ih h
theorem fget_none {fs : List Fe} {s : ByteArray} (h : s ∉ fs.map (·.1)) : fget fs s = none := by
  cases hq : fget fs s with
  | none => rfl
  | some f =>
    obtain ⟨l, r, h1, h2⟩ := fget_split hq
    exact absurd (by rw [h1, ← h2]; simp) h
theorem nodup_take {α : Type} {l : List α} {k : Nat} {x : α} (hn : l.Nodup) (h : l[k]? = some x) : x ∉ l.take k := by
  intro hm
  obtain ⟨j, hj⟩ := List.getElem?_of_mem hm
  rw [List.getElem?_take] at hj
  by_cases hjk : j < k
  · rw [if_pos hjk] at hj
    have h1 := (List.getElem?_eq_some_iff.1 hj).1
    have := (List.getElem?_inj h1 hn).1 (hj.trans h.symm)
    omega
  · rw [if_neg hjk] at hj; cases hj
theorem lk_run {w : World} {fm c fb : Nat} {es : List (ByteArray × Value × Nat)} {s : ByteArray} (h : Mp Value.string w fm es c) (hg : mget es s = some (.pointer (some ⟨fb, 0, none⟩))) : (Instr.lookup 52 (.map (some fm)) (.string s) false).run Try.prog w = .ok (.pointer (some ⟨fb, 0, none⟩)) w :=
  (run_lookup_mp ky9 Try.underlying52 h (Try.zeroValue65 _) s).trans (by rw [hg]; rfl)
/-- One more file has come over. -/
theorem CrI.step {D D2 : Nat → Prop} {w W0 : World} {fs : List Fe} {zs : List Int} {n Bn g' fm' k : Nat} {wr w2 w3 : World} {D' : Nat → Prop} {fs' : List Fe} {es' : List (ByteArray × Value × Nat)} {c' : Nat} {s : ByteArray} {f : Fe} {a2 : Fa} (h : CrI D w W0 fs zs n Bn g' fm' k wr D' fs' es' c')
    (hs : (nms fs)[k]? = some s) (hf : fget fs s = some f) (hno : s ∉ (nms fs).take k) (hk : k < fs.length) (hl : fs.length ≤ 256) (hnm : nmd s = true) (hDl : ∀ i, D i → i < w.heap.size) (hw0 : w.heap.size ≤ W0.heap.size) (hBn : w.heap.size ≤ Bn ∧ Bn < W0.heap.size)
    (hf2 : Fr D2 w2 a2 f.2.2.sz (ovs f.2.2.L (pks zs (ksum fs ((nms fs).take k)) f.2.2.ps)) []) (ho2 : ∀ i, i ∈ a2.own → wr.heap.size ≤ i) (hd3 : ∀ i, D2 i → D i ∨ wr.heap.size ≤ i)
    (hb2 : St 3 w2 Bn #[.int .i64 ((min (ksum fs ((nms fs).take k) + f.2.2.ps.length) n : Nat) : Int)]) (hk2 : Kp (fun i => i = Bn) wr w2)
    (hm : Mp Value.string w3 fm' (mput es' s (.pointer (some ⟨a2.fb, 0, none⟩)) c') (mclk es' s c')) (k3 : Kp (fun i => i = fm') w2 w3) (hBf : Bn ≠ fm') :
    CrI D w W0 fs zs n Bn g' fm' (k + 1) w3 (fun i => D' i ∨ D2 i) (fs' ++ [(s, a2, ⟨f.2.2.sz, ovs f.2.2.L (pks zs (ksum fs ((nms fs).take k)) f.2.2.ps), []⟩)]) (mput es' s (.pointer (some ⟨a2.fb, 0, none⟩)) c') (mclk es' s c') := by
  have hsz : w.heap.size ≤ wr.heap.size := Nat.le_trans hw0 h.kp.size
  have hnames : fs'.map (·.1) = (nms fs).take k := by
    have := congrArg (List.map (·.1)) h.ev
    rw [crl_names] at this
    simpa [List.map_map, Function.comp_def] using this
  have hlen : fs'.length = k := by
    have := congrArg List.length hnames
    rw [List.length_map, List.length_take, nms_len] at this
    omega
  have hlt := h.sr.lt
  have hW := h.kp.size
  have hDB : ∀ i, D' i → ¬ i = Bn := fun i hi e => by
    rcases h.d2 i hi with h2 | h2
    · have := hDl i h2; omega
    · omega
  have s2 := h.sr.kp hk2 (fun i hi => (h.ow i hi).2) hDB
  have hn2 : ∀ i, (D' i ∨ D2 i) → i ∉ ownS g' fm' (.slice none 0 0) fs' := by
    rintro i (hi | hi) hm'
    · exact h.sr.dn i hi hm'
    · rcases hd3 i hi with h1 | h1
      · exact h.sr.dn i (h.d i h1) hm'
      · have := hlt i hm'; omega
  have hb' : ∀ i, (D' i ∨ D2 i) → i < w2.heap.size := by
    rintro i (hi | hi)
    · exact s2.db i hi
    · exact hf2.db i hi
  have s3 := s2.mono (D' := fun i => D' i ∨ D2 i) (fun i hi => .inl hi) hn2 hb'
  have f3 : Fr (fun i => D' i ∨ D2 i) w2 a2 f.2.2.sz (ovs f.2.2.L (pks zs (ksum fs ((nms fs).take k)) f.2.2.ps)) [] := hf2.mono (fun i _ hi => .inr hi) (by
    rintro i (hi | hi) hm'
    · have := h.sr.db i hi; have := ho2 i hm'; omega
    · exact hf2.nd i hi hm') hb'
  have hfml := h.sr.mp.lt
  have f4 := f3.kp k3 (fun i hi e => by have := ho2 i hi; omega) (fun i hi e => hn2 i hi (mem_ownS.2 (.inr (.inl e))))
  have hdis : ∀ i, i ∈ a2.own → i ∉ ownS g' fm' (.slice none 0 0) fs' := fun i hi hm' => by
    have := ho2 i hi; have := hlt i hm'; omega
  refine ⟨s3.add (gf := ⟨f.2.2.sz, ovs f.2.2.L (pks zs (ksum fs ((nms fs).take k)) f.2.2.ps), []⟩) (fget_none (by rw [hnames]; exact hno)) (by omega) hnm hm k3 f4 hdis, ?_, ?_, fun i hi => .inl (h.d i hi), ?_, ?_, ?_⟩
  · rw [List.map_append, h.ev, take_snoc _ k s hs, crl_snoc]
    simp only [List.map_cons, List.map_nil, crf, hf, Nat.zero_add]
  · intro i hi
    rcases mem_ownS.1 hi with h1 | h1 | h1 | ⟨f', hf', h1⟩
    · exact h.ow i (mem_ownS.2 (.inl h1))
    · exact h.ow i (mem_ownS.2 (.inr (.inl h1)))
    · exact h.ow i (mem_ownS.2 (.inr (.inr (.inl h1))))
    · rcases List.mem_append.1 hf' with h2 | h2
      · exact h.ow i (mem_ownS.2 (.inr (.inr (.inr ⟨f', h2, h1⟩))))
      · simp at h2
        rw [h2] at h1
        have := ho2 i h1
        exact ⟨by omega, by omega⟩
  · rintro i (hi | hi)
    · exact h.d2 i hi
    · rcases hd3 i hi with h1 | h1
      · exact .inl h1
      · right; omega
  · rw [take_snoc _ k s hs, ksum_snoc, show plen fs s = f.2.2.ps.length by unfold plen; rw [hf]]
    exact hb2.kp k3 hBf
  · exact (h.kp.trans hk2 (fun _ _ h => .inl h)).trans k3 (fun _ _ h => .inr h)
set_option maxRecDepth 100000 in
set_option maxHeartbeats 4000000 in
theorem crash_any (D : Nat → Prop) (w : World) (g fm : Nat) (fv : Value) (steps : Nat) (fs : List Fe) (ft : List (Int × Int)) (es : List (ByteArray × Value × Nat)) (c : Nat) (hs : Sr D w g fm fv steps fs ft es c) (ao : Option Addr) (zs : List Int) (n cap : Nat) (hn : n = zs.length) (hb : n ≤ 1000000000000) (hz : ∀ z ∈ zs, 0 ≤ z) (hS : Src .i64 w ao zs) (hao : 0 < n → ∀ b off, ao = some ⟨b, off, none⟩ → b < w.heap.size) :
    Calls Try.prog 11 #[.pointer (some ⟨g, 0, none⟩), .slice ao n cap] w fun e w' => ∃ D' g' fm' fs' es' c', e = .returned (.tuple #[.pointer (some ⟨g', 0, none⟩), .int .i64 0]) ∧ Sr D' w' g' fm' (.slice none 0 0) 0 fs' [] es' c' ∧ fs'.map (fun f => (f.1, f.2.2)) = crl fs zs 0 (nms fs) ∧ (∀ i, i ∈ ownS g' fm' (.slice none 0 0) fs' → w.heap.size ≤ i) ∧ (∀ i, D i → D' i) ∧ (∀ i, D' i → D i ∨ w.heap.size ≤ i) ∧ Kp (fun _ => False) w w' := by
  have c0 : w.cell? ⟨g, 0, none⟩ = some (.map (some fm)) := hs.st.cell 0
  have hmm := @run_makeMap Try.prog
  have hany : zs.any (fun z => decide (z < 0)) = false := by
    rw [List.any_eq_false]
    intro z hz'
    have := hz z hz'
    simp; omega
  have HS : Hid (Sr D w g fm fv steps fs ft es c) := hs
  have HN : Hid (n = zs.length) := hn
  have HZ : Hid (∀ z ∈ zs, 0 ≤ z) := hz
  have HSR : Hid (Src .i64 w ao zs) := hS
  have HAO : Hid (0 < n → ∀ b off, ao = some ⟨b, off, none⟩ → b < w.heap.size) := hao
  have st := St.new 54 (w.alloc (.map #[] 0)) #[.map (some w.heap.size), .slice none 0 0, .int .i64 0]
  have m1 : Mp Value.string ((w.alloc (.map #[] 0)).alloc (.cells #[.map (some w.heap.size), .slice none 0 0, .int .i64 0] 54)) w.heap.size [] 0 := kp_mp (F := fun _ => False) (Mp.new Value.string w) ((Kp.refl _ _).alloc _) (fun h => h)
  have k1 : Kp (fun _ => False) w ((w.alloc (.map #[] 0)).alloc (.cells #[.map (some w.heap.size), .slice none 0 0, .int .i64 0] 54)) := ((Kp.refl _ _).alloc _).alloc _
  have z1 : ((w.alloc (.map #[] 0)).alloc (.cells #[.map (some w.heap.size), .slice none 0 0, .int .i64 0] 54)).heap.size = w.heap.size + 2 := by rw [World.size_alloc, World.size_alloc]
  rw [World.size_alloc] at st
  have HST : Hid (St 54 ((w.alloc (.map #[] 0)).alloc (.cells #[.map (some w.heap.size), .slice none 0 0, .int .i64 0] 54)) (w.heap.size + 1) #[.map (some w.heap.size), .slice none 0 0, .int .i64 0]) := st
  have HM : Hid (Mp Value.string ((w.alloc (.map #[] 0)).alloc (.cells #[.map (some w.heap.size), .slice none 0 0, .int .i64 0] 54)) w.heap.size [] 0) := m1
  have HK : Hid (Kp (fun _ => False) w ((w.alloc (.map #[] 0)).alloc (.cells #[.map (some w.heap.size), .slice none 0 0, .int .i64 0] 54))) := k1
  have HZ1 : Hid (((w.alloc (.map #[] 0)).alloc (.cells #[.map (some w.heap.size), .slice none 0 0, .int .i64 0] 54)).heap.size = w.heap.size + 2) := z1
  clear st m1 k1 z1 hs hn hz hS hao
  go_enter Try.func11, Try.ntmps11
  go_wp2_with (first | (go_at_call 25; refine (none_live _ _ _ c0).mono ?_; rintro e w' ⟨rfl, h⟩; replace h := h.symm; subst h) | (go_at_call 26; refine (containsf_any ao zs n cap w HN.out hb HSR.out).mono ?_; rintro e w' ⟨rfl, h⟩; subst h; rw [hany]))
  generalize (w.alloc (.map #[] 0)).alloc (.cells #[.map (some w.heap.size), .slice none 0 0, .int .i64 0] 54) = W1 at HST HM HK HZ1 ⊢
  refine (picker_any ao n cap W1).mono ?_
  rintro e w2 ⟨rfl, hw2⟩
  rw [show W1.heap.size + 1 = w.heap.size + 3 by rw [HZ1.out], HZ1.out]
  have sp : St 24 w2 (w.heap.size + 2) #[.slice ao n cap] := by
    rw [hw2]
    have := St.new 24 W1 #[.slice ao n cap]
    rw [HZ1.out] at this
    exact this.kp (F := fun _ => False) ((Kp.refl _ _).alloc _) (fun h => h)
  have sn : St 3 w2 (w.heap.size + 3) #[.int .i64 0] := by
    rw [hw2]
    have := St.new 3 (W1.alloc (.cells #[.slice ao n cap] 24)) #[.int .i64 0]
    rw [World.size_alloc, HZ1.out] at this
    exact this
  have k12 : Kp (fun _ => False) W1 w2 := by rw [hw2]; exact ((Kp.refl _ _).alloc _).alloc _
  have z2 : w2.heap.size = w.heap.size + 4 := by rw [hw2, World.size_alloc, World.size_alloc, HZ1.out]
  have HSP : Hid (St 24 w2 (w.heap.size + 2) #[.slice ao n cap]) := sp
  have HSN : Hid (St 3 w2 (w.heap.size + 3) #[.int .i64 0]) := sn
  have K2 : Hid (Kp (fun _ => False) w w2) := HK.out.trans k12 (fun _ _ h => h)
  have HST2 : Hid (St 54 w2 (w.heap.size + 1) #[.map (some w.heap.size), .slice none 0 0, .int .i64 0]) := HST.out.kp k12 (fun h => h)
  have HM2 : Hid (Mp Value.string w2 w.heap.size [] 0) := kp_mp HM.out k12 (fun h => h)
  have HZ2 : Hid (w2.heap.size = w.heap.size + 4) := z2
  clear hw2 sp sn k12 z2 HST HM HK HZ1 hmm hany c0
  go_wp2_with fail
  refine (names_any D w2 g fm fv steps fs ft es c (HS.out.kp K2.out (fun _ _ h => h) (fun _ _ h => h))).mono ?_
  rintro e W0 ⟨nv, rfl, hrow, -, hbel⟩
  obtain ⟨na, nc, hnv⟩ := ownsRow_shape hrow
  subst hnv
  have hnf := HS.out.nf
  have HROW : Hid (W0.ownsRow w2.heap.size 9 1 (.slice na fs.length nc) fs.length ((snm fs).map encStr)) := hrow
  have K0 : Hid (Kp (fun _ => False) w2 W0) := Kp.of_below hbel
  clear hrow hbel
  go_wp2_with fail
  have HG' : Hid (w.heap.size + 1 = w.heap.size + 1) := rfl
  have HB : Hid (w.heap.size + 3 = w.heap.size + 3) := rfl
  have HP : Hid (w.heap.size + 2 = w.heap.size + 2) := rfl
  have HF' : Hid (w.heap.size = w.heap.size) := rfl
  have K0w : Hid (Kp (fun _ => False) w W0) := K2.out.trans K0.out (fun _ _ h => h)
  have H0 : Hid (CrI D w W0 fs zs n (w.heap.size + 3) (w.heap.size + 1) w.heap.size 0 W0 D [] [] 0) := by
    have hz0 := K0.out.size
    have hz2 := HZ2.out
    have hdl := HS.out.db
    refine ⟨sr_new D (HST2.out.kp K0.out (fun h => h)) (kp_mp HM2.out K0.out (fun h => h)) (by omega) (fun i hi => by have := hdl i hi; omega) (fun i hi => by have := hdl i hi; omega), rfl, fun i hi => ?_, fun i hi => hi, fun i hi => .inl hi, ?_, Kp.refl _ _⟩
    · rcases mem_ownS.1 hi with h1 | h1 | h1 | ⟨f, hf, _⟩
      · omega
      · omega
      · cases h1
      · cases hf
    · have := HSN.out.kp K0.out (fun h => h)
      simpa [ksum] using this
  have HSP0 : Hid (St 24 W0 (w.heap.size + 2) #[.slice ao n cap]) := HSP.out.kp K0.out (fun h => h)
  have HZ0 : Hid (w.heap.size + 4 ≤ W0.heap.size) := by show _ ≤ _; rw [← HZ2.out]; exact K0.out.size
  have HROW2 : Hid (W0.ownsRow (w.heap.size + 4) 9 1 (.slice na fs.length nc) fs.length ((snm fs).map encStr)) := by have := HROW.out; rw [HZ2.out] at this; exact this
  clear HROW K0 K2 HST2 HM2 HSP HSN HZ2
  generalize hg' : w.heap.size + 1 = g' at H0 ⊢
  generalize hBp : w.heap.size + 2 = Bp at HSP0 ⊢
  generalize hBn : w.heap.size + 3 = Bn at H0 ⊢
  generalize hfm : w.heap.size = fm' at H0 ⊢
  have E1 : Hid (w.heap.size + 2 = Bp ∧ w.heap.size + 3 = Bn ∧ w.heap.size = fm') := ⟨hBp, hBn, hfm⟩
  clear hg' hBp hBn hfm HG' HB HP HF'
  go_loopw [9, 22] (fun _ iv wr => ∃ (k : Nat) (D' : Nat → Prop) (fs' : List Fe) (es' : List (ByteArray × Value × Nat)) (c' : Nat), k ≤ fs.length ∧ iv = .int .i64 k ∧ CrI D w W0 fs zs n Bn g' fm' k wr D' fs' es' c') (fun _ iv _ => fs.length - (intOf iv).toNat)
  case atStart => exact ⟨0, D, [], [], 0, Nat.zero_le _, rfl, H0.out⟩
  case round =>
    clear H0
    obtain ⟨k, D', fs', es', c', hk, rfl, hI⟩ := hrel
    have HI : Hid (CrI D w W0 fs zs n Bn g' fm' k wr D' fs' es' c') := hI
    clear hI
    obtain ⟨e1, e2, e3⟩ := E1.out
    have hW0 := HZ0.out
    have kwr : Kp (fun _ => False) w wr := K0w.out.trans HI.out.kp (fun i hi h => by omega)
    by_cases hlt : k < fs.length
    · obtain ⟨s, hs⟩ : ∃ s, (nms fs)[k]? = some s := ⟨_, List.getElem?_eq_getElem (by rw [nms_len]; exact hlt)⟩
      obtain ⟨gb, off, cap', hpe, hgl1, hgl2, hcs⟩ := own_cells HROW2.out (by omega)
      obtain ⟨rfl, rfl⟩ : na = some ⟨gb, off, none⟩ ∧ nc = cap' := by
        simp only [Value.slice.injEq] at hpe; exact ⟨hpe.1, hpe.2.2⟩
      have x0 := hcs k hlt
      rw [nms_enc, List.getElem?_map, hs] at x0
      have x1 : wr.cell? ⟨gb, off + k, none⟩ = some (.string s) := kp_cell HI.out.kp x0 (by omega)
      obtain ⟨f, hf⟩ := fget_some ((nms_perm fs).mem_iff.1 (List.mem_of_getElem? hs))
      have hkk := HS.out.keys
      have hno : s ∉ (nms fs).take k := nodup_take ((nms_perm fs).nodup_iff.2 hkk.2) hs
      have hff : f ∈ fs ∧ f.1 = s := by obtain ⟨l, r, h1, h2⟩ := fget_split hf; exact ⟨by rw [h1]; simp, h2⟩
      have hnm : nmd s = true := by rw [← hff.2]; exact HS.out.nm f hff.1
      have hsw := HS.out.kp kwr (fun _ _ h => h) (fun _ _ h => h)
      have hfr := hsw.fr f hff.1
      have d0 : wr.cell? ⟨g, 0, none⟩ = some (.map (some fm)) := hsw.st.cell 0
      have d1 : wr.cell? ⟨g', 0, none⟩ = some (.map (some fm')) := HI.out.sr.st.cell 0
      have hmp := hsw.mp
      have hget : mget es s = some (.pointer (some ⟨f.2.1.fb, 0, none⟩)) := by rw [mget_fs HS.out.ef, hf]; rfl
      have HX : Hid ((nms fs)[k]? = some s ∧ fget fs s = some f ∧ s ∉ (nms fs).take k ∧ nmd s = true) := ⟨hs, hf, hno, hnm⟩
      have HFR : Hid (Fr D wr f.2.1 f.2.2.sz f.2.2.L f.2.2.ps) := hfr
      have HKW : Hid (Kp (fun _ => False) w wr) := kwr
      have HG : Hid (mget es s = some (.pointer (some ⟨f.2.1.fb, 0, none⟩))) := hget
      have HMP : Hid (Mp Value.string wr fm es c) := hmp
      clear x0 hcs hpe hkk hs hf hno hnm hsw hfr kwr hget hmp hff
      clear e1 e2 e3 hW0
      go_wp2_with fail
      refine wp_region_G (fun w' => w'.cell? ⟨g', 0, none⟩ = some (.map (some fm')) ∧ w'.cell? ⟨g, 0, none⟩ = some (.map (some fm)) ∧ Mp Value.string w' fm es c) [13] hmix ⟨d1, d0, HMP.out⟩ (fun h0 => ?_)
      refine wpAnyG_takeW (i := 0) (v := .pointer (some ⟨g', 0, none⟩)) rfl (by kernel_rfl) (fun _ _ _ h => h) (Or.inl ⟨by rfl, fun w _ => by go_simp⟩) ?_
      refine wpAnyG_takeW (i := 1) (v := .pointer (some ⟨g', 0, none⟩)) rfl (by kernel_rfl) (fun _ _ _ h => h) (Or.inl ⟨by rfl, fun w _ => by go_simp⟩) ?_
      refine wpAnyG_takeW (i := 2) (v := .pointer (some ⟨g', 0, none⟩)) rfl (by kernel_rfl) (fun _ _ _ h => h) (Or.inl ⟨by rfl, fun w _ => by go_simp⟩) ?_
      refine wpAnyG_take (i := 3) (v := .map (some fm')) rfl (by kernel_rfl) (fun _ _ _ h => h) (Or.inl ⟨by rfl, fun w hSw => by (try dsimp only at hSw); go_simp⟩) h0 ?_
      refine wpAnyG_takeW (i := 4) (v := .string s) rfl (by kernel_rfl) (fun _ _ _ h => h) (Or.inl ⟨by rfl, fun w _ => by go_simp⟩) ?_
      refine wpAnyG_takeW (i := 5) (v := .pointer (some ⟨g, 0, none⟩)) rfl (by kernel_rfl) (fun _ _ _ h => h) (Or.inl ⟨by rfl, fun w _ => by go_simp⟩) ?_
      refine wpAnyG_takeW (i := 6) (v := .pointer (some ⟨g, 0, none⟩)) rfl (by kernel_rfl) (fun _ _ _ h => h) (Or.inl ⟨by rfl, fun w _ => by go_simp⟩) ?_
      refine wpAnyG_takeW (i := 7) (v := .pointer (some ⟨g, 0, none⟩)) rfl (by kernel_rfl) (fun _ _ _ h => h) (Or.inl ⟨by rfl, fun w _ => by go_simp⟩) ?_
      refine wpAnyG_take (i := 8) (v := .map (some fm)) rfl (by kernel_rfl) (fun _ _ _ h => h) (Or.inl ⟨by rfl, fun w hSw => by (try dsimp only at hSw); go_simp⟩) h0 ?_
      refine wpAnyG_takeW (i := 9) (v := .string s) rfl (by kernel_rfl) (fun _ _ _ h => h) (Or.inl ⟨by rfl, fun w _ => by go_simp⟩) ?_
      refine wpAnyG_take (i := 10) (v := .pointer (some ⟨f.2.1.fb, 0, none⟩)) rfl (by kernel_rfl) (fun _ _ _ h => h) (Or.inl ⟨by rfl, fun w hSw => by (have hl := lk_run hSw.2.2 HG.out); go_simp⟩) h0 ?_
      refine wpAnyG_takeW (i := 11) (v := .func (.func 51) #[] #[.pointer (some ⟨Bn, 0, none⟩), .pointer (some ⟨Bp, 0, none⟩)]) rfl (by kernel_rfl) (fun _ _ _ h => h) (Or.inl ⟨by rfl, fun w _ => by go_simp⟩) ?_
      refine wpAnyG_one (i := 12) (by kernel_rfl) rfl (fun K1 hK => ?_)
      go_simp
      have hE := E1.out
      have hI := HI.out
      have hW0 := HZ0.out
      have hsl := hI.kp.size
      have kx : Kp (fun _ => False) wr wr.drew := (Kp.refl _ _).drew
      have hDl := HS.out.db
      have hol := HS.out.lt
      have hff : f ∈ fs := fget_mem HX.out.2.1
      refine (crashed_any D wr.drew f.2.1 f.2.2.sz f.2.2.L f.2.2.ps (HFR.out.kp kx (fun _ _ h => h) (fun _ _ h => h)) Bn Bp ao zs n cap (ksum fs ((nms fs).take k)) (by omega) HN.out hb HZ.out (hI.b.kp kx (fun h => h)) ((HSP0.out.kp hI.kp (by omega)).kp kx (fun h => h)) (HSR.out.kp (HKW.out.trans kx (fun _ _ h => h)) (fun _ _ _ h => h)) (fun h0 b off e he => by have := HAO.out h0 b off e; omega) (fun hm => by have := hol Bn (mem_ownS.2 (.inr (.inr (.inr ⟨f, hff, hm⟩)))); omega) (fun hD => by have := hDl Bn hD; omega)).mono ?_
      rintro e w2 ⟨D2, a2, rfl, hf2, ho2, hd2, hd3, hb2, hk2⟩
      have hk2' : Kp (fun i => i = Bn) wr w2 := (kx.mono (fun _ _ h => h.elim)).trans hk2 (fun _ _ h => h)
      have hmp2 : Mp Value.string w2 fm' es' c' := kp_mp hI.sr.mp hk2' (by omega)
      have hg'n : g' ≠ Bn := (hI.ow g' (mem_ownS.2 (.inl rfl))).2
      have hgn : g ≠ Bn := fun e => by have := hol g (mem_ownS.2 (.inl rfl)); omega
      have hfn : fm ≠ Bn := fun e => by have := hol fm (mem_ownS.2 (.inr (.inl rfl))); omega
      go_wp2_with fail
      refine hK.out _ _ (fun _ h => ⟨kp_cell hk2 h.1 hg'n, kp_cell hk2 h.2.1 hgn, kp_mp h.2.2 hk2 hfn⟩) ?_
      clear hK K1
      refine wpAnyG_one (i := 13) (by kernel_rfl) rfl (fun K1 hK => ?_)
      refine step_update_mp rfl (.tmp 29) (.tmp 30) (.tmp 38) rfl ky9 Try.underlying52 fm' c' es' (by simp [Act.eval]) hmp2 s (by simp [Act.eval]) (.pointer (some ⟨a2.fb, 0, none⟩)) (by simp [Act.eval]) ?_
      intro w3 m3 g3
      have k3 : Kp (fun i => i = fm') w2 w3 := Kp.of_grown g3 (fun i e => by cases e; rfl)
      have HC : Hid (CrI D w W0 fs zs n Bn g' fm' (k + 1) w3 (fun i => D' i ∨ D2 i) (fs' ++ [(s, a2, ⟨f.2.2.sz, ovs f.2.2.L (pks zs (ksum fs ((nms fs).take k)) f.2.2.ps), []⟩)]) (mput es' s (.pointer (some ⟨a2.fb, 0, none⟩)) c') (mclk es' s c')) :=
        hI.step HX.out.1 HX.out.2.1 HX.out.2.2.1 hlt HS.out.nf HX.out.2.2.2 hDl (by omega) ⟨by omega, by omega⟩ hf2 ho2 hd3 hb2 hk2' m3 k3 (by omega)
      refine hK.out _ _ (fun h => absurd h (by decide)) ?_
      clear hK K1
      refine wpAnyG_done (by kernel_rfl) ?_ _
      clear m3 g3 k3 hmp2 hf2 ho2 hd2 hd3 hb2 hk2 hk2' hI hE kx hDl hol hg'n hgn hfn h0 d0 d1 x1
      go_wp2
      exact ⟨⟨k + 1, _, _, _, _, hlt, rfl, HC.out⟩, by simp only [intOf]; omega⟩
    · obtain rfl : k = fs.length := by omega
      have hI := HI.out
      clear hlt
      go_wp2
      go_ret2
      refine ⟨D', g', fm', fs', es', c', rfl, hI.sr, ?_, fun i hi => (hI.ow i hi).1, hI.d, fun i hi => ?_, kwr⟩
      · have := hI.ev
        rw [← nms_len, List.take_length] at this
        exact this
      · rcases hI.d2 i hi with h | h
        · exact .inl h
        · right; omega
end Go.Proofs.Ytalicohflfildaa
