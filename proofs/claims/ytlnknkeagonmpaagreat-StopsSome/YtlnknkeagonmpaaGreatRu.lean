/- The document's store: Write. -/
import Derived.Test.YtlnknkeagonmpaaGreatRt
namespace Go.Proofs.YtlnknkeagonmpaaGreat
open Go.RowKit

theorem Tryz.info101 : (Tryz.prog.info? 101).map (fun i => (i.zero, i.size, i.bytes)) = some (some (.agg #[.int .i64 0, .string ⟨#[]⟩]), 2, 24) := by kernel_rfl
theorem rps_cons (x : Nat × ByteArray) (ps : List (Nat × ByteArray)) : rps (x :: ps) = .int .i64 (x.1 : Int) :: .string x.2 :: rps ps := rfl
theorem rps_len (ps : List (Nat × ByteArray)) : (rps ps).length = ps.length * 2 := by
  induction ps with
  | nil => rfl
  | cons t fs ih => rw [rps_cons]; simp only [List.length_cons, ih]; omega
theorem rps_append (a b : List (Nat × ByteArray)) : rps (a ++ b) = rps a ++ rps b := by simp [rps]
theorem rps_one (ps : List (Nat × ByteArray)) : ∀ u ∈ rps ps, u.oneCell' = true := by
  intro u hu
  simp only [rps, List.mem_flatMap] at hu
  obtain ⟨x, hx, hu⟩ := hu
  simp at hu
  rcases hu with rfl | rfl <;> rfl
theorem rps_get (ps : List (Nat × ByteArray)) (i : Nat) (hi : i < ps.length) : (rps ps)[i * 2]? = some (.int .i64 ((ps.getD i (0, ⟨#[]⟩)).1 : Int)) ∧ (rps ps)[i * 2 + 1]? = some (.string (ps.getD i (0, ⟨#[]⟩)).2) := by
  induction ps generalizing i with
  | nil => simp at hi
  | cons f fs ih =>
    rw [rps_cons]
    cases i with
    | zero => exact ⟨rfl, rfl⟩
    | succ i =>
      have := ih i (by simp at hi; omega)
      rw [show (i + 1) * 2 = i * 2 + 1 + 1 by omega]
      simpa using this
theorem psrc_news {D : Nat → Prop} {w : World} {ao : Option Addr} {n cap : Nat} {ps : List (Nat × ByteArray)} (h : PSrc D w (.slice ao n cap) ps) : n = ps.length ∧ ps.length ≤ cap ∧ (ao = none → ps.length = 0 ∧ cap = 0) ∧ ∀ ad, ao = some ad → ∀ j u, (rps ps)[j]? = some u → w.cell? (ad.add j) = some u := by
  obtain ⟨ao', cap', e, h1, h2, h3⟩ := h
  simp only [Value.slice.injEq] at e
  obtain ⟨rfl, rfl, rfl⟩ := e
  refine ⟨rfl, h1, fun e => ⟨by have := h2 e; omega, h2 e⟩, fun ad e j u hu => ?_⟩
  have hp : 0 < ps.length := by
    by_cases h0 : 0 < ps.length
    · exact h0
    · obtain rfl : ps = [] := List.eq_nil_of_length_eq_zero (by omega)
      simp [rps] at hu
  obtain ⟨b, off, e1, _, _, h4⟩ := h3 hp
  rw [e] at e1
  cases e1
  rw [add_o]
  exact h4 j u hu
theorem strOfNums_size (xs : List Int) : (strOfNums xs).size = xs.length := by simp [strOfNums, ByteArray.size]
/-- The pieces of bytes that go to a place, where they are cut. -/
def pcb (p : Nat) (xs : List Int) (l : List (Nat × Nat)) : List (Nat × ByteArray) := l.map (fun x => (x.1, strOfNums ((xs.drop (x.1 - p)).take x.2)))
/-- A file with bytes written to a place. -/
def rfw (f : Rf) (p m : Nat) (xs : List Int) : Rf := ⟨f.name, if 0 < m then f.last ++ nts (p + m - f.last.size) else f.last, f.ps ++ pcb p xs (pcs p m)⟩
theorem pcb_len (p : Nat) (xs : List Int) (l : List (Nat × Nat)) : (pcb p xs l).length = l.length := by simp [pcb]
theorem rfw_size (f : Rf) (p m : Nat) (xs : List Int) : (rfw f p m xs).last.size = if 0 < m then max f.last.size (p + m) else f.last.size := by
  unfold rfw
  dsimp only
  split
  · rw [ByteArray.size_append, nts_size]; omega
  · rfl
theorem rfw_pw (f : Rf) (p m : Nat) (xs : List Int) (hm : m = xs.length) (h : ∀ q ∈ f.ps, q.1 + q.2.size ≤ f.last.size) : ∀ q ∈ (rfw f p m xs).ps, q.1 + q.2.size ≤ (rfw f p m xs).last.size := by
  intro q hq
  rw [rfw_size]
  rcases List.mem_append.1 (show q ∈ f.ps ++ pcb p xs (pcs p m) from hq) with h1 | h1
  · have := h q h1
    split <;> omega
  · unfold pcb at h1
    obtain ⟨x, hx, rfl⟩ := List.mem_map.1 h1
    have h2 := pcs_mem m p x hx
    have h3 : (strOfNums ((xs.drop (x.1 - p)).take x.2)).size ≤ x.2 := by rw [strOfNums_size, List.length_take]; omega
    rw [if_pos (by omega)]
    dsimp only
    omega
/-- The row of pieces that Write makes, k bytes along. -/
structure RwI (W : World) (cs : Array Value) (p m : Nat) (xs : List Int) (ps : List (Nat × ByteArray)) (k done : Nat) (pv : Value) (w : World) : Prop where
  ex : ∃ l, pcs p m = l ++ pcs (p + k) (m - k) ∧ l.length = done ∧ w.ownsRow (W.heap.size + 1) 101 2 pv (ps.length + done) (rps (ps ++ pcb p xs l))
  kp : Kp (fun _ => False) W w
  st : St 75 w W.heap.size cs
  le : k ≤ m
section
variable {W : World} {cs : Array Value} {p m : Nat} {xs : List Int} {ps : List (Nat × ByteArray)} {k done : Nat} {pv pv' : Value} {w w' : World}
theorem RwI.next (h : RwI W cs p m xs ps k done pv w) (hk : k < m) {l : List (Nat × Nat)} (h1 : pcs p m = l ++ pcs (p + k) (m - k)) (h2 : l.length = done)
    (hr : w'.ownsRow (W.heap.size + 1) 101 2 pv' (ps.length + done + 1) (rps (ps ++ pcb p xs l) ++ [.int .i64 ((p + k : Nat) : Int), .string (strOfNums ((xs.drop k).take (cutl (p + k) (m - k))))])) (hkp : Kp (fun i => W.heap.size + 1 ≤ i) w w') :
    RwI W cs p m xs ps (k + cutl (p + k) (m - k)) (done + 1) pv' w' := by
  have hc := cutl_le (p + k) (m - k)
  refine ⟨⟨l ++ [(p + k, cutl (p + k) (m - k))], ?_, by simp [h2], ?_⟩, h.kp.trans hkp (fun i h1 h2 => by omega), h.st.kp hkp (by omega), by omega⟩
  · rw [h1, pcs_step _ _ (show 0 < m - k by omega), List.append_assoc, show p + (k + cutl (p + k) (m - k)) = p + k + cutl (p + k) (m - k) by omega, show m - (k + cutl (p + k) (m - k)) = m - k - cutl (p + k) (m - k) by omega]
    rfl
  · rw [show ps.length + (done + 1) = ps.length + done + 1 by omega]
    have e : rps (ps ++ pcb p xs (l ++ [(p + k, cutl (p + k) (m - k))])) = rps (ps ++ pcb p xs l) ++ [.int .i64 ((p + k : Nat) : Int), .string (strOfNums ((xs.drop k).take (cutl (p + k) (m - k))))] := by
      rw [show pcb p xs (l ++ [(p + k, cutl (p + k) (m - k))]) = pcb p xs l ++ [(p + k, strOfNums ((xs.drop k).take (cutl (p + k) (m - k))))] by simp [pcb], ← List.append_assoc, rps_append]
      rfl
    rw [e]
    exact hr
theorem RwI.fin (h : RwI W cs p m xs ps m done pv w) : w.ownsRow (W.heap.size + 1) 101 2 pv (ps.length + (pcs p m).length) (rps (ps ++ pcb p xs (pcs p m))) := by
  obtain ⟨l, h1, h2, h3⟩ := h.ex
  rw [Nat.sub_self, pcs_zero, List.append_nil] at h1
  rw [h1, h2]
  exact h3
theorem RwI.lt (h : RwI W cs p m xs ps k done pv w) : done ≤ m := by
  obtain ⟨l, h1, h2, h3⟩ := h.ex
  have := pcs_len m p
  rw [h1, List.length_append] at this
  omega
theorem RwI.shape (h : RwI W cs p m xs ps k done pv w) : ∃ ao c, pv = .slice ao (ps.length + done) c := by
  obtain ⟨l, h1, h2, h3⟩ := h.ex
  exact ownsRow_shape h3
end
theorem rcs_set (fs : List (Rf × Value)) (i : Nat) (x : Rf × Value) (hi : i < fs.length) : rcs (fs.set i x) = (((rcs fs).set (i * 3) (.string x.1.name)).set (i * 3 + 1) (.string x.1.last)).set (i * 3 + 2) x.2 := by
  induction fs generalizing i with
  | nil => simp at hi
  | cons f fs ih =>
    have h1 : ∀ (y : Rf × Value) t, rcs (y :: t) = .string y.1.name :: .string y.1.last :: y.2 :: rcs t := fun _ _ => rfl
    cases i with
    | zero => rfl
    | succ i =>
      rw [List.set_cons_succ, h1, h1, ih i (by simp at hi; omega), show (i + 1) * 3 = i * 3 + 1 + 1 + 1 by omega]
      rfl
theorem psrc_row {D : Nat → Prop} {w : World} {base n : Nat} {v : Value} {ps : List (Nat × ByteArray)} (h : w.ownsRow base 101 2 v n (rps ps)) (hn : n = ps.length) (hD : ∀ b, v.ownBlock = some b → D b) : PSrc D w v ps := by
  subst hn
  rcases h.2 with ⟨rfl, h1⟩ | ⟨g, cap, cur, rfl, h1, h2, h3, h4, h5, h6⟩
  · exact ⟨none, 0, by rw [h1], by omega, fun _ => rfl, fun hp => by omega⟩
  · refine ⟨_, cap, rfl, h3, fun e => by (cases e), fun _ => ⟨g, 0, rfl, hD g rfl, (Array.getElem?_eq_some_iff.1 h2).1, fun j u hu => ?_⟩⟩
    have := h.cells (g := g) rfl j u hu
    rwa [add_z, ← Nat.zero_add j] at this
/-- A file is put back into its row. -/
theorem Rs.put3 {D D' : Nat → Prop} {w X : World} {g : Nat} {fv : Value} {steps : Nat} {fs : List (Rf × Value)} {b fc i : Nat} {nf : Rf} {pv : Value} (h : Rs D w g fv steps fs) (hfv : fv = .slice (some ⟨b, 0, none⟩) fs.length fc) (hi : i < fs.length) (K : Kp (fun _ => False) w X)
    (hps : PSrc D' X pv nf.ps) (hD : ∀ j, D j → D' j) (hN : ∀ j, D' j → D j ∨ w.heap.size ≤ j) (hD' : ∀ j, D' j → j < X.heap.size) (hn : nf.ps.length ≤ 1000000000) (hw : ∀ q ∈ nf.ps, q.1 + q.2.size ≤ nf.last.size) (hl : nf.last.size ≤ 1000000000) :
    Rs D' (((X.setCell ⟨b, i * 3, none⟩ (.string nf.name)).setCell ⟨b, i * 3 + 1, none⟩ (.string nf.last)).setCell ⟨b, i * 3 + 2, none⟩ pv) g fv steps (fs.set i (nf, pv)) ∧ Kp (fun j => fv.ownBlock = some j) w (((X.setCell ⟨b, i * 3, none⟩ (.string nf.name)).setCell ⟨b, i * 3 + 1, none⟩ (.string nf.last)).setCell ⟨b, i * 3 + 2, none⟩ pv) := by
  have hX := h.kp K (fun h => h) (fun _ _ h => h) (fun _ _ h => h)
  have hob : fv.ownBlock = some b := by rw [hfv]; rfl
  have kk : Kp (fun j => j = b) X (((X.setCell ⟨b, i * 3, none⟩ (.string nf.name)).setCell ⟨b, i * 3 + 1, none⟩ (.string nf.last)).setCell ⟨b, i * 3 + 2, none⟩ pv) := ((kp_setCell _ b _ _ (fun j => j = b) rfl).trans (kp_setCell _ b _ _ (fun j => j = b) rfl) (fun _ _ h => h)).trans (kp_setCell _ b _ _ (fun j => j = b) rfl) (fun _ _ h => h)
  have hbl := h.vlt b hob
  have hDb : ∀ j, D' j → ¬ j = b := fun j hj e => by
    rcases hN j hj with h1 | h1
    · exact (h.dn j h1).2 (e ▸ hob)
    · omega
  have hgl := h.st.lt
  have _u := hps
  refine ⟨⟨hX.st.kp kk (fun e => h.ng (by rw [hob, e])), ?_, fun x hx => ?_, h.ng, fun j hj => ⟨fun e => ?_, fun e => ?_⟩, fun j hj => Nat.lt_of_lt_of_le (hD' j hj) kk.size, h.sb, by rw [List.length_set]; exact h.nf, fun x hx => ?_, fun x hx => ?_, fun x hx => ?_⟩, ?_⟩
  · rcases hX.row.2 with ⟨_, h1⟩ | ⟨g', cap', cur, e, h1, h2, h3, h4, h5, h6⟩
    · omega
    · rw [hfv] at e
      simp only [Value.slice.injEq, Option.some.injEq, Addr.mk.injEq] at e
      obtain ⟨⟨rfl, -⟩, -, rfl⟩ := e
      have s1 : St 75 X b cur := h2
      have s2 := ((s1.set (i * 3) (.string nf.name)).set (i * 3 + 1) (.string nf.last)).set (i * 3 + 2) pv
      refine ⟨by rw [rcs_len], .inr ⟨b, fc, _, by rw [hfv, List.length_set], h1, s2, by rw [List.length_set]; exact h3, h4, by simpa using h5, ?_⟩⟩
      rw [rcs_set fs i (nf, pv) hi, ← h6, List.length_set]
      simp [Array.toList_setIfInBounds, List.take_set]
  · rcases List.mem_or_eq_of_mem_set hx with h1 | rfl
    · exact ((hX.pc x h1).mono hD).kp kk hDb
    · exact hps.kp kk hDb
  · rcases hN j hj with h1 | h1
    · exact (h.dn j h1).1 e
    · omega
  · rw [hob] at e
    exact hDb j hj (by cases e; rfl)
  · rcases List.mem_or_eq_of_mem_set hx with h1 | rfl
    · exact h.np x h1
    · exact hn
  · rcases List.mem_or_eq_of_mem_set hx with h1 | rfl
    · exact h.pw x h1
    · exact hw
  · rcases List.mem_or_eq_of_mem_set hx with h1 | rfl
    · exact h.lb x h1
    · exact hl
  · exact (K.mono (fun _ _ h => h.elim)).trans kk (fun j _ e => by rw [hob, e])
set_option maxRecDepth 100000 in
set_option maxHeartbeats 1000000 in
theorem rwrite_err (s : ByteArray) (v : Value) (w : World) (at0 : Int) (ao : Option Addr) (m c : Nat) (e0 i0 : Int) (hf : Calls Tryz.prog 51 #[v, .string s] w fun e w' => e = .returned (.tuple #[.int .i64 i0, .int .i64 e0]) ∧ w' = w) (he : e0 = 2 ∨ e0 = 7) :
    Calls Tryz.prog 25 #[v, .string s, .int .i64 at0, .slice ao m c] w fun e w' => e = .returned (.int .i64 e0) ∧ w' = w := by
  have HF := hid hf
  clear hf
  rcases he with rfl | rfl
  · go_enter Tryz.func25, Tryz.ntmps25
    go_wp2_with (first | (go_at_call 51; refine HF.out.mono ?_; rintro _ _ ⟨rfl, rfl⟩))
    go_ret
    exact ⟨rfl, rfl⟩
  · go_enter Tryz.func25, Tryz.ntmps25
    go_wp2_with (first | (go_at_call 51; refine HF.out.mono ?_; rintro _ _ ⟨rfl, rfl⟩))
    go_ret
    exact ⟨rfl, rfl⟩
set_option maxRecDepth 100000 in
set_option maxHeartbeats 1000000 in
theorem rwrite_rng (s : ByteArray) (v : Value) (w : World) (at0 : Int) (ao : Option Addr) (m c : Nat) (i0 : Int) (hf : Calls Tryz.prog 51 #[v, .string s] w fun e w' => e = .returned (.tuple #[.int .i64 i0, .int .i64 0]) ∧ w' = w) (h0 : at0 < 0) :
    Calls Tryz.prog 25 #[v, .string s, .int .i64 at0, .slice ao m c] w fun e w' => e = .returned (.int .i64 4) ∧ w' = w := by
  have HF := hid hf
  clear hf
  go_enter Tryz.func25, Tryz.ntmps25
  go_wp2_with (first | (go_at_call 51; refine HF.out.mono ?_; rintro _ _ ⟨rfl, rfl⟩))
  go_ret
  exact ⟨rfl, rfl⟩
set_option maxRecDepth 100000 in
set_option maxHeartbeats 4000000 in
theorem rwrite_good (D : Nat → Prop) (w : World) (g : Nat) (fv : Value) (steps : Nat) (fs : List (Rf × Value)) (h : Rs D w g fv steps fs) (s : ByteArray) (hn : nmd s = true) (i : Nat) (hi : i < fs.length) (he : rnm fs i = s) (hb : ∀ j, j < i → rnm fs j ≠ s) (hsb : steps < 1000000000)
    (p m cap : Nat) (ao : Option Addr) (xs : List Int) (hm : m = xs.length) (hpm : p + m ≤ 268435456) (hcap : m ≤ cap) (hS : Src .u8 w ao xs) (hdis : 0 < m → ∀ b off, ao = some ⟨b, off, none⟩ → b ≠ g) (hnb : (fs.getD i zrf).1.ps.length + m ≤ 1000000000) :
    Calls Tryz.prog 25 #[.pointer (some ⟨g, 0, none⟩), .string s, .int .i64 p, .slice ao m cap] w fun e w' => e = .returned (.int .i64 0) ∧ ∃ D' pv', Rs D' w' g fv (steps + 1) (fs.set i (rfw (fs.getD i zrf).1 p m xs, pv')) ∧ Kp (fun j => j = g ∨ fv.ownBlock = some j) w w' ∧ (∀ j, D j → D' j) ∧ ∀ j, D' j → D j ∨ w.heap.size ≤ j := by
  have HF := hid (rfind_at D w g fv steps fs h s hn i hi he hb)
  obtain ⟨b, fc, hfv, _⟩ := h.cells (by omega)
  have HR := hid h
  have HSR := hid hS
  have HDI := hid hdis
  have hnf := h.nf
  have h1 : ¬ (p : Int) < 0 := by omega
  have h2 : ¬ (268435456 : Int) < (p : Int) := by omega
  have h3 : ¬ (268435456 : Int) - (p : Int) < (m : Int) := by omega
  have HM := hid hm
  clear h hn hb he hS hdis hm
  go_enter Tryz.func25, Tryz.ntmps25
  go_wp2_with (first | (go_at_call 51; refine HF.out.mono ?_; rintro _ _ ⟨rfl, hw⟩; replace hw := hw.symm; subst hw))
  refine (rstep_any fv g steps w HR.out.st (by omega)).mono ?_
  rintro _ _ ⟨rfl, rfl⟩
  have hr1 := HR.out.step hsb
  have k1 : Kp (fun i => i = g) w (w.setCell ⟨g, 2, none⟩ (.int .i64 ((steps + 1 : Nat) : Int))) := kp_setCell w g 2 _ (fun i => i = g) rfl
  generalize w.setCell ⟨g, 2, none⟩ (.int .i64 ((steps + 1 : Nat) : Int)) = W1 at hr1 k1 ⊢
  have HR1 := hid hr1
  have HK1 := hid k1
  have c1 : W1.cell? ⟨g, 0, none⟩ = some (.slice (some ⟨b, 0, none⟩) fs.length fc) := by rw [← hfv]; exact hr1.st.cell 0
  obtain ⟨_, _, e1, hcs⟩ := hr1.cells (by omega)
  rw [hfv] at e1
  simp only [Value.slice.injEq, Option.some.injEq, Addr.mk.injEq] at e1
  obtain ⟨⟨rfl, -⟩, -, rfl⟩ := e1
  obtain ⟨y0, y1, y2⟩ := hcs i hi
  obtain ⟨pao, pcap, hpv, _⟩ := hr1.pc _ (getD_memR fs i hi)
  rw [hpv] at y2
  rw [Nat.zero_add] at y0 y1 y2
  have hlb := hr1.lb _ (getD_memR fs i hi)
  obtain ⟨cur, hcur⟩ : ∃ cur, St 75 W1 b cur := by
    rcases hr1.row.2 with ⟨e2, _⟩ | ⟨g', cap', cur, e, h1, h2, h3⟩
    · rw [hfv] at e2; simp at e2
    · rw [hfv] at e
      simp only [Value.slice.injEq, Option.some.injEq, Addr.mk.injEq] at e
      exact ⟨cur, e.1.1 ▸ h2⟩
  have HSB := hid hcur
  clear hcur
  obtain ⟨ff, hff⟩ : ∃ f, f = (fs.getD i zrf).1 := ⟨_, rfl⟩
  have HFE := hid hff
  have HPS : Hid (PSrc D W1 (.slice pao ff.ps.length pcap) ff.ps) := by
    have := hr1.pc _ (getD_memR fs i hi)
    rw [hpv, ← hff] at this
    exact this
  have HPW : Hid (∀ q ∈ ff.ps, q.1 + q.2.size ≤ ff.last.size) := by
    have := hr1.pw _ (getD_memR fs i hi)
    rw [← hff] at this
    exact this
  rw [← hff] at y0 y1 y2 hnb hlb
  clear hr1 k1 HF hcs hff hpv
  have HNW : ∀ W, Hid (Kp (fun _ => False) W1 W) → ∀ ad, pao = some ad → ∀ j u, (rps ff.ps)[j]? = some u → W.cell? (ad.add j) = some u := fun W hW => (psrc_news (HPS.out.kp hW.out (fun _ _ h => h))).2.2.2
  have HNO := hid (psrc_news HPS.out).2.2.1
  have hpcp := (psrc_news HPS.out).2.1
  go_wp2_with (first
    | (at_builtin; refine wpList_append_any rfl (.const (.slice none 0 0)) (.tmp 51) 73 rfl (W1.heap.size + 1) 101 (.agg #[.int .i64 0, .string ⟨#[]⟩]) 2 24 Tryz.underlying73 Tryz.info101 rfl (by decide) (.slice none 0 0) 0 [] rfl (World.ownsRow_nil _ _ _ _) pao ff.ps.length pcap (rps ff.ps) (by first | rfl | simp [Act.eval]) HNO.out (by rw [rps_len]) (HNW _ ((Kp.refl _ _).alloc _)) (rps_one _) (by unfold maxLen; omega) (by omega) (by simp) ?_; intro v3 w3 r3 k3 l3; rw [Nat.zero_add, List.nil_append] at r3; have k4 : Kp (fun _ => False) (W1.alloc (.cells #[.string ff.name, .string ff.last, .slice pao ff.ps.length pcap] 75)) w3 := k3.mono (fun i _ e => by cases e); have X3 := hid ((St.new 75 W1 #[.string ff.name, .string ff.last, .slice pao ff.ps.length pcap]).kp k4 (fun h => h)); have K3 : Hid (Kp (fun _ => False) W1 w3) := ((Kp.refl _ _).alloc _).trans k4 (fun _ _ h => h); have hz3 : W1.heap.size + 1 ≤ w3.heap.size := (by have := k4.size; simp [World.size_alloc] at this; omega); have R3 := hid r3; clear r3 k3 l3 k4))
  have HI0 : Hid (RwI W1 #[.string ff.name, .string ff.last, .slice pao ff.ps.length pcap] p m xs ff.ps 0 0 v3 w3) := ⟨⟨[], by simp, rfl, by simpa [pcb] using R3.out⟩, K3.out, X3.out, Nat.zero_le _⟩
  clear X3 K3 R3 hz3 y0 y1 y2 c1
  go_loopw [14, 15, 16, 17] (fun pv dv iv _ wr => ∃ k done : Nat, iv = .int .i64 k ∧ dv = .int .i64 done ∧ RwI W1 #[.string ff.name, .string ff.last, .slice pao ff.ps.length pcap] p m xs ff.ps k done pv wr) (fun _ _ iv _ _ => m - (intOf iv).toNat)
  case atStart => exact ⟨0, 0, rfl, rfl, HI0.out⟩
  case round =>
    clear HI0
    obtain ⟨k, done, rfl, rfl, hI⟩ := hrel
    have HI := hid hI
    have hkm := hI.le
    have hdm := hI.lt
    obtain ⟨va, vc, hva⟩ := hI.shape
    clear hI
    by_cases hlt : k < m
    · have hli : (k : Int) < (m : Int) := by omega
      generalize hC : Code.region 15 _ _ = C15
      go_wp2_with fail
      have hcut : min ((m : Int) - (k : Int)) (512 - ((p : Int) + (k : Int)) % 512) = ((cutl (p + k) (m - k) : Nat) : Int) := by
        unfold cutl; omega
      rw [hcut]
      have hc1 := cutl_le (p + k) (m - k)
      have hc2 := cutl_pos (a := p + k) (n := m - k) (by omega)
      obtain ⟨l, hl1, hl2, hrow⟩ := HI.out.ex
      obtain ⟨b0, o0, rfl, hsc⟩ := HSR.out (by have := HM.out; omega)
      have hbg := HDI.out (by omega) b0 o0 rfl
      have hcv : (convert 39 9 (.slice (some ⟨b0, o0 + k, none⟩) (cutl (p + k) (m - k)) (cap - k))).run Tryz.prog wr = .ok (.string (strOfNums ((xs.drop k).take (cutl (p + k) (m - k))))) wr := by
        refine run_convert_rw wr 39 9 5 Tryz.underlying39 Tryz.underlying5 Tryz.underlying9 _ _ _ _ (by rw [List.length_take, List.length_drop, ← HM.out]; omega) (fun _ => ⟨b0, o0 + k, rfl, fun j hj => ?_⟩)
        have := kp_cell HI.out.kp (kp_cell HK1.out (hsc (k + j) (by have := HM.out; omega)) hbg) (fun h => h)
        rw [Nat.add_assoc, this]
        congr 2
        simp [List.getD_eq_getElem?_getD, List.getElem?_drop, hj]
      have HROW := hid hrow
      have HL1 := hid hl1
      have HL2 := hid hl2
      subst hva
      have hKN := HI.out.kp.size
      have hst := HI.out.st.lt
      generalize hcq : cutl (p + k) (m - k) = cq at *
      have hkc : k < cap := by omega
      have hck : ((k : Int) + (cq : Int)) ≤ (cap : Int) := by omega
      subst hC
      clear hsc hrow hl1 hl2
      go_wp2_with (first
        | (at_builtin; refine wpList_append_any rfl (.tmp 76) (.tmp 88) 73 rfl (W1.heap.size + 1) 101 (.agg #[.int .i64 0, .string ⟨#[]⟩]) 2 24 Tryz.underlying73 Tryz.info101 rfl (by decide) (.slice va (ff.ps.length + done) vc) (ff.ps.length + done) (rps (ff.ps ++ pcb p xs l)) rfl (HROW.out.alloc _) (some ⟨wr.heap.size, 0, none⟩) 1 1 [.int .i64 ((p + k : Nat) : Int), .string (strOfNums ((xs.drop k).take cq))] (by first | rfl | simp [Act.eval]) (fun h => by cases h) rfl (fun ad e j u hu => by (cases e; rw [add_z, (St.new 101 wr _).cell]; simpa using hu)) (fun u hu => by (simp at hu; rcases hu with rfl | rfl <;> rfl)) (by unfold maxLen; omega) (by omega) (by simp; omega) ?_; intro v4 w4 r4 k4 l4; have R4 := hid r4; have K4 : Hid (Kp (fun i => W1.heap.size + 1 ≤ i) wr w4) := ((Kp.refl _ _).alloc _).trans k4 (fun i hi e => (HROW.out.lt i e).1); clear r4 k4 l4))
      refine ⟨⟨k + cq, done + 1, by simp, by simp, ?_⟩, by simp only [intOf]; omega⟩
      subst hcq
      exact HI.out.next hlt HL1.out HL2.out R4.out K4.out
    · obtain rfl : k = m := by omega
      have hli : ¬ (k : Int) < (k : Int) := by omega
      have hsl := HI.out.st.lt
      have hsf := HI.out.st.frozen 2
      have hx2 : wr.cell? ⟨W1.heap.size, 2, none⟩ = some (.slice pao ff.ps.length pcap) := HI.out.st.cell 2
      have HX := hid (HI.out.st.set 2 u14)
      have HKX := hid (HI.out.kp.trans (kp_setCell wr W1.heap.size 2 u14 (fun i => W1.heap.size ≤ i) (Nat.le_refl _)) (fun i h1 h2 => by omega))
      have HKW := hid (kp_setCell wr W1.heap.size 2 u14 (fun i => i = W1.heap.size) rfl)
      subst hva
      clear hlt
      by_cases h0 : 0 < k
      · have h0i : (0 : Int) < (k : Int) := by omega
        go_wp2_with fail
        have X5 := HX.out
        have K5 := HKX.out
        have KW5 := HKW.out
        generalize wr.setCell ⟨W1.heap.size, 2, none⟩ (Value.slice va (ff.ps.length + done) vc) = W5 at X5 K5 KW5 ⊢
        clear HX HKX HKW
        have x1 : W5.cell? ⟨W1.heap.size, 1, none⟩ = some (.string ff.last) := X5.cell 1
        refine wp_region_G (fun w' => w'.cell? ⟨W1.heap.size, 1, none⟩ = some (.string ff.last)) [12] hmix x1 (fun h0 => ?_)
        refine wpAnyG_takeW (i := 0) (v := .pointer (some ⟨W1.heap.size, 1, none⟩)) rfl (by kernel_rfl) (fun _ _ _ h => h) (Or.inl ⟨by rfl, fun w _ => by go_simp⟩) ?_
        refine wpAnyG_take (i := 1) (v := .string ff.last) rfl (by kernel_rfl) (fun _ _ _ h => h) (Or.inl ⟨by rfl, fun w hSw => by (try dsimp only at hSw); go_simp⟩) h0 ?_
        refine wpAnyG_takeW (i := 2) (v := .int .i64 p) rfl (by kernel_rfl) (fun _ _ _ h => h) (Or.inl ⟨by rfl, fun w _ => by go_simp⟩) ?_
        refine wpAnyG_takeW (i := 3) (v := .int .i64 k) rfl (by kernel_rfl) (fun _ _ _ h => h) (Or.inl ⟨by rfl, fun w _ => by go_simp⟩) ?_
        refine wpAnyG_takeW (i := 4) (v := .int .i64 ((p : Int) + k)) rfl (by kernel_rfl) (fun _ _ _ h => h) (Or.inl ⟨by rfl, fun w _ => by (go_simp; exact IntWalk.i64_in _ (by omega))⟩) ?_
        refine wpAnyG_takeW (i := 5) (v := .pointer (some ⟨W1.heap.size, 1, none⟩)) rfl (by kernel_rfl) (fun _ _ _ h => h) (Or.inl ⟨by rfl, fun w _ => by go_simp⟩) ?_
        refine wpAnyG_take (i := 6) (v := .string ff.last) rfl (by kernel_rfl) (fun _ _ _ h => h) (Or.inl ⟨by rfl, fun w hSw => by (try dsimp only at hSw); go_simp⟩) h0 ?_
        refine wpAnyG_takeW (i := 7) (v := .int .i64 (ff.last.size : Int)) rfl (by kernel_rfl) (fun _ _ _ h => h) (Or.inl ⟨by rfl, fun w _ => by go_simp⟩) ?_
        refine wpAnyG_takeW (i := 8) (v := .int .i64 ((p : Int) + k - (ff.last.size : Int))) rfl (by kernel_rfl) (fun _ _ _ h => h) (Or.inl ⟨by rfl, fun w _ => by (go_simp; exact IntWalk.i64_in _ (by omega))⟩) ?_
        refine wpAnyG_one (i := 9) (by kernel_rfl) rfl (fun K hK => ?_)
        go_simp
        have hno := rnoughts_any ((p : Int) + k - (ff.last.size : Int)) W5.drew (by omega) (by omega)
        rw [show ((p : Int) + k - (ff.last.size : Int)).toNat = p + k - ff.last.size by omega] at hno
        refine hno.mono ?_
        rintro _ w6 ⟨rfl, k6⟩
        have k7 : Kp (fun _ => False) W5 w6 := (Kp.refl _ _).drew.trans k6 (fun _ _ h => h)
        have X6 := X5.kp k7 (fun h => h)
        have K6 := K5.trans k7 (fun _ _ h => h.elim)
        have KW6 := KW5.trans k7 (fun _ _ h => h.elim)
        go_wp2_with fail
        refine hK.out _ _ (fun _ _ => X6.cell 1) ?_
        clear hK K h0
        refine wpAnyG_takeW (i := 10) (v := .string (ff.last ++ nts (p + k - ff.last.size))) rfl (by kernel_rfl) (fun _ _ _ h => h) (Or.inl ⟨by rfl, fun w _ => by (go_simp; rw [nts_size]; omega)⟩) ?_
        refine wpAnyG_takeW (i := 11) (v := .pointer (some ⟨W1.heap.size, 1, none⟩)) rfl (by kernel_rfl) (fun _ _ _ h => h) (Or.inl ⟨by rfl, fun w _ => by go_simp⟩) ?_
        refine wpAnyG_one (i := 12) (by kernel_rfl) rfl (fun K hK => ?_)
        have y1 : w6.cell? ⟨W1.heap.size, 1, none⟩ = some (.string ff.last) := X6.cell 1
        have yf := X6.frozen 1
        have yl := X6.lt
        go_simp
        refine hK.out _ _ (fun h => absurd h (by decide)) ?_
        clear hK K
        refine wpAnyG_done (by kernel_rfl) ?_ _
        have X7 := X6.set 1 (.string (ff.last ++ nts (p + k - ff.last.size)))
        have K7 := K6.trans (kp_setCell w6 W1.heap.size 1 (.string (ff.last ++ nts (p + k - ff.last.size))) (fun i => W1.heap.size ≤ i) (Nat.le_refl _)) (fun i h1 h2 => by omega)
        have KW7 := KW6.trans (kp_setCell w6 W1.heap.size 1 (.string (ff.last ++ nts (p + k - ff.last.size))) (fun i => i = W1.heap.size) rfl) (fun _ _ h => h)
        clear X6 K6 KW6 X5 K5 KW5 y1 yf yl x1 k6 k7
        generalize w6.setCell ⟨W1.heap.size, 1, none⟩ (.string (ff.last ++ nts (p + k - ff.last.size))) = W6 at X7 K7 KW7 ⊢
        have X6 := X7
        have K6 := K7
        have KW := KW7
        clear X7 K7 KW7
        go_wp2_with fail
        have X7 := hid X6
        have K7 := hid K6
        have KW7 := hid KW
        have x0 : W6.cell? ⟨W1.heap.size, 0, none⟩ = some (.string ff.name) := X6.cell 0
        have x1 : W6.cell? ⟨W1.heap.size, 1, none⟩ = some (.string (ff.last ++ nts (p + k - ff.last.size))) := X6.cell 1
        have x2 : W6.cell? ⟨W1.heap.size, 2, none⟩ = some (.slice va (ff.ps.length + done) vc) := X6.cell 2
        have hr6 := HR1.out.kp K6 (fun h => h) (fun _ _ h => h) (fun _ _ h => h)
        have c6 : W6.cell? ⟨g, 0, none⟩ = some (.slice (some ⟨b, 0, none⟩) fs.length fc) := by rw [← hfv]; exact hr6.st.cell 0
        have hii : (i : Int) < (fs.length : Int) := by omega
        clear X6 K6 hr6 KW
        refine wp_region_tail hmix (by kernel_rfl) ?_
        dsimp only [List.dropLast, List.getLast]
        repeat (gi_big_quiet_step (fail))
        refine wpQuietIn_nil ?_
        intro _ hw'
        obtain ⟨nq, hw2⟩ := hw'
        subst hw2
        have kq := drewN_kp (fun _ => False) W6 nq
        generalize W6.drewN nq = X9 at kq ⊢
        have K9 := hid (K7.out.trans kq (fun _ _ h => h))
        have KW9 := hid (KW7.out.trans kq (fun _ _ h => h.elim))
        have sb := HSB.out.kp K9.out (fun h => h)
        obtain ⟨_, _, e9, hcs9⟩ := (HR1.out.kp K9.out (fun h => h) (fun _ _ h => h) (fun _ _ h => h)).cells (by omega)
        rw [hfv] at e9
        simp only [Value.slice.injEq, Option.some.injEq, Addr.mk.injEq] at e9
        obtain ⟨⟨e91, -⟩, -, -⟩ := e9
        subst e91
        obtain ⟨z0, z1, z2⟩ := hcs9 i hi
        rw [Nat.zero_add] at z0 z1 z2
        have f0 := sb.frozen (i * 3)
        have f1 := sb.frozen (i * 3 + 1)
        have f2 := sb.frozen (i * 3 + 2)
        have hbl9 := sb.lt
        clear hcs9 sb kq
        gi_wp2_with fail
        go_wp2_with fail
        go_ret
        have hpsr : wr.ownsRow (W1.heap.size + 1) 101 2 (.slice va (ff.ps.length + done) vc) (ff.ps.length + (pcs p k).length) (rps (rfw ff p k xs).ps) := HI.out.fin
        have hrw9 := ownsRow_kp hpsr KW9.out (fun b' hb' e => by have := (hpsr.lt b' hb').1; omega)
        have hps9 : PSrc (fun j => D j ∨ (Value.slice va (ff.ps.length + done) vc).ownBlock = some j) X9 (.slice va (ff.ps.length + done) vc) (rfw ff p k xs).ps := psrc_row hrw9 (by simp [rfw, pcb_len]) (fun b h => .inr h)
        have hkz := HK1.out.size
        have hput := HR1.out.put3 (nf := rfw ff p k xs) hfv hi K9.out hps9 (fun j h => .inl h) (fun j h => h.imp id (fun h => by have := (hpsr.lt j h).1; omega)) (fun j h => h.elim (fun h => Nat.lt_of_lt_of_le (HR1.out.db j h) K9.out.size) (fun h => (hrw9.lt j h).2)) (by have := pcs_len k p; simp [rfw, pcb_len]; omega) (rfw_pw ff p k xs HM.out HPW.out) (by rw [rfw_size]; split <;> omega)
        rw [show (rfw ff p k xs).last = (ff.last ++ nts (p + k - ff.last.size)) from by (simp [rfw]; omega)] at hput
        exact ⟨rfl, (fun j => D j ∨ (Value.slice va (ff.ps.length + done) vc).ownBlock = some j), _, by rw [← HFE.out]; exact hput.1, (HK1.out.mono (G := fun j => j = g ∨ fv.ownBlock = some j) (fun _ _ h => .inl h)).trans hput.2 (fun _ _ h => .inr h), fun j h => .inl h, fun j h => h.imp id (fun h => by have := (hpsr.lt j h).1; omega)⟩
      · obtain rfl : k = 0 := by omega
        go_wp2_with fail
        have X6 := HX.out
        have K6 := HKX.out
        have KW := HKW.out
        generalize wr.setCell ⟨W1.heap.size, 2, none⟩ (Value.slice va (ff.ps.length + done) vc) = W6 at X6 K6 KW ⊢
        clear HX HKX HKW
        have X7 := hid X6
        have K7 := hid K6
        have KW7 := hid KW
        have x0 : W6.cell? ⟨W1.heap.size, 0, none⟩ = some (.string ff.name) := X6.cell 0
        have x1 : W6.cell? ⟨W1.heap.size, 1, none⟩ = some (.string ff.last) := X6.cell 1
        have x2 : W6.cell? ⟨W1.heap.size, 2, none⟩ = some (.slice va (ff.ps.length + done) vc) := X6.cell 2
        have hr6 := HR1.out.kp K6 (fun h => h) (fun _ _ h => h) (fun _ _ h => h)
        have c6 : W6.cell? ⟨g, 0, none⟩ = some (.slice (some ⟨b, 0, none⟩) fs.length fc) := by rw [← hfv]; exact hr6.st.cell 0
        have hii : (i : Int) < (fs.length : Int) := by omega
        clear X6 K6 hr6 KW
        refine wp_region_tail hmix (by kernel_rfl) ?_
        dsimp only [List.dropLast, List.getLast]
        repeat (gi_big_quiet_step (fail))
        refine wpQuietIn_nil ?_
        intro _ hw'
        obtain ⟨nq, hw2⟩ := hw'
        subst hw2
        have kq := drewN_kp (fun _ => False) W6 nq
        generalize W6.drewN nq = X9 at kq ⊢
        have K9 := hid (K7.out.trans kq (fun _ _ h => h))
        have KW9 := hid (KW7.out.trans kq (fun _ _ h => h.elim))
        have sb := HSB.out.kp K9.out (fun h => h)
        obtain ⟨_, _, e9, hcs9⟩ := (HR1.out.kp K9.out (fun h => h) (fun _ _ h => h) (fun _ _ h => h)).cells (by omega)
        rw [hfv] at e9
        simp only [Value.slice.injEq, Option.some.injEq, Addr.mk.injEq] at e9
        obtain ⟨⟨e91, -⟩, -, -⟩ := e9
        subst e91
        obtain ⟨z0, z1, z2⟩ := hcs9 i hi
        rw [Nat.zero_add] at z0 z1 z2
        have f0 := sb.frozen (i * 3)
        have f1 := sb.frozen (i * 3 + 1)
        have f2 := sb.frozen (i * 3 + 2)
        have hbl9 := sb.lt
        clear hcs9 sb kq
        gi_wp2_with fail
        go_wp2_with fail
        go_ret
        have hpsr : wr.ownsRow (W1.heap.size + 1) 101 2 (.slice va (ff.ps.length + done) vc) (ff.ps.length + (pcs p 0).length) (rps (rfw ff p 0 xs).ps) := HI.out.fin
        have hrw9 := ownsRow_kp hpsr KW9.out (fun b' hb' e => by have := (hpsr.lt b' hb').1; omega)
        have hps9 : PSrc (fun j => D j ∨ (Value.slice va (ff.ps.length + done) vc).ownBlock = some j) X9 (.slice va (ff.ps.length + done) vc) (rfw ff p 0 xs).ps := psrc_row hrw9 (by simp [rfw, pcb_len]) (fun b h => .inr h)
        have hkz := HK1.out.size
        have hput := HR1.out.put3 (nf := rfw ff p 0 xs) hfv hi K9.out hps9 (fun j h => .inl h) (fun j h => h.imp id (fun h => by have := (hpsr.lt j h).1; omega)) (fun j h => h.elim (fun h => Nat.lt_of_lt_of_le (HR1.out.db j h) K9.out.size) (fun h => (hrw9.lt j h).2)) (by have := pcs_len 0 p; simp [rfw, pcb_len]; omega) (rfw_pw ff p 0 xs HM.out HPW.out) (by rw [rfw_size]; split <;> omega)
        rw [show (rfw ff p 0 xs).last = ff.last from by (simp [rfw])] at hput
        exact ⟨rfl, (fun j => D j ∨ (Value.slice va (ff.ps.length + done) vc).ownBlock = some j), _, by rw [← HFE.out]; exact hput.1, (HK1.out.mono (G := fun j => j = g ∨ fv.ownBlock = some j) (fun _ _ h => .inl h)).trans hput.2 (fun _ _ h => .inr h), fun j h => .inl h, fun j h => h.imp id (fun h => by have := (hpsr.lt j h).1; omega)⟩
end Go.Proofs.YtlnknkeagonmpaaGreat
