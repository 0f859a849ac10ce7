/- What StoreCrash stands on: ones, what crashes leave, marks; a row of bools: which bytes a piece has touched. -/
import Derived.Test.YtalicohflfildaaPz
import Derived.Test.YtalicohflfildaaPi
import Derived.Test.YtalicohflfildaaKn
namespace Go.Proofs.Ytalicohflfildaa
open Go.RowKit Go.Shelf

theorem pck_ones (n k : Nat) (h : k < n) : pkb (List.replicate n 1) k = true := by
  unfold pkb
  rw [if_pos (by rw [List.length_replicate]; exact h)]
  unfold pck
  simp [List.getD, h]
theorem pks_ones (n K : Nat) (ps : List (Nat × List Int)) (h : K + ps.length ≤ n) : pks (List.replicate n 1) K ps = ps := by
  induction ps generalizing K with
  | nil => rfl
  | cons p ps ih =>
    simp only [List.length_cons] at h
    unfold pks
    rw [pck_ones n K (by omega), ih (K + 1) (by omega)]
    rfl
theorem pks_none (K : Nat) (ps : List (Nat × List Int)) : pks [] K ps = [] := by
  induction ps generalizing K with
  | nil => rfl
  | cons p ps ih =>
    unfold pks
    rw [ih]
    simp [pkb]
/-- Where no piece lies all is as it lasted. -/
theorem ovs_out (L : Nat → Int) (ps : List (Nat × List Int)) (i : Nat) (h : ∀ p ∈ ps, ¬ (p.1 ≤ i ∧ i < p.1 + p.2.length)) : ovs L ps i = L i := by
  induction ps generalizing L with
  | nil => rfl
  | cons p ps ih =>
    have h1 : ovs L (p :: ps) = ovs (ov L p) ps := rfl
    rw [h1, ih _ (fun q hq => h q (by simp [hq]))]
    unfold ov
    rw [if_neg (h p (by simp))]
theorem ksum_le {fs : List Fe} {l : List ByteArray} (h : l.Perm (fs.map (·.1))) (hn : (fs.map (·.1)).Nodup) : ksum fs l = pnd fs := by
  unfold ksum pnd
  rw [(h.map _).sum_nat, List.map_map]
  congr 1
  refine List.map_congr_left (fun f hf => ?_)
  simp only [Function.comp, plen]
  rw [fget_self hn hf]
/-- What a crash leaves of one file. -/
theorem crl_mem {fs : List Fe} {zs : List Int} {K : Nat} {l : List ByteArray} {s : ByteArray} {q : Gf} (h : (s, q) ∈ crl fs zs K l) : ∃ K', K ≤ K' ∧ K' + plen fs s ≤ K + ksum fs l ∧ q = crf fs zs K' s := by
  induction l generalizing K with
  | nil => cases h
  | cons x l ih =>
    have hk : ksum fs (x :: l) = plen fs x + ksum fs l := by simp [ksum]
    unfold crl at h
    rcases List.mem_cons.1 h with h | h
    · cases h
      exact ⟨K, Nat.le_refl _, by omega, rfl⟩
    · obtain ⟨K', h1, h2, h3⟩ := ih h
      exact ⟨K', by omega, by omega, h3⟩
/-- The file of that name that a crash left. -/
theorem left_file {fs fs' : List Fe} {zs : List Int} (h : fs'.map (fun f => (f.1, f.2.2)) = crl fs zs 0 (nms fs)) (hn : (fs.map (·.1)).Nodup) {s : ByteArray} {f : Fe} (hf : fget fs s = some f) : ∃ f', fget fs' s = some f' ∧ ∃ K, K + f.2.2.ps.length ≤ pnd fs ∧ f'.2.2 = ⟨f.2.2.sz, ovs f.2.2.L (pks zs K f.2.2.ps), []⟩ := by
  have hnm : fs'.map (·.1) = nms fs := by
    have h1 := congrArg (List.map (·.1)) h
    rw [List.map_map, crl_names] at h1
    exact h1
  have hsm : s ∈ nms fs := (nms_perm fs).mem_iff.2 (by obtain ⟨l, r, h1, h2⟩ := fget_split hf; rw [h1, ← h2]; simp)
  obtain ⟨f', hf'⟩ := fget_some (fs := fs') (s := s) (by rw [hnm]; exact hsm)
  have hs' : f'.1 = s := by obtain ⟨l, r, h1, h2⟩ := fget_split hf'; exact h2
  have hm : (s, f'.2.2) ∈ crl fs zs 0 (nms fs) := by rw [← h]; exact List.mem_map.2 ⟨f', fget_mem hf', by rw [hs']⟩
  obtain ⟨K, _, h2, h3⟩ := crl_mem hm
  rw [ksum_le (nms_perm fs) hn, Nat.zero_add] at h2
  refine ⟨f', hf', K, ?_, ?_⟩
  · have : plen fs s = f.2.2.ps.length := by unfold plen; rw [hf]
    omega
  · rw [h3]; unfold crf; rw [hf]
/-- A mark that a range over a function has left. -/
def mrk (D : Nat) : Deferred := { target := .collected D, args := #[] }
theorem leaves_marks {F : Fence} {n : Nat} {fn : Func} {tmps : Array Value} {R : Ending → World → Prop} (Ds : List Nat) (w : World) (hD : ∀ D ∈ Ds, w.heap[D]? = some (.deferred (some []))) (hn : Ds.Nodup)
    (fin : ∀ w', Kp (fun i => i ∈ Ds) w w' → LeavesInM F n Try.prog fn tmps R [] .returning w') : LeavesInM F n Try.prog fn tmps R (Ds.map mrk) .returning w := by
  induction Ds generalizing w with
  | nil => exact fin w (Kp.refl _ _)
  | cons D Ds ih =>
    have h1 := hD D (by simp)
    have hk := kp_put1 w D (.deferred none)
    have hx := ih (w.putObj D (.deferred none)) (fun E hE => by
      have hne : E ≠ D := fun e => (List.nodup_cons.1 hn).1 (e ▸ hE)
      have h2 := hD E (by simp [hE])
      exact (hk.block E (Array.getElem?_eq_some_iff.1 h2).1 hne).trans h2) (List.nodup_cons.1 hn).2
      (fun w' k => fin w' ((hk.mono (G := fun i => i ∈ D :: Ds) (fun i _ e => by rw [e]; simp)).trans k (fun i _ h => by simp [h])))
    exact ⟨by simp, .inl ⟨_, _, rfl, run_takeDeferred h1, hx⟩⟩
theorem results_cell1w {P : Program} {fn : Func} {p : Tmp} {ty : TypeId} (h : fn.results = #[.cell p ty]) (tmps : Array Value) (w : World) (b : Nat) {v : Value} (hp : tmps.getD p undef = .pointer (some ⟨b, 0, none⟩)) (hl : (loadVar ty ⟨b, 0, none⟩).run P w = .ok v w) :
    (results fn tmps).run P w = .ok v w := by
  have hp' : tmps[p]?.getD undef = .pointer (some ⟨b, 0, none⟩) := by simpa using hp
  simp [results, h, hp', asAddr, hl]
def tb (sz : Nat) (F : Nat → Bool) : Array Value := ((List.range sz).map (fun i => Value.bool (F i))).toArray
theorem tb_size (sz : Nat) (F : Nat → Bool) : (tb sz F).size = sz := by simp [tb]
theorem tb_get (sz : Nat) (F : Nat → Bool) (i : Nat) (h : i < sz) : (tb sz F)[i]? = some (.bool (F i)) := by simp [tb, h]
theorem tb_set (sz : Nat) (F : Nat → Bool) (i : Nat) (v : Bool) : (tb sz F).setIfInBounds i (.bool v) = tb sz (fun j => if j = i then v else F j) := by
  apply Array.ext'
  apply List.ext_getElem?
  intro j
  simp only [tb, List.setIfInBounds_toArray, List.getElem?_set]
  by_cases hj : i = j
  · subst hj
    by_cases h : i < sz <;> simp [h]
  · rw [if_neg hj]
    by_cases h : j < sz
    · simp [h, Ne.symm hj]
    · simp [h]
theorem made_tb (n : Nat) : madeCells #[.bool false] n = tb n (fun _ => false) := by
  apply Array.ext'
  apply List.ext_getElem?
  intro i
  by_cases h : i < n
  · simp [madeCells, tb, h, Nat.mod_one]
  · simp [madeCells, tb, h]
def cvd (qs : List (Nat × Nat)) (i : Nat) : Bool := qs.any (fun q => decide (q.1 ≤ i ∧ i < q.1 + q.2))
theorem cvd_false {qs : List (Nat × Nat)} {i : Nat} (h : cvd qs i = false) : ∀ q ∈ qs, ¬ (q.1 ≤ i ∧ i < q.1 + q.2) := by
  intro q hq
  have := (List.any_eq_false.1 h) q hq
  simpa using this
/-- Of the next piece the first m bytes are touched, too. -/
def cvm (qs : List (Nat × Nat)) (q : Nat × Nat) (m : Nat) (i : Nat) : Bool := cvd qs i || decide (q.1 ≤ i ∧ i < q.1 + m)
theorem cvm_zero (qs : List (Nat × Nat)) (q : Nat × Nat) : cvm qs q 0 = cvd qs := by
  funext i
  unfold cvm
  rw [decide_eq_false (by omega), Bool.or_false]
theorem cvm_all (qs : List (Nat × Nat)) (q : Nat × Nat) : cvm qs q q.2 = cvd (qs ++ [q]) := by
  funext i
  simp [cvm, cvd]
theorem cvm_succ (qs : List (Nat × Nat)) (q : Nat × Nat) (m : Nat) : (fun j => if j = q.1 + m then true else cvm qs q m j) = cvm qs q (m + 1) := by
  funext i
  unfold cvm
  by_cases h : i = q.1 + m
  · rw [if_pos h, decide_eq_true (by omega), Bool.or_true]
  · rw [if_neg h]
    congr 1
    have : (q.1 ≤ i ∧ i < q.1 + m) ↔ (q.1 ≤ i ∧ i < q.1 + (m + 1)) := by omega
    simp only [this]
theorem info4 : (Try.prog.info? 4).map (fun i => (i.zero, i.size, i.bytes)) = some (some (.bool false), 1, 1) := by kernel_rfl
theorem wpListIn_make_tb {F : Fence} {nF : Nat} {w : World} {ops : Array Oper} {rest : List Oper} {o : Oper} {a : Act} {Q : Exit → Act → World → Prop} (hg : o.guard = none) (l c : Operand) (hop : o.op = Op.makeSlice 42 l c)
    (n : Nat) (hl : a.eval l = .int .i64 n) (hc : a.eval c = .int .i64 n) (hn : n ≤ 268435456)
    (h : ∀ w', St 4 w' w.heap.size (tb n (fun _ => false)) → Kp (fun _ => False) w w' → w'.heap.size = w.heap.size + 1 → wpListIn F nF Try.prog ops Q rest (a.put o.dst (.slice (some ⟨w.heap.size, 0, none⟩) n n)) w') : wpListIn F nF Try.prog ops Q (o :: rest) a w := by
  obtain ⟨i0, hi, hz0, hz1, hz2⟩ := info_parts info4
  refine wpListIn_plain hg fun K hK => ?_
  have hr := run_make (P := Try.prog) w 42 4 i0 (.bool false) Try.underlying42 hi hz0 .i64 .i64 n n (by omega) (Int.le_refl _) (by rw [hz2]; omega) (by omega)
  rw [hz1, Int.toNat_natCast, Nat.mul_one, show (Value.bool false).cells = #[.bool false] from rfl, made_tb] at hr
  unfold Oper.wpIn
  refine ⟨?_, ?_⟩
  · simp [Oper.about, hop]
  · rw [Oper.semAt_plain F _ _ (by rw [hop]; intro c hc'; cases hc')]
    simp only [execOp, hop, hl, hc, hr, Sem.run_bind, Sem.run_pure, Result.andThen_ok]
    exact hK _ _ (h _ (St.new 4 w _) ((Kp.refl _ _).alloc _) (World.size_alloc _ _))
/-- What the range over the pieces keeps: R is the world ahead of it. -/
structure TcI (R : World) (bt sz : Nat) (qs : List (Nat × Nat)) (W : World) : Prop where
  st : St 4 W bt (tb sz (cvd qs))
  kp : Kp (fun i => i = bt) R W
theorem TcI.own {R : World} {bt sz : Nat} {qs : List (Nat × Nat)} {A B : World} {row : Option Nat} (h : TcI R bt sz qs A) (hg : A.grownBy B row) (hr : ∀ r, row = some r → R.heap.size ≤ r ∧ ∃ o : Obj, A.heap[r]? = some o ∧ o.isCells = false) : TcI R bt sz qs B := by
  have hne : ∀ r, row = some r → bt ≠ r := by
    intro r e hb
    obtain ⟨_, o, h1, h2⟩ := hr r e
    have := h.st
    unfold St at this
    rw [hb, h1] at this
    cases this
    cases h2
  have k : Kp (fun i => row = some i) A B := Kp.of_grown hg (fun i e => e)
  refine ⟨h.st.kp k (fun e => hne _ e rfl), h.kp.trans k (fun i hi e => ?_)⟩
  have := (hr i e).1
  omega
end Go.Proofs.Ytalicohflfildaa
