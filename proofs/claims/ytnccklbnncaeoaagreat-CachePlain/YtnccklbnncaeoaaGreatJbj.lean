import Derived.Test.YtnccklbnncaeoaaGreatJbg
import Derived.WalkMore
import Derived.LaidEqlPtr
/- cache: leadsTo: the search. -/
namespace Go.Proofs.YtnccklbnncaeoaaGreat
open Go.RowKit
set_option linter.unusedVariables false
set_option linter.unusedSimpArgs false
theorem Tryz.und192 : Tryz.prog.underlying 192 = some (.map 2 193) := by kernel_rfl
theorem zer193 (w : World) : (zeroValue 193).run Tryz.prog w = .ok (.agg #[]) w := by kernel_rfl
theorem run_lookup2 {w : World} {b c : Nat} {es : List (Int × Value × Nat)} (h : Mp (Value.int .i64) w b es c) (k : Int) :
    (Instr.lookup 192 (.map (some b)) (.int .i64 k) true).run Tryz.prog w = .ok (.tuple #[(mget es k).getD (.agg #[]), .bool (mget es k).isSome]) w := by
  have hf := ky2.find k es 0
  have hg := fidx_get es k 0
  cases hq : fidx es k 0 with
  | none =>
    rw [hq] at hf hg
    rw [← hg]
    simp [Instr.lookup, run_underlying Tryz.und192, MapKept.run_getObj_map h.1, MapKept.run_checkKey ky2.und (ky2.is k), MapKept.run_findKey ky2.und hf, zer193]
  | some r =>
    rw [hq] at hf hg
    rw [← hg]
    simp [Instr.lookup, run_underlying Tryz.und192, MapKept.run_getObj_map h.1, MapKept.run_checkKey ky2.und (ky2.is k), MapKept.run_findKey ky2.und hf]
theorem Tryz.isz142 : (Tryz.prog.info? 142).map (·.size) = some 8 := by kernel_rfl
theorem inf142 : ∃ j, Tryz.prog.info? 142 = some j ∧ j.size ≠ 0 := by
  have h := Tryz.isz142
  cases e : Tryz.prog.info? 142 with
  | none => rw [e] at h; cases h
  | some j =>
    rw [e] at h
    refine ⟨j, rfl, ?_⟩
    have : j.size = 8 := by simpa using h
    omega
theorem eql_page {w : World} {a o : Nat} {ca co : Array Value} (ha : St 142 w a ca) (ho : St 142 w o co) : (binOp .eql 138 (.pointer (some ⟨a, 0, none⟩)) (.pointer (some ⟨o, 0, none⟩))).run Tryz.prog w = .ok (.bool (decide (a = o))) w := by
  obtain ⟨j, hj, hs⟩ := inf142
  by_cases h : a = o
  · subst h
    rw [decide_eq_true rfl]
    exact run_eql_ptr_same w _ Tryz.underlying138 hj
  · rw [decide_eq_false h]
    exact run_eql_ptr_other w Tryz.underlying138 hj hs (fun e => h (by cases e; rfl)) ha ho
/-- Who was seen. -/
def Sn (G : Gc) (w : World) (m : Nat) (sn : List Nat) : Prop := ∃ es c, Mp (Value.int .i64) w m es c ∧ (∀ e ∈ es, e.2.1 = .agg #[]) ∧ ∀ b ∈ G.K, (mget es ((G.c b).n : Int)).isSome = decide (b ∈ sn)
theorem Sn.kp {G : Gc} {F : Nat → Prop} {w w' : World} {m : Nat} {sn : List Nat} (h : Sn G w m sn) (k : Kp F w w') (hf : ¬ F m) : Sn G w' m sn := by
  obtain ⟨es, c, h1, h2, h3⟩ := h
  exact ⟨es, c, kp_mp h1 k hf, h2, h3⟩
theorem Sn.lt {G : Gc} {w : World} {m : Nat} {sn : List Nat} (h : Sn G w m sn) : m < w.heap.size := by
  obtain ⟨es, c, h1, h2, h3⟩ := h
  exact h1.lt
theorem Sn.get {G : Gc} {w : World} {m : Nat} {sn : List Nat} (h : Sn G w m sn) {b : Nat} (hb : b ∈ G.K) : (Instr.lookup 192 (.map (some m)) (.int .i64 (G.c b).n) true).run Tryz.prog w = .ok (.tuple #[.agg #[], .bool (decide (b ∈ sn))]) w := by
  obtain ⟨es, c, h1, h2, h3⟩ := h
  have := run_lookup2 h1 ((G.c b).n : Int)
  rw [h3 b hb] at this
  rw [this]
  have e : (mget es ((G.c b).n : Int)).getD (.agg #[]) = .agg #[] := by
    cases hm : mget es ((G.c b).n : Int) with
    | none => rfl
    | some v =>
      obtain ⟨q, hq⟩ := mem_of_mget hm
      exact h2 _ hq
  rw [e]
theorem Sn.put {G : Gc} {w : World} {m : Nat} {sn : List Nat} (h : Sn G w m sn) (hn : Nin G.c G.K) {b : Nat} (hb : b ∈ G.K) : ∃ o', (Instr.mapUpdate 192 (.map (some m)) (.int .i64 (G.c b).n) (.agg #[])).run Tryz.prog w = .ok () (w.putObj m o') ∧ Sn G (w.putObj m o') m (b :: sn) ∧ Kp (fun i => i = m) w (w.putObj m o') := by
  obtain ⟨es, c, h1, h2, h3⟩ := h
  obtain ⟨r1, r2⟩ := mp_set h1 (h1.2.put ((G.c b).n : Int) (.agg #[]))
  refine ⟨_, run_update_mp ky2 Tryz.und192 h1 _ _, ⟨_, _, r1, fun e he => ?_, fun a ha => ?_⟩, Kp.of_grown r2 (fun i e => by cases e; rfl)⟩
  · have hk := (h1.2.put ((G.c b).n : Int) (.agg #[])).1
    have := mget_mem hk he
    rw [mget_put] at this
    split at this
    · exact (Option.some.inj this).symm
    · obtain ⟨q, hq⟩ := mem_of_mget this
      have h4 := h2 _ hq
      exact h4
  · rw [mget_put]
    by_cases e : a = b
    · subst e
      rw [if_pos rfl]
      simp
    · have hne : ¬ (((G.c a).n : Int) = ((G.c b).n : Int)) := fun e2 => e (hn a ha b hb (by omega))
      rw [if_neg hne, h3 a ha]
      simp [e]
theorem Sn.new (G : Gc) (w : World) : Sn G (w.alloc (.map #[] 0)) w.heap.size [] := ⟨[], 0, Mp.new _ w, fun e he => by (cases he), fun b _ => by simp [mget]⟩
/-- The search's cells. -/
structure Ds (S : ByteArray) (g bits room Q : Nat) (G : Gc) (s f oc d m o : Nat) (sn : List Nat) (fo : Bool) (w : World) : Prop where
  cm : Cm S g bits room Q G w
  cs : St 192 w s #[.map (some m)]
  cf : St 4 w f #[.bool fo]
  co : St 138 w oc #[ptr o]
  cd : St 143 w d #[.func (.func 111) #[] #[ptr s, ptr f, ptr oc, ptr d]]
  mp : Sn G w m sn
  nm : ¬ Fc Q G m
  nf : ¬ Fc Q G f
  mm : ∀ b ∈ G.B, (G.c b).wm ≠ m
theorem Ds.kp {S : ByteArray} {g bits room Q : Nat} {G : Gc} {s f oc d m o : Nat} {sn : List Nat} {fo : Bool} {w w' : World} (h : Ds S g bits room Q G s f oc d m o sn fo w) (k : Kp (fun _ => False) w w') : Ds S g bits room Q G s f oc d m o sn fo w' :=
  ⟨h.cm.kp0 k, h.cs.kp k (fun h => h), h.cf.kp k (fun h => h), h.co.kp k (fun h => h), h.cd.kp k (fun h => h), h.mp.kp k (fun h => h), h.nm, h.nf, h.mm⟩
theorem Sn.tag {G : Gc} {w : World} {m : Nat} {sn : List Nat} (h : Sn G w m sn) : tag w m = 0 := by
  obtain ⟨es, q, h1, h2⟩ := h
  unfold YtnccklbnncaeoaaGreat.tag
  rw [h1.1]
/-- The map is another. -/
theorem Ds.map {S : ByteArray} {g bits room Q : Nat} {G : Gc} {s f oc d m o : Nat} {sn sn' : List Nat} {fo : Bool} {w w' : World} (h : Ds S g bits room Q G s f oc d m o sn fo w) (hs : Sn G w' m sn') (k : Kp (fun i => i = m) w w') : Ds S g bits room Q G s f oc d m o sn' fo w' :=
  ⟨h.cm.kp k (fun i hi e => h.nm (e ▸ hi)), h.cs.kp k (tag_ne h.cs.tag h.mp.tag (by decide)), h.cf.kp k (tag_ne h.cf.tag h.mp.tag (by decide)), h.co.kp k (tag_ne h.co.tag h.mp.tag (by decide)), h.cd.kp k (tag_ne h.cd.tag h.mp.tag (by decide)), hs, h.nm, h.nf, h.mm⟩
/-- Found. -/
theorem Ds.found {S : ByteArray} {g bits room Q : Nat} {G : Gc} {s f oc d m o : Nat} {sn : List Nat} {fo : Bool} {w : World} (h : Ds S g bits room Q G s f oc d m o sn fo w) : Ds S g bits room Q G s f oc d m o sn true (w.setCell ⟨f, 0, none⟩ (.bool true)) ∧ Kp (fun i => i = f) w (w.setCell ⟨f, 0, none⟩ (.bool true)) := by
  have k : Kp (fun i => i = f) w (w.setCell ⟨f, 0, none⟩ (.bool true)) := kp_setCell w f 0 _ (fun i => i = f) rfl
  refine ⟨⟨h.cm.kp k (fun i hi e => h.nf (e ▸ hi)), h.cs.kp k (tag_ne h.cs.tag h.cf.tag (by decide)), ?_, h.co.kp k (tag_ne h.co.tag h.cf.tag (by decide)), h.cd.kp k (tag_ne h.cd.tag h.cf.tag (by decide)), h.mp.kp k (tag_ne h.mp.tag h.cf.tag (by decide)), h.nm, h.nf, h.mm⟩, k⟩
  have := St.set h.cf 0 (.bool true)
  simpa using this
/-- What the search leaves. -/
def DsP (S : ByteArray) (g bits room Q : Nat) (G : Gc) (s f oc d m o b : Nat) (sn : List Nat) (fo : Bool) (w : World) (e : Ending) (w' : World) : Prop :=
  e = .returned (.tuple #[]) ∧ ∃ sn' fo', Ds S g bits room Q G s f oc d m o sn' fo' w' ∧ Kp (fun i => i = m ∨ i = f) w w' ∧ (∀ x ∈ sn, x ∈ sn') ∧ Srch G.W o b sn fo sn' fo'
def DsIH (S : ByteArray) (g bits room Q : Nat) (G : Gc) (s f oc d m o n : Nat) : Prop :=
  ∀ w b sn fo, Ds S g bits room Q G s f oc d m o sn fo w → b ∈ G.B → (G.K.filter (fun k => decide (k ∉ sn))).length < n → Calls Tryz.prog 111 #[ptr b, ptr s, ptr f, ptr oc, ptr d] w (DsP S g bits room Q G s f oc d m o b sn fo w)
set_option maxHeartbeats 4000000 in
set_option maxRecDepth 100000 in
theorem dfs_step {S : ByteArray} {g bits room Q : Nat} {G : Gc} {s f oc d m o : Nat} (hiv : Iv G) (hoB : o ∈ G.B) (n : Nat) (IH : ∀ k, k < n → DsIH S g bits room Q G s f oc d m o k) : DsIH S g bits room Q G s f oc d m o n := by
  intro w b sn fo hD hb hn
  obtain ⟨sl, hs⟩ := (hD.cm.pg b hb).wt
  obtain ⟨es, q, hm, hes⟩ := (hD.cm.pg b hb).ws
  have hrg := run_range_mp (P := Tryz.prog) Tryz.und106 hm
  have y6 := St.cell hs 6
  simp [Pc.cs] at y6
  have HD := hid hD
  have HES := hid hes
  have HM := hid hm
  have HN := hid hn
  have HIH := hid IH
  have HV := hid hiv
  clear hD hs hes hm hn IH hiv
  unfold ptr
  go_enter Tryz.func111, Tryz.ntmps111
  try go_wp2_with fail
  go_step3
  try go_wp2_with fail
  go_step3
  go_wp2_with fail
  have H0 : Hid (Mi (w.alloc (.mapIter (some (G.c b).wm) q #[] q)) w.heap.size (G.c b).wm q es []) := mi_new w (G.c b).wm q es
  have K0 : Hid (Kp (fun _ => False) w (w.alloc (.mapIter (some (G.c b).wm) q #[] q))) := (Kp.refl _ _).alloc _
  clear hrg y6
  generalize hr : w.heap.size = r at H0 ⊢
  generalize w.alloc (.mapIter (some (G.c b).wm) q #[] q) = W at H0 K0 ⊢
  have HR : Hid (w.heap.size = r) := hr
  clear hr
  go_loopw [6, 7, 8, 9] (fun _ _ _ _ wr => ∃ ds sn1 fo1, Mi wr r (G.c b).wm q es ds ∧ Ds S g bits room Q G s f oc d m o sn1 fo1 wr ∧ Kp (fun i => i = m ∨ i = f) w wr ∧ (∀ x ∈ sn, x ∈ sn1) ∧ SrchI G.W o b (ds.map blk) sn fo sn1 fo1) (fun _ _ _ _ wr => es.length - itn wr r)
  case atStart =>
    exact ⟨[], sn, fo, H0.out, HD.out.kp K0.out, K0.out.mono (fun _ _ h => h.elim), fun _ h => h, SrchI.start _ _ _ _ _⟩
  case round =>
    clear H0 K0
    obtain ⟨ds, sn1, fo1, hmi, hds, hkp, hsub, hsr⟩ := hrel
    have hmap := blk_map HES.out
    have hrm : r ≠ (G.c b).wm := by
      have := HR.out
      have := HM.out.lt
      omega
    have hnm : ¬ ((G.c b).wm = m ∨ (G.c b).wm = f) := by
      rintro (e | e)
      · exact HD.out.mm b hb e
      · exact HD.out.nf (.inr (.inr (.inr (.inr (.inr ⟨b, hb, .inr (.inl e.symm)⟩)))))
    have hm2 : Mp (Value.int .i64) wr (G.c b).wm es q := kp_mp HM.out hkp hnm
    have hin := hmi.itn
    have hle := hmi.le
    have hmlt : m < r := by rw [← HR.out]; exact HD.out.mp.lt
    have hflt : f < r := by rw [← HR.out]; exact HD.out.cf.lt
    rcases hmi.next (P := Tryz.prog) hm2 hrm 0 with ⟨hp, hrun⟩ | ⟨e, w2, he, hne, hrun, hmi2, hk2, hent⟩
    · have hall : ∀ x ∈ G.W b, x ∈ ds.map blk := fun x hx => by
        rw [← hmap.1] at hx
        exact (hp.map blk).mem_iff.2 hx
      have HE : Hid (DsP S g bits room Q G s f oc d m o b sn fo w (.returned (.tuple #[])) wr) := ⟨rfl, sn1, fo1, hds, hkp, hsub, hsr.done hall⟩
      clear hds hkp hsub hsr hmi hm2 hp hmap hall
      go_wp2
      go_end0
      exact HE.out
    · obtain ⟨a, hae⟩ : ∃ a, blk e = a := ⟨_, rfl⟩
      have hea := hmap.2 e he
      rw [hae] at hea
      have haW : a ∈ G.W b := by rw [← hmap.1, ← hae]; exact List.mem_map_of_mem he
      have haK : a ∈ G.K := (HV.out.wk b a haW).2
      have had : a ∉ ds.map blk := by
        rw [← hae]
        exact blk_new HM.out.2 HES.out hmi.sub he hne
      have hlt0 := hkp.size
      have hk2' : Kp (fun _ => False) w2 w2 := Kp.refl _ _
      have hnF : ∀ i, i < w.heap.size → ¬ i = r := fun i hi e => by have := HR.out; omega
      have hds2 : Ds S g bits room Q G s f oc d m o sn1 fo1 w2 := by
        refine ⟨hds.cm.kp hk2 (fun i hi e => ?_), hds.cs.kp hk2 (hnF s HD.out.cs.lt), hds.cf.kp hk2 (hnF f HD.out.cf.lt), hds.co.kp hk2 (hnF oc HD.out.co.lt), hds.cd.kp hk2 (hnF d HD.out.cd.lt), hds.mp.kp hk2 (hnF m HD.out.mp.lt), hds.nm, hds.nf, hds.mm⟩
        exact hnF i (HD.out.cm.lt hi) e
      have KP2 : Hid (Kp (fun i => i = m ∨ i = f) w w2) := hkp.trans hk2 (fun i hi e => absurd e (hnF i hi))
      have hget := hds2.mp.get haK
      have zs := hds2.cs.cell 0
      simp at zs
      have hin2 := hmi2.itn
      rw [List.length_append, List.length_singleton] at hin2
      have hle2 := hmi2.le
      rw [List.length_append, List.length_singleton] at hle2
      rw [hea.2] at hrun hent
      rw [hea.1] at hrun hent
      have HDS := hid hds2
      have HMI := hid hmi2
      have HSR := hid hsr
      have HSUB := hid hsub
      have HIN : Hid (itn wr r = ds.length) := hin
      have HAE := hid hae
      have HMR : Hid (m < r ∧ f < r) := ⟨hmlt, hflt⟩
      have HNR : Hid (es.length - (ds.length + 1) < es.length - ds.length) := by show _ < _; omega
      unfold ptr at hrun hent
      clear hds hds2 hmi hmi2 hk2 hkp hsr hsub hm2 hin hin2 hmap hae hk2' hnF hmlt hflt hle hle2
      go_upto_region 4 with fail
      have KA : Hid (Kp (fun _ => False) w2 (w2.alloc (.cells #[] 193))) := (Kp.refl _ _).alloc _
      have HDS3 := hid (HDS.out.kp KA.out)
      have HMI3 := hid (HMI.out.kp KA.out (fun h => h))
      have KP3 : Hid (Kp (fun i => i = m ∨ i = f) w (w2.alloc (.cells #[] 193))) := KP2.out.trans KA.out (fun _ _ h => h.elim)
      clear HDS HMI KP2 KA hget zs hrun hent
      generalize w2.alloc (.cells #[] 193) = W3 at *
      have zf := HDS3.out.cf.cell 0
      have zo := HDS3.out.co.cell 0
      have zs3 := HDS3.out.cs.cell 0
      have zd := HDS3.out.cd.cell 0
      have ff := HDS3.out.cf.frozen 0
      simp at zf zo zs3 zd
      obtain ⟨sa, hsa⟩ := (HDS3.out.cm.pg a (HV.out.kb a haK)).wt
      obtain ⟨so, hso⟩ := (HDS3.out.cm.pg o hoB).wt
      have heq := eql_page hsa hso
      clear hsa hso
      unfold ptr at zo zd
      cases fo1 with
      | true =>
        obtain ⟨hF1, hF2⟩ := HDS3.out.found
        have HE : Hid (DsP S g bits room Q G s f oc d m o b sn fo w (.returned (.tuple #[])) (W3.setCell ⟨f, 0, none⟩ (.bool true))) := ⟨rfl, sn1, true, hF1, KP3.out.trans hF2 (fun _ _ e => .inr e), HSUB.out, HSR.out.found haW (.inl rfl)⟩
        clear hF1 hF2
        go_wp2_with fail
        go_end0
        exact HE.out
      | false =>
        by_cases hao : a = o
        · subst hao
          rw [decide_eq_true rfl] at heq
          obtain ⟨hF1, hF2⟩ := HDS3.out.found
          have HE : Hid (DsP S g bits room Q G s f oc d m a b sn fo w (.returned (.tuple #[])) (W3.setCell ⟨f, 0, none⟩ (.bool true))) := ⟨rfl, sn1, true, hF1, KP3.out.trans hF2 (fun _ _ e => .inr e), HSUB.out, HSR.out.found haW (.inr rfl)⟩
          clear hF1 hF2
          go_wp2_with fail
          go_end0
          exact HE.out
        · rw [decide_eq_false hao] at heq
          by_cases hs1 : a ∈ sn1
          · have hd1 : decide (a ∈ sn1) = true := by simpa using hs1
            rw [hd1]
            go_wp2_with fail
            have h4 := HMI3.out.itn
            rw [List.length_append, List.length_singleton] at h4
            refine ⟨⟨ds ++ [e], sn1, false, HMI3.out, HDS3.out, KP3.out, HSUB.out, ?_⟩, by rw [HIN.out, h4]; exact HNR.out⟩
            rw [List.map_append, List.map_singleton, HAE.out]
            exact HSR.out.again hs1 hao
          · have hd1 : decide (a ∈ sn1) = false := by simpa using hs1
            rw [hd1]
            obtain ⟨o', hup, hsn, hku⟩ := HDS3.out.mp.put HDS3.out.cm.ks.nin haK
            have HDS4 := hid (HDS3.out.map hsn hku)
            have HMI4 := hid (HMI3.out.kp hku (fun e => by have := HMR.out; omega))
            have KP4 : Hid (Kp (fun i => i = m ∨ i = f) w (W3.putObj m o')) := KP3.out.trans hku (fun _ _ e => .inl e)
            have zd4 := HDS4.out.cd.cell 0
            simp at zd4
            unfold ptr at zd4
            have hml : (G.K.filter (fun k => decide (k ∉ a :: sn1))).length < (G.K.filter (fun k => decide (k ∉ sn1))).length := miss_lt haK hs1
            have hml2 : (G.K.filter (fun k => decide (k ∉ sn1))).length ≤ (G.K.filter (fun k => decide (k ∉ sn))).length := miss_le HSUB.out
            have HC := hid (HIH.out (G.K.filter (fun k => decide (k ∉ sn1))).length (by have := HN.out; omega) (W3.putObj m o') a (a :: sn1) false HDS4.out (HV.out.kb a haK) hml)
            clear hsn hku hml hml2
            unfold ptr at HC
            go_wp2_with fail
            refine HC.out.mono ?_
            rintro _ w5 ⟨rfl, sn2, fo2, hd5, hk5, hs5, hr5⟩
            have HMI5 := HMI4.out.kp hk5 (fun e => by have := HMR.out; omega)
            go_wp2_with fail
            have h4 := HMI5.itn
            rw [List.length_append, List.length_singleton] at h4
            refine ⟨⟨ds ++ [e], sn2, fo2, HMI5, hd5, KP4.out.trans hk5 (fun _ _ e => e), fun x hx => hs5 x (List.mem_cons_of_mem _ (HSUB.out x hx)), ?_⟩, by rw [HIN.out, h4]; exact HNR.out⟩
            rw [List.map_append, List.map_singleton, HAE.out]
            exact HSR.out.step haW hao hr5 hs5
end Go.Proofs.YtnccklbnncaeoaaGreat
