import Derived.Test.YtnccklbnncaeoaaGreatJaq
import Derived.WalkMore
import Derived.LaidEqlPtr
import Derived.Laws.EntriesVeiled
/- cache: waitForNone, Drop. -/
namespace Go.Proofs.YtnccklbnncaeoaaGreat
open Go.RowKit
set_option linter.unusedVariables false
set_option linter.unusedSimpArgs false
/-- Those of ds know no more that b waits for them. -/
def gT (G : Gc) (b : Nat) (ds : List Nat) : Gc := { G with R := fun a => if a ∈ ds then (G.R a).filter (fun x => decide (x ≠ b)) else G.R a }
theorem gT_nil (G : Gc) (b : Nat) : gT G b [] = G := by
  unfold gT
  simp
theorem gT_congr (G : Gc) (b : Nat) {ds es : List Nat} (h : ∀ x, x ∈ ds ↔ x ∈ es) : gT G b ds = gT G b es := by
  unfold gT
  simp only [h]
theorem gT_get {G : Gc} {b a : Nat} {ds : List Nat} (ha : a ∉ ds) : (gT G b ds).R a = G.R a := if_neg ha
theorem gT_snoc (G : Gc) (b : Nat) (ds : List Nat) (a : Nat) (ha : a ∉ ds) :
    { gT G b ds with R := upd (gT G b ds).R a (((gT G b ds).R a).filter (fun x => decide (x ≠ b))) } = gT G b (ds ++ [a]) := by
  have hR : upd (gT G b ds).R a (((gT G b ds).R a).filter (fun x => decide (x ≠ b))) = (gT G b (ds ++ [a])).R := by
    funext x
    unfold upd gT
    dsimp only
    by_cases hx : x = a
    · subst hx
      simp [ha]
    · simp [hx]
  rw [hR]
  rfl
/-- b waits for none any more. -/
def gWn (G : Gc) (b : Nat) : Gc := { gT G b (G.W b) with W := upd G.W b [] }
section
variable {S : ByteArray} {g bits room Q N : Nat} {G : Gc} {q : Gf} {ft : List (Int × Int)} {F : Nat → Prop} {w : World}
set_option maxHeartbeats 4000000 in
set_option maxRecDepth 100000 in
theorem wfn_any (h : Cm S g bits room Q G w) (b : Nat) (hb : b ∈ G.K) (hR : ∀ a ∈ G.W b, a ∈ G.K ∧ a ≠ b ∧ ∀ x ∈ G.R a, x ∈ G.K) :
    Calls Tryz.prog 85 #[ptr b] w fun e w' => e = .returned (.tuple #[]) ∧ Cm S g bits room Q (gWn G b) w' ∧ Kp (fun i => i = (G.c b).wm ∨ ∃ a ∈ G.W b, i = (G.c a).rm) w w' := by
  have hp := h.pg b (h.kb b hb)
  obtain ⟨s, hs⟩ := hp.wt
  obtain ⟨es, q, hm, hes⟩ := hp.ws
  have hrg := run_range_mp (P := Tryz.prog) Tryz.und106 hm
  have y7 := St.cell hs 6
  simp [Pc.cs] at y7
  have HS := hid h
  have HES := hid hes
  have HM := hid hm
  have HR0 := hid hR
  have HB := hid hb
  have hmlt := hm.lt
  clear h hp hs hes hm hR hb
  unfold ptr
  go_enter Tryz.func85, Tryz.ntmps85
  go_wp2_with fail
  have H0 : Hid (Mi (w.alloc (.mapIter (some (G.c b).wm) q #[] q)) w.heap.size (G.c b).wm q es []) := mi_new w (G.c b).wm q es
  have K0 : Hid (Kp (fun _ => False) w (w.alloc (.mapIter (some (G.c b).wm) q #[] q))) := (Kp.refl _ _).alloc _
  clear hrg y7
  generalize hr : w.heap.size = r at H0 ⊢
  generalize w.alloc (.mapIter (some (G.c b).wm) q #[] q) = W at H0 K0 ⊢
  have HR : Hid (w.heap.size = r) := hr
  clear hr
  go_loopw [3] (fun _ wr => ∃ ds, Mi wr r (G.c b).wm q es ds ∧ Cm S g bits room Q (gT G b (ds.map blk)) wr ∧ Kp (fun i => ∃ a ∈ G.W b, i = (G.c a).rm) w wr) (fun _ wr => es.length - itn wr r)
  case atStart =>
    refine ⟨[], H0.out, ?_, K0.out.mono (fun _ _ h => h.elim)⟩
    rw [List.map_nil, gT_nil]
    exact HS.out.kp0 K0.out
  case round =>
    clear H0 K0
    obtain ⟨ds, hmi, hcm, hkp⟩ := hrel
    have hbB := HS.out.kb b HB.out
    have hmap := blk_map HES.out
    have hRB : ∀ a ∈ G.W b, a ∈ G.B := fun a ha => HS.out.kb a (HR0.out a ha).1
    have hrm : r ≠ (G.c b).wm := by have := HR.out; omega
    have hnm : ¬ (∃ a ∈ G.W b, (G.c b).wm = (G.c a).rm) := by
      rintro ⟨a, ha, e⟩
      exact (HS.out.mi b hbB a (hRB a ha)).2.2 e
    have hm2 : Mp (Value.int .i64) wr (G.c b).wm es q := kp_mp HM.out hkp hnm
    have hin := hmi.itn
    have hle := hmi.le
    rcases hmi.next (P := Tryz.prog) hm2 hrm 0 with ⟨hp, hrun⟩ | ⟨e, w2, he, hne, hrun, hmi2, hk2, hent⟩
    · have hset : gT G b (ds.map blk) = gT G b (G.W b) := gT_congr G b (fun x => by rw [← hmap.1]; exact (hp.map blk).mem_iff)
      rw [hset] at hcm
      have hpb := hcm.pg b hbB
      obtain ⟨s2, hs2⟩ := hpb.wt
      have y7 := St.cell hs2 6
      simp [Pc.cs] at y7
      change wr.cell? _ = some (.map (some (G.c b).wm)) at y7
      obtain ⟨o', hcl, hcm1, hck⟩ := Mn.clear hpb.ws
      have HC : Hid (Cm S g bits room Q (gWn G b) (wr.putObj (G.c b).wm o')) := hcm.waits hbB hcm1 hck
      have HKC : Hid (Kp (fun i => i = (G.c b).wm) wr (wr.putObj (G.c b).wm o')) := hck
      have HKP := hid hkp
      change ∀ ty, (Builtin.clear_ #[106] ty #[.map (some (G.c b).wm)]).run Tryz.prog wr = _ at hcl
      clear hcm hpb hs2 hcm1 hck hkp hmi hm2 hp hset hmap
      go_wp2_with (first | (simp only [hcl]))
      go_end0
      exact ⟨rfl, HC.out, (HKP.out.mono (fun i _ h => .inr h)).trans HKC.out (fun i _ h => .inl h)⟩
    · obtain ⟨a, hae⟩ : ∃ a, blk e = a := ⟨_, rfl⟩
      have hea := hmap.2 e he
      rw [hae] at hea
      have haR : a ∈ G.W b := by rw [← hmap.1, ← hae]; exact List.mem_map_of_mem he
      obtain ⟨haK, hab, hWK⟩ := HR0.out a haR
      have haB := hRB a haR
      have had : a ∉ ds.map blk := by
        rw [← hae]
        exact blk_new HM.out.2 HES.out hmi.sub he hne
      have hcm2 : Cm S g bits room Q (gT G b (ds.map blk)) w2 := hcm.kp hk2 (fun i hi e => by
        have h1 := HS.out.lt (i := i) hi
        have h2 := HR.out
        subst e
        omega)
      have hcm3 := hcm2.kp0 (Kp.refl (fun _ => False) w2).drew
      obtain ⟨s1, ha1⟩ := (hcm2.pg a haB).wt
      obtain ⟨s2, hb1⟩ := (hcm2.pg b hbB).wt
      have ya := St.cell ha1 7
      have yb := St.cell hb1 0
      simp [Pc.cs] at ya yb
      change w2.cell? _ = some (.map (some (G.c a).rm)) at ya
      change w2.cell? _ = some (.int .i64 ((G.c b).n : Int)) at yb
      have hwa : Mn G.c w2.drew (G.c a).rm (G.R a) := by
        have := (hcm3.pg a haB).rs
        rw [gT_get had] at this
        exact this
      obtain ⟨o', hdl, hdm, hdk⟩ := hwa.del (G.c b).n
      have hfl : (G.R a).filter (fun x => decide ((G.c x).n ≠ (G.c b).n)) = ((gT G b (ds.map blk)).R a).filter (fun x => decide (x ≠ b)) := by
        rw [gT_get had]
        refine List.filter_congr fun x hx => ?_
        by_cases e1 : x = b
        · subst e1; simp
        · have : (G.c x).n ≠ (G.c b).n := fun e2 => e1 (HS.out.ks.nin x (hWK x hx) b HB.out e2)
          simp [e1, this]
      rw [hfl] at hdm
      have hc4 := hcm3.waiters haB hdm hdk
      rw [gT_snoc G b (ds.map blk) a had] at hc4
      have HC4 := hid hc4
      have HKP : Hid (Kp (fun i => ∃ a ∈ G.W b, i = (G.c a).rm) w (w2.drew.putObj (G.c a).rm o')) := by
        refine ((hkp.trans hk2 (fun i hi h => ?_)).trans (Kp.refl (fun _ => False) w2).drew (fun i _ h => h.elim)).trans hdk (fun i _ h => ⟨a, haR, h⟩)
        have := HR.out
        omega
      have hin2 := hmi2.itn
      rw [List.length_append, List.length_singleton] at hin2
      have hle2 := hmi2.le
      rw [List.length_append, List.length_singleton] at hle2
      have HMI : Hid (Mi (w2.drew.putObj (G.c a).rm o') r (G.c b).wm q es (ds ++ [e])) := (hmi2.kp (Kp.refl (fun _ => False) w2).drew (fun h => h)).kp hdk (fun e2 => by
        have h1 := (HS.out.pg a haB).rs.lt
        have h2 := HR.out
        omega)
      have HIN : Hid (itn wr r = ds.length) := hin
      have HAE := hid hae
      rw [hea.2] at hrun hent
      unfold ptr at hrun hent
      clear hcm hcm2 hcm3 hc4 hwa hdm hdk hfl ha1 hb1 hkp hmi hmi2 hk2 hm2 hin hin2 hmap hWK hae
      go_wp2
      go_region
      all_goals (try go_wp2_with (first | (simp only [hdl])))
      have hmi3 := HMI.out
      have h4 := hmi3.itn
      rw [List.length_append, List.length_singleton] at h4
      refine ⟨⟨ds ++ [e], hmi3, ?_, HKP.out⟩, by rw [HIN.out, h4]; omega⟩
      rw [List.map_append, List.map_singleton, HAE.out]
      exact HC4.out
theorem Cv.wn (h : Cv S g bits room Q N G q ft F w) (b : Nat) (hb : b ∈ G.K) {w' : World} (hc : Cm S g bits room Q (gWn G b) w') (hk : Kp (fun i => i = (G.c b).wm ∨ ∃ a ∈ G.W b, i = (G.c a).rm) w w') : Cv S g bits room Q N (gWn G b) q ft F w' ∧ Cch Q G (gWn G b) F F w w' := by
  have hW : ∀ x a, a ∈ (gWn G b).W x ↔ a ∈ G.W x ∧ x ≠ b := fun x a => by
    show a ∈ upd G.W b [] x ↔ _
    unfold upd
    by_cases e : x = b
    · simp [e]
    · simp [e]
  have hR : ∀ x a, x ∈ (gWn G b).R a ↔ x ∈ G.R a ∧ x ≠ b := fun x a => by
    show x ∈ (if a ∈ G.W b then (G.R a).filter (fun x => decide (x ≠ b)) else G.R a) ↔ _
    split
    · simp
    · rename_i hn
      constructor
      · intro hx
        refine ⟨hx, ?_⟩
        rintro rfl
        exact hn ((h.iv.wr x a).2 hx)
      · exact fun hx => hx.1
  have hkk : Kp (Fc Q G) w w' := hk.mono (fun i _ e => by
    rcases e with e | ⟨a, ha, e⟩
    · exact .inr (.inr (.inr (.inr (.inr ⟨b, h.iv.kb b hb, .inr (.inl e)⟩))))
    · exact .inr (.inr (.inr (.inr (.inr ⟨a, h.iv.kb a (h.iv.wk b a ha).2, .inr (.inr (.inl e))⟩)))))
  refine ⟨⟨hc, h.sw.kp hkk (fun i hi hf => h.ap i hf hi), h.ap, ⟨fun x a ha => h.iv.wk x a ((hW x a).1 ha).1, fun x a => ?_, h.iv.rk.sub (fun x a ha => ((hW x a).1 ha).1), h.iv.kb, h.iv.lk, h.iv.ll, h.iv.pk, h.iv.dk, h.iv.hp⟩, fun x a ha => h.op x a ((hW x a).1 ha).1, h.pp, h.pn, h.nn, h.tt, h.tk, h.nb, h.yl, h.lr, h.bb, h.rr⟩, hkk.mono (fun i _ e => .inl e), fun i hi => .inl hi, fun i hi => .inl hi⟩
  rw [hW x a, hR x a, h.iv.wr x a]
/-- Drop. -/
def DrP (S : ByteArray) (g bits room Q N : Nat) (G : Gc) (q : Gf) (ft : List (Int × Int)) (F : Nat → Prop) (w : World) (k : Int) (e : Ending) (w' : World) : Prop :=
  if mayn bits k = true then match kget G k.toNat with
    | some b => e = .returned (.int .i64 0) ∧ ∃ lv M, (b :: M).Perm G.L ∧ Cv S g bits room Q N (gLet (gWn G b) lv M b) q ft F w' ∧ Cch Q G (gLet (gWn G b) lv M b) F F w w'
    | none => e = .returned (.int .i64 7) ∧ w' = w
  else e = .returned (.int .i64 2) ∧ w' = w
set_option maxHeartbeats 4000000 in
theorem cdrop_any (h : Cv S g bits room Q N G q ft F w) (k : Int) :
    Calls Tryz.prog 38 #[ptr Q, .int .i64 k] w (DrP S g bits room Q N G q ft F w k) := by
  unfold DrP
  by_cases hk : mayn bits k = true
  · simp only [if_pos hk]
    obtain ⟨m, rfl⟩ : ∃ m : Nat, k = (m : Int) := by
      unfold mayn at hk
      simp at hk
      exact ⟨k.toNat, by omega⟩
    rw [Int.toNat_natCast]
    have HF := hid (find_any h m hk)
    cases hg : kget G m with
    | none =>
      rw [hg] at HF
      clear h
      unfold ptr at *
      go_enter Tryz.func38, Tryz.ntmps38
      go_wp2_with (first | (go_at_call 70; refine HF.out.mono ?_; rintro e w' ⟨rfl, h⟩; replace h := h.symm; subst h))
      go_ret
      exact ⟨rfl, rfl⟩
    | some b =>
      rw [hg] at HF
      obtain ⟨h1, h2, h3, h4⟩ := h.kget_some hg
      have HW := hid (wfn_any h.cm b h3 (fun a ha => ⟨(h.iv.wk b a ha).2, fun e => h.iv.rk.irr b (.one (e ▸ ha)), fun x hx => (h.iv.wk x a ((h.iv.wr x a).2 hx)).1⟩))
      have HL : Hid (∀ w1, Cm S g bits room Q (gWn G b) w1 → Kp (fun i => i = (G.c b).wm ∨ ∃ a ∈ G.W b, i = (G.c a).rm) w w1 → Calls Tryz.prog 86 #[ptr Q, ptr b] w1 fun e w' => e = .returned (.tuple #[]) ∧ ∃ lv M, (b :: M).Perm G.L ∧ Cv S g bits room Q N (gLet (gWn G b) lv M b) q ft F w' ∧ Cch Q G (gLet (gWn G b) lv M b) F F w w') := fun w1 hc hk => by
        obtain ⟨v1, c1⟩ := h.wn b h3 hc hk
        refine (letgo_cv v1 b h1).mono ?_
        rintro e w' ⟨rfl, lv, M, hp, hv, hc⟩
        exact ⟨rfl, lv, M, hp, hv, c1.trans hc⟩
      clear h
      unfold ptr at *
      go_enter Tryz.func38, Tryz.ntmps38
      go_wp2_with (first | (go_at_call 70; refine HF.out.mono ?_; rintro e w' ⟨rfl, h⟩; replace h := h.symm; subst h) | (go_at_call 85; refine HW.out.mono ?_; rintro _ w1 ⟨rfl, hc, hk⟩; have HL1 := hid (HL.out w1 hc hk); clear hc hk) | (go_at_call 86; refine HL1.out.mono ?_; rintro _ w2 ⟨rfl, H1⟩))
      go_ret
      exact ⟨rfl, H1⟩
  · have hk2 : mayn bits k = false := by simpa using hk
    have HF := hid (find_bad h k hk2)
    simp only [if_neg hk]
    clear h
    unfold ptr at *
    go_enter Tryz.func38, Tryz.ntmps38
    go_wp2_with (first | (go_at_call 70; refine HF.out.mono ?_; rintro e w' ⟨rfl, h⟩; replace h := h.symm; subst h))
    go_ret
    exact ⟨rfl, rfl⟩
end
end Go.Proofs.YtnccklbnncaeoaaGreat
/- cache: the search through those who wait for one another; plain mathematics. -/
namespace Go.Proofs.YtnccklbnncaeoaaGreat
open Go.RowKit
set_option linter.unusedVariables false
set_option linter.unusedSimpArgs false
/-- What a search from b leaves. -/
def Srch (W : Nat → List Nat) (o b : Nat) (sn : List Nat) (fo : Bool) (sn' : List Nat) (fo' : Bool) : Prop :=
  (fo' = true → fo = true ∨ Rch W b o) ∧ (fo' = false → fo = false ∧ (∀ x ∈ W b, x ≠ o ∧ x ∈ sn') ∧ ∀ y ∈ sn', y ∉ sn → ∀ x ∈ W y, x ≠ o ∧ x ∈ sn')
/-- And when those of D have come. -/
def SrchI (W : Nat → List Nat) (o b : Nat) (D sn : List Nat) (fo : Bool) (sn' : List Nat) (fo' : Bool) : Prop :=
  (fo' = true → fo = true ∨ Rch W b o) ∧ (fo' = false → fo = false ∧ (∀ x ∈ D, x ≠ o ∧ x ∈ sn') ∧ ∀ y ∈ sn', y ∉ sn → ∀ x ∈ W y, x ≠ o ∧ x ∈ sn')
theorem SrchI.start (W : Nat → List Nat) (o b : Nat) (sn : List Nat) (fo : Bool) : SrchI W o b [] sn fo sn fo :=
  ⟨.inl, fun h => ⟨h, fun x hx => by (cases hx), fun y hy hn => absurd hy hn⟩⟩
theorem SrchI.found {W : Nat → List Nat} {o b x : Nat} {D sn sn' : List Nat} {fo fo' : Bool} (h : SrchI W o b D sn fo sn' fo') (hx : x ∈ W b) (hf : fo' = true ∨ x = o) : Srch W o b sn fo sn' true := by
  refine ⟨fun _ => ?_, fun e => by cases e⟩
  rcases hf with e | e
  · exact h.1 e
  · exact .inr (.one (e ▸ hx))
theorem SrchI.again {W : Nat → List Nat} {o b x : Nat} {D sn sn' : List Nat} {fo : Bool} (h : SrchI W o b D sn fo sn' false) (hx : x ∈ sn') (hf : x ≠ o) : SrchI W o b (D ++ [x]) sn fo sn' false := by
  refine ⟨fun e => (by cases e), fun _ => ?_⟩
  obtain ⟨h1, h2, h3⟩ := h.2 rfl
  refine ⟨h1, fun y hy => ?_, h3⟩
  rcases List.mem_append.1 hy with hy | hy
  · exact h2 y hy
  · rw [List.mem_singleton.1 hy]; exact ⟨hf, hx⟩
theorem SrchI.step {W : Nat → List Nat} {o b x : Nat} {D sn sn1 sn2 : List Nat} {fo fo2 : Bool} (h : SrchI W o b D sn fo sn1 false) (hx : x ∈ W b) (hf : x ≠ o) (k : Srch W o x (x :: sn1) false sn2 fo2) (hs : ∀ y ∈ x :: sn1, y ∈ sn2) : SrchI W o b (D ++ [x]) sn fo sn2 fo2 := by
  obtain ⟨h1, h2, h3⟩ := h.2 rfl
  refine ⟨fun e => ?_, fun e => ?_⟩
  · rcases k.1 e with k1 | k1
    · cases k1
    · exact .inr (.step hx k1)
  · obtain ⟨_, k2, k3⟩ := k.2 e
    refine ⟨h1, fun y hy => ?_, fun y hy hn z hz => ?_⟩
    · rcases List.mem_append.1 hy with hy | hy
      · exact ⟨(h2 y hy).1, hs y (List.mem_cons_of_mem _ (h2 y hy).2)⟩
      · rw [List.mem_singleton.1 hy]
        exact ⟨hf, hs x List.mem_cons_self⟩
    · by_cases e1 : y ∈ x :: sn1
      · rcases List.mem_cons.1 e1 with rfl | e2
        · exact k2 z hz
        · have := h3 y e2 hn z hz
          exact ⟨this.1, hs z (List.mem_cons_of_mem _ this.2)⟩
      · exact k3 y hy e1 z hz
theorem SrchI.done {W : Nat → List Nat} {o b : Nat} {D sn sn' : List Nat} {fo fo' : Bool} (h : SrchI W o b D sn fo sn' fo') (hp : ∀ x ∈ W b, x ∈ D) : Srch W o b sn fo sn' fo' :=
  ⟨h.1, fun e => ⟨(h.2 e).1, fun x hx => (h.2 e).2.1 x (hp x hx), (h.2 e).2.2⟩⟩
theorem miss_le {K S T : List Nat} (h : ∀ x ∈ S, x ∈ T) : (K.filter (fun k => decide (k ∉ T))).length ≤ (K.filter (fun k => decide (k ∉ S))).length := by
  induction K with
  | nil => exact Nat.le_refl _
  | cons a l ih =>
    by_cases h1 : a ∉ T
    · have h2 : a ∉ S := fun e => h1 (h a e)
      rw [List.filter_cons_of_pos (by simpa using h1), List.filter_cons_of_pos (by simpa using h2)]
      simpa using ih
    · rw [List.filter_cons_of_neg (by simpa using h1)]
      by_cases h2 : a ∉ S
      · rw [List.filter_cons_of_pos (by simpa using h2), List.length_cons]; omega
      · rw [List.filter_cons_of_neg (by simpa using h2)]; exact ih
/-- Behind a search that began with nobody seen. -/
theorem Srch.rch {W : Nat → List Nat} {o b : Nat} {sn' : List Nat} {fo' : Bool} (h : Srch W o b [] false sn' fo') : fo' = true ↔ Rch W b o := by
  constructor
  · intro e
    rcases h.1 e with e1 | e1
    · cases e1
    · exact e1
  · intro hr
    cases e : fo' with
    | true => rfl
    | false =>
      obtain ⟨_, h2, h3⟩ := h.2 e
      exact absurd hr (dfs_none (S := fun x => x ∈ sn') h2 (fun y hy => h3 y hy (by simp)))
end Go.Proofs.YtnccklbnncaeoaaGreat
/- cache: leadsTo: the search. -/
namespace Go.Proofs.YtnccklbnncaeoaaGreat
open Go.RowKit
set_option linter.unusedVariables false
set_option linter.unusedSimpArgs false
theorem Tryz.und192 : Tryz.prog.underlying 192 = some (.map 2 193) := by kernel_rfl
theorem zer193 (w : World) : (zeroValue 193).run Tryz.prog w = .ok (.agg #[]) w := by kernel_rfl
theorem run_lookup2 {w : World} {b c : Nat} {es : List (Int × Value × Nat)} (h : Mp (Value.int .i64) w b es c) (k : Int) :
    (Instr.lookup 192 (.map (some b)) (.int .i64 k) true).run Tryz.prog w = .ok (.tuple #[(mget es k).getD (.agg #[]), .bool (mget es k).isSome]) w := by
  have hf := ky2.find k es 0
  have hg := fidx_get es k 0
  cases hq : fidx es k 0 with
  | none =>
    rw [hq] at hf hg
    rw [← hg]
    simp [Instr.lookup, run_underlying Tryz.und192, MapKept.run_getObj_map h.1, MapKept.run_checkKey ky2.und (ky2.is k), MapKept.run_findKey ky2.und hf, zer193]
  | some r =>
    rw [hq] at hf hg
    rw [← hg]
    simp [Instr.lookup, run_underlying Tryz.und192, MapKept.run_getObj_map h.1, MapKept.run_checkKey ky2.und (ky2.is k), MapKept.run_findKey ky2.und hf]
theorem Tryz.isz142 : (Tryz.prog.info? 142).map (·.size) = some 8 := by kernel_rfl
theorem inf142 : ∃ j, Tryz.prog.info? 142 = some j ∧ j.size ≠ 0 := by
  have h := Tryz.isz142
  cases e : Tryz.prog.info? 142 with
  | none => rw [e] at h; cases h
  | some j =>
    rw [e] at h
    refine ⟨j, rfl, ?_⟩
    have : j.size = 8 := by simpa using h
    omega
theorem eql_page {w : World} {a o : Nat} {ca co : Array Value} (ha : St 142 w a ca) (ho : St 142 w o co) : (binOp .eql 138 (.pointer (some ⟨a, 0, none⟩)) (.pointer (some ⟨o, 0, none⟩))).run Tryz.prog w = .ok (.bool (decide (a = o))) w := by
  obtain ⟨j, hj, hs⟩ := inf142
  by_cases h : a = o
  · subst h
    rw [decide_eq_true rfl]
    exact run_eql_ptr_same w _ Tryz.underlying138 hj
  · rw [decide_eq_false h]
    exact run_eql_ptr_other w Tryz.underlying138 hj hs (fun e => h (by cases e; rfl)) ha ho
/-- Who was seen. -/
def Sn (G : Gc) (w : World) (m : Nat) (sn : List Nat) : Prop := ∃ es c, Mp (Value.int .i64) w m es c ∧ (∀ e ∈ es, e.2.1 = .agg #[]) ∧ ∀ b ∈ G.K, (mget es ((G.c b).n : Int)).isSome = decide (b ∈ sn)
theorem Sn.kp {G : Gc} {F : Nat → Prop} {w w' : World} {m : Nat} {sn : List Nat} (h : Sn G w m sn) (k : Kp F w w') (hf : ¬ F m) : Sn G w' m sn := by
  obtain ⟨es, c, h1, h2, h3⟩ := h
  exact ⟨es, c, kp_mp h1 k hf, h2, h3⟩
theorem Sn.lt {G : Gc} {w : World} {m : Nat} {sn : List Nat} (h : Sn G w m sn) : m < w.heap.size := by
  obtain ⟨es, c, h1, h2, h3⟩ := h
  exact h1.lt
theorem Sn.get {G : Gc} {w : World} {m : Nat} {sn : List Nat} (h : Sn G w m sn) {b : Nat} (hb : b ∈ G.K) : (Instr.lookup 192 (.map (some m)) (.int .i64 (G.c b).n) true).run Tryz.prog w = .ok (.tuple #[.agg #[], .bool (decide (b ∈ sn))]) w := by
  obtain ⟨es, c, h1, h2, h3⟩ := h
  have := run_lookup2 h1 ((G.c b).n : Int)
  rw [h3 b hb] at this
  rw [this]
  have e : (mget es ((G.c b).n : Int)).getD (.agg #[]) = .agg #[] := by
    cases hm : mget es ((G.c b).n : Int) with
    | none => rfl
    | some v =>
      obtain ⟨q, hq⟩ := mem_of_mget hm
      exact h2 _ hq
  rw [e]
theorem Sn.put {G : Gc} {w : World} {m : Nat} {sn : List Nat} (h : Sn G w m sn) (hn : Nin G.c G.K) {b : Nat} (hb : b ∈ G.K) : ∃ o', (Instr.mapUpdate 192 (.map (some m)) (.int .i64 (G.c b).n) (.agg #[])).run Tryz.prog w = .ok () (w.putObj m o') ∧ Sn G (w.putObj m o') m (b :: sn) ∧ Kp (fun i => i = m) w (w.putObj m o') := by
  obtain ⟨es, c, h1, h2, h3⟩ := h
  obtain ⟨r1, r2⟩ := mp_set h1 (h1.2.put ((G.c b).n : Int) (.agg #[]))
  refine ⟨_, run_update_mp ky2 Tryz.und192 h1 _ _, ⟨_, _, r1, fun e he => ?_, fun a ha => ?_⟩, Kp.of_grown r2 (fun i e => by cases e; rfl)⟩
  · have hk := (h1.2.put ((G.c b).n : Int) (.agg #[])).1
    have := mget_mem hk he
    rw [mget_put] at this
    split at this
    · exact (Option.some.inj this).symm
    · obtain ⟨q, hq⟩ := mem_of_mget this
      have h4 := h2 _ hq
      exact h4
  · rw [mget_put]
    by_cases e : a = b
    · subst e
      rw [if_pos rfl]
      simp
    · have hne : ¬ (((G.c a).n : Int) = ((G.c b).n : Int)) := fun e2 => e (hn a ha b hb (by omega))
      rw [if_neg hne, h3 a ha]
      simp [e]
theorem Sn.new (G : Gc) (w : World) : Sn G (w.alloc (.map #[] 0)) w.heap.size [] := ⟨[], 0, Mp.new _ w, fun e he => by (cases he), fun b _ => by simp [mget]⟩
/-- The search's cells. -/
structure Ds (S : ByteArray) (g bits room Q : Nat) (G : Gc) (s f oc d m o : Nat) (sn : List Nat) (fo : Bool) (w : World) : Prop where
  cm : Cm S g bits room Q G w
  cs : St 192 w s #[.map (some m)]
  cf : St 4 w f #[.bool fo]
  co : St 138 w oc #[ptr o]
  cd : St 143 w d #[.func (.func 111) #[] #[ptr s, ptr f, ptr oc, ptr d]]
  mp : Sn G w m sn
  nm : ¬ Fc Q G m
  nf : ¬ Fc Q G f
  mm : ∀ b ∈ G.B, (G.c b).wm ≠ m
theorem Ds.kp {S : ByteArray} {g bits room Q : Nat} {G : Gc} {s f oc d m o : Nat} {sn : List Nat} {fo : Bool} {w w' : World} (h : Ds S g bits room Q G s f oc d m o sn fo w) (k : Kp (fun _ => False) w w') : Ds S g bits room Q G s f oc d m o sn fo w' :=
  ⟨h.cm.kp0 k, h.cs.kp k (fun h => h), h.cf.kp k (fun h => h), h.co.kp k (fun h => h), h.cd.kp k (fun h => h), h.mp.kp k (fun h => h), h.nm, h.nf, h.mm⟩
theorem Sn.tag {G : Gc} {w : World} {m : Nat} {sn : List Nat} (h : Sn G w m sn) : tag w m = 0 := by
  obtain ⟨es, q, h1, h2⟩ := h
  unfold YtnccklbnncaeoaaGreat.tag
  rw [h1.1]
/-- The map is another. -/
theorem Ds.map {S : ByteArray} {g bits room Q : Nat} {G : Gc} {s f oc d m o : Nat} {sn sn' : List Nat} {fo : Bool} {w w' : World} (h : Ds S g bits room Q G s f oc d m o sn fo w) (hs : Sn G w' m sn') (k : Kp (fun i => i = m) w w') : Ds S g bits room Q G s f oc d m o sn' fo w' :=
  ⟨h.cm.kp k (fun i hi e => h.nm (e ▸ hi)), h.cs.kp k (tag_ne h.cs.tag h.mp.tag (by decide)), h.cf.kp k (tag_ne h.cf.tag h.mp.tag (by decide)), h.co.kp k (tag_ne h.co.tag h.mp.tag (by decide)), h.cd.kp k (tag_ne h.cd.tag h.mp.tag (by decide)), hs, h.nm, h.nf, h.mm⟩
/-- Found. -/
theorem Ds.found {S : ByteArray} {g bits room Q : Nat} {G : Gc} {s f oc d m o : Nat} {sn : List Nat} {fo : Bool} {w : World} (h : Ds S g bits room Q G s f oc d m o sn fo w) : Ds S g bits room Q G s f oc d m o sn true (w.setCell ⟨f, 0, none⟩ (.bool true)) ∧ Kp (fun i => i = f) w (w.setCell ⟨f, 0, none⟩ (.bool true)) := by
  have k : Kp (fun i => i = f) w (w.setCell ⟨f, 0, none⟩ (.bool true)) := kp_setCell w f 0 _ (fun i => i = f) rfl
  refine ⟨⟨h.cm.kp k (fun i hi e => h.nf (e ▸ hi)), h.cs.kp k (tag_ne h.cs.tag h.cf.tag (by decide)), ?_, h.co.kp k (tag_ne h.co.tag h.cf.tag (by decide)), h.cd.kp k (tag_ne h.cd.tag h.cf.tag (by decide)), h.mp.kp k (tag_ne h.mp.tag h.cf.tag (by decide)), h.nm, h.nf, h.mm⟩, k⟩
  have := St.set h.cf 0 (.bool true)
  simpa using this
/-- What the search leaves. -/
def DsP (S : ByteArray) (g bits room Q : Nat) (G : Gc) (s f oc d m o b : Nat) (sn : List Nat) (fo : Bool) (w : World) (e : Ending) (w' : World) : Prop :=
  e = .returned (.tuple #[]) ∧ ∃ sn' fo', Ds S g bits room Q G s f oc d m o sn' fo' w' ∧ Kp (fun i => i = m ∨ i = f) w w' ∧ (∀ x ∈ sn, x ∈ sn') ∧ Srch G.W o b sn fo sn' fo'
def DsIH (S : ByteArray) (g bits room Q : Nat) (G : Gc) (s f oc d m o n : Nat) : Prop :=
  ∀ w b sn fo, Ds S g bits room Q G s f oc d m o sn fo w → b ∈ G.B → (G.K.filter (fun k => decide (k ∉ sn))).length < n → Calls Tryz.prog 111 #[ptr b, ptr s, ptr f, ptr oc, ptr d] w (DsP S g bits room Q G s f oc d m o b sn fo w)
set_option maxHeartbeats 4000000 in
set_option maxRecDepth 100000 in
theorem dfs_step {S : ByteArray} {g bits room Q : Nat} {G : Gc} {s f oc d m o : Nat} (hiv : Iv G) (hoB : o ∈ G.B) (n : Nat) (IH : ∀ k, k < n → DsIH S g bits room Q G s f oc d m o k) : DsIH S g bits room Q G s f oc d m o n := by
  intro w b sn fo hD hb hn
  obtain ⟨sl, hs⟩ := (hD.cm.pg b hb).wt
  obtain ⟨es, q, hm, hes⟩ := (hD.cm.pg b hb).ws
  have hrg := run_range_mp (P := Tryz.prog) Tryz.und106 hm
  have y6 := St.cell hs 6
  simp [Pc.cs] at y6
  have HD := hid hD
  have HES := hid hes
  have HM := hid hm
  have HN := hid hn
  have HIH := hid IH
  have HV := hid hiv
  clear hD hs hes hm hn IH hiv
  unfold ptr
  go_enter Tryz.func111, Tryz.ntmps111
  try go_wp2_with fail
  go_step3
  try go_wp2_with fail
  go_step3
  go_wp2_with fail
  have H0 : Hid (Mi (w.alloc (.mapIter (some (G.c b).wm) q #[] q)) w.heap.size (G.c b).wm q es []) := mi_new w (G.c b).wm q es
  have K0 : Hid (Kp (fun _ => False) w (w.alloc (.mapIter (some (G.c b).wm) q #[] q))) := (Kp.refl _ _).alloc _
  clear hrg y6
  generalize hr : w.heap.size = r at H0 ⊢
  generalize w.alloc (.mapIter (some (G.c b).wm) q #[] q) = W at H0 K0 ⊢
  have HR : Hid (w.heap.size = r) := hr
  clear hr
  go_loopw [6, 7, 8, 9] (fun _ _ _ _ wr => ∃ ds sn1 fo1, Mi wr r (G.c b).wm q es ds ∧ Ds S g bits room Q G s f oc d m o sn1 fo1 wr ∧ Kp (fun i => i = m ∨ i = f) w wr ∧ (∀ x ∈ sn, x ∈ sn1) ∧ SrchI G.W o b (ds.map blk) sn fo sn1 fo1) (fun _ _ _ _ wr => es.length - itn wr r)
  case atStart =>
    exact ⟨[], sn, fo, H0.out, HD.out.kp K0.out, K0.out.mono (fun _ _ h => h.elim), fun _ h => h, SrchI.start _ _ _ _ _⟩
  case round =>
    clear H0 K0
    obtain ⟨ds, sn1, fo1, hmi, hds, hkp, hsub, hsr⟩ := hrel
    have hmap := blk_map HES.out
    have hrm : r ≠ (G.c b).wm := by
      have := HR.out
      have := HM.out.lt
      omega
    have hnm : ¬ ((G.c b).wm = m ∨ (G.c b).wm = f) := by
      rintro (e | e)
      · exact HD.out.mm b hb e
      · exact HD.out.nf (.inr (.inr (.inr (.inr (.inr ⟨b, hb, .inr (.inl e.symm)⟩)))))
    have hm2 : Mp (Value.int .i64) wr (G.c b).wm es q := kp_mp HM.out hkp hnm
    have hin := hmi.itn
    have hle := hmi.le
    have hmlt : m < r := by rw [← HR.out]; exact HD.out.mp.lt
    have hflt : f < r := by rw [← HR.out]; exact HD.out.cf.lt
    rcases hmi.next (P := Tryz.prog) hm2 hrm 0 with ⟨hp, hrun⟩ | ⟨e, w2, he, hne, hrun, hmi2, hk2, hent⟩
    · have hall : ∀ x ∈ G.W b, x ∈ ds.map blk := fun x hx => by
        rw [← hmap.1] at hx
        exact (hp.map blk).mem_iff.2 hx
      have HE : Hid (DsP S g bits room Q G s f oc d m o b sn fo w (.returned (.tuple #[])) wr) := ⟨rfl, sn1, fo1, hds, hkp, hsub, hsr.done hall⟩
      clear hds hkp hsub hsr hmi hm2 hp hmap hall
      go_wp2
      go_end0
      exact HE.out
    · obtain ⟨a, hae⟩ : ∃ a, blk e = a := ⟨_, rfl⟩
      have hea := hmap.2 e he
      rw [hae] at hea
      have haW : a ∈ G.W b := by rw [← hmap.1, ← hae]; exact List.mem_map_of_mem he
      have haK : a ∈ G.K := (HV.out.wk b a haW).2
      have had : a ∉ ds.map blk := by
        rw [← hae]
        exact blk_new HM.out.2 HES.out hmi.sub he hne
      have hlt0 := hkp.size
      have hk2' : Kp (fun _ => False) w2 w2 := Kp.refl _ _
      have hnF : ∀ i, i < w.heap.size → ¬ i = r := fun i hi e => by have := HR.out; omega
      have hds2 : Ds S g bits room Q G s f oc d m o sn1 fo1 w2 := by
        refine ⟨hds.cm.kp hk2 (fun i hi e => ?_), hds.cs.kp hk2 (hnF s HD.out.cs.lt), hds.cf.kp hk2 (hnF f HD.out.cf.lt), hds.co.kp hk2 (hnF oc HD.out.co.lt), hds.cd.kp hk2 (hnF d HD.out.cd.lt), hds.mp.kp hk2 (hnF m HD.out.mp.lt), hds.nm, hds.nf, hds.mm⟩
        exact hnF i (HD.out.cm.lt hi) e
      have KP2 : Hid (Kp (fun i => i = m ∨ i = f) w w2) := hkp.trans hk2 (fun i hi e => absurd e (hnF i hi))
      have hget := hds2.mp.get haK
      have zs := hds2.cs.cell 0
      simp at zs
      have hin2 := hmi2.itn
      rw [List.length_append, List.length_singleton] at hin2
      have hle2 := hmi2.le
      rw [List.length_append, List.length_singleton] at hle2
      rw [hea.2] at hrun hent
      rw [hea.1] at hrun hent
      have HDS := hid hds2
      have HMI := hid hmi2
      have HSR := hid hsr
      have HSUB := hid hsub
      have HIN : Hid (itn wr r = ds.length) := hin
      have HAE := hid hae
      have HMR : Hid (m < r ∧ f < r) := ⟨hmlt, hflt⟩
      have HNR : Hid (es.length - (ds.length + 1) < es.length - ds.length) := by show _ < _; omega
      unfold ptr at hrun hent
      clear hds hds2 hmi hmi2 hk2 hkp hsr hsub hm2 hin hin2 hmap hae hk2' hnF hmlt hflt hle hle2
      go_upto_region 4 with fail
      have KA : Hid (Kp (fun _ => False) w2 (w2.alloc (.cells #[] 193))) := (Kp.refl _ _).alloc _
      have HDS3 := hid (HDS.out.kp KA.out)
      have HMI3 := hid (HMI.out.kp KA.out (fun h => h))
      have KP3 : Hid (Kp (fun i => i = m ∨ i = f) w (w2.alloc (.cells #[] 193))) := KP2.out.trans KA.out (fun _ _ h => h.elim)
      clear HDS HMI KP2 KA hget zs hrun hent
      generalize w2.alloc (.cells #[] 193) = W3 at *
      have zf := HDS3.out.cf.cell 0
      have zo := HDS3.out.co.cell 0
      have zs3 := HDS3.out.cs.cell 0
      have zd := HDS3.out.cd.cell 0
      have ff := HDS3.out.cf.frozen 0
      simp at zf zo zs3 zd
      obtain ⟨sa, hsa⟩ := (HDS3.out.cm.pg a (HV.out.kb a haK)).wt
      obtain ⟨so, hso⟩ := (HDS3.out.cm.pg o hoB).wt
      have heq := eql_page hsa hso
      clear hsa hso
      unfold ptr at zo zd
      cases fo1 with
      | true =>
        obtain ⟨hF1, hF2⟩ := HDS3.out.found
        have HE : Hid (DsP S g bits room Q G s f oc d m o b sn fo w (.returned (.tuple #[])) (W3.setCell ⟨f, 0, none⟩ (.bool true))) := ⟨rfl, sn1, true, hF1, KP3.out.trans hF2 (fun _ _ e => .inr e), HSUB.out, HSR.out.found haW (.inl rfl)⟩
        clear hF1 hF2
        go_wp2_with fail
        go_end0
        exact HE.out
      | false =>
        by_cases hao : a = o
        · subst hao
          rw [decide_eq_true rfl] at heq
          obtain ⟨hF1, hF2⟩ := HDS3.out.found
          have HE : Hid (DsP S g bits room Q G s f oc d m a b sn fo w (.returned (.tuple #[])) (W3.setCell ⟨f, 0, none⟩ (.bool true))) := ⟨rfl, sn1, true, hF1, KP3.out.trans hF2 (fun _ _ e => .inr e), HSUB.out, HSR.out.found haW (.inr rfl)⟩
          clear hF1 hF2
          go_wp2_with fail
          go_end0
          exact HE.out
        · rw [decide_eq_false hao] at heq
          by_cases hs1 : a ∈ sn1
          · have hd1 : decide (a ∈ sn1) = true := by simpa using hs1
            rw [hd1]
            go_wp2_with fail
            have h4 := HMI3.out.itn
            rw [List.length_append, List.length_singleton] at h4
            refine ⟨⟨ds ++ [e], sn1, false, HMI3.out, HDS3.out, KP3.out, HSUB.out, ?_⟩, by rw [HIN.out, h4]; exact HNR.out⟩
            rw [List.map_append, List.map_singleton, HAE.out]
            exact HSR.out.again hs1 hao
          · have hd1 : decide (a ∈ sn1) = false := by simpa using hs1
            rw [hd1]
            obtain ⟨o', hup, hsn, hku⟩ := HDS3.out.mp.put HDS3.out.cm.ks.nin haK
            have HDS4 := hid (HDS3.out.map hsn hku)
            have HMI4 := hid (HMI3.out.kp hku (fun e => by have := HMR.out; omega))
            have KP4 : Hid (Kp (fun i => i = m ∨ i = f) w (W3.putObj m o')) := KP3.out.trans hku (fun _ _ e => .inl e)
            have zd4 := HDS4.out.cd.cell 0
            simp at zd4
            unfold ptr at zd4
            have hml : (G.K.filter (fun k => decide (k ∉ a :: sn1))).length < (G.K.filter (fun k => decide (k ∉ sn1))).length := miss_lt haK hs1
            have hml2 : (G.K.filter (fun k => decide (k ∉ sn1))).length ≤ (G.K.filter (fun k => decide (k ∉ sn))).length := miss_le HSUB.out
            have HC := hid (HIH.out (G.K.filter (fun k => decide (k ∉ sn1))).length (by have := HN.out; omega) (W3.putObj m o') a (a :: sn1) false HDS4.out (HV.out.kb a haK) hml)
            clear hsn hku hml hml2
            unfold ptr at HC
            go_wp2_with fail
            refine HC.out.mono ?_
            rintro _ w5 ⟨rfl, sn2, fo2, hd5, hk5, hs5, hr5⟩
            have HMI5 := HMI4.out.kp hk5 (fun e => by have := HMR.out; omega)
            go_wp2_with fail
            have h4 := HMI5.itn
            rw [List.length_append, List.length_singleton] at h4
            refine ⟨⟨ds ++ [e], sn2, fo2, HMI5, hd5, KP4.out.trans hk5 (fun _ _ e => e), fun x hx => hs5 x (List.mem_cons_of_mem _ (HSUB.out x hx)), ?_⟩, by rw [HIN.out, h4]; exact HNR.out⟩
            rw [List.map_append, List.map_singleton, HAE.out]
            exact HSR.out.step haW hao hr5 hs5
end Go.Proofs.YtnccklbnncaeoaaGreat
/- cache: leadsTo. -/
namespace Go.Proofs.YtnccklbnncaeoaaGreat
open Go.RowKit
set_option linter.unusedVariables false
set_option linter.unusedSimpArgs false
theorem dfs_all {S : ByteArray} {g bits room Q : Nat} {G : Gc} {s f oc d m o : Nat} (hiv : Iv G) (hoB : o ∈ G.B) (n : Nat) : DsIH S g bits room Q G s f oc d m o n := by
  induction n using Nat.strongRecOn with
  | ind n ih => exact dfs_step hiv hoB n ih
/-- The cells at the search's beginning. -/
def wLead (w : World) (o : Nat) : World := ((((w.alloc (.cells #[ptr o] 138)).alloc (.cells #[.bool false] 4)).alloc (.map #[] 0)).alloc (.cells #[.map (some (w.heap.size + 2))] 192)).alloc (.cells #[.func (.func 111) #[] #[ptr (w.heap.size + 3), ptr (w.heap.size + 1), ptr w.heap.size, ptr (w.heap.size + 4)]] 143)
theorem lead_kp (w : World) (o : Nat) : Kp (fun _ => False) w (wLead w o) := (((((Kp.refl _ _).alloc _).alloc _).alloc _).alloc _).alloc _
theorem lead_ds {S : ByteArray} {g bits room Q : Nat} {G : Gc} {w : World} (h : Cm S g bits room Q G w) (o : Nat) : Ds S g bits room Q G (w.heap.size + 3) (w.heap.size + 1) w.heap.size (w.heap.size + 4) (w.heap.size + 2) o [] false (wLead w o) := by
  obtain ⟨z, hz⟩ : ∃ z, w.heap.size = z := ⟨_, rfl⟩
  have hlt : ∀ i, Fc Q G i → i < z := fun i hi => by rw [← hz]; exact h.lt hi
  have hk := lead_kp w o
  refine ⟨h.kp0 hk, ?_, ?_, ?_, ?_, ?_, fun hx => by (have := hlt _ hx; omega), fun hx => by (have := hlt _ hx; omega), fun b hb e => ?_⟩
  · have s1 := St.new 192 (((w.alloc (.cells #[ptr o] 138)).alloc (.cells #[.bool false] 4)).alloc (.map #[] 0)) #[.map (some (w.heap.size + 2))]
    simp only [World.size_alloc] at s1
    exact s1.kp ((Kp.refl (fun _ => False) _).alloc _) (fun h => h)
  · have s1 := St.new 4 (w.alloc (.cells #[ptr o] 138)) #[.bool false]
    simp only [World.size_alloc] at s1
    exact s1.kp ((((Kp.refl (fun _ => False) _).alloc _).alloc _).alloc _) (fun h => h)
  · exact (St.new 138 w #[ptr o]).kp (((((Kp.refl (fun _ => False) _).alloc _).alloc _).alloc _).alloc _) (fun h => h)
  · have s1 := St.new 143 ((((w.alloc (.cells #[ptr o] 138)).alloc (.cells #[.bool false] 4)).alloc (.map #[] 0)).alloc (.cells #[.map (some (w.heap.size + 2))] 192)) #[.func (.func 111) #[] #[ptr (w.heap.size + 3), ptr (w.heap.size + 1), ptr w.heap.size, ptr (w.heap.size + 4)]]
    simp only [World.size_alloc] at s1
    exact s1
  · have s1 := Sn.new G ((w.alloc (.cells #[ptr o] 138)).alloc (.cells #[.bool false] 4))
    simp only [World.size_alloc] at s1
    exact s1.kp (((Kp.refl (fun _ => False) _).alloc _).alloc _) (fun h => h)
  · have := hlt (G.c b).wm (.inr (.inr (.inr (.inr (.inr ⟨b, hb, .inr (.inl rfl)⟩)))))
    omega
section
variable {S : ByteArray} {g bits room Q N : Nat} {G : Gc} {q : Gf} {ft : List (Int × Int)} {F : Nat → Prop} {w : World}
set_option maxHeartbeats 4000000 in
set_option maxRecDepth 100000 in
theorem leads_any (h : Cv S g bits room Q N G q ft F w) (p o : Nat) (hp : p ∈ G.B) (ho : o ∈ G.B) :
    Calls Tryz.prog 66 #[ptr p, ptr o] w fun e w' => ∃ r : Bool, e = .returned (.bool r) ∧ (r = true ↔ Rch G.W p o) ∧ Kp (fun _ => False) w w' := by
  have hmm := @run_makeMap Tryz.prog
  obtain ⟨s1, hs1⟩ := (h.cm.pg o ho).wt
  have hrs := (h.cm.pg o ho).rs
  have KB : Hid (Kp (fun _ => False) w (w.alloc (.cells #[ptr o] 138))) := (Kp.refl _ _).alloc _
  have y7 := St.cell (hs1.kp KB.out (fun h => h)) 7
  simp [Pc.cs] at y7
  have hlen := fun ty => run_len_mn (hrs.kp KB.out (fun h => h)) ty
  have HD := hid (lead_ds h.cm o)
  have HK := hid (lead_kp w o)
  have HC : Hid (Calls Tryz.prog 111 #[ptr p, ptr (w.heap.size + 3), ptr (w.heap.size + 1), ptr w.heap.size, ptr (w.heap.size + 4)] (wLead w o) (DsP S g bits room Q G (w.heap.size + 3) (w.heap.size + 1) w.heap.size (w.heap.size + 4) (w.heap.size + 2) o p [] false (wLead w o))) := dfs_all h.iv ho _ _ _ _ _ HD.out hp (Nat.lt_succ_self _)
  have HR : Hid (∀ c, o ∈ G.W c → c ∈ G.R o) := fun c hc => (h.iv.wr c o).1 hc
  clear h hs1 hrs
  unfold wLead at HC HK HD
  unfold ptr at *
  cases hR : G.R o with
  | nil =>
    rw [hR] at hlen
    simp only [List.length_nil] at hlen
    go_enter Tryz.func66, Tryz.ntmps66
    go_wp2_with (first | (simp only [hlen]))
    go_ret
    refine ⟨false, rfl, ⟨fun e => (by cases e), fun e => ?_⟩, KB.out⟩
    obtain ⟨c, hc, _⟩ := e.last
    have := HR.out c hc
    rw [hR] at this
    cases this
  | cons x l =>
    rw [hR] at hlen
    simp only [List.length_cons] at hlen
    have hpos : ¬ ((l.length : Int) + 1 = 0) := by omega
    go_enter Tryz.func66, Tryz.ntmps66
    go_wp2_with (first | (simp only [hlen]))
    refine HC.out.mono ?_
    rintro _ w2 ⟨rfl, sn', fo', hd, hk, -, hsr⟩
    have zf := hd.cf.cell 0
    simp at zf
    have HE : Hid (Kp (fun _ => False) w w2) := HK.out.trans hk (fun i hi e => by omega)
    have HSR := hid hsr.rch
    clear hd hk hsr HC HD HK hlen y7 hmm
    go_wp2_with fail
    go_ret
    exact ⟨fo', rfl, HSR.out, HE.out⟩
end
end Go.Proofs.YtnccklbnncaeoaaGreat
/- cache: a page is known; a page waits for another one. -/
namespace Go.Proofs.YtnccklbnncaeoaaGreat
open Go.RowKit
set_option linter.unusedVariables false
set_option linter.unusedSimpArgs false
/-- p waits for o. -/
def gAf (G : Gc) (p o : Nat) : Gc := { G with W := upd G.W p (nput G.c (G.W p) o), R := upd G.R o (nput G.c (G.R o) p) }
theorem nput_mem {c : Nat → Pc} {L : List Nat} {b : Nat} (h : ∀ a ∈ L, (c a).n = (c b).n → a = b) (x : Nat) : x ∈ nput c L b ↔ x ∈ L ∨ x = b := by
  unfold nput
  cases e : nget c L (c b).n with
  | none => simp
  | some a =>
    obtain ⟨h1, h2⟩ := nget_mem e
    have := h a h1 h2
    subst this
    simp only [reduceCtorEq, if_false]
    constructor
    · exact .inl
    · rintro (h3 | rfl)
      · exact h3
      · exact h1
section
variable {S : ByteArray} {g bits room Q N : Nat} {G G2 : Gc} {q : Gf} {ft : List (Int × Int)} {F : Nat → Prop} {w : World}
/-- A page is known now. -/
theorem Cv.kn {w' : World} {s k b : Nat} (h : Cv S g bits room Q N G q ft F w) (hk : k < 268435456 / 2 ^ bits) (hs : w.heap.size ≤ s) (hg : KnG s G k b G2) (hc : Cm S g bits room Q G2 w') (hkp : Kp (fun i => i = G.pm) w w') : Cv S g bits room Q N G2 q ft F w' ∧ Cch Q G G2 F F w w' ∧ b ∈ G2.K ∧ (G2.c b).n = k := by
  have hkk : Kp (Fc Q G) w w' := hkp.mono (fun i _ e => .inr (.inr (.inl e)))
  rcases hg with ⟨hn, rfl⟩ | ⟨hn, wm, rm, h1, h2, h3, h4⟩
  · exact ⟨⟨hc, h.sw.kp hkk (fun i hi hf => h.ap i hf hi), h.ap, h.iv, h.op, h.pp, h.pn, h.nn, h.tt, h.tk, h.nb, h.yl, h.lr, h.bb, h.rr⟩, ⟨hkk.mono (fun i _ e => .inl e), fun i hi => .inl hi, fun i hi => .inl hi⟩, (nget_mem hn).1, (nget_mem hn).2⟩
  · have hlt : ∀ a ∈ G.B, a < w.heap.size := fun a ha => h.cm.lt (.inr (.inr (.inr (.inr (.inr ⟨a, ha, .inl rfl⟩)))))
    have hp := KnG.of hlt h.iv h.op (s := s) (k := k) (b := b) (G2 := G2) hs (fun a ha => nget_none hn a (h.iv.ll a ha)) (.inr ⟨hn, wm, rm, h1, h2, h3, h4⟩)
    have hfc : ∀ j, Fc Q G2 j → Fc Q G j ∨ w.heap.size ≤ j := fun j hj => (fc_kn hp hj).imp id (fun e => Nat.le_trans hs e)
    refine ⟨⟨hc, h.sw.kp hkk (fun i hi hf => h.ap i hf hi), fun j hj hf => ?_, hp.iv, hp.op, fun a ha => ?_, by rw [hp.P]; exact h.pn, by rw [hp.n3, hp.n4]; exact h.nn, by rw [hp.n1, hp.n2, hp.t]; exact h.tt, fun a ha => ?_, fun a ha => ?_, fun a ha j zs e => ?_, by rw [hp.L]; exact h.lr, h.bb, h.rr⟩, ⟨hkk.mono (fun i _ e => .inl e), hfc, fun i hi => .inl hi⟩, hp.bK, hp.n⟩
    · rcases hfc j hj with e | e
      · exact h.ap j e hf
      · have := h.sw.lt hf; omega
    · rw [hp.P] at ha
      rw [hp.c a (h.cm.pb a ha)]
      exact h.pp a ha
    · rw [hp.t]
      by_cases hB : a ∈ G.B
      · rw [hp.c a hB]; exact h.tk a hB
      · have hab := (hp.B a ha).resolve_left hB
        subst hab
        rw [(hp.nw hB).2.2.2.2]; omega
    · by_cases hB : a ∈ G.B
      · rw [hp.c a hB]; exact h.nb a hB
      · have hab := (hp.B a ha).resolve_left hB
        subst hab
        rw [hp.n]; exact hk
    · by_cases hB : a ∈ G.B
      · rw [hp.ya a hB] at e; exact h.yl a hB j zs e
      · have hab := (hp.B a ha).resolve_left hB
        subst hab
        rw [hp.y] at e; cases e
set_option maxHeartbeats 4000000 in
set_option maxRecDepth 100000 in
theorem wait_any (h : Cm S g bits room Q G w) (p o : Nat) (hp : p ∈ G.B) (ho : o ∈ G.B) (h1 : ∀ a ∈ G.W p, (G.c a).n = (G.c o).n → a = o) (h2 : ∀ a ∈ G.R o, (G.c a).n = (G.c p).n → a = p) :
    Calls Tryz.prog 69 #[ptr p, ptr o] w fun e w' => e = .returned (.tuple #[]) ∧ Cm S g bits room Q (gAf G p o) w' ∧ Kp (fun i => i = (G.c p).wm ∨ i = (G.c o).rm) w w' := by
  have kd : ∀ W : World, Kp (fun _ => False) W W.drew := fun W => (Kp.refl (fun _ => False) W).drew
  obtain ⟨s1, hs1⟩ := (h.pg p hp).wt
  obtain ⟨s2, hs2⟩ := (h.pg o ho).wt
  have y1 := St.cell hs1 6
  have y2 := St.cell hs2 0
  simp [Pc.cs] at y1 y2
  obtain ⟨o1, r1, m1, k1⟩ := ((h.pg p hp).ws.kp (kd w) (fun h => h)).put o h1
  have c1 := (h.kp0 (kd w)).waits hp m1 k1
  have K1 : Hid (Kp (fun i => i = (G.c p).wm) w (w.drew.putObj (G.c p).wm o1)) := ((kd w).mono (fun _ _ e => e.elim)).trans k1 (fun _ _ e => e)
  obtain ⟨W1, hW1⟩ : ∃ W1, w.drew.putObj (G.c p).wm o1 = W1 := ⟨_, rfl⟩
  rw [hW1] at r1 c1 K1
  obtain ⟨s3, hs3⟩ := (c1.pg o ho).wt
  obtain ⟨s4, hs4⟩ := (c1.pg p hp).wt
  have y3 := St.cell hs3 7
  have y4 := St.cell hs4 0
  simp [Pc.cs] at y3 y4
  change W1.cell? _ = some (.map (some (G.c o).rm)) at y3
  change W1.cell? _ = some (.int .i64 ((G.c p).n : Int)) at y4
  obtain ⟨o2, r2, m2, k2⟩ := ((c1.pg o ho).rs.kp (kd W1) (fun h => h)).put p h2
  have HC2 : Hid (Cm S g bits room Q (gAf G p o) (W1.drew.putObj (G.c o).rm o2)) := (c1.kp0 (kd W1)).waiters ho m2 k2
  have K2 : Hid (Kp (fun i => i = (G.c p).wm ∨ i = (G.c o).rm) w (W1.drew.putObj (G.c o).rm o2)) := ((K1.out.mono (fun _ _ e => .inl e)).trans ((kd W1).mono (G := fun i => i = (G.c p).wm ∨ i = (G.c o).rm) (fun _ _ e => e.elim)) (fun _ _ e => e)).trans k2 (fun _ _ e => .inr e)
  change (Instr.mapUpdate 106 (.map (some (G.c o).rm)) (.int .i64 (G.c p).n) (ptr p)).run Tryz.prog W1.drew = _ at r2
  clear h h1 h2 hp ho hs1 hs2 m1 k1 c1 hs3 hs4 m2 k2 kd K1
  unfold ptr at *
  go_enter Tryz.func69, Tryz.ntmps69
  go_wp2_with fail
  go_region
  all_goals (try go_wp2_with (first | (simp only [hW1])))
  go_region
  all_goals (try go_wp2_with fail)
  all_goals go_end0
  all_goals exact ⟨rfl, HC2.out, K2.out⟩
/-- A page waits for another one: all that holds. -/
theorem Cv.af (h : Cv S g bits room Q N G q ft F w) {p o : Nat} (hp : p ∈ G.K) (ho : o ∈ G.K) (hpo : o ≠ p) (hr : ¬ Rch G.W o p) (hu : ((G.c o).di || (G.c o).pe) = true) {w' : World} (hc : Cm S g bits room Q (gAf G p o) w') (hk : Kp (fun i => i = (G.c p).wm ∨ i = (G.c o).rm) w w') : Cv S g bits room Q N (gAf G p o) q ft F w' ∧ Cch Q G (gAf G p o) F F w w' := by
  have u1 : ∀ a ∈ G.W p, (G.c a).n = (G.c o).n → a = o := fun a ha e => h.cm.ks.nin a (h.iv.wk p a ha).2 o ho e
  have u2 : ∀ a ∈ G.R o, (G.c a).n = (G.c p).n → a = p := fun a ha e => h.cm.ks.nin a (h.iv.wk a o ((h.iv.wr a o).2 ha)).1 p hp e
  have hW : ∀ x a, a ∈ (gAf G p o).W x ↔ a ∈ G.W x ∨ (x = p ∧ a = o) := fun x a => by
    show a ∈ upd G.W p (nput G.c (G.W p) o) x ↔ _
    unfold upd
    split
    · rename_i e
      rw [nput_mem u1, e]
      simp
    · rename_i e
      simp [e]
  have hR : ∀ x a, x ∈ (gAf G p o).R a ↔ x ∈ G.R a ∨ (x = p ∧ a = o) := fun x a => by
    show x ∈ upd G.R o (nput G.c (G.R o) p) a ↔ _
    unfold upd
    split
    · rename_i e
      rw [nput_mem u2, e]
      simp
    · rename_i e
      simp [e]
  have hkk : Kp (Fc Q G) w w' := hk.mono (fun i _ e => by
    rcases e with e | e
    · exact .inr (.inr (.inr (.inr (.inr ⟨p, h.iv.kb p hp, .inr (.inl e)⟩))))
    · exact .inr (.inr (.inr (.inr (.inr ⟨o, h.iv.kb o ho, .inr (.inr (.inl e))⟩)))))
  refine ⟨⟨hc, h.sw.kp hkk (fun i hi hf => h.ap i hf hi), h.ap, ⟨fun x a ha => ?_, fun x a => ?_, h.iv.rk.add (p := p) (o := o) hr hpo (fun x a ha => (hW x a).1 ha), h.iv.kb, h.iv.lk, h.iv.ll, h.iv.pk, h.iv.dk, h.iv.hp⟩, fun x a ha => ?_, h.pp, h.pn, h.nn, h.tt, h.tk, h.nb, h.yl, h.lr, h.bb, h.rr⟩, hkk.mono (fun i _ e => .inl e), fun i hi => .inl hi, fun i hi => .inl hi⟩
  · rcases (hW x a).1 ha with e | ⟨rfl, rfl⟩
    · exact h.iv.wk x a e
    · exact ⟨hp, ho⟩
  · rw [hW x a, hR x a, h.iv.wr x a]
  · rcases (hW x a).1 ha with e | ⟨rfl, rfl⟩
    · exact h.op x a e
    · have hu2 : (G.c a).di = true ∨ (G.c a).pe = true := by simpa using hu
      exact hu2
end
end Go.Proofs.YtnccklbnncaeoaaGreat
