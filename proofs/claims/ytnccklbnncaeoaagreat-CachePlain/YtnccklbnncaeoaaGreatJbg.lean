import Derived.Test.YtnccklbnncaeoaaGreatJbf
import Derived.Test.YtnccklbnncaeoaaGreatJbb
import Derived.Test.YtnccklbnncaeoaaGreatJbe
/- cache: waitForNone, Drop. -/
namespace Go.Proofs.YtnccklbnncaeoaaGreat
open Go.RowKit
set_option linter.unusedVariables false
set_option linter.unusedSimpArgs false
/-- Those of ds know no more that b waits for them. -/
def gT (G : Gc) (b : Nat) (ds : List Nat) : Gc := { G with R := fun a => if a ∈ ds then (G.R a).filter (fun x => decide (x ≠ b)) else G.R a }
theorem gT_nil (G : Gc) (b : Nat) : gT G b [] = G := by
  unfold gT
  simp
theorem gT_congr (G : Gc) (b : Nat) {ds es : List Nat} (h : ∀ x, x ∈ ds ↔ x ∈ es) : gT G b ds = gT G b es := by
  unfold gT
  simp only [h]
theorem gT_get {G : Gc} {b a : Nat} {ds : List Nat} (ha : a ∉ ds) : (gT G b ds).R a = G.R a := if_neg ha
theorem gT_snoc (G : Gc) (b : Nat) (ds : List Nat) (a : Nat) (ha : a ∉ ds) :
    { gT G b ds with R := upd (gT G b ds).R a (((gT G b ds).R a).filter (fun x => decide (x ≠ b))) } = gT G b (ds ++ [a]) := by
  have hR : upd (gT G b ds).R a (((gT G b ds).R a).filter (fun x => decide (x ≠ b))) = (gT G b (ds ++ [a])).R := by
    funext x
    unfold upd gT
    dsimp only
    by_cases hx : x = a
    · subst hx
      simp [ha]
    · simp [hx]
  rw [hR]
  rfl
/-- b waits for none any more. -/
def gWn (G : Gc) (b : Nat) : Gc := { gT G b (G.W b) with W := upd G.W b [] }
section
variable {S : ByteArray} {g bits room Q N : Nat} {G : Gc} {q : Gf} {ft : List (Int × Int)} {F : Nat → Prop} {w : World}
set_option maxHeartbeats 4000000 in
set_option maxRecDepth 100000 in
theorem wfn_any (h : Cm S g bits room Q G w) (b : Nat) (hb : b ∈ G.K) (hR : ∀ a ∈ G.W b, a ∈ G.K ∧ a ≠ b ∧ ∀ x ∈ G.R a, x ∈ G.K) :
    Calls Tryz.prog 85 #[ptr b] w fun e w' => e = .returned (.tuple #[]) ∧ Cm S g bits room Q (gWn G b) w' ∧ Kp (fun i => i = (G.c b).wm ∨ ∃ a ∈ G.W b, i = (G.c a).rm) w w' := by
  have hp := h.pg b (h.kb b hb)
  obtain ⟨s, hs⟩ := hp.wt
  obtain ⟨es, q, hm, hes⟩ := hp.ws
  have hrg := run_range_mp (P := Tryz.prog) Tryz.und106 hm
  have y7 := St.cell hs 6
  simp [Pc.cs] at y7
  have HS := hid h
  have HES := hid hes
  have HM := hid hm
  have HR0 := hid hR
  have HB := hid hb
  have hmlt := hm.lt
  clear h hp hs hes hm hR hb
  unfold ptr
  go_enter Tryz.func85, Tryz.ntmps85
  go_wp2_with fail
  have H0 : Hid (Mi (w.alloc (.mapIter (some (G.c b).wm) q #[] q)) w.heap.size (G.c b).wm q es []) := mi_new w (G.c b).wm q es
  have K0 : Hid (Kp (fun _ => False) w (w.alloc (.mapIter (some (G.c b).wm) q #[] q))) := (Kp.refl _ _).alloc _
  clear hrg y7
  generalize hr : w.heap.size = r at H0 ⊢
  generalize w.alloc (.mapIter (some (G.c b).wm) q #[] q) = W at H0 K0 ⊢
  have HR : Hid (w.heap.size = r) := hr
  clear hr
  go_loopw [3] (fun _ wr => ∃ ds, Mi wr r (G.c b).wm q es ds ∧ Cm S g bits room Q (gT G b (ds.map blk)) wr ∧ Kp (fun i => ∃ a ∈ G.W b, i = (G.c a).rm) w wr) (fun _ wr => es.length - itn wr r)
  case atStart =>
    refine ⟨[], H0.out, ?_, K0.out.mono (fun _ _ h => h.elim)⟩
    rw [List.map_nil, gT_nil]
    exact HS.out.kp0 K0.out
  case round =>
    clear H0 K0
    obtain ⟨ds, hmi, hcm, hkp⟩ := hrel
    have hbB := HS.out.kb b HB.out
    have hmap := blk_map HES.out
    have hRB : ∀ a ∈ G.W b, a ∈ G.B := fun a ha => HS.out.kb a (HR0.out a ha).1
    have hrm : r ≠ (G.c b).wm := by have := HR.out; omega
    have hnm : ¬ (∃ a ∈ G.W b, (G.c b).wm = (G.c a).rm) := by
      rintro ⟨a, ha, e⟩
      exact (HS.out.mi b hbB a (hRB a ha)).2.2 e
    have hm2 : Mp (Value.int .i64) wr (G.c b).wm es q := kp_mp HM.out hkp hnm
    have hin := hmi.itn
    have hle := hmi.le
    rcases hmi.next (P := Tryz.prog) hm2 hrm 0 with ⟨hp, hrun⟩ | ⟨e, w2, he, hne, hrun, hmi2, hk2, hent⟩
    · have hset : gT G b (ds.map blk) = gT G b (G.W b) := gT_congr G b (fun x => by rw [← hmap.1]; exact (hp.map blk).mem_iff)
      rw [hset] at hcm
      have hpb := hcm.pg b hbB
      obtain ⟨s2, hs2⟩ := hpb.wt
      have y7 := St.cell hs2 6
      simp [Pc.cs] at y7
      change wr.cell? _ = some (.map (some (G.c b).wm)) at y7
      obtain ⟨o', hcl, hcm1, hck⟩ := Mn.clear hpb.ws
      have HC : Hid (Cm S g bits room Q (gWn G b) (wr.putObj (G.c b).wm o')) := hcm.waits hbB hcm1 hck
      have HKC : Hid (Kp (fun i => i = (G.c b).wm) wr (wr.putObj (G.c b).wm o')) := hck
      have HKP := hid hkp
      change ∀ ty, (Builtin.clear_ #[106] ty #[.map (some (G.c b).wm)]).run Tryz.prog wr = _ at hcl
      clear hcm hpb hs2 hcm1 hck hkp hmi hm2 hp hset hmap
      go_wp2_with (first | (simp only [hcl]))
      go_end0
      exact ⟨rfl, HC.out, (HKP.out.mono (fun i _ h => .inr h)).trans HKC.out (fun i _ h => .inl h)⟩
    · obtain ⟨a, hae⟩ : ∃ a, blk e = a := ⟨_, rfl⟩
      have hea := hmap.2 e he
      rw [hae] at hea
      have haR : a ∈ G.W b := by rw [← hmap.1, ← hae]; exact List.mem_map_of_mem he
      obtain ⟨haK, hab, hWK⟩ := HR0.out a haR
      have haB := hRB a haR
      have had : a ∉ ds.map blk := by
        rw [← hae]
        exact blk_new HM.out.2 HES.out hmi.sub he hne
      have hcm2 : Cm S g bits room Q (gT G b (ds.map blk)) w2 := hcm.kp hk2 (fun i hi e => by
        have h1 := HS.out.lt (i := i) hi
        have h2 := HR.out
        subst e
        omega)
      have hcm3 := hcm2.kp0 (Kp.refl (fun _ => False) w2).drew
      obtain ⟨s1, ha1⟩ := (hcm2.pg a haB).wt
      obtain ⟨s2, hb1⟩ := (hcm2.pg b hbB).wt
      have ya := St.cell ha1 7
      have yb := St.cell hb1 0
      simp [Pc.cs] at ya yb
      change w2.cell? _ = some (.map (some (G.c a).rm)) at ya
      change w2.cell? _ = some (.int .i64 ((G.c b).n : Int)) at yb
      have hwa : Mn G.c w2.drew (G.c a).rm (G.R a) := by
        have := (hcm3.pg a haB).rs
        rw [gT_get had] at this
        exact this
      obtain ⟨o', hdl, hdm, hdk⟩ := hwa.del (G.c b).n
      have hfl : (G.R a).filter (fun x => decide ((G.c x).n ≠ (G.c b).n)) = ((gT G b (ds.map blk)).R a).filter (fun x => decide (x ≠ b)) := by
        rw [gT_get had]
        refine List.filter_congr fun x hx => ?_
        by_cases e1 : x = b
        · subst e1; simp
        · have : (G.c x).n ≠ (G.c b).n := fun e2 => e1 (HS.out.ks.nin x (hWK x hx) b HB.out e2)
          simp [e1, this]
      rw [hfl] at hdm
      have hc4 := hcm3.waiters haB hdm hdk
      rw [gT_snoc G b (ds.map blk) a had] at hc4
      have HC4 := hid hc4
      have HKP : Hid (Kp (fun i => ∃ a ∈ G.W b, i = (G.c a).rm) w (w2.drew.putObj (G.c a).rm o')) := by
        refine ((hkp.trans hk2 (fun i hi h => ?_)).trans (Kp.refl (fun _ => False) w2).drew (fun i _ h => h.elim)).trans hdk (fun i _ h => ⟨a, haR, h⟩)
        have := HR.out
        omega
      have hin2 := hmi2.itn
      rw [List.length_append, List.length_singleton] at hin2
      have hle2 := hmi2.le
      rw [List.length_append, List.length_singleton] at hle2
      have HMI : Hid (Mi (w2.drew.putObj (G.c a).rm o') r (G.c b).wm q es (ds ++ [e])) := (hmi2.kp (Kp.refl (fun _ => False) w2).drew (fun h => h)).kp hdk (fun e2 => by
        have h1 := (HS.out.pg a haB).rs.lt
        have h2 := HR.out
        omega)
      have HIN : Hid (itn wr r = ds.length) := hin
      have HAE := hid hae
      rw [hea.2] at hrun hent
      unfold ptr at hrun hent
      clear hcm hcm2 hcm3 hc4 hwa hdm hdk hfl ha1 hb1 hkp hmi hmi2 hk2 hm2 hin hin2 hmap hWK hae
      go_wp2
      go_region
      all_goals (try go_wp2_with (first | (simp only [hdl])))
      have hmi3 := HMI.out
      have h4 := hmi3.itn
      rw [List.length_append, List.length_singleton] at h4
      refine ⟨⟨ds ++ [e], hmi3, ?_, HKP.out⟩, by rw [HIN.out, h4]; omega⟩
      rw [List.map_append, List.map_singleton, HAE.out]
      exact HC4.out
theorem Cv.wn (h : Cv S g bits room Q N G q ft F w) (b : Nat) (hb : b ∈ G.K) {w' : World} (hc : Cm S g bits room Q (gWn G b) w') (hk : Kp (fun i => i = (G.c b).wm ∨ ∃ a ∈ G.W b, i = (G.c a).rm) w w') : Cv S g bits room Q N (gWn G b) q ft F w' ∧ Cch Q G (gWn G b) F F w w' := by
  have hW : ∀ x a, a ∈ (gWn G b).W x ↔ a ∈ G.W x ∧ x ≠ b := fun x a => by
    show a ∈ upd G.W b [] x ↔ _
    unfold upd
    by_cases e : x = b
    · simp [e]
    · simp [e]
  have hR : ∀ x a, x ∈ (gWn G b).R a ↔ x ∈ G.R a ∧ x ≠ b := fun x a => by
    show x ∈ (if a ∈ G.W b then (G.R a).filter (fun x => decide (x ≠ b)) else G.R a) ↔ _
    split
    · simp
    · rename_i hn
      constructor
      · intro hx
        refine ⟨hx, ?_⟩
        rintro rfl
        exact hn ((h.iv.wr x a).2 hx)
      · exact fun hx => hx.1
  have hkk : Kp (Fc Q G) w w' := hk.mono (fun i _ e => by
    rcases e with e | ⟨a, ha, e⟩
    · exact .inr (.inr (.inr (.inr (.inr ⟨b, h.iv.kb b hb, .inr (.inl e)⟩))))
    · exact .inr (.inr (.inr (.inr (.inr ⟨a, h.iv.kb a (h.iv.wk b a ha).2, .inr (.inr (.inl e))⟩)))))
  refine ⟨⟨hc, h.sw.kp hkk (fun i hi hf => h.ap i hf hi), h.ap, ⟨fun x a ha => h.iv.wk x a ((hW x a).1 ha).1, fun x a => ?_, h.iv.rk.sub (fun x a ha => ((hW x a).1 ha).1), h.iv.kb, h.iv.lk, h.iv.ll, h.iv.pk, h.iv.dk, h.iv.hp⟩, fun x a ha => h.op x a ((hW x a).1 ha).1, h.pp, h.pn, h.nn, h.tt, h.tk, h.nb, h.yl, h.lr, h.bb, h.rr⟩, hkk.mono (fun i _ e => .inl e), fun i hi => .inl hi, fun i hi => .inl hi⟩
  rw [hW x a, hR x a, h.iv.wr x a]
/-- Drop. -/
def DrP (S : ByteArray) (g bits room Q N : Nat) (G : Gc) (q : Gf) (ft : List (Int × Int)) (F : Nat → Prop) (w : World) (k : Int) (e : Ending) (w' : World) : Prop :=
  if mayn bits k = true then match kget G k.toNat with
    | some b => e = .returned (.int .i64 0) ∧ ∃ lv M, (b :: M).Perm G.L ∧ Cv S g bits room Q N (gLet (gWn G b) lv M b) q ft F w' ∧ Cch Q G (gLet (gWn G b) lv M b) F F w w'
    | none => e = .returned (.int .i64 7) ∧ w' = w
  else e = .returned (.int .i64 2) ∧ w' = w
set_option maxHeartbeats 4000000 in
theorem cdrop_any (h : Cv S g bits room Q N G q ft F w) (k : Int) :
    Calls Tryz.prog 38 #[ptr Q, .int .i64 k] w (DrP S g bits room Q N G q ft F w k) := by
  unfold DrP
  by_cases hk : mayn bits k = true
  · simp only [if_pos hk]
    obtain ⟨m, rfl⟩ : ∃ m : Nat, k = (m : Int) := by
      unfold mayn at hk
      simp at hk
      exact ⟨k.toNat, by omega⟩
    rw [Int.toNat_natCast]
    have HF := hid (find_any h m hk)
    cases hg : kget G m with
    | none =>
      rw [hg] at HF
      clear h
      unfold ptr at *
      go_enter Tryz.func38, Tryz.ntmps38
      go_wp2_with (first | (go_at_call 70; refine HF.out.mono ?_; rintro e w' ⟨rfl, h⟩; replace h := h.symm; subst h))
      go_ret
      exact ⟨rfl, rfl⟩
    | some b =>
      rw [hg] at HF
      obtain ⟨h1, h2, h3, h4⟩ := h.kget_some hg
      have HW := hid (wfn_any h.cm b h3 (fun a ha => ⟨(h.iv.wk b a ha).2, fun e => h.iv.rk.irr b (.one (e ▸ ha)), fun x hx => (h.iv.wk x a ((h.iv.wr x a).2 hx)).1⟩))
      have HL : Hid (∀ w1, Cm S g bits room Q (gWn G b) w1 → Kp (fun i => i = (G.c b).wm ∨ ∃ a ∈ G.W b, i = (G.c a).rm) w w1 → Calls Tryz.prog 86 #[ptr Q, ptr b] w1 fun e w' => e = .returned (.tuple #[]) ∧ ∃ lv M, (b :: M).Perm G.L ∧ Cv S g bits room Q N (gLet (gWn G b) lv M b) q ft F w' ∧ Cch Q G (gLet (gWn G b) lv M b) F F w w') := fun w1 hc hk => by
        obtain ⟨v1, c1⟩ := h.wn b h3 hc hk
        refine (letgo_cv v1 b h1).mono ?_
        rintro e w' ⟨rfl, lv, M, hp, hv, hc⟩
        exact ⟨rfl, lv, M, hp, hv, c1.trans hc⟩
      clear h
      unfold ptr at *
      go_enter Tryz.func38, Tryz.ntmps38
      go_wp2_with (first | (go_at_call 70; refine HF.out.mono ?_; rintro e w' ⟨rfl, h⟩; replace h := h.symm; subst h) | (go_at_call 85; refine HW.out.mono ?_; rintro _ w1 ⟨rfl, hc, hk⟩; have HL1 := hid (HL.out w1 hc hk); clear hc hk) | (go_at_call 86; refine HL1.out.mono ?_; rintro _ w2 ⟨rfl, H1⟩))
      go_ret
      exact ⟨rfl, H1⟩
  · have hk2 : mayn bits k = false := by simpa using hk
    have HF := hid (find_bad h k hk2)
    simp only [if_neg hk]
    clear h
    unfold ptr at *
    go_enter Tryz.func38, Tryz.ntmps38
    go_wp2_with (first | (go_at_call 70; refine HF.out.mono ?_; rintro e w' ⟨rfl, h⟩; replace h := h.symm; subst h))
    go_ret
    exact ⟨rfl, rfl⟩
end
end Go.Proofs.YtnccklbnncaeoaaGreat
/- cache: the search through those who wait for one another; plain mathematics. -/
namespace Go.Proofs.YtnccklbnncaeoaaGreat
open Go.RowKit
set_option linter.unusedVariables false
set_option linter.unusedSimpArgs false
/-- What a search from b leaves. -/
def Srch (W : Nat → List Nat) (o b : Nat) (sn : List Nat) (fo : Bool) (sn' : List Nat) (fo' : Bool) : Prop :=
  (fo' = true → fo = true ∨ Rch W b o) ∧ (fo' = false → fo = false ∧ (∀ x ∈ W b, x ≠ o ∧ x ∈ sn') ∧ ∀ y ∈ sn', y ∉ sn → ∀ x ∈ W y, x ≠ o ∧ x ∈ sn')
/-- And when those of D have come. -/
def SrchI (W : Nat → List Nat) (o b : Nat) (D sn : List Nat) (fo : Bool) (sn' : List Nat) (fo' : Bool) : Prop :=
  (fo' = true → fo = true ∨ Rch W b o) ∧ (fo' = false → fo = false ∧ (∀ x ∈ D, x ≠ o ∧ x ∈ sn') ∧ ∀ y ∈ sn', y ∉ sn → ∀ x ∈ W y, x ≠ o ∧ x ∈ sn')
theorem SrchI.start (W : Nat → List Nat) (o b : Nat) (sn : List Nat) (fo : Bool) : SrchI W o b [] sn fo sn fo :=
  ⟨.inl, fun h => ⟨h, fun x hx => by (cases hx), fun y hy hn => absurd hy hn⟩⟩
theorem SrchI.found {W : Nat → List Nat} {o b x : Nat} {D sn sn' : List Nat} {fo fo' : Bool} (h : SrchI W o b D sn fo sn' fo') (hx : x ∈ W b) (hf : fo' = true ∨ x = o) : Srch W o b sn fo sn' true := by
  refine ⟨fun _ => ?_, fun e => by cases e⟩
  rcases hf with e | e
  · exact h.1 e
  · exact .inr (.one (e ▸ hx))
theorem SrchI.again {W : Nat → List Nat} {o b x : Nat} {D sn sn' : List Nat} {fo : Bool} (h : SrchI W o b D sn fo sn' false) (hx : x ∈ sn') (hf : x ≠ o) : SrchI W o b (D ++ [x]) sn fo sn' false := by
  refine ⟨fun e => (by cases e), fun _ => ?_⟩
  obtain ⟨h1, h2, h3⟩ := h.2 rfl
  refine ⟨h1, fun y hy => ?_, h3⟩
  rcases List.mem_append.1 hy with hy | hy
  · exact h2 y hy
  · rw [List.mem_singleton.1 hy]; exact ⟨hf, hx⟩
theorem SrchI.step {W : Nat → List Nat} {o b x : Nat} {D sn sn1 sn2 : List Nat} {fo fo2 : Bool} (h : SrchI W o b D sn fo sn1 false) (hx : x ∈ W b) (hf : x ≠ o) (k : Srch W o x (x :: sn1) false sn2 fo2) (hs : ∀ y ∈ x :: sn1, y ∈ sn2) : SrchI W o b (D ++ [x]) sn fo sn2 fo2 := by
  obtain ⟨h1, h2, h3⟩ := h.2 rfl
  refine ⟨fun e => ?_, fun e => ?_⟩
  · rcases k.1 e with k1 | k1
    · cases k1
    · exact .inr (.step hx k1)
  · obtain ⟨_, k2, k3⟩ := k.2 e
    refine ⟨h1, fun y hy => ?_, fun y hy hn z hz => ?_⟩
    · rcases List.mem_append.1 hy with hy | hy
      · exact ⟨(h2 y hy).1, hs y (List.mem_cons_of_mem _ (h2 y hy).2)⟩
      · rw [List.mem_singleton.1 hy]
        exact ⟨hf, hs x List.mem_cons_self⟩
    · by_cases e1 : y ∈ x :: sn1
      · rcases List.mem_cons.1 e1 with rfl | e2
        · exact k2 z hz
        · have := h3 y e2 hn z hz
          exact ⟨this.1, hs z (List.mem_cons_of_mem _ this.2)⟩
      · exact k3 y hy e1 z hz
theorem SrchI.done {W : Nat → List Nat} {o b : Nat} {D sn sn' : List Nat} {fo fo' : Bool} (h : SrchI W o b D sn fo sn' fo') (hp : ∀ x ∈ W b, x ∈ D) : Srch W o b sn fo sn' fo' :=
  ⟨h.1, fun e => ⟨(h.2 e).1, fun x hx => (h.2 e).2.1 x (hp x hx), (h.2 e).2.2⟩⟩
theorem miss_le {K S T : List Nat} (h : ∀ x ∈ S, x ∈ T) : (K.filter (fun k => decide (k ∉ T))).length ≤ (K.filter (fun k => decide (k ∉ S))).length := by
  induction K with
  | nil => exact Nat.le_refl _
  | cons a l ih =>
    by_cases h1 : a ∉ T
    · have h2 : a ∉ S := fun e => h1 (h a e)
      rw [List.filter_cons_of_pos (by simpa using h1), List.filter_cons_of_pos (by simpa using h2)]
      simpa using ih
    · rw [List.filter_cons_of_neg (by simpa using h1)]
      by_cases h2 : a ∉ S
      · rw [List.filter_cons_of_pos (by simpa using h2), List.length_cons]; omega
      · rw [List.filter_cons_of_neg (by simpa using h2)]; exact ih
/-- Behind a search that began with nobody seen. -/
theorem Srch.rch {W : Nat → List Nat} {o b : Nat} {sn' : List Nat} {fo' : Bool} (h : Srch W o b [] false sn' fo') : fo' = true ↔ Rch W b o := by
  constructor
  · intro e
    rcases h.1 e with e1 | e1
    · cases e1
    · exact e1
  · intro hr
    cases e : fo' with
    | true => rfl
    | false =>
      obtain ⟨_, h2, h3⟩ := h.2 e
      exact absurd hr (dfs_none (S := fun x => x ∈ sn') h2 (fun y hy => h3 y hy (by simp)))
end Go.Proofs.YtnccklbnncaeoaaGreat
/- cache: a page is known; a page waits for another one. -/
namespace Go.Proofs.YtnccklbnncaeoaaGreat
open Go.RowKit
set_option linter.unusedVariables false
set_option linter.unusedSimpArgs false
/-- p waits for o. -/
def gAf (G : Gc) (p o : Nat) : Gc := { G with W := upd G.W p (nput G.c (G.W p) o), R := upd G.R o (nput G.c (G.R o) p) }
theorem nput_mem {c : Nat → Pc} {L : List Nat} {b : Nat} (h : ∀ a ∈ L, (c a).n = (c b).n → a = b) (x : Nat) : x ∈ nput c L b ↔ x ∈ L ∨ x = b := by
  unfold nput
  cases e : nget c L (c b).n with
  | none => simp
  | some a =>
    obtain ⟨h1, h2⟩ := nget_mem e
    have := h a h1 h2
    subst this
    simp only [reduceCtorEq, if_false]
    constructor
    · exact .inl
    · rintro (h3 | rfl)
      · exact h3
      · exact h1
section
variable {S : ByteArray} {g bits room Q N : Nat} {G G2 : Gc} {q : Gf} {ft : List (Int × Int)} {F : Nat → Prop} {w : World}
/-- A page is known now. -/
theorem Cv.kn {w' : World} {s k b : Nat} (h : Cv S g bits room Q N G q ft F w) (hk : k < 268435456 / 2 ^ bits) (hs : w.heap.size ≤ s) (hg : KnG s G k b G2) (hc : Cm S g bits room Q G2 w') (hkp : Kp (fun i => i = G.pm) w w') : Cv S g bits room Q N G2 q ft F w' ∧ Cch Q G G2 F F w w' ∧ b ∈ G2.K ∧ (G2.c b).n = k := by
  have hkk : Kp (Fc Q G) w w' := hkp.mono (fun i _ e => .inr (.inr (.inl e)))
  rcases hg with ⟨hn, rfl⟩ | ⟨hn, wm, rm, h1, h2, h3, h4⟩
  · exact ⟨⟨hc, h.sw.kp hkk (fun i hi hf => h.ap i hf hi), h.ap, h.iv, h.op, h.pp, h.pn, h.nn, h.tt, h.tk, h.nb, h.yl, h.lr, h.bb, h.rr⟩, ⟨hkk.mono (fun i _ e => .inl e), fun i hi => .inl hi, fun i hi => .inl hi⟩, (nget_mem hn).1, (nget_mem hn).2⟩
  · have hlt : ∀ a ∈ G.B, a < w.heap.size := fun a ha => h.cm.lt (.inr (.inr (.inr (.inr (.inr ⟨a, ha, .inl rfl⟩)))))
    have hp := KnG.of hlt h.iv h.op (s := s) (k := k) (b := b) (G2 := G2) hs (fun a ha => nget_none hn a (h.iv.ll a ha)) (.inr ⟨hn, wm, rm, h1, h2, h3, h4⟩)
    have hfc : ∀ j, Fc Q G2 j → Fc Q G j ∨ w.heap.size ≤ j := fun j hj => (fc_kn hp hj).imp id (fun e => Nat.le_trans hs e)
    refine ⟨⟨hc, h.sw.kp hkk (fun i hi hf => h.ap i hf hi), fun j hj hf => ?_, hp.iv, hp.op, fun a ha => ?_, by rw [hp.P]; exact h.pn, by rw [hp.n3, hp.n4]; exact h.nn, by rw [hp.n1, hp.n2, hp.t]; exact h.tt, fun a ha => ?_, fun a ha => ?_, fun a ha j zs e => ?_, by rw [hp.L]; exact h.lr, h.bb, h.rr⟩, ⟨hkk.mono (fun i _ e => .inl e), hfc, fun i hi => .inl hi⟩, hp.bK, hp.n⟩
    · rcases hfc j hj with e | e
      · exact h.ap j e hf
      · have := h.sw.lt hf; omega
    · rw [hp.P] at ha
      rw [hp.c a (h.cm.pb a ha)]
      exact h.pp a ha
    · rw [hp.t]
      by_cases hB : a ∈ G.B
      · rw [hp.c a hB]; exact h.tk a hB
      · have hab := (hp.B a ha).resolve_left hB
        subst hab
        rw [(hp.nw hB).2.2.2.2]; omega
    · by_cases hB : a ∈ G.B
      · rw [hp.c a hB]; exact h.nb a hB
      · have hab := (hp.B a ha).resolve_left hB
        subst hab
        rw [hp.n]; exact hk
    · by_cases hB : a ∈ G.B
      · rw [hp.ya a hB] at e; exact h.yl a hB j zs e
      · have hab := (hp.B a ha).resolve_left hB
        subst hab
        rw [hp.y] at e; cases e
set_option maxHeartbeats 4000000 in
set_option maxRecDepth 100000 in
theorem wait_any (h : Cm S g bits room Q G w) (p o : Nat) (hp : p ∈ G.B) (ho : o ∈ G.B) (h1 : ∀ a ∈ G.W p, (G.c a).n = (G.c o).n → a = o) (h2 : ∀ a ∈ G.R o, (G.c a).n = (G.c p).n → a = p) :
    Calls Tryz.prog 69 #[ptr p, ptr o] w fun e w' => e = .returned (.tuple #[]) ∧ Cm S g bits room Q (gAf G p o) w' ∧ Kp (fun i => i = (G.c p).wm ∨ i = (G.c o).rm) w w' := by
  have kd : ∀ W : World, Kp (fun _ => False) W W.drew := fun W => (Kp.refl (fun _ => False) W).drew
  obtain ⟨s1, hs1⟩ := (h.pg p hp).wt
  obtain ⟨s2, hs2⟩ := (h.pg o ho).wt
  have y1 := St.cell hs1 6
  have y2 := St.cell hs2 0
  simp [Pc.cs] at y1 y2
  obtain ⟨o1, r1, m1, k1⟩ := ((h.pg p hp).ws.kp (kd w) (fun h => h)).put o h1
  have c1 := (h.kp0 (kd w)).waits hp m1 k1
  have K1 : Hid (Kp (fun i => i = (G.c p).wm) w (w.drew.putObj (G.c p).wm o1)) := ((kd w).mono (fun _ _ e => e.elim)).trans k1 (fun _ _ e => e)
  obtain ⟨W1, hW1⟩ : ∃ W1, w.drew.putObj (G.c p).wm o1 = W1 := ⟨_, rfl⟩
  rw [hW1] at r1 c1 K1
  obtain ⟨s3, hs3⟩ := (c1.pg o ho).wt
  obtain ⟨s4, hs4⟩ := (c1.pg p hp).wt
  have y3 := St.cell hs3 7
  have y4 := St.cell hs4 0
  simp [Pc.cs] at y3 y4
  change W1.cell? _ = some (.map (some (G.c o).rm)) at y3
  change W1.cell? _ = some (.int .i64 ((G.c p).n : Int)) at y4
  obtain ⟨o2, r2, m2, k2⟩ := ((c1.pg o ho).rs.kp (kd W1) (fun h => h)).put p h2
  have HC2 : Hid (Cm S g bits room Q (gAf G p o) (W1.drew.putObj (G.c o).rm o2)) := (c1.kp0 (kd W1)).waiters ho m2 k2
  have K2 : Hid (Kp (fun i => i = (G.c p).wm ∨ i = (G.c o).rm) w (W1.drew.putObj (G.c o).rm o2)) := ((K1.out.mono (fun _ _ e => .inl e)).trans ((kd W1).mono (G := fun i => i = (G.c p).wm ∨ i = (G.c o).rm) (fun _ _ e => e.elim)) (fun _ _ e => e)).trans k2 (fun _ _ e => .inr e)
  change (Instr.mapUpdate 106 (.map (some (G.c o).rm)) (.int .i64 (G.c p).n) (ptr p)).run Tryz.prog W1.drew = _ at r2
  clear h h1 h2 hp ho hs1 hs2 m1 k1 c1 hs3 hs4 m2 k2 kd K1
  unfold ptr at *
  go_enter Tryz.func69, Tryz.ntmps69
  go_wp2_with fail
  go_region
  all_goals (try go_wp2_with (first | (simp only [hW1])))
  go_region
  all_goals (try go_wp2_with fail)
  all_goals go_end0
  all_goals exact ⟨rfl, HC2.out, K2.out⟩
/-- A page waits for another one: all that holds. -/
theorem Cv.af (h : Cv S g bits room Q N G q ft F w) {p o : Nat} (hp : p ∈ G.K) (ho : o ∈ G.K) (hpo : o ≠ p) (hr : ¬ Rch G.W o p) (hu : ((G.c o).di || (G.c o).pe) = true) {w' : World} (hc : Cm S g bits room Q (gAf G p o) w') (hk : Kp (fun i => i = (G.c p).wm ∨ i = (G.c o).rm) w w') : Cv S g bits room Q N (gAf G p o) q ft F w' ∧ Cch Q G (gAf G p o) F F w w' := by
  have u1 : ∀ a ∈ G.W p, (G.c a).n = (G.c o).n → a = o := fun a ha e => h.cm.ks.nin a (h.iv.wk p a ha).2 o ho e
  have u2 : ∀ a ∈ G.R o, (G.c a).n = (G.c p).n → a = p := fun a ha e => h.cm.ks.nin a (h.iv.wk a o ((h.iv.wr a o).2 ha)).1 p hp e
  have hW : ∀ x a, a ∈ (gAf G p o).W x ↔ a ∈ G.W x ∨ (x = p ∧ a = o) := fun x a => by
    show a ∈ upd G.W p (nput G.c (G.W p) o) x ↔ _
    unfold upd
    split
    · rename_i e
      rw [nput_mem u1, e]
      simp
    · rename_i e
      simp [e]
  have hR : ∀ x a, x ∈ (gAf G p o).R a ↔ x ∈ G.R a ∨ (x = p ∧ a = o) := fun x a => by
    show x ∈ upd G.R o (nput G.c (G.R o) p) a ↔ _
    unfold upd
    split
    · rename_i e
      rw [nput_mem u2, e]
      simp
    · rename_i e
      simp [e]
  have hkk : Kp (Fc Q G) w w' := hk.mono (fun i _ e => by
    rcases e with e | e
    · exact .inr (.inr (.inr (.inr (.inr ⟨p, h.iv.kb p hp, .inr (.inl e)⟩))))
    · exact .inr (.inr (.inr (.inr (.inr ⟨o, h.iv.kb o ho, .inr (.inr (.inl e))⟩)))))
  refine ⟨⟨hc, h.sw.kp hkk (fun i hi hf => h.ap i hf hi), h.ap, ⟨fun x a ha => ?_, fun x a => ?_, h.iv.rk.add (p := p) (o := o) hr hpo (fun x a ha => (hW x a).1 ha), h.iv.kb, h.iv.lk, h.iv.ll, h.iv.pk, h.iv.dk, h.iv.hp⟩, fun x a ha => ?_, h.pp, h.pn, h.nn, h.tt, h.tk, h.nb, h.yl, h.lr, h.bb, h.rr⟩, hkk.mono (fun i _ e => .inl e), fun i hi => .inl hi, fun i hi => .inl hi⟩
  · rcases (hW x a).1 ha with e | ⟨rfl, rfl⟩
    · exact h.iv.wk x a e
    · exact ⟨hp, ho⟩
  · rw [hW x a, hR x a, h.iv.wr x a]
  · rcases (hW x a).1 ha with e | ⟨rfl, rfl⟩
    · exact h.op x a e
    · have hu2 : (G.c a).di = true ∨ (G.c a).pe = true := by simpa using hu
      exact hu2
end
end Go.Proofs.YtnccklbnncaeoaaGreat
/- cache: what the file holds, move by move; plain mathematics. -/
namespace Go.Proofs.YtnccklbnncaeoaaGreat
open Go.RowKit
set_option linter.unusedVariables false
set_option linter.unusedSimpArgs false
/-- What the file holds at a place. -/
def cont (q : Gf) (i : Nat) : Int := ovs q.L q.ps i
theorem gwr_at (p : Nat) (xs : List Int) (n a : Nat) (q : Gf) (hp : p ≤ a) (hn : a - p + n = xs.length) :
    (gwr p xs q (pcs a n)).sz = (if n = 0 then q.sz else max q.sz (a + n)) ∧ ∀ i, cont (gwr p xs q (pcs a n)) i = if a ≤ i ∧ i < a + n then xs.getD (i - p) 0 else cont q i := by
  induction n using Nat.strongRecOn generalizing a q with
  | ind n ih =>
    by_cases h0 : n = 0
    · subst h0
      refine ⟨by rw [if_pos rfl]; rfl, fun i => ?_⟩
      rw [if_neg (by omega)]
      rfl
    · have hc1 := cutl_pos (a := a) (n := n) (by omega)
      have hc2 := cutl_le a n
      rw [pcs_step a n (by omega)]
      obtain ⟨c, hc⟩ : ∃ c, cutl a n = c := ⟨_, rfl⟩
      rw [hc] at hc1 hc2 ⊢
      obtain ⟨h1, h2⟩ := ih (n - c) (by omega) (a + c) (gw1 p xs q (a, c)) (by omega) (by omega)
      have e : gwr p xs q ((a, c) :: pcs (a + c) (n - c)) = gwr p xs (gw1 p xs q (a, c)) (pcs (a + c) (n - c)) := rfl
      rw [e]
      refine ⟨?_, fun i => ?_⟩
      · rw [h1, if_neg h0]
        show (if n - c = 0 then max q.sz (a + c) else max (max q.sz (a + c)) (a + c + (n - c))) = _
        split <;> omega
      · rw [h2 i]
        have hw : cont (gw1 p xs q (a, c)) i = ov (ovs q.L q.ps) (a, wby p xs (a, c)) i := by
          show ovs q.L (q.ps ++ [(a, wby p xs (a, c))]) i = _
          rw [ovs_snoc]
        have hl : (wby p xs (a, c)).length = c := by
          unfold wby
          simp
          omega
        rw [hw]
        unfold ov
        dsimp only
        rw [hl]
        by_cases c1 : a + c ≤ i ∧ i < a + c + (n - c)
        · rw [if_pos c1, if_pos (by omega)]
        · rw [if_neg c1]
          by_cases c2 : a ≤ i ∧ i < a + c
          · rw [if_pos c2, if_pos (by omega)]
            unfold wby
            have h3 : i - a < c := by omega
            have h4 : a - p + (i - a) = i - p := by omega
            simp [List.getD, List.getElem?_take, h3, List.getElem?_drop, h4]
          · rw [if_neg c2, if_neg (by omega)]
            rfl
theorem gwr_all (p : Nat) (xs : List Int) (q : Gf) (hx : xs ≠ []) :
    (gwr p xs q (pcs p xs.length)).sz = max q.sz (p + xs.length) ∧ ∀ i, cont (gwr p xs q (pcs p xs.length)) i = if p ≤ i ∧ i < p + xs.length then xs.getD (i - p) 0 else cont q i := by
  obtain ⟨h1, h2⟩ := gwr_at p xs xs.length p q (Nat.le_refl _) (by omega)
  refine ⟨?_, h2⟩
  rw [h1, if_neg (fun e => hx (List.eq_nil_of_length_eq_zero e))]
theorem qwr_nil (q : Gf) (p : Nat) (zs : List Int) : qwr q [] p zs = gwr p zs q (pcs p zs.length) := by
  unfold qwr
  have : lft ((([] : List (Int × Int)).headD (0, 0)).1) ((([] : List (Int × Int)).headD (0, 0)).2) zs.length = zs.length := rfl
  rw [this, List.take_of_length_le (pcs_len _ _)]
theorem qfl_nil (q : Gf) : qfl q [] = ⟨q.sz, ovs q.L q.ps, []⟩ := by
  unfold qfl
  have : lft ((([] : List (Int × Int)).headD (0, 0)).1) ((([] : List (Int × Int)).headD (0, 0)).2) q.ps.length = q.ps.length := rfl
  rw [this]
  unfold gfl
  rw [List.take_of_length_le (Nat.le_refl _), List.drop_of_length_le (Nat.le_refl _)]
theorem cont_fl (q : Gf) (i : Nat) : cont (qfl q []) i = cont q i := by
  rw [qfl_nil]
  rfl
/-- What is beyond the file's end is nought. -/
def Zb (q : Gf) : Prop := ∀ i, q.sz ≤ i → cont q i = 0
theorem ldz_get {q : Gf} (hz : Zb q) (bits k j : Nat) (hj : j < 2 ^ bits) : (ldz q bits k).getD j 0 = cont q (k * 2 ^ bits + j) := by
  have hl : (rdz q (k * 2 ^ bits) (2 ^ bits)).length = min (2 ^ bits) (q.sz - k * 2 ^ bits) := by unfold rdz; simp
  unfold ldz
  rw [getD_splice _ _ _ _ (by rw [hl]; simp; omega)]
  by_cases h : j < q.sz - k * 2 ^ bits
  · rw [if_pos ⟨by omega, by rw [hl]; omega⟩]
    unfold rdz cont
    have h2 : j < min (2 ^ bits) (q.sz - k * 2 ^ bits) := by omega
    simp [List.getD, h2]
  · rw [if_neg (by rw [hl]; omega), hz _ (by omega)]
    simp [List.getD, hj]
/-- A page that is kept and not dirty is as the file. -/
def Cl (bits : Nat) (G : Gc) (q : Gf) : Prop := ∀ b ∈ G.L, (G.c b).di = false → ∀ i zs, G.y b = some (i, zs) → ∀ j, j < 2 ^ bits → zs.getD j 0 = cont q ((G.c b).n * 2 ^ bits + j)
/-- Does a place lie in page n? -/
def inP (bits n p : Nat) : Prop := n * 2 ^ bits ≤ p ∧ p < n * 2 ^ bits + 2 ^ bits
theorem inP_uniq {bits m n p : Nat} (h : inP bits m p) (k : inP bits n p) : m = n := by
  unfold inP at h k
  have hm : p / 2 ^ bits = m := by
    apply Nat.div_eq_of_lt_le
    · omega
    · rw [Nat.add_mul]; omega
  have hn : p / 2 ^ bits = n := by
    apply Nat.div_eq_of_lt_le
    · omega
    · rw [Nat.add_mul]; omega
  omega
theorem inP_off {bits n j : Nat} (hj : j < 2 ^ bits) : inP bits n (n * 2 ^ bits + j) := ⟨by omega, by omega⟩
structure Fcl (bits : Nat) (X Y : Xt) : Prop where
  zb : Zb Y.q
  cl : Cl bits Y.G Y.q
  eq : ∀ p, (∀ b ∈ X.G.L, ¬ inP bits (X.G.c b).n p) → cont Y.q p = cont X.q p
  sz : X.q.sz ≤ Y.q.sz
  szb : ∀ M, X.q.sz ≤ M → (∀ b ∈ X.G.L, ((X.G.c b).n + 1) * 2 ^ bits ≤ M) → Y.q.sz ≤ M
theorem rc_cl {bits n : Nat} {X Y : Xt} (h : Rc bits n X Y) (hf : X.ft = []) (hn : Nin X.G.c X.G.L) (hy : ∀ b ∈ X.G.L, ∀ i zs, X.G.y b = some (i, zs) → zs.length = 2 ^ bits) (hz : Zb X.q) (hc : Cl bits X.G X.q) : Fcl bits X Y := by
  induction h using Rc.ind with
  | refl => exact ⟨hz, hc, fun _ _ => rfl, Nat.le_refl _, fun M h _ => h⟩
  | step hr hm ih =>
    rename_i n X Y Z
    have hs := hr.stb
    have hft := hr.ftn hf
    have ih := ih hf hn hy hz hc
    have hL : ∀ b, b ∈ Y.G.L ↔ b ∈ X.G.L := fun b => hs.L.mem_iff
    cases hm using Mve.el with
    | fl hk k =>
      rename_i G'
      have hl := k.les
      rw [hft]
      refine ⟨fun i hi => ?_, fun b hb hd i zs e j hj => ?_, fun p hp => ?_, ?_, fun M h1 h2 => ?_⟩
      · show cont (qfl Y.q []) i = 0
        rw [cont_fl]
        exact ih.zb i (by have : (qfl Y.q []).sz ≤ i := hi; rw [qfl_nil] at this; exact this)
      · show zs.getD j 0 = cont (qfl Y.q []) ((G'.c b).n * 2 ^ bits + j)
        have hb' : b ∈ Y.G.L := by rw [← hl.L]; exact hb
        have hd' : (Y.G.c b).di = false := by rw [← (hl.c b).2.2.1]; exact hd
        have e' : Y.G.y b = some (i, zs) := by rw [← hl.y]; exact e
        rw [cont_fl, (hl.c b).1]
        exact ih.cl b hb' hd' i zs e' j hj
      · show cont (qfl Y.q []) p = _
        rw [cont_fl]; exact ih.eq p hp
      · show _ ≤ (qfl Y.q []).sz
        rw [qfl_nil]; exact ih.sz
      · show (qfl Y.q []).sz ≤ M
        rw [qfl_nil]; exact ih.szb M h1 h2
    | wr hk hbL hd hW hyb k =>
      rename_i G' b i zs
      rw [hft, qwr_nil]
      have hbX := (hL b).1 hbL
      have hyX : X.G.y b = some (i, zs) := by rw [← hs.y]; exact hyb
      have hzl := hy b hbX i zs hyX
      have hne : zs ≠ [] := fun e => by rw [e] at hzl; have := Nat.two_pow_pos bits; simp at hzl; omega
      obtain ⟨g1, g2⟩ := gwr_all ((Y.G.c b).n * 2 ^ bits) zs Y.q hne
      have hnb : (Y.G.c b).n = (X.G.c b).n := (hs.c b).1
      refine ⟨fun p hp => ?_, fun a ha hda j us e o ho => ?_, fun p hp => ?_, ?_, fun M h1 h2 => ?_⟩
      · change (gwr _ _ _ _).sz ≤ p at hp
        show cont (gwr _ _ _ _) p = 0
        rw [g1] at hp
        rw [g2, if_neg (by omega)]
        exact ih.zb p (by omega)
      · show us.getD o 0 = cont (gwr _ _ _ _) ((G'.c a).n * 2 ^ bits + o)
        have haY : a ∈ Y.G.L := k.L.mem_iff.1 ha
        have eY : Y.G.y a = some (j, us) := by rw [← k.y]; exact e
        rw [(k.stb.c a).1, g2]
        by_cases hab : a = b
        · subst hab
          rw [hyb] at eY
          cases eY
          rw [if_pos (by rw [hzl]; omega)]
          congr 1
          omega
        · have hda' : (Y.G.c a).di = false := by
            have := k.di a
            rw [if_neg hab] at this
            rw [← this]; exact hda
          have hno : ¬ ((Y.G.c b).n * 2 ^ bits ≤ (Y.G.c a).n * 2 ^ bits + o ∧ (Y.G.c a).n * 2 ^ bits + o < (Y.G.c b).n * 2 ^ bits + zs.length) := by
            rw [hzl]
            intro hx
            have h1 := inP_uniq (inP_off (n := (Y.G.c a).n) ho) (show inP bits (Y.G.c b).n _ from hx)
            refine hab (hn a ((hL a).1 haY) b hbX ?_)
            rw [← (hs.c a).1, ← hnb]; exact h1
          rw [if_neg hno]
          exact ih.cl a haY hda' j us eY o ho
      · show cont (gwr _ _ _ _) p = _
        rw [g2, if_neg (by
          rw [hzl, hnb]
          exact hp b hbX)]
        exact ih.eq p hp
      · show _ ≤ (gwr _ _ _ _).sz
        rw [g1]
        have := ih.sz
        omega
      · show (gwr _ _ _ _).sz ≤ M
        rw [g1]
        have h3 := ih.szb M h1 h2
        have h4 := h2 b hbX
        rw [hzl, hnb]
        rw [Nat.add_mul] at h4
        omega
end Go.Proofs.YtnccklbnncaeoaaGreat
