/- StoreFlushed's walk. -/
import Derived.Test.YtalicohflfildaaFw
namespace Go.Proofs.Ytalicohflfildaa
open Go.RowKit

def no7 (ts : List Stp) : List Stp := ts.filter (fun t => decide (t.kind ≠ 7))
theorem no7_snoc (ts : List Stp) (t : Stp) : no7 (ts ++ [t]) = no7 ts ++ (if t.kind = 7 then [] else [t]) := by
  unfold no7
  rw [List.filter_append]
  by_cases h : t.kind = 7 <;> simp [h]
theorem no7_len (ts : List Stp) : (no7 ts).length ≤ ts.length := List.length_filter_le _ _
theorem take_getS (ts : List Stp) (k : Nat) (h : k < ts.length) : ts.take (k + 1) = ts.take k ++ [ts.getD k zst] := by
  rw [List.take_add_one, List.getElem?_eq_getElem h, List.getD_eq_getElem?_getD, List.getElem?_eq_getElem h]
  rfl
/-- What the first loop keeps. -/
structure FwA (w : World) (ts : List Stp) (k : Nat) (v : Value) (W : World) : Prop where
  row : W.ownsRow w.heap.size 47 7 v (no7 (ts.take k)).length (scs (no7 (ts.take k)))
  kp : Kp (fun _ => False) w W
theorem Src.lt1 {q : IntKind} {w : World} {ao : Option Addr} {zs : List Int} (h : Src q w ao zs) (hp : 0 < zs.length) : ∀ b off, ao = some ⟨b, off, none⟩ → b < w.heap.size := by
  intro b off e
  obtain ⟨b', off', e', hc⟩ := h hp
  rw [e'] at e
  cases e
  exact block_lt_of_cell (hc 0 hp)
set_option maxRecDepth 100000 in
set_option maxHeartbeats 8000000 in
theorem flushed_walk (ts : List Stp) (ao : Option Addr) (N cap : Nat) (oa : Option Addr) (on oc : Nat) (zs : List Int) (pa : Option Addr) (pn pc : Nat) (us : List Int) (w : World) (hN : N = ts.length) (hS : SSrc w ao ts) (hw : ∀ t ∈ ts, Swf w.heap.size w t)
    (h1 : on = zs.length) (s1 : Src .i64 w oa zs) (h2 : pn = us.length) (s2 : Src .i64 w pa us) :
    Calls Try.prog 4 #[.slice ao N cap, .slice oa on oc, .slice pa pn pc] w fun e w' => e = .returned (.bool true) ∧ Kp (fun _ => False) w w' := by
  have HN : Hid (N = ts.length) := hN
  have HS : Hid (SSrc w ao ts) := hS
  have HW : Hid (∀ t ∈ ts, Swf w.heap.size w t) := hw
  have H1 : Hid (on = zs.length) := h1
  have H2 : Hid (pn = us.length) := h2
  have S1 : Hid (Src .i64 w oa zs) := s1
  have S2 : Hid (Src .i64 w pa us) := s2
  clear hN hS hw h1 h2 s1 s2
  go_enter Try.func4, Try.ntmps4
  go_wp2_with fail
  refine (vast_any w.heap.size ts ao N cap w HN.out HS.out HW.out).mono ?_
  rintro e w1 ⟨b, rfl, hb, k1⟩
  have K1 : Hid (Kp (fun _ => False) w w1) := k1
  clear k1
  cases b with
  | true =>
    clear hb
    go_wp2_with (first | (go_at_call 8; refine (known_any w1).mono ?_; rintro e w' ⟨rfl, k2⟩; have K2 : Hid (Kp (fun _ => False) w1 w') := k2; clear k2))
    go_ret
    exact ⟨rfl, K1.out.trans K2.out (fun _ _ h => h)⟩
  | false =>
    obtain ⟨hb1, hb2⟩ := hb rfl
    have HB2 : Hid (∀ t ∈ ts, blen t ≤ 3000) := hb2
    clear hb hb2
    by_cases hon : 300 < on
    · have hon' : (300 : Int) < (on : Int) := by omega
      go_wp2_with (first | (go_at_call 8; refine (known_any w1).mono ?_; rintro e w' ⟨rfl, k2⟩; have K2 : Hid (Kp (fun _ => False) w1 w') := k2; clear k2))
      go_ret
      exact ⟨rfl, K1.out.trans K2.out (fun _ _ h => h)⟩
    have hon' : ¬ (300 : Int) < (on : Int) := by omega
    by_cases hpn : 300 < pn
    · have hpn' : (300 : Int) < (pn : Int) := by omega
      go_wp2_with (first | (go_at_call 8; refine (known_any w1).mono ?_; rintro e w' ⟨rfl, k2⟩; have K2 : Hid (Kp (fun _ => False) w1 w') := k2; clear k2))
      go_ret
      exact ⟨rfl, K1.out.trans K2.out (fun _ _ h => h)⟩
    have hpn' : ¬ (300 : Int) < (pn : Int) := by omega
    go_wp2_with fail
    go_loopw [7, 8] (fun v iv wr => ∃ k : Nat, k ≤ N ∧ iv = .int .i64 k ∧ FwA w ts k v wr) (fun _ iv _ => N - (intOf iv).toNat)
    case atStart => exact ⟨0, Nat.zero_le _, rfl, ⟨rfl, .inl ⟨rfl, rfl⟩⟩, K1.out⟩
    case round =>
      clear K1
      obtain ⟨k, hk, rfl, hI⟩ := hrel
      have HI : Hid (FwA w ts k u7 wr) := hI
      clear hI
      by_cases hlt : k < N
      · have hlt2 : k < ts.length := by have := HN.out; omega
        obtain ⟨b, off, hao, hb, y0, y1, y2, y3, y4, y5, y6⟩ := (HS.out.kp HI.out.kp (fun _ _ _ _ h => h)).at hlt2
        obtain ⟨t, ht⟩ : ∃ t, t = ts.getD k zst := ⟨_, rfl⟩
        have htm := HW.out _ (getD_memS ts k hlt2)
        have HTK : Hid (ts.take (k + 1) = ts.take k ++ [t]) := by rw [ht]; exact take_getS ts k hlt2
        rw [← ht] at y0 y1 y2 y3 y4 y5 y6 htm
        clear ht
        obtain ⟨kd, n, a0, nm, bv, fv, pv⟩ := t
        obtain ⟨⟨ba, bc, xs, e1, -, -, -, -⟩, ⟨fa, fl, fc, e2, hfl⟩, ⟨qa, ql, qc, e3, hpl⟩, -, -, -⟩ := htm
        dsimp only at e1 e2 e3 y0 y1 y2 y3 y4 y5 y6
        subst e1 e2 e3 hao
        generalize xs.length = bl at *
        by_cases k7 : kd = 7
        · subst k7
          have HX : Hid (FwA w ts (k + 1) u7 wr) := by
            refine ⟨?_, HI.out.kp⟩
            rw [HTK.out, no7_snoc, if_pos rfl, List.append_nil]
            exact HI.out.row
          clear HI
          go_wp2
          exact ⟨⟨k + 1, hlt, rfl, HX.out⟩, by simp only [intOf]; omega⟩
        · have hlen : (no7 (ts.take k)).length ≤ 120 := by
            have h3 := no7_len (ts.take k)
            rw [List.length_take] at h3
            omega
          obtain ⟨va, vc, hv⟩ := ownsRow_shape HI.out.row
          have HE : Hid (no7 (ts.take (k + 1)) = no7 (ts.take k) ++ [⟨kd, n, a0, nm, .slice ba bl bc, .slice fa fl fc, .slice qa ql qc⟩]) := by show _ = _; rw [HTK.out, no7_snoc, if_neg k7]
          subst hv
          have HST : Hid (St 47 (wr.alloc (.cells #[.int .i64 kd, .int .i64 n, .int .i64 a0, .string nm, .slice ba bl bc, .slice fa fl fc, .slice qa ql qc] 47)) wr.heap.size #[.int .i64 kd, .int .i64 n, .int .i64 a0, .string nm, .slice ba bl bc, .slice fa fl fc, .slice qa ql qc]) := St.new 47 wr _
          have HRO : Hid ((wr.alloc (.cells #[.int .i64 kd, .int .i64 n, .int .i64 a0, .string nm, .slice ba bl bc, .slice fa fl fc, .slice qa ql qc] 47)).ownsRow w.heap.size 47 7 (.slice va (no7 (ts.take k)).length vc) (no7 (ts.take k)).length (scs (no7 (ts.take k)))) := World.ownsRow.alloc HI.out.row _
          have HKA : Hid (Kp (fun _ => False) w (wr.alloc (.cells #[.int .i64 kd, .int .i64 n, .int .i64 a0, .string nm, .slice ba bl bc, .slice fa fl fc, .slice qa ql qc] 47))) := HI.out.kp.alloc _
          have HSZ : Hid (w.heap.size ≤ (wr.alloc (.cells #[.int .i64 kd, .int .i64 n, .int .i64 a0, .string nm, .slice ba bl bc, .slice fa fl fc, .slice qa ql qc] 47)).heap.size) := HKA.out.size
          clear HI
          go_wp2_with (first | (at_builtin; refine wpList_append_step rfl (.tmp 41) (.tmp 46) rfl w.heap.size (.slice va (no7 (ts.take k)).length vc) (no7 (ts.take k)).length (scs (no7 (ts.take k))) rfl HRO.out wr.heap.size ⟨kd, n, a0, nm, .slice ba bl bc, .slice fa fl fc, .slice qa ql qc⟩ rfl HST.out ⟨rfl, rfl, rfl⟩ (by omega) HSZ.out ?_; intro v' w' o3 k3; have HX : Hid (FwA w ts (k + 1) v' w') := (by refine ⟨?_, (HKA.out.trans k3 (fun i hi e => by have := (HRO.out.lt i e).1; omega))⟩; rw [HE.out, scs_append, List.length_append]; exact o3); clear o3 k3))
          exact ⟨⟨k + 1, hlt, rfl, HX.out⟩, by simp only [intOf]; omega⟩
      · have hnl : ¬ (k : Int) < (N : Int) := by omega
        have hkN : k = N := by omega
        have htk : ts.take k = ts := List.take_of_length_le (by have := HN.out; omega)
        have hrow := HI.out.row
        rw [htk] at hrow
        obtain ⟨sa, sc, hv, hss, -⟩ := own_ssrc hrow rfl
        have HSS : Hid (SSrc wr sa (no7 ts)) := hss
        have KW : Hid (Kp (fun _ => False) w wr) := HI.out.kp
        have hml : ∀ t ∈ no7 ts, t ∈ ts := fun t ht => (List.mem_filter.1 ht).1
        have HL : Hid ((no7 ts).length ≤ 120) := by have := no7_len ts; have := HN.out; show _ ≤ _; omega
        have HWF : Hid (∀ t ∈ no7 ts, Swf wr.heap.size wr t) := fun t ht => (HW.out t (hml t ht)).kp KW.out KW.out.size
        have HBL : Hid (∀ t ∈ no7 ts, blen t ≤ 3000) := fun t ht => HB2.out t (hml t ht)
        have H7 : Hid (∀ t ∈ no7 ts, t.kind ≠ 7) := fun t ht => by have := (List.mem_filter.1 ht).2; simpa using this
        clear hrow hss htk hml HI
        subst hv
        go_wp2_with fail
        refine (play_any (no7 ts) sa (no7 ts).length sc wr rfl HL.out HSS.out HWF.out HBL.out H7.out).mono ?_
        rintro e w2 ⟨g, fm, D, fv, steps, fs, es, c, rfl, hsr, hst, hown, k2⟩
        have HSR : Hid (Sr D w2 g fm fv steps fs [] es c) := hsr
        have HOW : Hid (∀ i, i ∈ ownS g fm fv fs → wr.heap.size ≤ i) := hown
        have KW2 : Hid (Kp (fun _ => False) w w2) := KW.out.trans k2 (fun _ _ h => h)
        have HWR : Hid (w.heap.size ≤ wr.heap.size) := KW.out.size
        clear hsr hown k2 HSS HL HWF HBL H7 KW
        go_wp2_with fail
        refine (names_any D w2 g fm fv steps fs [] es c HSR.out).mono ?_
        rintro e w3 ⟨nv, rfl, hrow, -, hbel⟩
        obtain ⟨na, nc, hnv⟩ := ownsRow_shape hrow
        subst hnv
        have hnf := HSR.out.nf
        have HROW : Hid (w3.ownsRow w2.heap.size 9 1 (.slice na fs.length nc) fs.length ((snm fs).map encStr)) := hrow
        have K23 : Hid (Kp (fun _ => False) w2 w3) := Kp.of_below hbel
        have HB0 : Hid (FwB D w3 g fm fv fs 0 w3 D fv steps fs es c) := ⟨HSR.out.kp K23.out (fun _ _ h => h) (fun _ _ h => h), by omega, rfl, fun f _ hm => (by simp at hm), Wk.refl _ _ _⟩
        clear hrow hbel
        go_wp2_with fail
        obtain ⟨wo, hwo⟩ : ∃ x, x = wr := ⟨_, rfl⟩
        subst hwo
        go_loopw [11] (fun iv wr => ∃ (k : Nat) (D' : Nat → Prop) (fv' : Value) (st' : Nat) (fs' : List Fe) (es' : List (ByteArray × Value × Nat)) (c' : Nat), k ≤ fs.length ∧ iv = .int .i64 k ∧ FwB D w3 g fm fv fs k wr D' fv' st' fs' es' c') (fun iv _ => fs.length - (intOf iv).toNat)
        case atStart => exact ⟨0, D, fv, steps, fs, es, c, Nat.zero_le _, rfl, HB0.out⟩
        case round =>
          clear HB0
          obtain ⟨j, D', fv', st', fs', es', c', hj, rfl, hI⟩ := hrel
          have HI : Hid (FwB D w3 g fm fv fs j wr D' fv' st' fs' es' c') := hI
          clear hI
          by_cases hjl : j < fs.length
          · obtain ⟨s, hs⟩ : ∃ s, (nms fs)[j]? = some s := ⟨_, List.getElem?_eq_getElem (by rw [nms_len]; exact hjl)⟩
            obtain ⟨gb, off, cap', hpe, hgl1, hgl2, hcs⟩ := own_cells HROW.out (by omega)
            obtain ⟨rfl, rfl⟩ : na = some ⟨gb, off, none⟩ ∧ nc = cap' := by
              simp only [Value.slice.injEq] at hpe; exact ⟨hpe.1, hpe.2.2⟩
            have x0 := hcs j hjl
            rw [nms_enc, List.getElem?_map, hs] at x0
            have x1 : wr.cell? ⟨gb, off + j, none⟩ = some (.string s) := kp_cell HI.out.wk.k x0 (fun hm => by have := HSR.out.lt gb hm; omega)
            have hsm : s ∈ fs'.map (·.1) := by rw [HI.out.nm]; exact (nms_perm fs).mem_iff.1 (List.mem_of_getElem? hs)
            obtain ⟨f, hf⟩ := fget_some hsm
            obtain ⟨l, r, hlr, hfs⟩ := fget_split hf
            subst hlr
            obtain ⟨s', a, q⟩ := f
            dsimp only at hfs
            subst hfs
            have hst2 := HI.out.st
            have HF : Hid (fget (l ++ (s', a, q) :: r) s' = some (s', a, q)) := hf
            have HSN : Hid ((nms fs)[j]? = some s') := hs
            clear hs hf hsm x0 hcs hpe
            go_wp2_with (first | (go_at_call 15; refine (flush_go D' wr g fm fv' st' l r [] es' c' s' a q HI.out.sr HF.out (by omega) 0 0 rfl).mono ?_; rintro e w5 ⟨rfl, D2, fv2, a2, h2, ho, hk2⟩; have HX : Hid (FwB D w3 g fm fv fs (j + 1) w5 D2 fv2 (st' + 1) (l ++ (s', a2, gfl q (lft 0 0 q.ps.length)) :: r) es' c') := FwB.step HI.out HSN.out h2 ho hk2; clear h2 ho hk2; rw [show ferr 0 = 0 from rfl]))
            exact ⟨⟨j + 1, D2, fv2, st' + 1, _, es', c', hjl, rfl, HX.out⟩, by simp only [intOf]; omega⟩
          · have hnj : ¬ (j : Int) < (fs.length : Int) := by omega
            have HPS : Hid (∀ f ∈ fs', f.2.2.ps = []) := HI.out.all (by omega)
            have HR : Hid (Sr D' wr g fm fv' st' fs' [] es' c') := HI.out.sr
            have KQ : Hid (Kp (fun _ => False) w wr) := ((KW2.out.trans K23.out (fun _ _ h => h)).trans (HI.out.wk.k.mono (G := fun i => i ∈ ownS g fm fv fs) (fun _ _ h => h)) (fun i hi hm => by have := HOW.out i hm; have := HWR.out; omega))
            clear HI HROW K23 KW2 HOW HSR HWR
            have T1 : Hid (Src .i64 wr oa zs) := S1.out.kp KQ.out (fun _ _ _ h => h)
            have T2 : Hid (Src .i64 wr pa us) := S2.out.kp KQ.out (fun _ _ _ h => h)
            go_wp2_with fail
            have hob : on ≤ 1000000000000 := by omega
            have hpb : pn ≤ 1000000000000 := by omega
            by_cases hz : ∀ z ∈ zs, 0 ≤ z
            · refine (crash_any D' wr g fm fv' st' fs' [] es' c' HR.out oa zs on oc H1.out hob hz T1.out (fun h0 => T1.out.lt1 (by rw [← H1.out]; exact h0))).mono ?_
              rintro e w5 ⟨Da, ga, fma, fsa, esa, ca, rfl, hsa, hma, hoa, hda, hea, k5⟩
              have HSA : Hid (Sr Da w5 ga fma (.slice none 0 0) 0 fsa [] esa ca) := hsa
              have HMA : Hid (fsa.map (fun f => (f.1, f.2.2)) = crl fs' zs 0 (nms fs')) := hma
              have K5 : Hid (Kp (fun _ => False) wr w5) := k5
              have HR5 : Hid (Sr Da w5 g fm fv' st' fs' [] es' c') := HR.out.beside k5 hda hea hsa.db
              have T5 : Hid (Src .i64 w5 pa us) := T2.out.kp k5 (fun _ _ _ h => h)
              clear hsa hma hoa hda hea k5
              go_wp2_with fail
              by_cases hu : ∀ z ∈ us, 0 ≤ z
              · refine (crash_any Da w5 g fm fv' st' fs' [] es' c' HR5.out pa us pn pc H2.out hpb hu T5.out (fun h0 => T5.out.lt1 (by rw [← H2.out]; exact h0))).mono ?_
                rintro e w6 ⟨Db, gb, fmb, fsb, esb, cb, rfl, hsb, hmb, hob, hdb, heb, k6⟩
                have HSB : Hid (Sr Db w6 gb fmb (.slice none 0 0) 0 fsb [] esb cb) := hsb
                have HR6 : Hid (Sr Db w6 g fm fv' st' fs' [] es' c') := HR5.out.beside k6 hdb heb hsb.db
                have HA6 : Hid (Sr Db w6 ga fma (.slice none 0 0) 0 fsa [] esa ca) := HSA.out.beside k6 hdb heb hsb.db
                have HTB : Hid (Tw fsa fsb) := tw_left (HMA.out.trans (crl_flat HPS.out _ _ _)) (hmb.trans (crl_flat HPS.out _ _ _)) hsb.keys.2
                have HTO : Hid (Tw fsa fs') := tw_old HPS.out (nms_perm fs') (HMA.out.trans (crl_flat HPS.out _ _ _))
                have K6 : Hid (Kp (fun _ => False) w w6) := (KQ.out.trans K5.out (fun _ _ h => h)).trans k6 (fun _ _ h => h)
                clear hsb hmb hob hdb heb k6
                go_wp2_with fail
                refine (pending_any Db w6 g fm fv' st' fs' [] es' c' HR6.out).mono ?_
                rintro e w7 ⟨rfl, k7⟩
                rw [pnd_flat HPS.out]
                have K7 : Hid (Kp (fun _ => False) w6 w7) := k7
                clear k7
                go_wp2_with fail
                refine (same_any Db w7 ga fma gb fmb (.slice none 0 0) (.slice none 0 0) 0 0 fsa fsb [] [] esa esb ca cb (HA6.out.kp K7.out (fun _ _ h => h) (fun _ _ h => h)) (HSB.out.kp K7.out (fun _ _ h => h) (fun _ _ h => h)) HTB.out).mono ?_
                rintro e w8 ⟨rfl, k8⟩
                have K8 : Hid (Kp (fun _ => False) w6 w8) := K7.out.trans k8 (fun _ _ h => h)
                clear k8
                go_wp2_with fail
                refine (same_any Db w8 ga fma g fm (.slice none 0 0) fv' 0 st' fsa fs' [] [] esa es' ca c' (HA6.out.kp K8.out (fun _ _ h => h) (fun _ _ h => h)) (HR6.out.kp K8.out (fun _ _ h => h) (fun _ _ h => h)) HTO.out).mono ?_
                rintro e w9 ⟨rfl, k9⟩
                have K9 : Hid (Kp (fun _ => False) w w9) := (K6.out.trans K8.out (fun _ _ h => h)).trans k9 (fun _ _ h => h)
                clear k9
                go_wp2_with (first | (go_at_call 8; refine (known_any w9).mono ?_; rintro e w' ⟨rfl, k2⟩; have K2 : Hid (Kp (fun _ => False) w9 w') := k2; clear k2))
                go_ret
                exact ⟨rfl, K9.out.trans K2.out (fun _ _ h => h)⟩
              · refine (crash_bad Da w5 g fm fv' st' fs' [] es' c' HR5.out pa us pn pc H2.out hpb hu T5.out).mono ?_
                rintro e w6 ⟨rfl, h6⟩
                subst h6
                have K6 : Hid (Kp (fun _ => False) w w6) := KQ.out.trans K5.out (fun _ _ h => h)
                go_wp2_with (first | (go_at_call 8; refine (known_any w6).mono ?_; rintro e w' ⟨rfl, k2⟩; have K2 : Hid (Kp (fun _ => False) w6 w') := k2; clear k2))
                go_ret
                exact ⟨rfl, K6.out.trans K2.out (fun _ _ h => h)⟩
            · refine (crash_bad D' wr g fm fv' st' fs' [] es' c' HR.out oa zs on oc H1.out hob hz T1.out).mono ?_
              rintro e w5 ⟨rfl, h5⟩
              replace h5 := h5.symm
              subst h5
              go_wp2_with fail
              by_cases hu : ∀ z ∈ us, 0 ≤ z
              · refine (crash_any D' wr g fm fv' st' fs' [] es' c' HR.out pa us pn pc H2.out hpb hu T2.out (fun h0 => T2.out.lt1 (by rw [← H2.out]; exact h0))).mono ?_
                rintro e w6 ⟨Db, gb, fmb, fsb, esb, cb, rfl, hsb, hmb, hob, hdb, heb, k6⟩
                have K6 : Hid (Kp (fun _ => False) w w6) := KQ.out.trans k6 (fun _ _ h => h)
                clear hsb hmb hob hdb heb k6
                go_wp2_with (first | (go_at_call 8; refine (known_any w6).mono ?_; rintro e w' ⟨rfl, k2⟩; have K2 : Hid (Kp (fun _ => False) w6 w') := k2; clear k2))
                go_ret
                exact ⟨rfl, K6.out.trans K2.out (fun _ _ h => h)⟩
              · refine (crash_bad D' wr g fm fv' st' fs' [] es' c' HR.out pa us pn pc H2.out hpb hu T2.out).mono ?_
                rintro e w6 ⟨rfl, h6⟩
                replace h6 := h6.symm
                subst h6
                go_wp2_with (first | (go_at_call 8; refine (known_any wr).mono ?_; rintro e w' ⟨rfl, k2⟩; have K2 : Hid (Kp (fun _ => False) wr w') := k2; clear k2))
                go_ret
                exact ⟨rfl, KQ.out.trans K2.out (fun _ _ h => h)⟩
end Go.Proofs.Ytalicohflfildaa
