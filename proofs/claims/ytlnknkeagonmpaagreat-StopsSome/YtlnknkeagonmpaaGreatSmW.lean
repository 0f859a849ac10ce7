/- The walk through StopsSome. -/
import Derived.Test.YtlnknkeagonmpaaGreatSe
import Derived.Test.YtlnknkeagonmpaaGreatNz
import Derived.Test.YtlnknkeagonmpaaGreatKw
import Derived.RangeFuncNested
namespace Go.Proofs.YtlnknkeagonmpaaGreat
open Go.RowKit
attribute [local go_sem] Oper.semAt_some

theorem results_cell1 {P : Program} {fn : Func} {p : Tmp} {ty : TypeId} (h : fn.results = #[.cell p ty]) (tmps : Array Value) (w : World) (b : Nat) {v : Value} (hp : tmps.getD p undef = .pointer (some ⟨b, 0, none⟩)) (hl : (loadVar ty ⟨b, 0, none⟩).run P w = .ok v w) :
    (results fn tmps).run P w = .ok v w := by
  have hp' : tmps[p]?.getD undef = .pointer (some ⟨b, 0, none⟩) := by simpa using hp
  simp [results, h, hp', asAddr, hl]
/-- A mark that a range over a function has left. -/
def mrk (D : Nat) : Deferred := { target := .collected D, args := #[] }
theorem leaves_marks {F : Fence} {n : Nat} {fn : Func} {tmps : Array Value} {R : Ending → World → Prop} (Ds : List Nat) (w : World) (hD : ∀ D ∈ Ds, w.heap[D]? = some (.deferred (some []))) (hn : Ds.Nodup)
    (fin : ∀ w', Kp (fun i => i ∈ Ds) w w' → LeavesInM F n Tryz.prog fn tmps R [] .returning w') : LeavesInM F n Tryz.prog fn tmps R (Ds.map mrk) .returning w := by
  induction Ds generalizing w with
  | nil => exact fin w (Kp.refl _ _)
  | cons D Ds ih =>
    have h1 := hD D (by simp)
    have hk := kp_put1 w D (.deferred none)
    have hx := ih (w.putObj D (.deferred none)) (fun E hE => by
      have hne : E ≠ D := fun e => (List.nodup_cons.1 hn).1 (e ▸ hE)
      have h2 := hD E (by simp [hE])
      exact (hk.block E (Array.getElem?_eq_some_iff.1 h2).1 hne).trans h2) (List.nodup_cons.1 hn).2
      (fun w' k => fin w' ((hk.mono (G := fun i => i ∈ D :: Ds) (fun i _ e => by rw [e]; simp)).trans k (fun i _ h => by simp [h])))
    exact ⟨by simp, .inl ⟨_, _, rfl, run_takeDeferred h1, hx⟩⟩
theorem fin4 {F : Fence} {n : Nat} {tmps : Array Value} {R : Ending → World → Prop} {w : World} {b : Nat} (h6 : tmps.getD 6 undef = .pointer (some ⟨b, 0, none⟩)) (hc : w.cell? ⟨b, 0, none⟩ = some (.bool true)) (hR : R (.returned (.bool true)) w) : LeavesInM F n Tryz.prog Tryz.f4 tmps R [] .returning w := by
  have hl : (loadVar 4 ⟨b, 0, none⟩).run Tryz.prog w = .ok (.bool true) w := by go_simp
  exact ⟨_, results_cell1 Tryz.results4 _ _ _ h6 hl, hR⟩
theorem src_kp {κ : IntKind} {w w' : World} {ao : Option Addr} {zs : List Int} (h : Src κ w ao zs) (k : Kp (fun _ => False) w w') : Src κ w' ao zs := by
  intro hp
  obtain ⟨b, off, e, hc⟩ := h hp
  exact ⟨b, off, e, fun i hi => kp_cell k (hc i hi) (fun h => h)⟩
theorem src_own {w : World} {base n : Nat} {v : Value} {zs : List Int} (h : w.ownsRow base 3 1 v n (zs.map (Value.int .i64))) : n = zs.length ∧ ∃ ao c, v = .slice ao n c ∧ Src .i64 w ao zs := by
  have hn : n = zs.length := by have := h.1; simp at this; omega
  refine ⟨hn, ?_⟩
  rcases h.2 with ⟨rfl, h1⟩ | ⟨g, cap, cur, rfl, h1, h2, h3, h4, h5, h6⟩
  · exact ⟨none, 0, by rw [h1], fun hp => by omega⟩
  · refine ⟨_, cap, rfl, fun hp => ⟨g, 0, rfl, fun i hi => ?_⟩⟩
    have := h.cells (g := g) rfl i (.int .i64 (zs.getD i 0)) (by simp [List.getD, hi])
    rw [add_z] at this
    rw [Nat.zero_add]
    exact this
theorem lst_next (i : Nat) (F : Nat → Int) : lst (i + 1) F = lst i F ++ [F i] := by simp [lst, List.range_succ]
theorem wrow_get (Gs : List Nat) (P n j : Nat) (hj : j < Gs.length) : (wrow Gs P n)[j]? = some (.slice (some ⟨Gs.getD j 0, 0, none⟩) P P) := by
  unfold wrow
  rw [List.getElem?_append_left (by simpa using hj), List.getElem?_map, List.getElem?_eq_getElem hj, List.getD_eq_getElem?_getD, List.getElem?_eq_getElem hj]
  rfl
theorem pnd_le {fs : List Fe} {M : Nat} (h : ∀ f ∈ fs, f.2.2.ps.length ≤ M) : pnd fs ≤ fs.length * M := by
  unfold pnd
  induction fs with
  | nil => simp
  | cons f fs ih =>
    rw [List.map_cons, List.sum_cons, List.length_cons, Nat.add_mul]
    have h1 := h f (by simp)
    have h2 := ih (fun x hx => h x (by simp [hx]))
    omega
theorem mst_len (m : List (ByteArray × Nat)) (t : Pu) : (mst m t).length ≤ m.length + 1 := by
  have h1 : (mcr m t.name).length ≤ m.length + 1 := by
    unfold mcr
    split <;> simp
  have h2 : (mwr (mcr m t.name) t.name t.at0 (pulen t)).length = (mcr m t.name).length := by
    unfold mwr mup
    split <;> simp
  unfold mst
  split
  · unfold mfl mup
    rw [List.length_map, h2]
    exact h1
  · rw [h2]
    exact h1
theorem mpl_len (ts : List Pu) (m : List (ByteArray × Nat)) : (ts.foldl mst m).length ≤ m.length + ts.length := by
  induction ts generalizing m with
  | nil => simp
  | cons t ts ih =>
    have h1 := ih (mst m t)
    have h2 := mst_len m t
    rw [List.foldl_cons, List.length_cons]
    omega
set_option maxRecDepth 100000 in
set_option maxHeartbeats 40000000 in
theorem some_in (ts : List Pu) (a0 : Option Addr) (cap0 : Nat) (seed : Nat) (n : Int) (w : World) (hS : PuS w a0 ts) (hw : ∀ t ∈ ts, Pwf w.heap.size w t) (hnl : -9223372036854775808 ≤ n) (hnu : n ≤ 9223372036854775807) :
    CallsIn Fence.wide 8 Tryz.prog 4 #[.slice a0 ts.length cap0, .int .u64 (seed : Int), .int .i64 n] w fun e w' => e = .returned (.bool true) ∧ Kp (fun _ => False) w w' := by
  have k0 : Kp (fun _ => False) w (w.alloc (.cells #[.bool false] 4)) := (Kp.refl _ _).alloc _
  have ST0 := hid (St.new 4 w #[.bool false])
  have z0 : (w.alloc (.cells #[.bool false] 4)).heap.size = w.heap.size + 1 := by simp
  have HS := hid (hS.kp k0 (fun _ _ h => h))
  have HW : Hid (∀ t ∈ ts, Pwf (w.alloc (.cells #[.bool false] 4)).heap.size (w.alloc (.cells #[.bool false] 4)) t) := by
    intro t ht
    obtain ⟨⟨ao, cap, xs, e, h1, h2, h3, h4⟩, h5, h6, h7⟩ := (hw t ht).kp k0 (fun _ _ h => h)
    exact ⟨⟨ao, cap, xs, e, h1, h2, h3, fun b off e hp => by have := h4 b off e hp; omega⟩, h5, h6, h7⟩
  have K0 := hid k0
  clear hS hw k0
  refine callsIn_of_wp_marks Tryz.func4 rfl trivial ?_ rfl
  simp only [Tryz.ntmps4, List.size_toArray, List.length_cons, List.length_nil, Nat.reduceAdd, Nat.reduceSub, Array.replicate_succ, Array.replicate_zero, List.push_toArray, List.append_toArray, List.nil_append, List.cons_append]
  gi_wp2_with fail
  generalize w.alloc (.cells #[.bool false] 4) = W0 at ST0 HS HW K0 z0 ⊢
  gi_wp2_with fail
  refine ⟨trivial, (callsIn_wide.2 (vast_any W0.heap.size ts a0 cap0 W0 HS.out HW.out)).mono ?_⟩
  rintro _ w1 ⟨b, rfl, hfew, hw1⟩
  subst w1
  have hR0 := ST0.out.lt
  cases b with
  | true =>
    gi_wp2_with fail
    refine ⟨trivial, (callsIn_wide.2 (known_any W0)).mono ?_⟩
    rintro _ wz ⟨rfl, kz⟩
    have st := ST0.out.kp kz (fun h => h)
    have fz := st.frozen 0
    have cz : wz.cell? ⟨w.heap.size, 0, none⟩ = some (.bool false) := st.cell 0
    have HT : Hid (St 4 (wz.setCell ⟨w.heap.size, 0, none⟩ (.bool true)) w.heap.size #[.bool true]) := by show St 4 _ _ _; have := st.set 0 (.bool true); simpa using this
    have kset := kp_setCell wz w.heap.size 0 (.bool true) (fun i => i = w.heap.size) rfl
    have hlz := st.lt
    have KT : Hid (Kp (fun _ => False) w (wz.setCell ⟨w.heap.size, 0, none⟩ (.bool true))) := (K0.out.trans kz (fun _ _ h => h)).trans kset (fun i h1 h2 => by omega)
    clear st kset kz
    gi_wp2_with fail
    exact fin4 rfl (HT.out.cell 0) ⟨rfl, KT.out⟩
  | false =>
    by_cases h3 : 300 < n ∧ n ≤ 1000
    · have h3a := h3.1
      have h3b := h3.2
      gi_wp2_with fail
      refine ⟨trivial, (callsIn_wide.2 (known_any W0)).mono ?_⟩
      rintro _ wz ⟨rfl, kz⟩
      have st := ST0.out.kp kz (fun h => h)
      have fz := st.frozen 0
      have cz : wz.cell? ⟨w.heap.size, 0, none⟩ = some (.bool false) := st.cell 0
      have HT : Hid (St 4 (wz.setCell ⟨w.heap.size, 0, none⟩ (.bool true)) w.heap.size #[.bool true]) := by show St 4 _ _ _; have := st.set 0 (.bool true); simpa using this
      have kset := kp_setCell wz w.heap.size 0 (.bool true) (fun i => i = w.heap.size) rfl
      have hlz := st.lt
      have KT : Hid (Kp (fun _ => False) w (wz.setCell ⟨w.heap.size, 0, none⟩ (.bool true))) := (K0.out.trans kz (fun _ _ h => h)).trans kset (fun i h1 h2 => by omega)
      clear st kset kz
      gi_wp2_with fail
      exact fin4 rfl (HT.out.cell 0) ⟨rfl, KT.out⟩
    · have HFW := hid (hfew rfl)
      clear hfew
      have hcase : n < 0 ∨ 1000 < n ∨ (0 ≤ n ∧ n ≤ 300) := by omega
      clear h3
      rcases hcase with hneg | hlong | ⟨hn0, hn3⟩
      · have h3 : ¬ (300 : Int) < n := by omega
        gi_wp2_with fail
        refine ⟨trivial, (callsIn_wide.2 (both_any ts a0 cap0 W0 HS.out HW.out HFW.out)).mono ?_⟩
        rintro _ w1 ⟨g, fm, g', rfl, hbx, k1⟩
        obtain ⟨D, fv, steps, fs, es, c, D', fv', steps', gs, hb⟩ := hbx
        have hPb : pnd fs ≤ 1000000000 := by
          have h1 := pnd_le hb.b4
          have h2 : fs.length ≤ 60 := by
            have h4 := mpl_len ts []
            have h5 := (BoX.pnd hb).2
            have h6 := hb.l.len
            have h7 := HFW.out.1
            have h8 : (mpl ts).length ≤ [].length + ts.length := h4
            rw [List.length_nil] at h8
            omega
          have h3 := Nat.mul_le_mul_right (40000 * 180) h2
          omega
        have HSR := hid hb.s
        have HRR := hid hb.r
        have HPR := hid hb.l.pnd
        have K1 := hid k1
        clear hb k1 HS HW HFW
        gi_wp2_with fail
        refine ⟨trivial, (callsIn_wide.2 (rpending_any D' w1 g' fv' steps' gs HRR.out)).mono ?_⟩
        rintro _ w2 ⟨rfl, hw2⟩
        subst w2
        rw [← HPR.out]
        clear HRR HPR
        gi_wp2_with fail
        refine ⟨trivial, (callsIn_wide.2 (some_neg D w1 g fm fv steps fs [] es c HSR.out seed n hneg)).mono ?_⟩
        rintro _ w2 ⟨rfl, hw2⟩
        subst w2
        have K2 := K1
        gi_wp2_with fail
        refine ⟨trivial, (callsIn_wide.2 (some_nos (.pointer none) seed _ w1 (.inl rfl))).mono ?_⟩
        rintro _ wa ⟨rfl, hwa⟩
        subst wa
        gi_wp2_with fail
        refine ⟨trivial, (callsIn_wide.2 (count_nos (.pointer none) w1 (.inl rfl))).mono ?_⟩
        rintro _ wa ⟨rfl, hwa⟩
        subst wa
        gi_wp2_with fail
        have sz := St.new 58 w1 #[.map none, .slice none 0 0, .int .i64 0]
        have kz3 : Kp (fun _ => False) w1 (w1.alloc (.cells #[.map none, .slice none 0 0, .int .i64 0] 58)) := (Kp.refl _ _).alloc _
        generalize w1.alloc (.cells #[.map none, .slice none 0 0, .int .i64 0] 58) = w3 at sz kz3 ⊢
        refine ⟨trivial, (callsIn_wide.2 (plain_nos (.pointer (some ⟨w1.heap.size, 0, none⟩)) none 0 0 w3 (.inr ⟨_, rfl, sz.cell 0⟩))).mono ?_⟩
        rintro _ wa ⟨rfl, hwa⟩
        subst wa
        have K3 := hid ((K0.out.trans K2.out (fun _ _ h => h)).trans kz3 (fun _ _ h => h))
        have ST3 := hid ((ST0.out.kp K2.out (fun h => h)).kp kz3 (fun h => h))
        clear sz kz3 K2 K1 HSR ST0
        gi_wp2_with fail
        refine ⟨trivial, (callsIn_wide.2 (all_nos (.pointer none) w3 (.inl rfl))).mono ?_⟩
        rintro _ w4 ⟨rfl, hw4⟩
        have s4 : St 77 w4 w3.heap.size #[.func (.func 55) #[] #[]] := by rw [hw4]; exact St.new 77 w3 _
        have k4 : Kp (fun _ => False) w3 w4 := by rw [hw4]; exact (Kp.refl _ _).alloc _
        clear hw4
        gi_wp2_with fail
        refine ⟨trivial, (callsIn_wide.2 (images_nos w4)).mono ?_⟩
        rintro _ w5 ⟨rfl, hw5⟩
        have k5 : Kp (fun _ => False) w4 w5 := by rw [hw5]; exact ((Kp.refl _ _).alloc _).alloc _
        have s5 : St 77 w5 (w4.heap.size + 1) #[.func (.func 55) #[] #[]] := by rw [hw5]; exact (by have := St.new 77 (w4.alloc (.cells #[.pointer none] 25)) #[.func (.func 55) #[] #[]]; simpa using this)
        have HI5 := hid s5
        have HA5 := hid (s4.kp k5 (fun h => h))
        have k35 : Kp (fun _ => False) w3 w5 := k4.trans k5 (fun _ _ h => h)
        have K5 := hid (K3.out.trans k35 (fun _ _ h => h))
        have ST5 := hid (ST3.out.kp k35 (fun h => h))
        have hz35 := k35.size
        have hz3 := ST3.out.lt
        clear hw5 s5 s4 k4 k5 k35 K3 ST3
        generalize hA : w3.heap.size = BA at *
        generalize hB : w4.heap.size = BB at *
        have hfe : ∀ w, (binOp .eql 31 (.func (.func 29) #[] #[.pointer (some ⟨BA, 0, none⟩)]) .nilFunc).run Tryz.prog w = .ok (.bool false) w := fun _ => rfl
        have hfi : ∀ w, (binOp .eql 34 (.func (.func 31) #[] #[.pointer (some ⟨BB + 1, 0, none⟩), .pointer (some ⟨BB, 0, none⟩)]) .nilFunc).run Tryz.prog w = .ok (.bool false) w := fun _ => rfl
        gi_wp2_with fail
        refine wpIn_rangeFunc_ownH rfl (by omega) (gf := 29) (lb := #[.pointer (some ⟨BA, 0, none⟩)]) rfl trivial (enters_of Tryz.func29 (by kernel_rfl) rfl)
          (all1_stops0 Fence.wide (8 - 1) (by omega) trivial trivial rfl BA w5 (HA5.out.cell 0)) (fun _ _ => trivial) (fun _ _ _ _ _ _ _ _ => trivial) (Below.refl _ _) (fun _ => rfl)
          (fun _ W => Kp (fun _ => False) w5 W) (fun _ _ _ => False)
          (fun pp A B row hs hg hr => hs.trans (turns_own hg hr).kp (fun i hi h => by omega)) (fun cc pp A B row hs hg hr => hs) (Kp.refl _ _) (fun _ _ _ => True) (fun _ _ _ _ _ _ _ _ _ => trivial)
          ?assignneg (fun l pre x a' W _ _ _ _ hl => absurd hl (Nat.not_lt_zero _)) ?doneneg (fun D c pre W hD hs => hs.elim)
        case assignneg =>
          intro l pre x W K hi hK
          gi_wp2
          exact hK _ _ (KeepsFrom.refl _ _) trivial hi trivial
        rintro Dd1 xs W6 hD1 hxs k6 hKd1
        have K6 := hid (K5.out.trans k6 (fun _ _ h => h))
        have ST6 := hid (ST5.out.kp k6 (fun h => h))
        have HI6 := hid (HI5.out.kp k6 (fun h => h))
        have HKD1 := hid hKd1
        have hDl := (Array.getElem?_eq_some_iff.1 hKd1).1
        have hz5 := ST5.out.lt
        clear K5 ST5 HI5 HA5 hKd1 hxs k6 hfe
        gi_wp2_with fail
        refine wpIn_rangeFunc_ownH rfl (by omega) (gf := 31) (lb := #[.pointer (some ⟨BB + 1, 0, none⟩), .pointer (some ⟨BB, 0, none⟩)]) rfl trivial (enters_of Tryz.func31 (by kernel_rfl) rfl)
          (images1_stops0 Fence.wide (8 - 1) (by omega) trivial trivial rfl (BB + 1) BB W6 (HI6.out.cell 0)) (fun _ _ => trivial) (fun _ _ _ _ _ _ _ _ => trivial) (Below.refl _ _) (fun _ => rfl)
          (fun _ W => Kp (fun _ => False) W6 W) (fun _ _ _ => False)
          (fun pp A B row hs hg hr => hs.trans (turns_own hg hr).kp (fun i hi h => by omega)) (fun cc pp A B row hs hg hr => hs) (Kp.refl _ _) (fun _ _ _ => True) (fun _ _ _ _ _ _ _ _ _ => trivial)
          ?assign2neg (fun l pre x a' W _ _ _ _ hl => absurd hl (Nat.not_lt_zero _)) ?done2neg (fun D c pre W hD hs => hs.elim)
        case assign2neg =>
          intro l pre x W K hi hK
          gi_wp2
          exact hK _ _ (KeepsFrom.refl _ _) trivial hi trivial
        rintro Dd2 xs W7 hD2 hxs k7 hKd2
        have K7 := hid (K6.out.trans k7 (fun _ _ h => h))
        have ST7 := hid (ST6.out.kp k7 (fun h => h))
        have MR : Hid (∀ D ∈ [Dd2, Dd1], w.heap.size < D ∧ W7.heap[D]? = some (.deferred (some []))) := by
          intro D hD
          rcases List.mem_cons.1 hD with rfl | h1
          · exact ⟨by omega, hKd2⟩
          · rw [List.mem_singleton.1 h1]; exact ⟨by omega, (k7.block Dd1 hDl (fun h => h)).trans HKD1.out⟩
        have ND : Hid ([Dd2, Dd1].Nodup) := by simp [Hid]; omega
        clear K6 ST6 HI6 hKd2 HKD1 hxs k7 hfi
        gi_wp2_with fail
        refine ⟨trivial, (callsIn_wide.2 (known_any W7)).mono ?_⟩
        rintro _ wz ⟨rfl, kz⟩
        have st := ST7.out.kp kz (fun h => h)
        have fz := st.frozen 0
        have cz : wz.cell? ⟨w.heap.size, 0, none⟩ = some (.bool false) := st.cell 0
        have HT : Hid (St 4 (wz.setCell ⟨w.heap.size, 0, none⟩ (.bool true)) w.heap.size #[.bool true]) := by show St 4 _ _ _; have := st.set 0 (.bool true); simpa using this
        have kset := kp_setCell wz w.heap.size 0 (.bool true) (fun i => i = w.heap.size) rfl
        have hlz := st.lt
        have KT : Hid (Kp (fun _ => False) w (wz.setCell ⟨w.heap.size, 0, none⟩ (.bool true))) := (K7.out.trans kz (fun _ _ h => h)).trans kset (fun i h1 h2 => by omega)
        have MRT : Hid (∀ D ∈ [Dd2, Dd1], (wz.setCell ⟨w.heap.size, 0, none⟩ (.bool true)).heap[D]? = some (.deferred (some []))) := fun D hD => by
          have h1 := MR.out D hD
          have h2 := (kz.block D (Array.getElem?_eq_some_iff.1 h1.2).1 (fun h => h)).trans h1.2
          exact (kset.block D (Array.getElem?_eq_some_iff.1 h2).1 (by have := h1.1; omega)).trans h2
        clear st kset kz
        gi_wp2_with fail
        refine leaves_marks [Dd2, Dd1] _ MRT.out ND.out (fun w' k => fin4 rfl ?_ ⟨rfl, ?_⟩)
        · exact (HT.out.kp k (fun hm => by have := (MR.out _ hm).1; omega)).cell 0
        · exact (KT.out.mono (G := fun i => i ∈ [Dd2, Dd1]) (fun _ _ h => h.elim)).trans k (fun _ _ h => h) |>.mono (fun i hi hm => by have := (MR.out _ hm).1; omega)
      · have h3a : (300 : Int) < n := by omega
        have h3b : ¬ n ≤ 1000 := by omega
        gi_wp2_with fail
        refine ⟨trivial, (callsIn_wide.2 (both_any ts a0 cap0 W0 HS.out HW.out HFW.out)).mono ?_⟩
        rintro _ w1 ⟨g, fm, g', rfl, hbx, k1⟩
        obtain ⟨D, fv, steps, fs, es, c, D', fv', steps', gs, hb⟩ := hbx
        have hPb : pnd fs ≤ 1000000000 := by
          have h1 := pnd_le hb.b4
          have h2 : fs.length ≤ 60 := by
            have h4 := mpl_len ts []
            have h5 := (BoX.pnd hb).2
            have h6 := hb.l.len
            have h7 := HFW.out.1
            have h8 : (mpl ts).length ≤ [].length + ts.length := h4
            rw [List.length_nil] at h8
            omega
          have h3 := Nat.mul_le_mul_right (40000 * 180) h2
          omega
        have HSR := hid hb.s
        have HRR := hid hb.r
        have HPR := hid hb.l.pnd
        have K1 := hid k1
        clear hb k1 HS HW HFW
        gi_wp2_with fail
        refine ⟨trivial, (callsIn_wide.2 (rpending_any D' w1 g' fv' steps' gs HRR.out)).mono ?_⟩
        rintro _ w2 ⟨rfl, hw2⟩
        subst w2
        rw [← HPR.out]
        clear HRR HPR
        gi_wp2_with fail
        refine ⟨trivial, (callsIn_wide.2 (some_long D w1 g fm fv steps fs [] es c HSR.out seed n hlong)).mono ?_⟩
        rintro _ w2 ⟨rfl, hw2⟩
        subst w2
        have K2 := K1
        gi_wp2_with fail
        refine ⟨trivial, (callsIn_wide.2 (some_nos (.pointer none) seed _ w1 (.inl rfl))).mono ?_⟩
        rintro _ wa ⟨rfl, hwa⟩
        subst wa
        gi_wp2_with fail
        refine ⟨trivial, (callsIn_wide.2 (count_nos (.pointer none) w1 (.inl rfl))).mono ?_⟩
        rintro _ wa ⟨rfl, hwa⟩
        subst wa
        gi_wp2_with fail
        have sz := St.new 58 w1 #[.map none, .slice none 0 0, .int .i64 0]
        have kz3 : Kp (fun _ => False) w1 (w1.alloc (.cells #[.map none, .slice none 0 0, .int .i64 0] 58)) := (Kp.refl _ _).alloc _
        generalize w1.alloc (.cells #[.map none, .slice none 0 0, .int .i64 0] 58) = w3 at sz kz3 ⊢
        refine ⟨trivial, (callsIn_wide.2 (plain_nos (.pointer (some ⟨w1.heap.size, 0, none⟩)) none 0 0 w3 (.inr ⟨_, rfl, sz.cell 0⟩))).mono ?_⟩
        rintro _ wa ⟨rfl, hwa⟩
        subst wa
        have K3 := hid ((K0.out.trans K2.out (fun _ _ h => h)).trans kz3 (fun _ _ h => h))
        have ST3 := hid ((ST0.out.kp K2.out (fun h => h)).kp kz3 (fun h => h))
        clear sz kz3 K2 K1 HSR ST0
        gi_wp2_with fail
        refine ⟨trivial, (callsIn_wide.2 (all_nos (.pointer none) w3 (.inl rfl))).mono ?_⟩
        rintro _ w4 ⟨rfl, hw4⟩
        have s4 : St 77 w4 w3.heap.size #[.func (.func 55) #[] #[]] := by rw [hw4]; exact St.new 77 w3 _
        have k4 : Kp (fun _ => False) w3 w4 := by rw [hw4]; exact (Kp.refl _ _).alloc _
        clear hw4
        gi_wp2_with fail
        refine ⟨trivial, (callsIn_wide.2 (images_nos w4)).mono ?_⟩
        rintro _ w5 ⟨rfl, hw5⟩
        have k5 : Kp (fun _ => False) w4 w5 := by rw [hw5]; exact ((Kp.refl _ _).alloc _).alloc _
        have s5 : St 77 w5 (w4.heap.size + 1) #[.func (.func 55) #[] #[]] := by rw [hw5]; exact (by have := St.new 77 (w4.alloc (.cells #[.pointer none] 25)) #[.func (.func 55) #[] #[]]; simpa using this)
        have HI5 := hid s5
        have HA5 := hid (s4.kp k5 (fun h => h))
        have k35 : Kp (fun _ => False) w3 w5 := k4.trans k5 (fun _ _ h => h)
        have K5 := hid (K3.out.trans k35 (fun _ _ h => h))
        have ST5 := hid (ST3.out.kp k35 (fun h => h))
        have hz35 := k35.size
        have hz3 := ST3.out.lt
        clear hw5 s5 s4 k4 k5 k35 K3 ST3
        generalize hA : w3.heap.size = BA at *
        generalize hB : w4.heap.size = BB at *
        have hfe : ∀ w, (binOp .eql 31 (.func (.func 29) #[] #[.pointer (some ⟨BA, 0, none⟩)]) .nilFunc).run Tryz.prog w = .ok (.bool false) w := fun _ => rfl
        have hfi : ∀ w, (binOp .eql 34 (.func (.func 31) #[] #[.pointer (some ⟨BB + 1, 0, none⟩), .pointer (some ⟨BB, 0, none⟩)]) .nilFunc).run Tryz.prog w = .ok (.bool false) w := fun _ => rfl
        gi_wp2_with fail
        refine wpIn_rangeFunc_ownH rfl (by omega) (gf := 29) (lb := #[.pointer (some ⟨BA, 0, none⟩)]) rfl trivial (enters_of Tryz.func29 (by kernel_rfl) rfl)
          (all1_stops0 Fence.wide (8 - 1) (by omega) trivial trivial rfl BA w5 (HA5.out.cell 0)) (fun _ _ => trivial) (fun _ _ _ _ _ _ _ _ => trivial) (Below.refl _ _) (fun _ => rfl)
          (fun _ W => Kp (fun _ => False) w5 W) (fun _ _ _ => False)
          (fun pp A B row hs hg hr => hs.trans (turns_own hg hr).kp (fun i hi h => by omega)) (fun cc pp A B row hs hg hr => hs) (Kp.refl _ _) (fun _ _ _ => True) (fun _ _ _ _ _ _ _ _ _ => trivial)
          ?assignlong (fun l pre x a' W _ _ _ _ hl => absurd hl (Nat.not_lt_zero _)) ?donelong (fun D c pre W hD hs => hs.elim)
        case assignlong =>
          intro l pre x W K hi hK
          gi_wp2
          exact hK _ _ (KeepsFrom.refl _ _) trivial hi trivial
        rintro Dd1 xs W6 hD1 hxs k6 hKd1
        have K6 := hid (K5.out.trans k6 (fun _ _ h => h))
        have ST6 := hid (ST5.out.kp k6 (fun h => h))
        have HI6 := hid (HI5.out.kp k6 (fun h => h))
        have HKD1 := hid hKd1
        have hDl := (Array.getElem?_eq_some_iff.1 hKd1).1
        have hz5 := ST5.out.lt
        clear K5 ST5 HI5 HA5 hKd1 hxs k6 hfe
        gi_wp2_with fail
        refine wpIn_rangeFunc_ownH rfl (by omega) (gf := 31) (lb := #[.pointer (some ⟨BB + 1, 0, none⟩), .pointer (some ⟨BB, 0, none⟩)]) rfl trivial (enters_of Tryz.func31 (by kernel_rfl) rfl)
          (images1_stops0 Fence.wide (8 - 1) (by omega) trivial trivial rfl (BB + 1) BB W6 (HI6.out.cell 0)) (fun _ _ => trivial) (fun _ _ _ _ _ _ _ _ => trivial) (Below.refl _ _) (fun _ => rfl)
          (fun _ W => Kp (fun _ => False) W6 W) (fun _ _ _ => False)
          (fun pp A B row hs hg hr => hs.trans (turns_own hg hr).kp (fun i hi h => by omega)) (fun cc pp A B row hs hg hr => hs) (Kp.refl _ _) (fun _ _ _ => True) (fun _ _ _ _ _ _ _ _ _ => trivial)
          ?assign2long (fun l pre x a' W _ _ _ _ hl => absurd hl (Nat.not_lt_zero _)) ?done2long (fun D c pre W hD hs => hs.elim)
        case assign2long =>
          intro l pre x W K hi hK
          gi_wp2
          exact hK _ _ (KeepsFrom.refl _ _) trivial hi trivial
        rintro Dd2 xs W7 hD2 hxs k7 hKd2
        have K7 := hid (K6.out.trans k7 (fun _ _ h => h))
        have ST7 := hid (ST6.out.kp k7 (fun h => h))
        have MR : Hid (∀ D ∈ [Dd2, Dd1], w.heap.size < D ∧ W7.heap[D]? = some (.deferred (some []))) := by
          intro D hD
          rcases List.mem_cons.1 hD with rfl | h1
          · exact ⟨by omega, hKd2⟩
          · rw [List.mem_singleton.1 h1]; exact ⟨by omega, (k7.block Dd1 hDl (fun h => h)).trans HKD1.out⟩
        have ND : Hid ([Dd2, Dd1].Nodup) := by simp [Hid]; omega
        clear K6 ST6 HI6 hKd2 HKD1 hxs k7 hfi
        gi_wp2_with fail
        refine ⟨trivial, (callsIn_wide.2 (known_any W7)).mono ?_⟩
        rintro _ wz ⟨rfl, kz⟩
        have st := ST7.out.kp kz (fun h => h)
        have fz := st.frozen 0
        have cz : wz.cell? ⟨w.heap.size, 0, none⟩ = some (.bool false) := st.cell 0
        have HT : Hid (St 4 (wz.setCell ⟨w.heap.size, 0, none⟩ (.bool true)) w.heap.size #[.bool true]) := by show St 4 _ _ _; have := st.set 0 (.bool true); simpa using this
        have kset := kp_setCell wz w.heap.size 0 (.bool true) (fun i => i = w.heap.size) rfl
        have hlz := st.lt
        have KT : Hid (Kp (fun _ => False) w (wz.setCell ⟨w.heap.size, 0, none⟩ (.bool true))) := (K7.out.trans kz (fun _ _ h => h)).trans kset (fun i h1 h2 => by omega)
        have MRT : Hid (∀ D ∈ [Dd2, Dd1], (wz.setCell ⟨w.heap.size, 0, none⟩ (.bool true)).heap[D]? = some (.deferred (some []))) := fun D hD => by
          have h1 := MR.out D hD
          have h2 := (kz.block D (Array.getElem?_eq_some_iff.1 h1.2).1 (fun h => h)).trans h1.2
          exact (kset.block D (Array.getElem?_eq_some_iff.1 h2).1 (by have := h1.1; omega)).trans h2
        clear st kset kz
        gi_wp2_with fail
        refine leaves_marks [Dd2, Dd1] _ MRT.out ND.out (fun w' k => fin4 rfl ?_ ⟨rfl, ?_⟩)
        · exact (HT.out.kp k (fun hm => by have := (MR.out _ hm).1; omega)).cell 0
        · exact (KT.out.mono (G := fun i => i ∈ [Dd2, Dd1]) (fun _ _ h => h.elim)).trans k (fun _ _ h => h) |>.mono (fun i hi hm => by have := (MR.out _ hm).1; omega)
      · obtain ⟨q, rfl⟩ := Int.eq_ofNat_of_zero_le hn0
        have h3 : ¬ (300 : Int) < (q : Int) := by omega
        gi_wp2_with fail
        refine ⟨trivial, (callsIn_wide.2 (both_any ts a0 cap0 W0 HS.out HW.out HFW.out)).mono ?_⟩
        rintro _ w1 ⟨g, fm, g', rfl, hbx, k1⟩
        obtain ⟨D, fv, steps, fs, es, c, D', fv', steps', gs, hb⟩ := hbx
        have hPb : pnd fs ≤ 1000000000 := by
          have h1 := pnd_le hb.b4
          have h2 : fs.length ≤ 60 := by
            have h4 := mpl_len ts []
            have h5 := (BoX.pnd hb).2
            have h6 := hb.l.len
            have h7 := HFW.out.1
            have h8 : (mpl ts).length ≤ [].length + ts.length := h4
            rw [List.length_nil] at h8
            omega
          have h3 := Nat.mul_le_mul_right (40000 * 180) h2
          omega
        have HSR := hid hb.s
        have HRR := hid hb.r
        have HPR := hid hb.l.pnd
        have K1 := hid k1
        clear hb k1 HS HW HFW
        gi_wp2_with fail
        refine ⟨trivial, (callsIn_wide.2 (rpending_any D' w1 g' fv' steps' gs HRR.out)).mono ?_⟩
        rintro _ w2 ⟨rfl, hw2⟩
        subst w2
        rw [← HPR.out]
        clear HRR HPR
        gi_wp2_with fail
        refine ⟨trivial, (callsIn_wide.2 (some_any D w1 g fm fv steps fs [] es c HSR.out hPb seed q (by omega))).mono ?_⟩
        rintro _ w2 ⟨v, rfl, L, Gs, rfl, hgl, hrow, hws, k2⟩
        have K2 := hid (K1.out.trans k2 (fun _ _ h => h))
        have HROW := hid hrow
        have HWS := hid hws
        have HGL := hid hgl
        have HGLx := HGL
        clear k2 hrow hws hgl
        gi_wp2_with fail
        refine ⟨trivial, (callsIn_wide.2 (some_nos (.pointer none) seed _ w2 (.inl rfl))).mono ?_⟩
        rintro _ wa ⟨rfl, hwa⟩
        subst wa
        gi_wp2_with fail
        refine ⟨trivial, (callsIn_wide.2 (count_nos (.pointer none) w2 (.inl rfl))).mono ?_⟩
        rintro _ wa ⟨rfl, hwa⟩
        subst wa
        gi_wp2_with fail
        have sz := St.new 58 w2 #[.map none, .slice none 0 0, .int .i64 0]
        have kz3 : Kp (fun _ => False) w2 (w2.alloc (.cells #[.map none, .slice none 0 0, .int .i64 0] 58)) := (Kp.refl _ _).alloc _
        generalize w2.alloc (.cells #[.map none, .slice none 0 0, .int .i64 0] 58) = w3 at sz kz3 ⊢
        refine ⟨trivial, (callsIn_wide.2 (plain_nos (.pointer (some ⟨w2.heap.size, 0, none⟩)) none 0 0 w3 (.inr ⟨_, rfl, sz.cell 0⟩))).mono ?_⟩
        rintro _ wa ⟨rfl, hwa⟩
        subst wa
        have K3 := hid ((K0.out.trans K2.out (fun _ _ h => h)).trans kz3 (fun _ _ h => h))
        have HROW3 := hid (HROW.out.kp kz3 (fun h => h))
        have HWS3 : Hid (∀ j, j < q → Rw .i64 3 w3 (Gs.getD j 0) (lst (pnd fs) (wy seed (pnd fs) j))) := fun j hj => Rw.kp (HWS.out j hj) kz3 (fun h => h)
        clear HROW HWS
        have ST3 := hid ((ST0.out.kp K2.out (fun h => h)).kp kz3 (fun h => h))
        clear sz kz3 K2 K1 HSR ST0
        gi_wp2_with fail
        refine ⟨trivial, (callsIn_wide.2 (all_nos (.pointer none) w3 (.inl rfl))).mono ?_⟩
        rintro _ w4 ⟨rfl, hw4⟩
        have s4 : St 77 w4 w3.heap.size #[.func (.func 55) #[] #[]] := by rw [hw4]; exact St.new 77 w3 _
        have k4 : Kp (fun _ => False) w3 w4 := by rw [hw4]; exact (Kp.refl _ _).alloc _
        clear hw4
        gi_wp2_with fail
        refine ⟨trivial, (callsIn_wide.2 (images_nos w4)).mono ?_⟩
        rintro _ w5 ⟨rfl, hw5⟩
        have k5 : Kp (fun _ => False) w4 w5 := by rw [hw5]; exact ((Kp.refl _ _).alloc _).alloc _
        have s5 : St 77 w5 (w4.heap.size + 1) #[.func (.func 55) #[] #[]] := by rw [hw5]; exact (by have := St.new 77 (w4.alloc (.cells #[.pointer none] 25)) #[.func (.func 55) #[] #[]]; simpa using this)
        have HI5 := hid s5
        have HA5 := hid (s4.kp k5 (fun h => h))
        have k35 : Kp (fun _ => False) w3 w5 := k4.trans k5 (fun _ _ h => h)
        have K5 := hid (K3.out.trans k35 (fun _ _ h => h))
        have ST5 := hid (ST3.out.kp k35 (fun h => h))
        have HROW5 := hid (HROW3.out.kp k35 (fun h => h))
        have HWS5 : Hid (∀ j, j < q → Rw .i64 3 w5 (Gs.getD j 0) (lst (pnd fs) (wy seed (pnd fs) j))) := fun j hj => Rw.kp (HWS3.out j hj) k35 (fun h => h)
        clear HROW3 HWS3
        have hz35 := k35.size
        have hz3 := ST3.out.lt
        clear hw5 s5 s4 k4 k5 k35 K3 ST3
        generalize hA : w3.heap.size = BA at *
        generalize hB : w4.heap.size = BB at *
        have hfe : ∀ w, (binOp .eql 31 (.func (.func 29) #[] #[.pointer (some ⟨BA, 0, none⟩)]) .nilFunc).run Tryz.prog w = .ok (.bool false) w := fun _ => rfl
        have hfi : ∀ w, (binOp .eql 34 (.func (.func 31) #[] #[.pointer (some ⟨BB + 1, 0, none⟩), .pointer (some ⟨BB, 0, none⟩)]) .nilFunc).run Tryz.prog w = .ok (.bool false) w := fun _ => rfl
        gi_wp2_with fail
        refine wpIn_rangeFunc_ownH rfl (by omega) (gf := 29) (lb := #[.pointer (some ⟨BA, 0, none⟩)]) rfl trivial (enters_of Tryz.func29 (by kernel_rfl) rfl)
          (all1_stops0 Fence.wide (8 - 1) (by omega) trivial trivial rfl BA w5 (HA5.out.cell 0)) (fun _ _ => trivial) (fun _ _ _ _ _ _ _ _ => trivial) (Below.refl _ _) (fun _ => rfl)
          (fun _ W => Kp (fun _ => False) w5 W) (fun _ _ _ => False)
          (fun pp A B row hs hg hr => hs.trans (turns_own hg hr).kp (fun i hi h => by omega)) (fun cc pp A B row hs hg hr => hs) (Kp.refl _ _) (fun _ _ _ => True) (fun _ _ _ _ _ _ _ _ _ => trivial)
          ?assignok (fun l pre x a' W _ _ _ _ hl => absurd hl (Nat.not_lt_zero _)) ?doneok (fun D c pre W hD hs => hs.elim)
        case assignok =>
          intro l pre x W K hi hK
          gi_wp2
          exact hK _ _ (KeepsFrom.refl _ _) trivial hi trivial
        rintro Dd1 xs W6 hD1 hxs k6 hKd1
        have K6 := hid (K5.out.trans k6 (fun _ _ h => h))
        have ST6 := hid (ST5.out.kp k6 (fun h => h))
        have HI6 := hid (HI5.out.kp k6 (fun h => h))
        have HROW6 := hid (HROW5.out.kp k6 (fun h => h))
        have HWS6 : Hid (∀ j, j < q → Rw .i64 3 W6 (Gs.getD j 0) (lst (pnd fs) (wy seed (pnd fs) j))) := fun j hj => Rw.kp (HWS5.out j hj) k6 (fun h => h)
        clear HROW5 HWS5
        have HKD1 := hid hKd1
        have hDl := (Array.getElem?_eq_some_iff.1 hKd1).1
        have hz5 := ST5.out.lt
        clear K5 ST5 HI5 HA5 hKd1 hxs k6 hfe
        gi_wp2_with fail
        refine wpIn_rangeFunc_ownH rfl (by omega) (gf := 31) (lb := #[.pointer (some ⟨BB + 1, 0, none⟩), .pointer (some ⟨BB, 0, none⟩)]) rfl trivial (enters_of Tryz.func31 (by kernel_rfl) rfl)
          (images1_stops0 Fence.wide (8 - 1) (by omega) trivial trivial rfl (BB + 1) BB W6 (HI6.out.cell 0)) (fun _ _ => trivial) (fun _ _ _ _ _ _ _ _ => trivial) (Below.refl _ _) (fun _ => rfl)
          (fun _ W => Kp (fun _ => False) W6 W) (fun _ _ _ => False)
          (fun pp A B row hs hg hr => hs.trans (turns_own hg hr).kp (fun i hi h => by omega)) (fun cc pp A B row hs hg hr => hs) (Kp.refl _ _) (fun _ _ _ => True) (fun _ _ _ _ _ _ _ _ _ => trivial)
          ?assign2ok (fun l pre x a' W _ _ _ _ hl => absurd hl (Nat.not_lt_zero _)) ?done2ok (fun D c pre W hD hs => hs.elim)
        case assign2ok =>
          intro l pre x W K hi hK
          gi_wp2
          exact hK _ _ (KeepsFrom.refl _ _) trivial hi trivial
        rintro Dd2 xs W7 hD2 hxs k7 hKd2
        have K7 := hid (K6.out.trans k7 (fun _ _ h => h))
        have ST7 := hid (ST6.out.kp k7 (fun h => h))
        have HROW7 := hid (HROW6.out.kp k7 (fun h => h))
        have HWS7 : Hid (∀ j, j < q → Rw .i64 3 W7 (Gs.getD j 0) (lst (pnd fs) (wy seed (pnd fs) j))) := fun j hj => Rw.kp (HWS6.out j hj) k7 (fun h => h)
        clear HROW6 HWS6
        have MR : Hid (∀ D ∈ [Dd2, Dd1], w.heap.size < D ∧ W7.heap[D]? = some (.deferred (some []))) := by
          intro D hD
          rcases List.mem_cons.1 hD with rfl | h1
          · exact ⟨by omega, hKd2⟩
          · rw [List.mem_singleton.1 h1]; exact ⟨by omega, (k7.block Dd1 hDl (fun h => h)).trans HKD1.out⟩
        have ND : Hid ([Dd2, Dd1].Nodup) := by simp [Hid]; omega
        clear K6 ST6 HI6 hKd2 HKD1 hxs k7 hfi
        gi_wp2_with fail
        clear HGL
        generalize pnd fs = P at *
        have hGl : Gs.length = q := HGLx.out
        obtain ⟨i3, hi3, hz0, hz1, hz2⟩ := info_parts info3
        gi_loopw [21, 22, 23, 24] (fun xv kv _ _ wr => ∃ k : Nat, k ≤ q ∧ kv = .int .i64 k ∧ xv = .int .u64 ((sd seed ((k - 2) * P) : Nat) : Int) ∧ Kp (fun _ => False) W7 wr) (fun _ kv _ _ _ => q - (intOf kv).toNat)
        case atStart => exact ⟨0, Nat.zero_le _, rfl, by rw [show (0 - 2) * P = 0 by simp]; rfl, Kp.refl _ _⟩
        case round =>
          obtain ⟨k, hk, rfl, rfl, hkp⟩ := hrel
          have HKP := hid hkp
          clear hkp
          by_cases hlt : k < q
          · have hli : (k : Int) < (q : Int) := by omega
            gi_wp2_with fail
            gi_loopw [21, 23, 24] (fun xv wv iv wi => ∃ i : Nat, i ≤ P ∧ iv = .int .i64 i ∧ xv = .int .u64 ((sd seed ((k - 2) * P + if k < 2 then 0 else i) : Nat) : Int) ∧ wi.ownsRow W7.heap.size 3 1 wv i ((lst i (wy seed P k)).map (Value.int .i64)) ∧ Kp (fun _ => False) W7 wi) (fun _ _ iv _ => P - (intOf iv).toNat)
            case atStart =>
              exact ⟨0, Nat.zero_le _, rfl, by simp, World.ownsRow_nil _ _ _ _, HKP.out⟩
            case round =>
              obtain ⟨i, hi, rfl, rfl, hri, hki⟩ := hrel
              have HRI := hid hri
              have HKI := hid hki
              obtain ⟨va, vc, hva⟩ := ownsRow_shape hri
              clear hri hki
              by_cases hilt : i < P
              · have hili : (i : Int) < (P : Int) := by omega
                subst hva
                by_cases h2 : k < 2
                · have h2i : (k : Int) < 2 := by omega
                  have HWY : Hid (wy seed P k i = (k : Int)) := by show wy _ _ _ _ = _; unfold wy; rw [if_pos h2]
                  gi_wp2_with (first | (gi_at_builtin; refine wpListIn_append_own _ rfl (.tmp 140) (.tmp 142) 40 rfl W7.heap.size 3 i3 _ 1 8 Tryz.underlying40 hi3 hz0 hz1 hz2 rfl (by decide) (.slice va i vc) i ((lst i (wy seed P k)).map (Value.int .i64)) rfl (HRI.out.alloc _) ⟨wr.heap.size, 0, none⟩ 1 1 [.int .i64 (k : Int)] rfl rfl (fun j u hu => by (rw [add_z, (St.new 3 wr _).cell]; simpa using hu)) (by simp [Value.oneCell']) (by unfold maxLen; omega) (by omega) (by have := HKI.out.size; simp; omega) ?_; intro v9 w9 r9 g9 _; have R9 := hid r9; have K9 : Hid (Kp (fun _ => False) W7 w9) := ((HKI.out.alloc _).trans (Kp.of_grown (F := fun j => (Value.slice va i vc).ownBlock = some j) g9 (fun j e => e)) (fun j h1 e => by have := (HRI.out.lt j e).1; omega)); clear r9 g9))
                  refine ⟨⟨i + 1, by omega, by simp, by rw [if_pos h2, Nat.add_zero], ?_, K9.out⟩, by simp only [intOf]; omega⟩
                  rw [lst_next, List.map_append, HWY.out]
                  exact R9.out
                · have h2i : ¬ (k : Int) < 2 := by omega
                  have hlw := lcg_wrap (sd seed ((k - 2) * P + i))
                  have hbw := bit_wrap (lcg (sd seed ((k - 2) * P + i))) (lcg_lt _)
                  have HWY : Hid (wy seed P k i = ((bit (lcg (sd seed ((k - 2) * P + i))) : Nat) : Int)) := by show wy _ _ _ _ = _; unfold wy; rw [if_neg h2]; rfl
                  have HSD : Hid (lcg (sd seed ((k - 2) * P + i)) = sd seed ((k - 2) * P + (i + 1))) := rfl
                  rw [if_neg h2]
                  generalize sd seed ((k - 2) * P + i) = xx at *
                  gi_wp2_with (first | (gi_at_builtin; refine wpListIn_append_own _ rfl (.tmp 147) (.tmp 151) 40 rfl W7.heap.size 3 i3 _ 1 8 Tryz.underlying40 hi3 hz0 hz1 hz2 rfl (by decide) (.slice va i vc) i ((lst i (wy seed P k)).map (Value.int .i64)) rfl (HRI.out.alloc _) ⟨wr.heap.size, 0, none⟩ 1 1 [.int .i64 ((bit (lcg xx) : Nat) : Int)] rfl rfl (fun j u hu => by (rw [add_z, (St.new 3 wr _).cell]; simpa using hu)) (by simp [Value.oneCell']) (by unfold maxLen; omega) (by omega) (by have := HKI.out.size; simp; omega) ?_; intro v9 w9 r9 g9 _; have R9 := hid r9; have K9 : Hid (Kp (fun _ => False) W7 w9) := ((HKI.out.alloc _).trans (Kp.of_grown (F := fun j => (Value.slice va i vc).ownBlock = some j) g9 (fun j e => e)) (fun j h1 e => by have := (HRI.out.lt j e).1; omega)); clear r9 g9))
                  refine ⟨⟨i + 1, by omega, by simp, by rw [if_neg h2, HSD.out], ?_, K9.out⟩, by simp only [intOf]; omega⟩
                  rw [lst_next, List.map_append, HWY.out]
                  exact R9.out
              · obtain rfl : i = P := by omega
                have hili : ¬ (i : Int) < (i : Int) := by omega
                obtain ⟨-, ao2, c2, hv2, hs2⟩ := src_own HRI.out
                subst hv2
                clear hva
                have HS2 := hid hs2
                have hcL : wr.cell? ⟨L, k, none⟩ = some (.slice (some ⟨Gs.getD k 0, 0, none⟩) i i) := by
                  refine kp_cell HKI.out ?_ (fun h => h)
                  rw [HROW7.out.cell k, List.getElem?_toArray]
                  exact wrow_get Gs i q k (by omega)
                have HSW := hid (Rw.src (Rw.kp (κ := .i64) (t := 3) (HWS7.out k hlt) HKI.out (fun h => h)))
                have HNX : Hid (sd seed ((k - 2) * i + if k < 2 then 0 else i) = sd seed ((k + 1 - 2) * i)) := by
                  show _ = _
                  congr 1
                  by_cases h2 : k < 2
                  · rw [if_pos h2, show k - 2 = 0 by omega, show k + 1 - 2 = 0 by omega]; simp
                  · rw [if_neg h2, show k + 1 - 2 = (k - 2) + 1 by omega, Nat.add_mul, Nat.one_mul]
                rw [HNX.out]
                have HNY : Hid (∃ y, y = sd seed ((k + 1 - 2) * i)) := ⟨_, rfl⟩
                obtain ⟨y, hy⟩ := HNY.out
                have HY := hid hy
                rw [← hy]
                generalize Gs.getD k 0 = Gk at *
                clear hs2 hy HNX HNY hi hilt HRI
                gi_wp2_with fail
                refine ⟨trivial, (callsIn_wide.2 (lsame_any (some ⟨Gk, 0, none⟩) ao2 i i i c2 (lst i (wy seed i k)) (lst i (wy seed i k)) wr HSW.out HS2.out (lst_len _ _).symm (lst_len _ _).symm (by omega))).mono ?_⟩
                rintro _ w8 ⟨rfl, k8⟩
                rw [show (decide (lst i (wy seed i k) = lst i (wy seed i k))) = true by simp]
                have K8 := hid (HKI.out.trans k8 (fun _ _ h => h))
                clear k8
                gi_wp2_with fail
                exact ⟨⟨k + 1, hlt, by simp, by rw [HY.out], K8.out⟩, by simp only [intOf]; omega⟩
          · have hli : ¬ (k : Int) < (q : Int) := by omega
            have MRw : Hid (∀ D ∈ [Dd2, Dd1], w.heap.size < D ∧ wr.heap[D]? = some (.deferred (some []))) := fun D hD => ⟨(MR.out D hD).1, (HKP.out.block D (Array.getElem?_eq_some_iff.1 (MR.out D hD).2).1 (fun h => h)).trans (MR.out D hD).2⟩
            gi_wp2_with fail
            refine ⟨trivial, (callsIn_wide.2 (known_any wr)).mono ?_⟩
            rintro _ wz ⟨rfl, kz⟩
            have st := (ST7.out.kp HKP.out (fun h => h)).kp kz (fun h => h)
            have fz := st.frozen 0
            have cz : wz.cell? ⟨w.heap.size, 0, none⟩ = some (.bool false) := st.cell 0
            have HT : Hid (St 4 (wz.setCell ⟨w.heap.size, 0, none⟩ (.bool true)) w.heap.size #[.bool true]) := by show St 4 _ _ _; have := st.set 0 (.bool true); simpa using this
            have kset := kp_setCell wz w.heap.size 0 (.bool true) (fun i => i = w.heap.size) rfl
            have hlz := st.lt
            have KT : Hid (Kp (fun _ => False) w (wz.setCell ⟨w.heap.size, 0, none⟩ (.bool true))) := ((K7.out.trans HKP.out (fun _ _ h => h)).trans kz (fun _ _ h => h)).trans kset (fun i h1 h2 => by omega)
            have MRT : Hid (∀ D ∈ [Dd2, Dd1], (wz.setCell ⟨w.heap.size, 0, none⟩ (.bool true)).heap[D]? = some (.deferred (some []))) := fun D hD => by
              have h1 := MRw.out D hD
              have h2 := (kz.block D (Array.getElem?_eq_some_iff.1 h1.2).1 (fun h => h)).trans h1.2
              exact (kset.block D (Array.getElem?_eq_some_iff.1 h2).1 (by have := h1.1; omega)).trans h2
            clear st kset kz
            gi_wp2_with fail
            refine leaves_marks [Dd2, Dd1] _ MRT.out ND.out (fun w' k => fin4 rfl ?_ ⟨rfl, ?_⟩)
            · exact (HT.out.kp k (fun hm => by have := (MR.out _ hm).1; omega)).cell 0
            · exact (KT.out.mono (G := fun i => i ∈ [Dd2, Dd1]) (fun _ _ h => h.elim)).trans k (fun _ _ h => h) |>.mono (fun i hi hm => by have := (MR.out _ hm).1; omega)
end Go.Proofs.YtlnknkeagonmpaaGreat
