/- Feed, New with fates; Right. -/
import Derived.Test.YtalicohflfildaaFd
namespace Go.Proofs.Ytalicohflfildaa
open Go.RowKit

def okk (ft : List (Int × Int)) : Prop := ∀ f ∈ ft, 0 ≤ f.1 ∧ f.1 ≤ 2
theorem getD_memF (ft : List (Int × Int)) (k : Nat) (h : k < ft.length) : ft.getD k (0, 0) ∈ ft := by
  rw [List.getD_eq_getElem?_getD, List.getElem?_eq_getElem h]
  exact List.getElem_mem h
def IxP (ft : List (Int × Int)) (w : World) (e : Ending) (w' : World) : Prop := ∃ k : Int, e = .returned (.int .i64 k) ∧ (okk ft → k < 0) ∧ Kp (fun _ => False) w w'
def CbP (ft : List (Int × Int)) (w : World) (e : Ending) (w' : World) : Prop := ∃ b : Bool, e = .returned (.bool b) ∧ (okk ft → b = false) ∧ Kp (fun _ => False) w w'
set_option maxRecDepth 100000 in
set_option maxHeartbeats 2000000 in
theorem index58_any (ao : Option Addr) (ft : List (Int × Int)) (n cap : Nat) (w : World) (hn : n = ft.length) (hb : n ≤ 1000000000000) (hS : FSrc w ao ft) :
    Calls Try.prog 68 #[.slice ao n cap, .func (.func 49) #[] #[]] w fun e w' => IxP ft w e w' := by
  have HN : Hid (n = ft.length) := hn
  have HS : Hid (FSrc w ao ft) := hS
  clear hn hS
  go_enter Try.func68, Try.ntmps68
  go_wp2_with fail
  go_loopw [5, 8] (fun _ i wr => ∃ k : Nat, k ≤ n ∧ i = .int .i64 k ∧ Kp (fun _ => False) w wr) (fun _ i _ => n - (intOf i).toNat)
  case atStart => exact ⟨0, Nat.zero_le _, rfl, Kp.refl _ _⟩
  case round =>
    obtain ⟨k, hk, rfl, hkp⟩ := hrel
    have KP : Hid (Kp (fun _ => False) w wr) := hkp
    clear hkp
    by_cases hlt : k < n
    · have hlt2 : k < ft.length := by have := HN.out; omega
      obtain ⟨b, off, hao, hb, y0, y1⟩ := (HS.out.kp KP.out (fun _ _ _ _ h => h)).at hlt2
      have hmem := getD_memF ft k hlt2
      obtain ⟨⟨k0, n0⟩, hf⟩ : ∃ f, f = ft.getD k (0, 0) := ⟨_, rfl⟩
      rw [← hf] at y0 y1 hmem
      have HMEM : Hid ((k0, n0) ∈ ft) := hmem
      clear hf hmem
      subst hao
      dsimp only at y0 y1
      by_cases hbad : k0 < 0 ∨ 2 < k0
      · have hd : decide (k0 < 0 ∨ 2 < k0) = true := by simpa using hbad
        go_wp2_with (first | (go_at_call 49; refine (ofNoKind_any k0 n0 wr).mono ?_; rintro e w' ⟨rfl, hb'⟩; rw [hd]; have K2 : Hid (Kp (fun _ => False) wr w') := Kp.of_below hb'; clear hb'))
        go_ret
        exact ⟨(k : Int), rfl, fun h => (by have := h _ HMEM.out; dsimp only at this; omega), KP.out.trans K2.out (fun _ _ h => h)⟩
      · have hd : decide (k0 < 0 ∨ 2 < k0) = false := by simpa using hbad
        go_wp2_with (first | (go_at_call 49; refine (ofNoKind_any k0 n0 wr).mono ?_; rintro e w' ⟨rfl, hb'⟩; rw [hd]; have K2 : Hid (Kp (fun _ => False) wr w') := Kp.of_below hb'; clear hb'))
        exact ⟨⟨k + 1, hlt, rfl, KP.out.trans K2.out (fun _ _ h => h)⟩, by simp only [intOf]; omega⟩
    · have hnl : ¬ (k : Int) < (n : Int) := by omega
      go_wp2
      go_ret
      exact ⟨-1, rfl, fun _ => by omega, KP.out⟩
set_option maxRecDepth 100000 in
set_option maxHeartbeats 1000000 in
theorem contains58_any (ao : Option Addr) (ft : List (Int × Int)) (n cap : Nat) (w : World) (hn : n = ft.length) (hb : n ≤ 1000000000000) (hS : FSrc w ao ft) :
    Calls Try.prog 48 #[.slice ao n cap, .func (.func 49) #[] #[]] w fun e w' => CbP ft w e w' := by
  have HI : Hid (Calls Try.prog 68 #[.slice ao n cap, .func (.func 49) #[] #[]] w fun e w' => IxP ft w e w') := index58_any ao ft n cap w hn hb hS
  clear hn hS
  go_enter Try.func48, Try.ntmps48
  go_wp2_with (first | (go_at_call 68; refine HI.out.mono ?_; rintro e w' ⟨k, rfl, hk, k2⟩; have HK : Hid (okk ft → k < 0) := hk; have K2 : Hid (Kp (fun _ => False) w w') := k2; clear hk k2))
  go_ret
  refine ⟨_, rfl, fun h => ?_, K2.out⟩
  have := HK.out h
  simpa using this
/-- The fates are others. -/
theorem Sr.fed {D : Nat → Prop} {w W : World} {g fm : Nat} {fv fv' : Value} {steps : Nat} {fs : List Fe} {ft ft' : List (Int × Int)} {es : List (ByteArray × Value × Nat)} {c : Nat} (h : Sr D w g fm fv steps fs ft es c) (hst : St 54 W g #[.map (some fm), fv', .int .i64 steps]) (hf : Fv W fv' ft') (ho : fv'.ownBlock = fv.ownBlock ∨ fv'.ownBlock = some w.heap.size) (k : Kp (fun i => i = g ∨ fv.ownBlock = some i) w W) : Sr D W g fm fv' steps fs ft' es c ∧ Wk D w (ownS g fm fv fs) W D (ownS g fm fv' fs) := by
  have hnd := h.nd
  have hfm : ¬ (fm = g ∨ fv.ownBlock = some fm) := by
    rintro (e | e)
    · unfold ownS at hnd
      exact (List.nodup_cons.1 hnd).1 (by simp [e])
    · unfold ownS at hnd
      exact (List.nodup_cons.1 (List.nodup_cons.1 hnd).2).1 (by simp [e])
  have hfs : ∀ f ∈ fs, ∀ i, i ∈ f.2.1.own → ¬ (i = g ∨ fv.ownBlock = some i) := by
    intro f hf i hi
    have hm : i ∈ ownF fs := by unfold ownF; exact List.mem_flatMap.2 ⟨f, hf, hi⟩
    unfold ownS at hnd
    rintro (e | e)
    · exact (List.nodup_cons.1 hnd).1 (by rw [← e]; simp [hm])
    · have h2 := (List.nodup_cons.1 (List.nodup_cons.1 hnd).2).2
      rw [e, List.nodup_append] at h2
      exact h2.2.2 i (by simp) i hm rfl
  have hD : ∀ i, D i → ¬ (i = g ∨ fv.ownBlock = some i) := by
    intro i hi
    have := h.dn i hi
    rintro (e | e)
    · exact this (mem_ownS.2 (.inl e))
    · exact this (mem_ownS.2 (.inr (.inr (.inl e))))
  refine ⟨⟨hst, kp_mp h.mp k hfm, h.ef, fun f hf => (h.fr f hf).kp k (hfs f hf) hD, h.nm, hf, ?_, fun i hi hm => ?_, fun i hi => Nat.lt_of_lt_of_le (h.db i hi) k.size, h.sb, h.nf⟩, k.mono (fun i _ hi => ?_), fun i hi => ?_, fun _ h => h, fun _ h => .inl h⟩
  · rcases ho with e | e
    · unfold ownS; rw [e]; exact hnd
    · unfold ownS at hnd ⊢
      have hlt := h.lt
      have h1 : g ≠ w.heap.size := by have := hlt g (mem_ownS.2 (.inl rfl)); omega
      have h2 : fm ≠ w.heap.size := by have := hlt fm (mem_ownS.2 (.inr (.inl rfl))); omega
      have h3 : w.heap.size ∉ ownF fs := by
        intro hm
        obtain ⟨f, hf, hi⟩ := List.mem_flatMap.1 hm
        have := hlt _ (mem_ownS.2 (.inr (.inr (.inr ⟨f, hf, hi⟩))))
        omega
      rw [e]
      have n1 := List.nodup_cons.1 hnd
      have n2 := List.nodup_cons.1 n1.2
      have n3 := (List.nodup_append.1 n2.2).2.1
      refine List.nodup_cons.2 ⟨?_, List.nodup_cons.2 ⟨?_, ?_⟩⟩
      · intro hm
        simp only [Option.toList_some, List.mem_cons, List.mem_append, List.not_mem_nil, or_false] at hm
        rcases hm with hm | hm | hm
        · exact n1.1 (by simp [hm])
        · exact h1 hm
        · exact n1.1 (by simp [hm])
      · intro hm
        simp only [Option.toList_some, List.mem_cons, List.mem_append, List.not_mem_nil, or_false] at hm
        rcases hm with hm | hm
        · exact h2 hm
        · exact n2.1 (by simp [hm])
      · simp only [Option.toList_some, List.cons_append, List.nil_append]
        exact List.nodup_cons.2 ⟨h3, n3⟩
  · rcases mem_ownS.1 hm with h1 | h1 | h1 | h1
    · exact h.dn i hi (mem_ownS.2 (.inl h1))
    · exact h.dn i hi (mem_ownS.2 (.inr (.inl h1)))
    · rcases ho with e | e
      · exact h.dn i hi (mem_ownS.2 (.inr (.inr (.inl (e ▸ h1)))))
      · rw [e] at h1
        have := h.db i hi
        cases h1
        omega
    · exact h.dn i hi (mem_ownS.2 (.inr (.inr (.inr h1))))
  · rcases hi with e | e
    · exact mem_ownS.2 (.inl e)
    · exact mem_ownS.2 (.inr (.inr (.inl e)))
  · rcases mem_ownS.1 hi with h1 | h1 | h1 | h1
    · exact .inl (mem_ownS.2 (.inl h1))
    · exact .inl (mem_ownS.2 (.inr (.inl h1)))
    · rcases ho with e | e
      · exact .inl (mem_ownS.2 (.inr (.inr (.inl (e ▸ h1)))))
      · rw [e] at h1
        cases h1
        exact .inr (Nat.le_refl _)
    · exact .inl (mem_ownS.2 (.inr (.inr (.inr h1))))
theorem wpList_append_run {P : Program} {w w' : World} {ops : Array Oper} {rest : List Oper} {o : Oper} {a : Act} {Q : Exit → Act → World → Prop} (hgd : o.guard = none) (s x : Operand) (t : TypeId)
    (ho : o.op = .call { callee := .builtin .append, args := #[s, x], argTypes := #[t, t] }) (v u v' : Value) (hs : a.eval s = v) (hx : a.eval x = u) (hrun : (Builtin.append_ #[t, t] o.type #[v, u]).run P w = .ok v' w')
    (h : wpList P ops Q rest (a.put o.dst v') w') : wpList P ops Q (o :: rest) a w := by
  refine wpList_plain hgd fun K hK => ?_
  unfold Oper.wp execOp
  simp only [ho, resolve, invoke, builtin, Sem.run_bind, Sem.run_pure, Result.andThen_ok, List.map_toArray, List.map_cons, List.map_nil, hs, hx, hrun]
  exact hK _ _ h
/-- What Feed does. -/
def FeP (D : Nat → Prop) (w : World) (g fm : Nat) (fv : Value) (steps : Nat) (fs : List Fe) (ft : List (Int × Int)) (es : List (ByteArray × Value × Nat)) (c : Nat) (fts : List (Int × Int)) (e : Ending) (w' : World) : Prop :=
  (e = .returned (.int .i64 2) ∧ ¬ okk fts ∧ Kp (fun _ => False) w w') ∨ (e = .returned (.int .i64 0) ∧ ∃ fv', Sr D w' g fm fv' steps fs (ft ++ fts) es c ∧ Wk D w (ownS g fm fv fs) w' D (ownS g fm fv' fs))
set_option maxRecDepth 100000 in
set_option maxHeartbeats 2000000 in
theorem feed_any (D : Nat → Prop) (w : World) (g fm : Nat) (fv : Value) (steps : Nat) (fs : List Fe) (ft : List (Int × Int)) (es : List (ByteArray × Value × Nat)) (c : Nat) (h : Sr D w g fm fv steps fs ft es c) (ao : Option Addr) (m cap : Nat) (fts : List (Int × Int)) (hm : m = fts.length) (hno : ao = none → m = 0 ∧ cap = 0) (hS : FSrc w ao fts) (hb : ft.length + m ≤ 1000000) :
    Calls Try.prog 24 #[.pointer (some ⟨g, 0, none⟩), .slice ao m cap] w fun e w' => FeP D w g fm fv steps fs ft es c fts e w' := by
  have c0 : w.cell? ⟨g, 0, none⟩ = some (.map (some fm)) := h.st.cell 0
  have HS : Hid (Sr D w g fm fv steps fs ft es c) := h
  have HM : Hid (m = fts.length) := hm
  have HNO : Hid (ao = none → m = 0 ∧ cap = 0) := hno
  have HF : Hid (FSrc w ao fts) := hS
  clear h hm hno hS
  go_enter Try.func24, Try.ntmps24
  go_wp2_with (first | (go_at_call 25; refine (none_live _ _ _ c0).mono ?_; rintro e w' ⟨rfl, h⟩; replace h := h.symm; subst h))
  refine (contains58_any ao fts m cap w HM.out (by omega) HF.out).mono ?_
  rintro e w1 ⟨b, rfl, hok, k1⟩
  have K1 : Hid (Kp (fun _ => False) w w1) := k1
  clear k1
  cases b with
  | true =>
    have HX : Hid (¬ okk fts) := fun h => by have := hok h; cases this
    clear hok
    go_wp2_with fail
    go_ret
    exact .inl ⟨rfl, HX.out, K1.out⟩
  | false =>
    clear hok
    have hs1 := HS.out.kp K1.out (fun _ _ h => h) (fun _ _ h => h)
    have d1 : w1.cell? ⟨g, 1, none⟩ = some fv := hs1.st.cell 1
    obtain ⟨fa, fc, hfv⟩ := hs1.fa.shape
    obtain ⟨v', w2, hrun, hfv2, k2, ho2⟩ := fv_append w1 fv ft hs1.fa ao m cap fts HM.out HNO.out (HF.out.kp K1.out (fun _ _ _ _ h => h)) hb 22
    obtain ⟨va, vc, hv'⟩ := hfv2.shape
    subst hv'
    have hgn : fv.ownBlock ≠ some g := hs1.fvg
    have st2 : St 54 w2 g #[.map (some fm), fv, .int .i64 steps] := hs1.st.kp k2 (fun e => hgn e)
    have f1 := st2.frozen 1
    have e1 : w2.cell? ⟨g, 1, none⟩ = some fv := st2.cell 1
    have e0 : w2.cell? ⟨g, 0, none⟩ = some (.map (some fm)) := st2.cell 0
    have HR : Hid (Sr D (w2.setCell ⟨g, 1, none⟩ (.slice va (ft ++ fts).length vc)) g fm (.slice va (ft ++ fts).length vc) steps fs (ft ++ fts) es c ∧ Wk D w1 (ownS g fm fv fs) (w2.setCell ⟨g, 1, none⟩ (.slice va (ft ++ fts).length vc)) D (ownS g fm (.slice va (ft ++ fts).length vc) fs)) := by
      have hlt := hs1.lt g (mem_ownS.2 (.inl rfl))
      have kk : Kp (fun i => i = g ∨ fv.ownBlock = some i) w1 (w2.setCell ⟨g, 1, none⟩ (.slice va (ft ++ fts).length vc)) := (k2.mono (fun i _ h => .inr h)).trans (kp_setCell w2 g 1 (.slice va (ft ++ fts).length vc) (fun i => i = g) rfl) (fun i _ h => .inl h)
      refine hs1.fed ?_ (hfv2.kp (kp_setCell w2 g 1 (.slice va (ft ++ fts).length vc) (fun i => i = g) rfl) (fun b hb e => ?_)) ho2 kk
      · have := st2.set 1 (.slice va (ft ++ fts).length vc)
        simpa using this
      · subst e
        rcases ho2 with h | h
        · exact hgn (h ▸ hb)
        · rw [h] at hb; cases hb; omega
    have HWK : Hid (Wk D w (ownS g fm fv fs) w1 D (ownS g fm fv fs)) := (Wk.refl _ _ _).kp K1.out
    subst hfv
    have HRUN : Hid ((Builtin.append_ #[22, 22] 22 #[.slice fa ft.length fc, .slice ao m cap]).run Try.prog w1 = .ok (.slice va (ft ++ fts).length vc) w2) := hrun
    clear hrun hs1 hfv2 k2 ho2 hgn st2
    go_wp2_with (first | (at_builtin; refine wpList_append_run rfl (.tmp 13) (.tmp 14) 22 rfl (.slice fa ft.length fc) (.slice ao m cap) (.slice va (ft ++ fts).length vc) rfl rfl HRUN.out ?_))
    go_ret
    have hr := HR.out
    rw [List.length_append] at hr
    exact .inr ⟨rfl, _, hr.1, HWK.out.trans hr.2⟩
set_option maxRecDepth 100000 in
set_option maxHeartbeats 1000000 in
theorem new_any (w : World) (ao : Option Addr) (m cap : Nat) (fts : List (Int × Int)) (hm : m = fts.length) (hno : ao = none → m = 0 ∧ cap = 0) (hS : FSrc w ao fts) (hb : m ≤ 1000000) (hok : okk fts) :
    Calls Try.prog 18 #[.slice ao m cap] w fun e w' => e = .returned (.tuple #[.pointer (some ⟨w.heap.size + 1, 0, none⟩), .int .i64 0]) ∧ ∃ fv, Sr (fun i => i < w.heap.size) w' (w.heap.size + 1) w.heap.size fv 0 [] fts [] 0 ∧ (∀ i, i ∈ ownS (w.heap.size + 1) w.heap.size fv [] → w.heap.size ≤ i) ∧ Kp (fun _ => False) w w' := by
  have hmm := @run_makeMap Try.prog
  have st := St.new 54 (w.alloc (.map #[] 0)) #[.map (some w.heap.size), .slice none 0 0, .int .i64 0]
  have m1 : Mp Value.string ((w.alloc (.map #[] 0)).alloc (.cells #[.map (some w.heap.size), .slice none 0 0, .int .i64 0] 54)) w.heap.size [] 0 := kp_mp (F := fun _ => False) (Mp.new Value.string w) ((Kp.refl _ _).alloc _) (fun h => h)
  have k1 : Kp (fun _ => False) w ((w.alloc (.map #[] 0)).alloc (.cells #[.map (some w.heap.size), .slice none 0 0, .int .i64 0] 54)) := ((Kp.refl _ _).alloc _).alloc _
  rw [World.size_alloc] at st
  have h : Hid (Sr (fun i => i < w.heap.size) ((w.alloc (.map #[] 0)).alloc (.cells #[.map (some w.heap.size), .slice none 0 0, .int .i64 0] 54)) (w.heap.size + 1) w.heap.size (.slice none 0 0) 0 [] [] [] 0) := sr_new _ st m1 (by omega) (fun i hi => Nat.lt_of_lt_of_le hi k1.size) (fun i hi => ⟨by omega, by omega⟩)
  have HK : Hid (Kp (fun _ => False) w ((w.alloc (.map #[] 0)).alloc (.cells #[.map (some w.heap.size), .slice none 0 0, .int .i64 0] 54))) := k1
  have HM : Hid (m = fts.length) := hm
  have HNO : Hid (ao = none → m = 0 ∧ cap = 0) := hno
  have HF : Hid (FSrc w ao fts) := hS
  have HO : Hid (okk fts) := hok
  clear st m1 k1 hm hno hS hok
  go_enter Try.func18, Try.ntmps18
  go_wp2_with fail
  clear hmm
  generalize (w.alloc (.map #[] 0)).alloc (.cells #[.map (some w.heap.size), .slice none 0 0, .int .i64 0] 54) = W at h HK ⊢
  refine (feed_any _ W (w.heap.size + 1) w.heap.size (.slice none 0 0) 0 [] [] [] 0 h.out ao m cap fts HM.out HNO.out (HF.out.kp HK.out (fun _ _ _ _ h => h)) (by simp; omega)).mono ?_
  rintro e w2 (⟨-, h2, -⟩ | ⟨rfl, fv', hs2, hwk⟩)
  · exact absurd HO.out h2
  · have HS2 : Hid (Sr (fun i => i < w.heap.size) w2 (w.heap.size + 1) w.heap.size fv' 0 [] fts [] 0) := hs2
    have HWK : Hid (Wk (fun i => i < w.heap.size) W (ownS (w.heap.size + 1) w.heap.size (.slice none 0 0) []) w2 (fun i => i < w.heap.size) (ownS (w.heap.size + 1) w.heap.size fv' [])) := hwk
    clear hs2 hwk
    have HO2 : Hid (∀ i, i ∈ ownS (w.heap.size + 1) w.heap.size (.slice none 0 0) [] → w.heap.size ≤ i) := by
      intro i hi
      rcases mem_ownS.1 hi with h1 | h1 | h1 | ⟨f, hf, _⟩
      · omega
      · omega
      · cases h1
      · cases hf
    go_wp2
    go_ret2
    refine ⟨rfl, fv', HS2.out, fun i hi => ?_, ?_⟩
    · rcases HWK.out.o i hi with h1 | h1
      · exact HO2.out i h1
      · exact Nat.le_trans HK.out.size h1
    · exact ((HK.out.mono (G := fun i => i ∈ ownS (w.heap.size + 1) w.heap.size (.slice none 0 0) []) (fun _ _ h => h.elim)).trans HWK.out.k (fun _ _ h => h)).mono (fun i hi h => by have := HO2.out i h; omega)
/-- What Right tells. -/
def RtP (ft : List (Int × Int)) (w : World) (e : Ending) (w' : World) : Prop := ∃ b : Bool, e = .returned (.bool b) ∧ (b = true → okk ft) ∧ w' = w
set_option maxRecDepth 100000 in
set_option maxHeartbeats 2000000 in
theorem right_any (ao : Option Addr) (ft : List (Int × Int)) (n cap : Nat) (w : World) (hn : n = ft.length) (hb : n ≤ 1000000000000) (hS : FSrc w ao ft) :
    Calls Try.prog 7 #[.slice ao n cap] w fun e w' => RtP ft w e w' := by
  have HN : Hid (n = ft.length) := hn
  have HS : Hid (FSrc w ao ft) := hS
  clear hn hS
  go_enter Try.func7, Try.ntmps7
  go_wp2_with fail
  go_loop [3] (fun i => ∃ k : Nat, k ≤ n ∧ i = .int .i64 k ∧ ∀ f ∈ ft.take k, 0 ≤ f.1 ∧ f.1 ≤ 2) (fun i => n - (intOf i).toNat)
  case atStart => exact ⟨0, Nat.zero_le _, rfl, fun f hf => (by simp at hf)⟩
  case round =>
    obtain ⟨k, hk, rfl, hj⟩ := hrel
    have HJ : Hid (∀ f ∈ ft.take k, 0 ≤ f.1 ∧ f.1 ≤ 2) := hj
    clear hj
    by_cases hlt : k < n
    · have hlt2 : k < ft.length := by have := HN.out; omega
      obtain ⟨b, off, hao, hb, y0, y1⟩ := HS.out.at hlt2
      obtain ⟨⟨k0, n0⟩, hf⟩ : ∃ f, f = ft.getD k (0, 0) := ⟨_, rfl⟩
      have HTK : Hid (ft.take (k + 1) = ft.take k ++ [(k0, n0)]) := by
        rw [hf]
        show _ = _
        rw [List.take_add_one, List.getElem?_eq_getElem hlt2, List.getD_eq_getElem?_getD, List.getElem?_eq_getElem hlt2]
        rfl
      rw [← hf] at y0 y1
      clear hf
      subst hao
      dsimp only at y0 y1
      by_cases h0 : k0 < 0
      · go_wp2
        go_ret
        exact ⟨false, rfl, (fun h => by cases h), rfl⟩
      · by_cases h2 : 2 < k0
        · go_wp2
          go_ret
          exact ⟨false, rfl, (fun h => by cases h), rfl⟩
        · have HX : Hid (∀ f ∈ ft.take (k + 1), 0 ≤ f.1 ∧ f.1 ≤ 2) := by
            intro f hf
            rw [HTK.out] at hf
            rcases List.mem_append.1 hf with h | h
            · exact HJ.out f h
            · rw [List.mem_singleton.1 h]; exact ⟨by dsimp only; omega, by dsimp only; omega⟩
          clear HTK HJ
          go_wp2
          exact ⟨⟨k + 1, hlt, rfl, HX.out⟩, by simp only [intOf]; omega⟩
    · have hnl : ¬ (k : Int) < (n : Int) := by omega
      have HX : Hid (okk ft) := by
        have := HJ.out
        rw [List.take_of_length_le (by have := HN.out; omega)] at this
        exact this
      clear HJ
      go_wp2
      go_ret
      exact ⟨true, rfl, fun _ => HX.out, rfl⟩
end Go.Proofs.Ytalicohflfildaa
