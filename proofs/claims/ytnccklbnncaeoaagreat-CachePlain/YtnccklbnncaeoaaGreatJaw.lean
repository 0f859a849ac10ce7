import Derived.Test.YtnccklbnncaeoaaGreatJam
import Derived.Test.YtnccklbnncaeoaaGreatJan
import Derived.Laws.AppendOwnNone
/- A file is made. -/
namespace Go.Proofs.YtnccklbnncaeoaaGreat
open Go.RowKit

/-- A store into a map, as one step of a region that draws its order. -/
theorem step_update_mp {κ : Type} [DecidableEq κ] {P : Program} {K E T : TypeId} {d : TypeDesc} {mk : κ → Value} {ops : Array Oper} {o : Oper} {a : Act} {w : World} {C : Act → World → Prop} {Q : Exit → Act → World → Prop} {X : Prop} (hgd : o.guard = none) (m x u : Operand) (ho : o.op = Op.mapUpdate T m x u) (ky : Ky P K d mk) (ht : P.underlying T = some (.map K E)) (b c : Nat) (es : List (κ × Value × Nat))
    (hm : a.eval m = .map (some b)) (h : Mp mk w b es c) (k : κ) (hx : a.eval x = mk k) (v : Value) (hv : a.eval u = v) (hK : ∀ w', Mp mk w' b (mput es k v c) (mclk es k c) → w.grownBy w' (some b) → C (a.put o.dst undef) w') :
    if Region.wanted o (yielded ops a.tmps) = true then Oper.wp P o a w C Q else X := by
  have hw : Region.wanted o (yielded ops a.tmps) = true := by simp [Region.wanted, hgd]
  rw [if_pos hw]
  have hrun := run_update_mp ky ht h k v
  obtain ⟨r1, r2⟩ := mp_set h (h.2.put k v)
  unfold Oper.wp
  simp [execOp, ho, hm, hx, hv, hrun]
  exact hK _ r1 r2
/-- The error of a fate. -/
def ferr (k : Int) : Int := if k = 1 then 5 else if k = 2 then 6 else 0
theorem came_f (k n : Int) (w : World) : Calls Tryz.prog 90 #[.agg #[.int .i64 k, .int .i64 n]] w fun e w' => e = .returned (.int .i64 (ferr k)) ∧ Below w.heap.size w w' := came_any k n w
section
variable {D : Nat → Prop} {w : World} {g fm : Nat} {fv : Value} {steps : Nat} {fs : List Fe} {ft : List (Int × Int)} {es : List (ByteArray × Value × Nat)} {c : Nat}
/-- Only the step has been counted. -/
theorem Sr.stepped {W : World} {fv' : Value} (h : Sr D w g fm fv steps fs ft es c) (hs : St 158 W g #[.map (some fm), fv', .int .i64 ((steps + 1 : Nat) : Int)]) (hf : Fv W fv' ft.tail) (ho : fv'.ownBlock = fv.ownBlock) (k : Kp (fun i => i = g) w W) (hb : steps < 1000000000) : Sr D W g fm fv' (steps + 1) fs ft.tail es c := by
  have hnd := h.nd
  have e : ownS g fm fv' fs = ownS g fm fv fs := by unfold ownS; rw [ho]
  have hg : ∀ i, i ∈ fm :: (fv.ownBlock.toList ++ ownF fs) → ¬ i = g := by
    intro i hi e
    subst e
    unfold ownS at hnd
    exact (List.nodup_cons.1 hnd).1 hi
  refine ⟨hs, kp_mp h.mp k (hg fm (by simp)), h.ef, fun f hf' => (h.fr f hf').kp k (fun i hi => hg i ?_) (fun i hi e => h.dn i hi (mem_ownS.2 (.inl e))), h.nm, hf, by rw [e]; exact h.nd, by rw [e]; exact h.dn, fun i hi => Nat.lt_of_lt_of_le (h.db i hi) k.size, by omega, h.nf⟩
  exact List.mem_cons_of_mem _ (List.mem_append_right _ (List.mem_flatMap.2 ⟨f, hf', hi⟩))
theorem Sr.fvg (h : Sr D w g fm fv steps fs ft es c) : fv.ownBlock ≠ some g := by
  intro e
  have hnd := h.nd
  unfold ownS at hnd
  exact (List.nodup_cons.1 hnd).1 (by rw [e]; simp)
end
set_option maxRecDepth 100000 in
set_option maxHeartbeats 1000000 in
theorem create_bad (s : ByteArray) (v : Value) (e0 : Int) (w : World) (hf : Calls Tryz.prog 87 #[v, .string s] w fun e w' => e = .returned (.int .i64 e0) ∧ w' = w) (he : e0 ≠ 0) :
    Calls Tryz.prog 40 #[v, .string s] w fun e w' => e = .returned (.int .i64 e0) ∧ w' = w := by
  have HF : Hid (Calls Tryz.prog 87 #[v, .string s] w fun e w' => e = .returned (.int .i64 e0) ∧ w' = w) := hf
  have hb : (e0 != 0) = true := by simpa using he
  clear hf
  go_enter Tryz.func40, Tryz.ntmps40
  go_wp2_with (first | (go_at_call 87; refine HF.out.mono ?_; rintro e w' ⟨rfl, rfl⟩))
  go_ret
  exact ⟨rfl, rfl⟩
set_option maxRecDepth 100000 in
set_option maxHeartbeats 1000000 in
theorem create_there (D : Nat → Prop) (w : World) (g fm : Nat) (fv : Value) (steps : Nat) (fs : List Fe) (ft : List (Int × Int)) (es : List (ByteArray × Value × Nat)) (c : Nat) (h : Sr D w g fm fv steps fs ft es c) (s : ByteArray) (hn : nmd s = true) (f : Fe) (hq : fget fs s = some f) :
    Calls Tryz.prog 40 #[.pointer (some ⟨g, 0, none⟩), .string s] w fun e w' => e = .returned (.int .i64 8) ∧ w' = w := by
  have HA : Hid (Calls Tryz.prog 87 #[.pointer (some ⟨g, 0, none⟩), .string s] w fun e w' => e = .returned (.int .i64 (if nmd s then 0 else 2)) ∧ w' = w) := allowed_live s g fm w h.c0 (by have := (nmd_ne hn).2.1; unfold maxLen; omega)
  have HN : Hid (nmd s = true) := hn
  have HM : Hid (Mp Value.string w fm es c) := h.mp
  have HQ : Hid ((mget es s).getD (.pointer none) = .pointer (some ⟨f.2.1.fb, 0, none⟩)) := by show _ = _; rw [mget_fs h.ef, hq]; rfl
  have c0 := h.c0
  clear hn h hq
  go_enter Tryz.func40, Tryz.ntmps40
  go_wp2_with (first | (go_at_call 87; refine HA.out.mono ?_; rintro e w' ⟨rfl, rfl⟩; rw [HN.out]) | (at_lookup; refine wpList_lookup_mp rfl _ _ rfl ky9 Tryz.underlying156 (.pointer none) (Tryz.zeroValue159 _) fm c es rfl HM.out s rfl (.pointer (some ⟨f.2.1.fb, 0, none⟩)) HQ.out ?_))
  go_ret
  exact ⟨rfl, rfl⟩
set_option maxRecDepth 100000 in
set_option maxHeartbeats 1000000 in
theorem create_full (D : Nat → Prop) (w : World) (g fm : Nat) (fv : Value) (steps : Nat) (fs : List Fe) (ft : List (Int × Int)) (es : List (ByteArray × Value × Nat)) (c : Nat) (h : Sr D w g fm fv steps fs ft es c) (s : ByteArray) (hn : nmd s = true) (hq : fget fs s = none) (hl : fs.length = 256) :
    Calls Tryz.prog 40 #[.pointer (some ⟨g, 0, none⟩), .string s] w fun e w' => e = .returned (.int .i64 6) ∧ w' = w := by
  have HA : Hid (Calls Tryz.prog 87 #[.pointer (some ⟨g, 0, none⟩), .string s] w fun e w' => e = .returned (.int .i64 (if nmd s then 0 else 2)) ∧ w' = w) := allowed_live s g fm w h.c0 (by have := (nmd_ne hn).2.1; unfold maxLen; omega)
  have HN : Hid (nmd s = true) := hn
  have HM : Hid (Mp Value.string w fm es c) := h.mp
  have HQ : Hid ((mget es s).getD (.pointer none) = .pointer none) := by show _ = _; rw [mget_fs h.ef, hq]; rfl
  have hle : es.length = 256 := by have := congrArg List.length h.ef; simp at this; omega
  have hll : (es.length : Int) = 256 := by omega
  have c0 := h.c0
  clear hn h hq hle
  go_enter Tryz.func40, Tryz.ntmps40
  go_wp2_with (first | (go_at_call 87; refine HA.out.mono ?_; rintro e w' ⟨rfl, rfl⟩; rw [HN.out]) | (at_lookup; refine wpList_lookup_mp rfl _ _ rfl ky9 Tryz.underlying156 (.pointer none) (Tryz.zeroValue159 _) fm c es rfl HM.out s rfl (.pointer none) HQ.out ?_) | (at_len; refine wpList_len_mp rfl _ rfl Tryz.underlying156 fm c es rfl HM.out ?_; rw [hll]))
  go_ret
  exact ⟨rfl, rfl⟩
set_option maxRecDepth 100000 in
set_option maxHeartbeats 1000000 in
theorem create_step (D : Nat → Prop) (w : World) (g fm : Nat) (fv : Value) (steps : Nat) (fs : List Fe) (ft : List (Int × Int)) (es : List (ByteArray × Value × Nat)) (c : Nat) (h : Sr D w g fm fv steps fs ft es c) (s : ByteArray) (hn : nmd s = true) (hq : fget fs s = none) (hl : fs.length < 256) (hsb : steps < 1000000000) (k0 n0 : Int) (hk : ft.headD (0, 0) = (k0, n0)) (hk0 : k0 ≠ 0) :
    Calls Tryz.prog 40 #[.pointer (some ⟨g, 0, none⟩), .string s] w fun e w' => e = .returned (.int .i64 (ferr k0)) ∧ ∃ fv', Sr D w' g fm fv' (steps + 1) fs ft.tail es c ∧ fv'.ownBlock = fv.ownBlock ∧ Kp (fun i => i = g) w w' := by
  have HA : Hid (Calls Tryz.prog 87 #[.pointer (some ⟨g, 0, none⟩), .string s] w fun e w' => e = .returned (.int .i64 (if nmd s then 0 else 2)) ∧ w' = w) := allowed_live s g fm w h.c0 (by have := (nmd_ne hn).2.1; unfold maxLen; omega)
  have HN : Hid (nmd s = true) := hn
  have HM : Hid (Mp Value.string w fm es c) := h.mp
  have HQ : Hid ((mget es s).getD (.pointer none) = .pointer none) := by show _ = _; rw [mget_fs h.ef, hq]; rfl
  have hle : es.length < 256 := by have := congrArg List.length h.ef; simp at this; omega
  have c0 := h.c0
  have HS : Hid (Sr D w g fm fv steps fs ft es c) := h
  have HK : Hid (ft.headD (0, 0) = (k0, n0)) := hk
  have hkb : (k0 == 0) = false := beq_eq_false_iff_ne.2 hk0
  have HSB : Hid (steps < 1000000000) := hsb
  have HSP := h.sb
  clear hn h hq hk hk0
  go_enter Tryz.func40, Tryz.ntmps40
  go_wp2_with (first | (go_at_call 87; refine HA.out.mono ?_; rintro e w' ⟨rfl, rfl⟩; rw [HN.out]) | (at_lookup; refine wpList_lookup_mp rfl _ _ rfl ky9 Tryz.underlying156 (.pointer none) (Tryz.zeroValue159 _) fm c es rfl HM.out s rfl (.pointer none) HQ.out ?_) | (at_len; refine wpList_len_mp rfl _ rfl Tryz.underlying156 fm c es rfl HM.out ?_) | (go_at_call 88; refine (step_any g _ fv steps ft _ HS.out.st (by omega) HS.out.fa HS.out.fvg).mono ?_; rintro e w1 ⟨rfl, fv1, s1, f1, o1, k1⟩; rw [HK.out]) | (go_at_call 90; refine (came_f k0 n0 _).mono ?_; rintro e w2 ⟨rfl, b2⟩))
  go_ret
  have kk : Kp (fun _ => False) w1 w2 := ((Kp.refl _ _).alloc _).trans (Kp.of_below b2) (fun _ _ h => h)
  exact ⟨rfl, fv1, (HS.out.stepped s1 f1 o1 k1 HSB.out).kp kk (fun _ _ h => h) (fun _ _ h => h), o1, k1.trans kk (fun _ _ h => h.elim)⟩
/-- A file is there now. -/
theorem Sr.made {D : Nat → Prop} {w W : World} {g fm : Nat} {fv : Value} {steps : Nat} {fs : List Fe} {ft : List (Int × Int)} {es : List (ByteArray × Value × Nat)} {c : Nat} {s : ByteArray} {a : Fa} (h : Sr D w g fm fv steps fs ft es c) (hq : fget fs s = none) (hl : fs.length < 256) (hn : nmd s = true)
    (hm : Mp Value.string W fm (mput es s (.pointer (some ⟨a.fb, 0, none⟩)) c) (mclk es s c)) (k : Kp (fun i => i = fm) w W) (hf : Fr D W a 0 zero []) (hnew : ∀ i, i ∈ a.own → w.heap.size ≤ i) : Sr D W g fm fv steps (fs ++ [(s, a, ⟨0, zero, []⟩)]) ft (mput es s (.pointer (some ⟨a.fb, 0, none⟩)) c) (mclk es s c) := by
  have hlt := h.lt
  have hnd := h.nd
  have hnfm : ∀ i, i ∈ ownS g fm fv fs → i = fm → i = fm := fun _ _ e => e
  have hap : ∀ i, (i = g ∨ fv.ownBlock = some i ∨ ∃ f ∈ fs, i ∈ f.2.1.own) → ¬ i = fm := by
    intro i hi e
    subst e
    unfold ownS at hnd
    rw [List.nodup_cons, List.nodup_cons] at hnd
    rcases hi with rfl | hi | ⟨f, hf', hi⟩
    · exact hnd.1 (by simp)
    · exact hnd.2.1 (List.mem_append_left _ (by simpa using hi))
    · exact hnd.2.1 (List.mem_append_right _ (List.mem_flatMap.2 ⟨f, hf', hi⟩))
  have hmn : mget es s = none := by rw [mget_fs h.ef, hq]; rfl
  have hput : mput es s (.pointer (some ⟨a.fb, 0, none⟩)) c = es ++ [(s, .pointer (some ⟨a.fb, 0, none⟩), c)] := by
    rcases fidx_put es s (.pointer (some ⟨a.fb, 0, none⟩)) 0 c with ⟨_, h2, _⟩ | ⟨j, u, h1, _⟩
    · exact h2
    · have := fidx_get es s 0
      rw [h1, hmn] at this
      cases this
  refine ⟨h.st.kp k (hap g (.inl rfl)), hm, ?_, ?_, ?_, h.fa.kp k (fun b hb => hap b (.inr (.inl hb))), ?_, ?_, fun i hi => Nat.lt_of_lt_of_le (h.db i hi) k.size, h.sb, by simp; omega⟩
  · rw [hput, List.map_append, h.ef]
    simp [fptr]
  · intro f hf'
    rcases List.mem_append.1 hf' with h1 | h1
    · exact (h.fr f h1).kp k (fun i hi => hap i (.inr (.inr ⟨f, h1, hi⟩))) (fun i hi e => h.dn i hi (mem_ownS.2 (.inr (.inl e))))
    · simp at h1
      rw [h1]
      exact hf
  · intro f hf'
    rcases List.mem_append.1 hf' with h1 | h1
    · exact h.nm f h1
    · simp at h1; rw [h1]; exact hn
  · have e : ownS g fm fv (fs ++ [(s, a, ⟨0, zero, []⟩)]) = ownS g fm fv fs ++ a.own := by
      unfold ownS
      rw [ownF_append]
      simp [ownF]
    rw [e, List.nodup_append]
    exact ⟨hnd, hf.nodup, fun x hx y hy e => by have := hlt x hx; have := hnew y hy; omega⟩
  · intro i hi hm'
    rcases mem_ownS.1 hm' with h1 | h1 | h1 | ⟨f, hf', h1⟩
    · exact h.dn i hi (mem_ownS.2 (.inl h1))
    · exact h.dn i hi (mem_ownS.2 (.inr (.inl h1)))
    · exact h.dn i hi (mem_ownS.2 (.inr (.inr (.inl h1))))
    · rcases List.mem_append.1 hf' with h2 | h2
      · exact h.dn i hi (mem_ownS.2 (.inr (.inr (.inr ⟨f, h2, h1⟩))))
      · simp at h2
        rw [h2] at h1
        have := hnew i h1
        have := h.db i hi
        omega
theorem fr_new (D : Nat → Prop) (w : World) (hd : ∀ i, D i → i < w.heap.size) : Fr D (((w.alloc (.map #[] 0)).alloc (.map #[] 0)).alloc (.cells #[.int .i64 0, .map (some w.heap.size), .map (some (w.heap.size + 1)), .slice none 0 0] 164)) ⟨w.heap.size + 2, w.heap.size, w.heap.size + 1, .slice none 0 0⟩ 0 zero [] := by
  have k1 : Kp (fun _ => False) (w.alloc (.map #[] 0)) (((w.alloc (.map #[] 0)).alloc (.map #[] 0)).alloc (.cells #[.int .i64 0, .map (some w.heap.size), .map (some (w.heap.size + 1)), .slice none 0 0] 164)) := ((Kp.refl _ _).alloc _).alloc _
  have m1 := kp_mp (Mp.new (Value.int .i64) w) k1 (fun h => h)
  have m2 := kp_mp (F := fun _ => False) (Mp.new (Value.int .i64) (w.alloc (.map #[] 0))) ((Kp.refl _ _).alloc (.cells #[.int .i64 0, .map (some w.heap.size), .map (some (w.heap.size + 1)), .slice none 0 0] 164)) (fun h => h)
  have st := St.new 164 ((w.alloc (.map #[] 0)).alloc (.map #[] 0)) #[.int .i64 0, .map (some w.heap.size), .map (some (w.heap.size + 1)), .slice none 0 0]
  rw [World.size_alloc] at m2
  rw [World.size_alloc, World.size_alloc] at st
  refine ⟨st, ⟨[], 0, m1, (fun _ h => by cases h), (fun _ _ h => by cases h), fun _ _ => rfl⟩, ⟨[], 0, ⟨m2, (fun _ h => by cases h), (fun _ _ h => by cases h), fun _ _ => rfl⟩, fun p hp => by cases hp⟩, ⟨[], rfl, (fun i hi => by simp at hi), rfl, .inl ⟨rfl, rfl⟩⟩, (by simp), fun i hi hm => ?_, (fun i hi => by have := hd i hi; simp [World.size_alloc]; omega), fun _ _ => rfl, (fun p hp => by cases hp), (by omega), (by simp)⟩
  have := hd i hi
  rcases (Fa.mem _ i).1 hm with h | h | h | h
  · simp at h; omega
  · simp at h; omega
  · simp at h; omega
  · cases h
set_option maxRecDepth 100000 in
set_option maxHeartbeats 2000000 in
theorem create_good (D : Nat → Prop) (w : World) (g fm : Nat) (fv : Value) (steps : Nat) (fs : List Fe) (ft : List (Int × Int)) (es : List (ByteArray × Value × Nat)) (c : Nat) (h : Sr D w g fm fv steps fs ft es c) (s : ByteArray) (hn : nmd s = true) (hq : fget fs s = none) (hl : fs.length < 256) (hsb : steps < 1000000000) (n0 : Int) (hk : ft.headD (0, 0) = (0, n0)) :
    Calls Tryz.prog 40 #[.pointer (some ⟨g, 0, none⟩), .string s] w fun e w' => e = .returned (.int .i64 0) ∧ ∃ fv' a es' c', Sr D w' g fm fv' (steps + 1) (fs ++ [(s, a, ⟨0, zero, []⟩)]) ft.tail es' c' ∧ fv'.ownBlock = fv.ownBlock ∧ (∀ i, i ∈ a.own → w.heap.size ≤ i) ∧ Kp (fun i => i = g ∨ i = fm) w w' := by
  have HA : Hid (Calls Tryz.prog 87 #[.pointer (some ⟨g, 0, none⟩), .string s] w fun e w' => e = .returned (.int .i64 (if nmd s then 0 else 2)) ∧ w' = w) := allowed_live s g fm w h.c0 (by have := (nmd_ne hn).2.1; unfold maxLen; omega)
  have HN : Hid (nmd s = true) := hn
  have HM : Hid (Mp Value.string w fm es c) := h.mp
  have HQ : Hid ((mget es s).getD (.pointer none) = .pointer none) := by show _ = _; rw [mget_fs h.ef, hq]; rfl
  have hle : es.length < 256 := by have := congrArg List.length h.ef; simp at this; omega
  have c0 := h.c0
  have HS : Hid (Sr D w g fm fv steps fs ft es c) := h
  have HK : Hid (ft.headD (0, 0) = (0, n0)) := hk
  have HFQ : Hid (fget fs s = none) := hq
  have HSB : Hid (steps < 1000000000) := hsb
  have HSP := h.sb
  clear hn h hq hk
  go_enter Tryz.func40, Tryz.ntmps40
  go_wp2_with (first | (go_at_call 87; refine HA.out.mono ?_; rintro e w' ⟨rfl, hww⟩; replace hww := hww.symm; subst hww; rw [HN.out]) | (at_lookup; refine wpList_lookup_mp rfl _ _ rfl ky9 Tryz.underlying156 (.pointer none) (Tryz.zeroValue159 _) fm c es rfl HM.out s rfl (.pointer none) HQ.out ?_) | (at_len; refine wpList_len_mp rfl _ rfl Tryz.underlying156 fm c es rfl HM.out ?_) | (go_at_call 88; refine (step_any g _ fv steps ft _ HS.out.st (by omega) HS.out.fa HS.out.fvg).mono ?_; rintro e w1 ⟨rfl, fv1, s1, f1, o1, k1⟩; rw [HK.out]))
  have st2 := St.new 137 w1 #[.int .i64 0, .int .i64 n0]
  have k2 : Kp (fun _ => False) w1 (w1.alloc (.cells #[.int .i64 0, .int .i64 n0] 137)) := (Kp.refl _ _).alloc _
  have z2 : (w1.alloc (.cells #[.int .i64 0, .int .i64 n0] 137)).heap.size = w1.heap.size + 1 := World.size_alloc _ _
  generalize w1.alloc (.cells #[.int .i64 0, .int .i64 n0] 137) = W2 at st2 k2 z2 ⊢
  have S2 := (HS.out.stepped s1 f1 o1 k1 HSB.out).kp k2 (fun _ _ h => h) (fun _ _ h => h)
  have g0 : W2.cell? ⟨g, 0, none⟩ = some (.map (some fm)) := S2.c0
  have HS2 : Hid (Sr D W2 g fm fv1 (steps + 1) fs ft.tail es c) := S2
  have HO1 : Hid (fv1.ownBlock = fv.ownBlock) := o1
  have K2 : Hid (Kp (fun i => i = g) w W2) := k1.trans k2 (fun _ _ h => h.elim)
  have zz := k1.size
  clear S2 o1 s1 f1 k1 k2
  refine wp_region_G (fun w' => w'.cell? ⟨g, 0, none⟩ = some (.map (some fm))) [6] hmix g0 (fun h0 => ?_)
  refine wpAnyG_takeW (i := 0) (v := .pointer (some ⟨g, 0, none⟩)) rfl (by kernel_rfl) (fun _ _ _ h => h) (Or.inl ⟨by rfl, fun w _ => by go_simp⟩) ?_
  refine wpAnyG_takeW (i := 1) (v := .pointer (some ⟨g, 0, none⟩)) rfl (by kernel_rfl) (fun _ _ _ h => h) (Or.inl ⟨by rfl, fun w _ => by go_simp⟩) ?_
  refine wpAnyG_takeW (i := 2) (v := .pointer (some ⟨g, 0, none⟩)) rfl (by kernel_rfl) (fun _ _ _ h => h) (Or.inl ⟨by rfl, fun w _ => by go_simp⟩) ?_
  refine wpAnyG_take (i := 3) (v := .map (some fm)) rfl (by kernel_rfl) (fun _ _ _ h => h) (Or.inl ⟨by rfl, fun w hSw => by (try dsimp only at hSw); go_simp⟩) h0 ?_
  refine wpAnyG_takeW (i := 4) (v := .string s) rfl (by kernel_rfl) (fun _ _ _ h => h) (Or.inl ⟨by rfl, fun w _ => by go_simp⟩) ?_
  refine wpAnyG_one (i := 5) (by kernel_rfl) rfl (fun K hK => ?_)
  go_simp
  refine (newFile_any _).mono ?_
  rintro e w3 ⟨rfl, hw3⟩
  have f3 : Fr D w3 ⟨W2.heap.size + 2, W2.heap.size, W2.heap.size + 1, .slice none 0 0⟩ 0 zero [] := by rw [hw3]; exact fr_new D W2.drew HS2.out.db
  have k3 : Kp (fun _ => False) W2 w3 := by rw [hw3]; exact ((((Kp.refl _ _).drew).alloc _).alloc _).alloc _
  have z3 : w3.heap.size = W2.heap.size + 3 := by rw [hw3]; simp [World.size_alloc]
  clear hw3
  go_wp2_with fail
  have S3 := HS2.out.kp k3 (fun _ _ h => h) (fun _ _ h => h)
  refine hK.out _ _ (fun _ _ => S3.c0) ?_
  clear hK K h0
  refine wpAnyG_one (i := 6) (by kernel_rfl) rfl (fun K hK => ?_)
  refine step_update_mp rfl (.tmp 34) (.tmp 35) (.tmp 36) rfl ky9 Tryz.underlying156 fm c es (by simp [Act.eval]) S3.mp s (by simp [Act.eval]) (.pointer (some ⟨W2.heap.size + 2, 0, none⟩)) (by simp [Act.eval]) ?_
  intro w4 m4 g4
  have k4 : Kp (fun i => i = fm) w3 w4 := Kp.of_grown g4 (fun i e => by cases e; rfl)
  have hfm := HS2.out.mp.lt
  have hfm0 := HM.out.lt
  have own3 : ∀ i, i ∈ (Fa.mk (W2.heap.size + 2) W2.heap.size (W2.heap.size + 1) (.slice none 0 0)).own → W2.heap.size ≤ i ∧ i < W2.heap.size + 3 := by
    intro i hi
    rcases (Fa.mem _ i).1 hi with h | h | h | h
    · dsimp only at h; omega
    · dsimp only at h; omega
    · dsimp only at h; omega
    · cases h
  have f4 := f3.kp k4 (fun i hi e => by have := own3 i hi; omega) (fun i hi e => HS2.out.dn i hi (mem_ownS.2 (.inr (.inl e))))
  have hnew : ∀ i, i ∈ (Fa.mk (W2.heap.size + 2) W2.heap.size (W2.heap.size + 1) (.slice none 0 0)).own → W2.heap.size ≤ i := fun i hi => (own3 i hi).1
  have S4 := HS2.out.made (W := w4) HFQ.out hl HN.out m4 ((k3.mono (G := fun i => i = fm) (fun _ _ h => h.elim)).trans k4 (fun _ _ h => h)) f4 hnew
  have st4 := (st2.kp k3 (fun h => h)).kp k4 (by omega)
  refine hK.out _ _ (fun h => absurd h (by decide)) ?_
  clear hK K
  refine wpAnyG_done (by kernel_rfl) ?_ _
  have d0 : w4.cell? ⟨w1.heap.size, 0, none⟩ = some (.int .i64 0) := st4.cell 0
  have d1 : w4.cell? ⟨w1.heap.size, 1, none⟩ = some (.int .i64 n0) := st4.cell 1
  have HS4 : Hid (Sr D w4 g fm fv1 (steps + 1) (fs ++ [(s, ⟨W2.heap.size + 2, W2.heap.size, W2.heap.size + 1, .slice none 0 0⟩, ⟨0, zero, []⟩)]) ft.tail (mput es s (.pointer (some ⟨W2.heap.size + 2, 0, none⟩)) c) (mclk es s c)) := S4
  clear S4 S3 f4 f3 m4 g4
  go_wp2_with (first | (go_at_call 90; refine (came_f 0 n0 _).mono ?_; rintro e w5 ⟨rfl, b5⟩))
  have S4 := HS4.out
  have kq : Kp (fun _ => False) w4 w5 := Kp.of_below b5
  have hnew : ∀ i, i ∈ (Fa.mk (W2.heap.size + 2) W2.heap.size (W2.heap.size + 1) (.slice none 0 0)).own → W2.heap.size ≤ i := fun i hi => (own3 i hi).1
  go_ret
  refine ⟨rfl, fv1, _, _, _, S4.kp kq (fun _ _ h => h) (fun _ _ h => h), HO1.out, fun i hi => ?_, ?_⟩
  · have := hnew i hi; omega
  · exact (((K2.out.mono (G := fun i => i = g ∨ i = fm) (fun _ _ h => .inl h)).trans k3 (fun _ _ h => h.elim)).trans k4 (fun _ _ h => .inr h)).trans kq (fun _ _ h => h.elim)
end Go.Proofs.YtnccklbnncaeoaaGreat
/- New and Feed without fates. -/
namespace Go.Proofs.YtnccklbnncaeoaaGreat
open Go.RowKit

set_option maxRecDepth 100000 in
theorem index58_nil (f : Value) (w : World) : Calls Tryz.prog 138 #[.slice none 0 0, f] w fun e w' => e = .returned (.int .i64 (-1)) ∧ w = w' := by
  go_enter Tryz.func138, Tryz.ntmps138
  go_wp2
  go_loop [8] (fun i => i = .int .i64 0) (fun _ => 0)
  case atStart => rfl
  case round =>
    subst hrel
    go_wp2
    go_ret
    exact ⟨rfl, rfl⟩
set_option maxRecDepth 100000 in
theorem contains58_nil (f : Value) (w : World) : Calls Tryz.prog 92 #[.slice none 0 0, f] w fun e w' => e = .returned (.bool false) ∧ w = w' := by
  go_enter Tryz.func92, Tryz.ntmps92
  go_wp2_with (first | (go_at_call 138; refine (index58_nil _ _).mono ?_; rintro e w' ⟨rfl, rfl⟩))
  go_ret
  exact ⟨rfl, rfl⟩
set_option maxRecDepth 100000 in
set_option maxHeartbeats 1000000 in
theorem feed_none (g fm steps : Nat) (w : World) (hs : St 158 w g #[.map (some fm), .slice none 0 0, .int .i64 steps]) : Calls Tryz.prog 42 #[.pointer (some ⟨g, 0, none⟩), .slice none 0 0] w fun e w' => e = .returned (.int .i64 0) ∧ St 158 w' g #[.map (some fm), .slice none 0 0, .int .i64 steps] ∧ Kp (fun i => i = g) w w' := by
  have c0 : w.cell? ⟨g, 0, none⟩ = some (.map (some fm)) := hs.cell 0
  have c1 : w.cell? ⟨g, 1, none⟩ = some (.slice none 0 0) := hs.cell 1
  have f1 := hs.frozen 1
  have HS : Hid (St 158 w g #[.map (some fm), .slice none 0 0, .int .i64 steps]) := hs
  clear hs
  go_enter Tryz.func42, Tryz.ntmps42
  go_wp2_with (first | (go_at_call 78; refine (none_live _ _ _ c0).mono ?_; rintro e w' ⟨rfl, rfl⟩) | (go_at_call 92; refine (contains58_nil _ _).mono ?_; rintro e w' ⟨rfl, rfl⟩))
  go_ret
  have h := HS.out.set 1 (.slice none 0 0)
  exact ⟨rfl, h, kp_setCell _ _ _ _ _ rfl⟩
theorem sr_new (D : Nat → Prop) {w : World} {g fm : Nat} (hs : St 158 w g #[.map (some fm), .slice none 0 0, .int .i64 0]) (hm : Mp Value.string w fm [] 0) (hne : g ≠ fm) (hd : ∀ i, D i → i < w.heap.size) (hn : ∀ i, D i → i ≠ g ∧ i ≠ fm) : Sr D w g fm (.slice none 0 0) 0 [] [] [] 0 := by
  refine ⟨hs, hm, rfl, (fun f hf => by cases hf), (fun f hf => by cases hf), .inl ⟨rfl, rfl⟩, ?_, fun i hi h => ?_, hd, by omega, by simp⟩
  · simp [ownS, ownF, Value.ownBlock, hne]
  · rcases mem_ownS.1 h with h | h | h | ⟨f, hf, _⟩
    · exact (hn i hi).1 h
    · exact (hn i hi).2 h
    · cases h
    · cases hf
set_option maxRecDepth 100000 in
set_option maxHeartbeats 1000000 in
theorem new_none (w : World) : Calls Tryz.prog 39 #[.slice none 0 0] w fun e w' => e = .returned (.tuple #[.pointer (some ⟨w.heap.size + 1, 0, none⟩), .int .i64 0]) ∧ Sr (fun i => i < w.heap.size) w' (w.heap.size + 1) w.heap.size (.slice none 0 0) 0 [] [] [] 0 ∧ Kp (fun _ => False) w w' := by
  have hmm := @run_makeMap Tryz.prog
  have st := St.new 158 (w.alloc (.map #[] 0)) #[.map (some w.heap.size), .slice none 0 0, .int .i64 0]
  have m1 : Mp Value.string ((w.alloc (.map #[] 0)).alloc (.cells #[.map (some w.heap.size), .slice none 0 0, .int .i64 0] 158)) w.heap.size [] 0 := kp_mp (F := fun _ => False) (Mp.new Value.string w) ((Kp.refl _ _).alloc _) (fun h => h)
  have k1 : Kp (fun _ => False) w ((w.alloc (.map #[] 0)).alloc (.cells #[.map (some w.heap.size), .slice none 0 0, .int .i64 0] 158)) := ((Kp.refl _ _).alloc _).alloc _
  rw [World.size_alloc] at st
  go_enter Tryz.func39, Tryz.ntmps39
  go_wp2_with fail
  have h : Hid (St 158 ((w.alloc (.map #[] 0)).alloc (.cells #[.map (some w.heap.size), .slice none 0 0, .int .i64 0] 158)) (w.heap.size + 1) #[.map (some w.heap.size), .slice none 0 0, .int .i64 0]) := st
  have HM : Hid (Mp Value.string ((w.alloc (.map #[] 0)).alloc (.cells #[.map (some w.heap.size), .slice none 0 0, .int .i64 0] 158)) w.heap.size [] 0) := m1
  have HK : Hid (Kp (fun _ => False) w ((w.alloc (.map #[] 0)).alloc (.cells #[.map (some w.heap.size), .slice none 0 0, .int .i64 0] 158))) := k1
  clear st m1 k1 hmm
  generalize (w.alloc (.map #[] 0)).alloc (.cells #[.map (some w.heap.size), .slice none 0 0, .int .i64 0] 158) = W at h HM HK ⊢
  refine (feed_none (w.heap.size + 1) w.heap.size 0 W h.out).mono ?_
  rintro e w2 ⟨rfl, st2, k2⟩
  go_wp2
  go_ret2
  have k02 : Kp (fun _ => False) w w2 := HK.out.trans k2 (fun i hi h => by omega)
  refine ⟨rfl, sr_new _ st2 (kp_mp HM.out k2 (by omega)) (by omega) (fun i hi => Nat.lt_of_lt_of_le hi k02.size) (fun i hi => ⟨by omega, by omega⟩), k02⟩
end Go.Proofs.YtnccklbnncaeoaaGreat
