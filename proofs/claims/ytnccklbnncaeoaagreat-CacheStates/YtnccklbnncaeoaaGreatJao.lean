import Derived.Test.YtnccklbnncaeoaaGreatJak
import Derived.Test.YtnccklbnncaeoaaGreatJan
/- A region that draws its order: quiet operations, then one with an effect that waits for all of them, then others. Whatever the program. -/
namespace Go.Proofs.YtnccklbnncaeoaaGreat
variable {F : Fence} {n : Nat} {P : Program} {ops : Array Oper} {C : World → Prop} {md : Region.Mode}
/-- Whatever order is picked, up to the last one. -/
def wpAnyU (F : Fence) (n : Nat) (P : Program) (md : Region.Mode) (ops : Array Oper) (C : World → Prop) (m : Nat) (T : Array Bool → Act → Prop) : Nat → Array Bool → Act → Prop
  | 0, listed, a => Region.ready md ops listed = [m] ∧ T listed a
  | fuel + 1, listed, a => Region.ready md ops listed ≠ [] ∧ ∀ i ∈ Region.ready md ops listed, qOpIn F n P ops C i (wpAnyU F n P md ops C m T fuel (listed.setIfInBounds i true)) a
theorem wpAnyU_first {m : Nat} {T : Array Bool → Act → Prop} {i : Nat} {oi : Oper} {v : Value} (hl : lateB2 md ops m = true) (hi : ops[i]? = some oi) (him : i ≠ m) (hsel : ∀ (j : Nat) (o : Oper) cs b, ops[j]? = some o → o.op ≠ .select cs b) :
    ∀ (fuel : Nat) (listed : Array Bool) (a : Act), Clsd md ops listed →
      (∀ j oj, ops[j]? = some oj → j ≠ i → listed.getD j true = false → (∀ e ∈ oj.after, Region.binds md e = true → e.on ≠ i) → oi.apart ops oj = true) →
      i ∈ Region.ready md ops listed → YieldsQuiet F n P ops C oi v a →
      wpAnyU F n P md ops C m T fuel (listed.setIfInBounds i true) (a.put oi.dst v) → wpAnyU F n P md ops C m T (fuel + 1) listed a := by
  intro fuel
  induction fuel with
  | zero =>
    intro listed a hc _ hr hy H
    refine ⟨fun h => (by rw [h] at hr; cases hr), fun j hj => ?_⟩
    by_cases hji : j = i
    · subst hji; exact hy.qOpIn hi H
    · have h2 := ready_mono hj hji
      rw [H.1] at h2
      have : j = m := by simpa using h2
      subst this
      exact absurd hj (late_not2 hl hc hr him)
  | succ fuel ih =>
    intro listed a hc hfree hr hy H
    refine ⟨fun h => (by rw [h] at hr; cases hr), fun j hj => ?_⟩
    by_cases hji : j = i
    · subst hji; exact hy.qOpIn hi H
    · have h1 := H.2 j (ready_mono hj hji)
      obtain ⟨hjun, oj, hoj, hall⟩ := mem_ready.1 hj
      have hnot : ∀ e ∈ oj.after, Region.binds md e = true → e.on ≠ i := fun e he hb heq => by
        have h1 := hall e he hb
        have h0 := (mem_ready.1 hr).1
        rw [heq] at h1
        rcases Nat.lt_or_ge i listed.size with h' | h'
        · simp [h'] at h0 h1; rw [h0] at h1; cases h1
        · simp [Array.getElem?_eq_none h'] at h1
      have h2 := qOpIn_put hoj (hfree j oj hoj hji hjun hnot) (fun cs b => hsel i oi cs b hi) (fun cs b => hsel j oj cs b hoj) hy h1
      have hfree' : ∀ k ok, ops[k]? = some ok → k ≠ i → (listed.setIfInBounds j true).getD k true = false →
          (∀ e ∈ ok.after, Region.binds md e = true → e.on ≠ i) → oi.apart ops ok = true := fun k ok hk hki hun hno => by
        refine hfree k ok hk hki ?_ hno
        by_cases hjk : j = k
        · subst hjk; exact hjun
        · rw [getD_set_ne true hjk] at hun; exact hun
      refine qOpIn_mono (fun a' h3 => ih (listed.setIfInBounds j true) a' (hc.step hj) hfree' (ready_mono hr (Ne.symm hji)) h3.1 ?_) h2
      rw [Array.setIfInBounds_comm _ _ hji]
      exact h3.2
/-- In the order of the text, up to the last one. -/
def lexU (md : Region.Mode) (ops : Array Oper) (m : Nat) : Nat → Nat → Array Bool → Bool
  | 0, _, listed => Region.ready md ops listed == [m]
  | fuel + 1, k, listed => (Region.ready md ops listed).contains k && Region.free md ops listed k && lexU md ops m fuel (k + 1) (listed.setIfInBounds k true)
def lexSet : Nat → Nat → Array Bool → Array Bool
  | 0, _, listed => listed
  | fuel + 1, k, listed => lexSet fuel (k + 1) (listed.setIfInBounds k true)
theorem wpAnyU_lex {m : Nat} {T : Array Bool → Act → Prop} (hl : lateB2 md ops m = true) (hs : Region.noSelect ops = true) : ∀ (l : List Oper) (k : Nat) (listed : Array Bool) (a : Act), k + l.length ≤ m → Clsd md ops listed → (∀ j, j < l.length → l[j]? = ops[k + j]?) →
    lexU md ops m l.length k listed = true → wpQuietIn F n P ops C (T (lexSet l.length k listed)) l a → wpAnyU F n P md ops C m T l.length listed a
  | [], _, _, _, _, _, _, hB, h => ⟨by simpa [lexU] using hB, h⟩
  | o :: l, k, listed, a, hk, hc, hl', hB, h => by
    have h0 : ops[k]? = some o := by simpa using (hl' 0 (by simp)).symm
    simp only [List.length_cons, lexU, Bool.and_eq_true] at hB
    obtain ⟨⟨hr, hf⟩, hB'⟩ := hB
    have hst : qOpIn F n P ops C k (wpQuietIn F n P ops C (T (lexSet l.length (k + 1) (listed.setIfInBounds k true))) l) a := by unfold qOpIn; simp only [h0]; exact h
    obtain ⟨v, hy, hK⟩ := yieldsQuiet_of_qOpIn h0 hst
    have hr' : k ∈ Region.ready md ops listed := by simpa using hr
    exact wpAnyU_first hl h0 (by simp at hk; omega) (Region.noSelect_spec hs) l.length listed a hc (Region.free_spec h0 hf) hr' hy
      (wpAnyU_lex hl hs l (k + 1) _ _ (by simp at hk; omega) (hc.step hr') (fun j hj => by have := hl' (j + 1) (by simp; omega); simpa [Nat.add_assoc, Nat.add_comm 1 j] using this) hB' hK)
theorem wpAnyIn_of_U {m r : Nat} {T : Array Bool → Act → Prop} {Q' : Exit → Act → World → Prop} (hnd : ∀ (i : Nat) (o : Oper), ops[i]? = some o → ∀ c, o.op ≠ .defer c) (hT : ∀ listed a w, C w → T listed a → wpAnyIn F n P md ops Q' r listed a w) :
    ∀ (fuel : Nat) (listed : Array Bool) (a : Act) (w : World), C w → wpAnyU F n P md ops C m T fuel listed a → wpAnyIn F n P md ops Q' (fuel + r) listed a w
  | 0, _, _, _, hw, h => by rw [Nat.zero_add]; exact hT _ _ _ hw h.2
  | fuel + 1, _, _, _, hw, h => by
    rw [show fuel + 1 + r = (fuel + r) + 1 by omega]
    exact ⟨fun h0 => absurd h0 h.1, fun i hi => wpOpIn_of_qOpInR hnd hw (fun a' w' hw' => wpAnyIn_of_U hnd hT fuel _ a' w' hw') (h.2 i hi)⟩
def lastU (l : List Oper) (m : Nat) : Bool := noDefer l && Region.noSelect l.toArray && lateB2 .any l.toArray m && lexU .any l.toArray m m 0 (Array.replicate l.length false)
theorem wpIn_region_rest {id : Nat} {Q : Exit → Act → World → Prop} {a : Act} {w : World} {l : List Oper} (m : Nat) (hm : P.follows .mixedOrders = true) (hB : lastU l m = true) (h2 : m ≤ l.length)
    (h : wpQuietIn F n P l.toArray (fun w' => ∃ n, w' = w.drewN n) (fun a' => ∀ w', (∃ n, w' = w.drewN n) → wpAnyIn F n P .any l.toArray Q (l.length - m) (lexSet m 0 (Array.replicate l.length false)) a' w') (l.take m) a) : (Code.region id l.toArray true).wpIn F n P Q a w := by
  simp only [lastU, Bool.and_eq_true] at hB
  obtain ⟨⟨⟨b1, b2⟩, b3⟩, b4⟩ := hB
  have hlen : (l.take m).length = m := by rw [List.length_take]; omega
  refine wpIn_region_any hm ?_
  rw [show l.toArray.size = (l.take m).length + (l.length - m) by rw [hlen]; simp; omega]
  refine wpAnyIn_of_U (C := fun w' => ∃ n, w' = w.drewN n) (m := m) (T := fun listed a' => ∀ w', (∃ n, w' = w.drewN n) → wpAnyIn F n P .any l.toArray Q (l.length - m) listed a' w') (fun i o ho => noDefer_spec b1 ho) (fun listed a w hw hT => hT w hw) (l.take m).length _ _ _ ⟨1, rfl⟩ ?_
  have he : (l.take m).length + (l.length - m) = l.length := by rw [hlen]; omega
  rw [he]
  refine wpAnyU_lex b3 b2 (l.take m) 0 _ a (by omega) (by intro j o ho hj; simp [Array.getElem?_replicate] at hj; split at hj <;> simp at hj) (fun j hj => by rw [hlen] at hj; simp [hj]) (by rw [hlen]; exact b4) ?_
  rw [hlen]
  exact h
/-- What one step goes on with. -/
def Nxt (Q : Exit → Act → World → Prop) (K : Act → World → Prop) (e : Exit) (a : Act) (w : World) : Prop := match e with
  | .normal => K a w
  | e => Q e a w
theorem wpIn_nxt {Q : Exit → Act → World → Prop} {K K1 : Act → World → Prop} {o : Oper} {a : Act} {w : World} (hh : o.wpIn F n P a w K1 (Nxt Q K)) : o.wpIn F n P a w K1 Q := by
  unfold Oper.wpIn at *
  refine ⟨hh.1, ?_⟩
  have hh := hh.2
  generalize (o.semAt F.round a.eval).run P w = r at *
  cases r with
  | ok x w' =>
    cases x <;> simp only [Oper.uponIn] at hh ⊢ <;>
      first
        | exact hh
        | exact ⟨hh.1, CallsIn.mono hh.2 (fun e w'' he => by cases e <;> exact he)⟩
        | exact ⟨hh.1, RoundIn.mono hh.2 (fun e w'' he => by cases e <;> exact he)⟩
  | halt x w' => cases x <;> simp only [Oper.uponIn] at hh ⊢ <;> exact hh
theorem opIn_of_list {Q : Exit → Act → World → Prop} {i : Nat} {o : Oper} {K : Act → World → Prop} {a : Act} {w : World} (ho : ops[i]? = some o) (h : wpListIn F n P ops (Nxt Q K) [o] a w) : wpOpIn F n P ops Q i K a w := by
  unfold wpOpIn
  simp only [ho]
  unfold wpListIn at h
  split
  · rename_i hw
    rw [if_pos hw] at h
    exact Oper.wpIn_mono (fun a w h => h) (wpIn_nxt h)
  · rename_i hw
    rw [if_neg hw] at h
    exact h
theorem anyIn_one {Q : Exit → Act → World → Prop} {i fuel : Nat} {listed : Array Bool} {o : Oper} {a : Act} {w : World} (hr : Region.ready md ops listed = [i]) (ho : ops[i]? = some o) (h : wpListIn F n P ops (Nxt Q (wpAnyIn F n P md ops Q fuel (listed.setIfInBounds i true))) [o] a w) : wpAnyIn F n P md ops Q (fuel + 1) listed a w := by
  refine ⟨fun h0 => absurd (hr ▸ h0) (by simp), fun j hj => ?_⟩
  rw [hr] at hj
  have : j = i := by simpa using hj
  subst this
  exact opIn_of_list ho h
theorem anyIn_two {Q : Exit → Act → World → Prop} {i k fuel : Nat} {listed : Array Bool} {o p : Oper} {a : Act} {w : World} (hr : Region.ready md ops listed = [i, k]) (ho : ops[i]? = some o) (hp : ops[k]? = some p) (h : wpListIn F n P ops (Nxt Q (wpAnyIn F n P md ops Q fuel (listed.setIfInBounds i true))) [o] a w) (h2 : wpListIn F n P ops (Nxt Q (wpAnyIn F n P md ops Q fuel (listed.setIfInBounds k true))) [p] a w) : wpAnyIn F n P md ops Q (fuel + 1) listed a w := by
  refine ⟨fun h0 => absurd (hr ▸ h0) (by simp), fun j hj => ?_⟩
  rw [hr] at hj
  rcases List.mem_cons.1 hj with rfl | hj
  · exact opIn_of_list ho h
  · have : j = k := by simpa using hj
    subst this
    exact opIn_of_list hp h2
theorem anyIn_done {Q : Exit → Act → World → Prop} {listed : Array Bool} {a : Act} {w : World} (hr : Region.ready md ops listed = []) (h : Q .normal a w) : wpAnyIn F n P md ops Q 0 listed a w := ⟨hr, h⟩
end Go.Proofs.YtnccklbnncaeoaaGreat
/- cache: load. -/
namespace Go.Proofs.YtnccklbnncaeoaaGreat
open Go.RowKit
set_option linter.unusedVariables false
set_option linter.unusedSimpArgs false
/-- What a page's bytes are when it is brought in. -/
def ldz (q : Gf) (bits k : Nat) : List Int := splice (List.replicate (2 ^ bits) 0) 0 (rdz q (k * 2 ^ bits) (2 ^ bits))
theorem ldz_len (q : Gf) (bits k : Nat) : (ldz q bits k).length = 2 ^ bits := by
  have : (rdz q (k * 2 ^ bits) (2 ^ bits)).length ≤ 2 ^ bits := by unfold rdz; simp; omega
  unfold ldz splice
  simp
  omega
theorem pow_le (bits : Nat) (h : 9 ≤ bits ∧ bits ≤ 16) : 512 ≤ 2 ^ bits ∧ 2 ^ bits ≤ 65536 := by
  obtain ⟨h1, h2⟩ := h
  have a := Nat.pow_le_pow_right (n := 2) (by omega) h1
  have b := Nat.pow_le_pow_right (n := 2) (by omega) h2
  exact ⟨by simpa using a, by simpa using b⟩
section
variable {S : ByteArray} {g bits room Q N : Nat} {G : Gc} {q : Gf} {ft : List (Int × Int)} {F : Nat → Prop} {w : World}
set_option maxRecDepth 100000 in
set_option maxHeartbeats 4000000 in
theorem load_any (h : Cv S g bits room Q N G q ft F w) (k : Nat) (hk : k < 268435456 / 2 ^ bits) :
    Calls Tryz.prog 144 #[ptr Q, .int .i64 k] w fun e w' => ∃ b, w.heap.size ≤ b ∧ e = .returned (.tuple #[.slice (some ⟨b, 0, none⟩) (2 ^ bits) (2 ^ bits), .int .i64 0]) ∧ Rw .u8 5 w' b (ldz q bits k) ∧ Kp (fun _ => False) w w' := by
  have hp := pow_le bits h.bb
  have hkm : k * 2 ^ bits ≤ 268435456 := by
    have := Nat.div_mul_le_self 268435456 (2 ^ bits)
    have h2 : k * 2 ^ bits ≤ 268435456 / 2 ^ bits * 2 ^ bits := Nat.mul_le_mul_right _ (by omega)
    omega
  have hlz := ldz_len q bits k
  obtain ⟨Z, hZ⟩ : ∃ Z, ldz q bits k = Z := ⟨_, rfl⟩
  have hZ2 := hZ
  unfold ldz at hZ2
  have HP : Hid (∀ U, Kp (fun _ => False) w U → Calls Tryz.prog 116 #[ptr Q, .int .i64 k] U fun e w' => e = .returned (.int .i64 ((k * 2 ^ bits : Nat) : Int)) ∧ w' = U) := fun U kU => place_any U Q bits k h.bb.2 hkm ((by have := (h.cm.kp0 kU).st.cell 2; simpa using this))
  have HR : Hid (∀ U, Kp (fun _ => False) w U → Calls Tryz.prog 31 #[ptr g, .string S, .int .i64 ((k * 2 ^ bits : Nat) : Int), .int .i64 ((2 ^ bits : Nat) : Int)] U (RdW U q (k * 2 ^ bits) (2 ^ bits))) := fun U kU => read_w (h.sw.kp0 kU) _ _
  have z0 := h.cm.st.cell 0
  have z1 := h.cm.st.cell 1
  have z2 := h.cm.st.cell 2
  simp at z0 z1 z2
  rw [hZ] at hlz ⊢
  have hmin : min bits 64 = bits := Nat.min_eq_left (by have := h.bb; omega)
  have hsh : wrap64 ((2 : Int) ^ bits) = ((2 ^ bits : Nat) : Int) := by
    rw [show ((2 : Int) ^ bits) = ((2 ^ bits : Nat) : Int) by simp]
    unfold wrap64
    omega
  have HW : Hid (ldz q bits k = Z) := hZ
  have HZ2 := hid hZ2
  clear hZ hZ2
  obtain ⟨m, hm⟩ : ∃ m, 2 ^ bits = m := ⟨_, rfl⟩
  obtain ⟨p, hpp⟩ : ∃ p, k * m = p := ⟨_, rfl⟩
  rw [hm] at hp hkm hlz hsh HP HR HZ2 ⊢
  rw [hpp] at hkm HP HR HZ2
  clear h hk
  have hb16 : m ≤ 17592186044416 := by omega
  unfold ptr at *
  go_enter Tryz.func144, Tryz.ntmps144
  go_wp2_with (first | (at_make; refine wpList_make_rw (κ := .u8) 47 5 1 Tryz.underlying47 Tryz.info5 (by decide) rfl _ _ rfl m (by go_simp <;> exact hsh) (by go_simp <;> exact hsh) hb16 ?_; intro w1 r1 b1; have R1 : Hid (Rw .u8 5 w1 w.heap.size (List.replicate m 0)) := r1; have K1 : Hid (Kp (fun _ => False) w w1) := Kp.of_below b1; replace z0 := K1.out.cell z0; replace z1 := K1.out.cell z1; replace z2 := K1.out.cell z2; clear r1 b1))
  have HM := hid hp
  clear hp
  refine (wpIn_wide (n := 3)).1 ?_
  refine wpIn_region_rest 13 hmix (by kernel_rfl) (by decide) ?_
  dsimp only [List.take]
  repeat (gi_big_quiet_step (fail))
  refine wpQuietIn_step (fun _ _ _ _ => trivial) (fun K hK => ?_)
  go_simp
  apply Exists.intro
  refine ⟨fun n => ?_, hK _ ?_⟩
  · exact CallsIn.quiet_of_same (callsIn_wide.2 (HP.out _ (K1.out.trans (drewN_kp _ _ _) (fun _ _ h => h))))
  clear hK K
  repeat (gi_big_quiet_step (fail))
  refine wpQuietIn_nil ?_
  intro U hU
  obtain ⟨nq, hU2⟩ := hU
  subst hU2
  have K2 : Hid (Kp (fun _ => False) w (w1.drewN nq)) := K1.out.trans (drewN_kp _ _ _) (fun _ _ h => h)
  refine anyIn_one (i := 13) (fuel := 5) (by kernel_rfl) rfl ?_
  gi_wp2_with fail
  refine ⟨trivial, (callsIn_wide.2 (HR.out _ K2.out)).mono ?_⟩
  rintro _ w2 ⟨k2, hb⟩
  have K3 : Hid (Kp (fun _ => False) w w2) := K2.out.trans k2 (fun _ _ h => h)
  have R3 : Hid (Rw .u8 5 w2 w.heap.size (List.replicate m 0)) := (R1.out.kp (drewN_kp (fun _ => False) _ nq) (fun h => h)).kp k2 (fun h => h)
  clear k2 R1 K1 K2 z0 z1 z2 HP HR
  rcases hb with ⟨hlt, rfl⟩ | ⟨hle, b, rfl, hb1, hr⟩
  · have hz : rdz q p m = [] := by
      unfold rdz
      rw [show min m (q.sz - p) = 0 by omega]
      rfl
    rw [hz] at HZ2
    have HZ3 : Hid (splice (List.replicate m 0) 0 ([] : List Int) = Z) := HZ2.out
    have HFT : Hid (0 + ([] : List Int).length ≤ (List.replicate m (0 : Int)).length) := (by show 0 + 0 ≤ _; omega)
    clear HZ2 hlt hz
    gi_wp2_with fail
    refine anyIn_one (i := 14) (fuel := 4) (by kernel_rfl) rfl ?_
    gi_wp2_with fail
    refine anyIn_two (i := 15) (k := 16) (fuel := 3) (by kernel_rfl) rfl rfl ?_ ?_
    · gi_wp2_with fail
      refine anyIn_two (i := 16) (k := 17) (fuel := 2) (by kernel_rfl) rfl rfl ?_ ?_
      · gi_wp2_with fail
        refine anyIn_one (i := 17) (fuel := 1) (by kernel_rfl) rfl ?_
        gi_wp2_with fail
        refine anyIn_one (i := 18) (fuel := 0) (by kernel_rfl) rfl ?_
        gi_wp2_with fail
        refine ⟨by kernel_rfl, ?_⟩
        go_wp2_with (first | (refine wpList_copy_rw rfl (.tmp 39) (.tmp 40) 47 47 rfl 5 Tryz.underlying47 info5s _ _ _ _ _ _ rfl rfl w.heap.size 0 5 (List.replicate m 0) [] R3.out (by simp) (fun h => by simp at h) HFT.out ?_; intro w3 r3 g3; rw [HZ3.out] at r3; have R4 : Hid (Rw .u8 5 w3 w.heap.size Z) := r3; have K4 : Hid (Kp (fun _ => False) w w3) := K3.out.trans (Kp.of_grown (F := fun i => i = w.heap.size) g3 (fun i e => by cases e; rfl)) (fun i hi h => by omega); clear r3 g3))
        go_ret2
        exact ⟨w.heap.size, Nat.le_refl _, rfl, R4.out, K4.out⟩
      · gi_wp2_with fail
        refine anyIn_one (i := 16) (fuel := 1) (by kernel_rfl) rfl ?_
        gi_wp2_with fail
        refine anyIn_one (i := 18) (fuel := 0) (by kernel_rfl) rfl ?_
        gi_wp2_with fail
        refine ⟨by kernel_rfl, ?_⟩
        go_wp2_with (first | (refine wpList_copy_rw rfl (.tmp 39) (.tmp 40) 47 47 rfl 5 Tryz.underlying47 info5s _ _ _ _ _ _ rfl rfl w.heap.size 0 5 (List.replicate m 0) [] R3.out (by simp) (fun h => by simp at h) HFT.out ?_; intro w3 r3 g3; rw [HZ3.out] at r3; have R4 : Hid (Rw .u8 5 w3 w.heap.size Z) := r3; have K4 : Hid (Kp (fun _ => False) w w3) := K3.out.trans (Kp.of_grown (F := fun i => i = w.heap.size) g3 (fun i e => by cases e; rfl)) (fun i hi h => by omega); clear r3 g3))
        go_ret2
        exact ⟨w.heap.size, Nat.le_refl _, rfl, R4.out, K4.out⟩
    · gi_wp2_with fail
      refine anyIn_one (i := 15) (fuel := 2) (by kernel_rfl) rfl ?_
      gi_wp2_with fail
      refine anyIn_one (i := 17) (fuel := 1) (by kernel_rfl) rfl ?_
      gi_wp2_with fail
      refine anyIn_one (i := 18) (fuel := 0) (by kernel_rfl) rfl ?_
      gi_wp2_with fail
      refine ⟨by kernel_rfl, ?_⟩
      go_wp2_with (first | (refine wpList_copy_rw rfl (.tmp 39) (.tmp 40) 47 47 rfl 5 Tryz.underlying47 info5s _ _ _ _ _ _ rfl rfl w.heap.size 0 5 (List.replicate m 0) [] R3.out (by simp) (fun h => by simp at h) HFT.out ?_; intro w3 r3 g3; rw [HZ3.out] at r3; have R4 : Hid (Rw .u8 5 w3 w.heap.size Z) := r3; have K4 : Hid (Kp (fun _ => False) w w3) := K3.out.trans (Kp.of_grown (F := fun i => i = w.heap.size) g3 (fun i e => by cases e; rfl)) (fun i hi h => by omega); clear r3 g3))
      go_ret2
      exact ⟨w.heap.size, Nat.le_refl _, rfl, R4.out, K4.out⟩
  · have hzl : (rdz q p m).length ≤ m := by unfold rdz; simp; omega
    obtain ⟨zs, hz⟩ : ∃ zs, rdz q p m = zs := ⟨_, rfl⟩
    rw [hz] at HZ2 hr hzl ⊢
    have HZ3 : Hid (splice (List.replicate m 0) 0 zs = Z) := HZ2.out
    have HFT : Hid (0 + zs.length ≤ (List.replicate m (0 : Int)).length) := (by show 0 + zs.length ≤ _; simp; omega)
    have HLN : Hid (zs.length = Nat.min zs.length m) := (Nat.min_eq_left hzl).symm
    have HRS : Hid (∀ j, j < zs.length → w2.cell? ⟨b, j, none⟩ = some (.int .u8 (zs.getD j 0))) := fun j hj => by have := hr.cells j hj; rw [Nat.zero_add] at this; exact this
    clear HZ2 hz hr hb1 hle
    gi_wp2_with fail
    refine anyIn_one (i := 14) (fuel := 4) (by kernel_rfl) rfl ?_
    gi_wp2_with fail
    refine anyIn_two (i := 15) (k := 16) (fuel := 3) (by kernel_rfl) rfl rfl ?_ ?_
    · gi_wp2_with fail
      refine anyIn_two (i := 16) (k := 17) (fuel := 2) (by kernel_rfl) rfl rfl ?_ ?_
      · gi_wp2_with fail
        refine anyIn_one (i := 17) (fuel := 1) (by kernel_rfl) rfl ?_
        gi_wp2_with fail
        refine anyIn_one (i := 18) (fuel := 0) (by kernel_rfl) rfl ?_
        gi_wp2_with fail
        refine ⟨by kernel_rfl, ?_⟩
        go_wp2_with (first | (refine wpList_copy_rw rfl (.tmp 39) (.tmp 40) 47 47 rfl 5 Tryz.underlying47 info5s _ _ _ _ _ _ rfl rfl w.heap.size 0 5 (List.replicate m 0) zs R3.out HLN.out (fun _ => ⟨rfl, _, rfl, fun j hj => by rw [add_z]; exact HRS.out j hj⟩) HFT.out ?_; intro w3 r3 g3; rw [HZ3.out] at r3; have R4 : Hid (Rw .u8 5 w3 w.heap.size Z) := r3; have K4 : Hid (Kp (fun _ => False) w w3) := K3.out.trans (Kp.of_grown (F := fun i => i = w.heap.size) g3 (fun i e => by cases e; rfl)) (fun i hi h => by omega); clear r3 g3))
        go_ret2
        exact ⟨w.heap.size, Nat.le_refl _, rfl, R4.out, K4.out⟩
      · gi_wp2_with fail
        refine anyIn_one (i := 16) (fuel := 1) (by kernel_rfl) rfl ?_
        gi_wp2_with fail
        refine anyIn_one (i := 18) (fuel := 0) (by kernel_rfl) rfl ?_
        gi_wp2_with fail
        refine ⟨by kernel_rfl, ?_⟩
        go_wp2_with (first | (refine wpList_copy_rw rfl (.tmp 39) (.tmp 40) 47 47 rfl 5 Tryz.underlying47 info5s _ _ _ _ _ _ rfl rfl w.heap.size 0 5 (List.replicate m 0) zs R3.out HLN.out (fun _ => ⟨rfl, _, rfl, fun j hj => by rw [add_z]; exact HRS.out j hj⟩) HFT.out ?_; intro w3 r3 g3; rw [HZ3.out] at r3; have R4 : Hid (Rw .u8 5 w3 w.heap.size Z) := r3; have K4 : Hid (Kp (fun _ => False) w w3) := K3.out.trans (Kp.of_grown (F := fun i => i = w.heap.size) g3 (fun i e => by cases e; rfl)) (fun i hi h => by omega); clear r3 g3))
        go_ret2
        exact ⟨w.heap.size, Nat.le_refl _, rfl, R4.out, K4.out⟩
    · gi_wp2_with fail
      refine anyIn_one (i := 15) (fuel := 2) (by kernel_rfl) rfl ?_
      gi_wp2_with fail
      refine anyIn_one (i := 17) (fuel := 1) (by kernel_rfl) rfl ?_
      gi_wp2_with fail
      refine anyIn_one (i := 18) (fuel := 0) (by kernel_rfl) rfl ?_
      gi_wp2_with fail
      refine ⟨by kernel_rfl, ?_⟩
      go_wp2_with (first | (refine wpList_copy_rw rfl (.tmp 39) (.tmp 40) 47 47 rfl 5 Tryz.underlying47 info5s _ _ _ _ _ _ rfl rfl w.heap.size 0 5 (List.replicate m 0) zs R3.out HLN.out (fun _ => ⟨rfl, _, rfl, fun j hj => by rw [add_z]; exact HRS.out j hj⟩) HFT.out ?_; intro w3 r3 g3; rw [HZ3.out] at r3; have R4 : Hid (Rw .u8 5 w3 w.heap.size Z) := r3; have K4 : Hid (Kp (fun _ => False) w w3) := K3.out.trans (Kp.of_grown (F := fun i => i = w.heap.size) g3 (fun i e => by cases e; rfl)) (fun i hi h => by omega); clear r3 g3))
      go_ret2
      exact ⟨w.heap.size, Nat.le_refl _, rfl, R4.out, K4.out⟩
end
end Go.Proofs.YtnccklbnncaeoaaGreat
/- cache: letGo over a whole cache, makeRoom. -/
namespace Go.Proofs.YtnccklbnncaeoaaGreat
open Go.RowKit
set_option linter.unusedVariables false
set_option linter.unusedSimpArgs false
/-- What letting go of a page leaves. -/
def gLet (G : Gc) (lv : Value) (M : List Nat) (b : Nat) : Gc := gSet (gBare { G with lv := lv, L := M } b) b
theorem bare_c (G : Gc) (b a : Nat) : ((gBare G b).c a).n = (G.c a).n ∧ ((gBare G b).c a).pe = (G.c a).pe ∧ ((gBare G b).c a).tk = (G.c a).tk ∧ ((gBare G b).c a).di = (if a = b then false else (G.c a).di) := by
  show (upd G.c b _ a).n = _ ∧ (upd G.c b _ a).pe = _ ∧ (upd G.c b _ a).tk = _ ∧ (upd G.c b _ a).di = _
  unfold upd
  by_cases e : a = b
  · subst e
    simp
  · simp [e]
theorem bare_y (G : Gc) (b a : Nat) : (gBare G b).y a = if a = b then none else G.y a := rfl
section
variable {S : ByteArray} {g bits room Q N : Nat} {G : Gc} {q : Gf} {ft : List (Int × Int)} {F : Nat → Prop} {w : World}
theorem Iv.bare {G : Gc} (h : Iv G) (hn : G.L.Nodup) (lv : Value) (M : List Nat) (b : Nat) (hp : (b :: M).Perm G.L) (hh : Hpd (gBare G b).c M) (ho : Op G) : Iv (gBare { G with lv := lv, L := M } b) ∧ Opx (gBare { G with lv := lv, L := M } b) b := by
  have hnd := List.nodup_cons.1 (hp.nodup_iff.2 hn)
  have hm : ∀ a, a ∈ M ↔ a ∈ G.L ∧ a ≠ b := fun a => by
    constructor
    · intro ha
      exact ⟨hp.mem_iff.1 (List.mem_cons_of_mem _ ha), fun e => hnd.1 (e ▸ ha)⟩
    · rintro ⟨ha, hne⟩
      exact (List.mem_cons.1 (hp.mem_iff.2 ha)).resolve_left hne
  refine ⟨⟨h.wk, h.wr, h.rk, h.kb, fun a => ?_, fun a ha => h.ll a ((hm a).1 ha).1, fun a ha hpe => h.pk a ha (by rw [← (bare_c G b a).2.1]; exact hpe), fun a ha hd => ?_, hh⟩, fun x a ha hne => ?_⟩
  · show a ∈ M ↔ a ∈ G.B ∧ (if a = b then none else G.y a) ≠ none
    rw [hm a, h.lk a]
    by_cases e : a = b
    · simp [e]
    · simp [e]
  · have h2 := (bare_c G b a).2.2.2
    have hd2 : ((gBare G b).c a).di = true := hd
    rw [h2] at hd2
    split at hd2
    · cases hd2
    · rename_i e
      exact (hm a).2 ⟨h.dk a ha hd2, e⟩
  · have h2 := bare_c G b a
    show ((gBare G b).c a).di = true ∨ ((gBare G b).c a).pe = true
    rw [h2.2.1, h2.2.2.2, if_neg hne]
    exact ho x a ha
theorem letgo_cv (h : Cv S g bits room Q N G q ft F w) (b : Nat) (hb : b ∈ G.L) :
    Calls Tryz.prog 86 #[ptr Q, ptr b] w fun e w' => e = .returned (.tuple #[]) ∧ ∃ lv M, (b :: M).Perm G.L ∧ Cv S g bits room Q N (gLet G lv M b) q ft F w' ∧ Cch Q G (gLet G lv M b) F F w w' := by
  have hrr := h.rr
  have hlr := h.lr
  refine (letgo_any h.cm b (h.iv.ll b hb) hb h.iv.hp (by omega) (h.iv.rset b)).mono ?_
  rintro e w' ⟨rfl, lv, M, hp, hh, hcm, hk, hfc⟩
  obtain ⟨i1, o1⟩ := h.iv.bare h.cm.ln.nodup lv M b hp hh h.op
  obtain ⟨i2, o2, le⟩ := i1.set b (h.cm.lb b hb) o1
  have hs := set_wpR (gBare { G with lv := lv, L := M } b) b
  have hc : ∀ a, (gLet G lv M b).c a = (gBare G b).c a := fun a => congrFun hs.1 a
  have hP : (gLet G lv M b).P = G.P := hs.2.1
  have hB : (gLet G lv M b).B = G.B := le.B
  have hL : (gLet G lv M b).L = M := le.L
  have hy : (gLet G lv M b).y = (gBare G b).y := le.y
  have ht : (gLet G lv M b).t = G.t := le.t
  have h1 : (gLet G lv M b).n1 = G.n1 := le.n1
  have h2 : (gLet G lv M b).n2 = G.n2 := le.n2
  have h3 : (gLet G lv M b).n3 = G.n3 := le.n3
  have h4 : (gLet G lv M b).n4 = G.n4 := hs.2.2.2
  refine ⟨rfl, lv, M, hp, ⟨hcm, h.sw.kp hk (fun i hi hf => h.ap i hf hi), fun i hi hf => ?_, i2, o2, fun a ha => ?_, by rw [hP]; exact h.pn, by rw [h3, h4]; exact h.nn, by rw [h1, h2, ht]; exact h.tt, fun a ha => ?_, fun a ha => ?_, fun a ha i zs e => ?_, ?_, h.bb, h.rr⟩, hk.mono (fun i _ e => .inl e), hfc, fun i hi => .inl hi⟩
  · rcases hfc i hi with e | e
    · exact h.ap i e hf
    · have := h.sw.lt hf; omega
  · rw [hP] at ha
    rw [hc a, (bare_c G b a).2.1]
    exact h.pp a ha
  · rw [hB] at ha
    rw [hc a, (bare_c G b a).2.2.1, ht]
    exact h.tk a ha
  · rw [hB] at ha
    rw [hc a, (bare_c G b a).1]
    exact h.nb a ha
  · rw [hB] at ha
    rw [hy, bare_y] at e
    split at e
    · cases e
    · exact h.yl a ha i zs e
  · rw [hL]
    have := hp.length_eq
    simp at this
    omega
/-- What making room leaves. -/
def Mk (S : ByteArray) (g bits room Q N : Nat) (G : Gc) (q : Gf) (ft : List (Int × Int)) (F : Nat → Prop) (w : World) (e : Ending) (w' : World) : Prop :=
  if G.L.length < room then e = .returned (.int .i64 0) ∧ Kp (fun _ => False) w w' else
  ∃ z k G' q' ft' F', e = .returned (.int .i64 z) ∧ Out bits k ⟨G, q, ft⟩ z ⟨G', q', ft'⟩ ∧ k + mu G' ≤ mu G + (if z = 0 then 0 else 2) ∧ if z = 0 then (G'.c (G.L.getD 0 0)).di = false ∧ ∃ lv M, (G.L.getD 0 0 :: M).Perm G'.L ∧ Cv S g bits room Q (N + k) (gLet G' lv M (G.L.getD 0 0)) q' ft' F' w' ∧ Cch Q G (gLet G' lv M (G.L.getD 0 0)) F F' w w'
    else Cv S g bits room Q (N + k) G' q' ft' F' w' ∧ Cch Q G G' F F' w w'
set_option maxRecDepth 100000 in
set_option maxHeartbeats 4000000 in
theorem makeroom_any (h : Cv S g bits room Q N G q ft F w) (hN : N + mu G + 2 ≤ 9000) :
    Calls Tryz.prog 143 #[ptr Q] w (Mk S g bits room Q N G q ft F w) := by
  have z3 := h.cm.st.cell 3
  have z5 := h.cm.st.cell 5
  simp at z3 z5
  have hrr := h.rr
  have hlr := h.lr
  have HL : Hid (∀ n, Calls Tryz.prog 180 #[ptr G.kl] (w.drewN n) fun e w' => e = .returned (.int .i64 G.L.length) ∧ w' = w.drewN n) := fun n => len_any G.c (w.drewN n) 0 G.kl G.lv G.L (h.cm.ln.kp0 (drewN_kp _ _ _))
  unfold Mk
  by_cases hr : G.L.length < room
  · simp only [if_pos hr]
    have hd : decide ((G.L.length : Int) < (room : Int)) = true := by simp; omega
    clear h
    unfold ptr at *
    go_enter Tryz.func143, Tryz.ntmps143
    go_wp2_with (fail)
    go_quiet (first | (go_at_call 180; refine Calls.quiet_of_same (HL.out _)))
    go_wp2_with (fail)
    go_ret
    exact ⟨rfl, drewN_kp _ _ _⟩
  · simp only [if_neg hr]
    have hd : decide ((G.L.length : Int) < (room : Int)) = false := by simp; omega
    have h0 : 0 < G.L.length := by omega
    have HF : Hid (∀ n, Calls Tryz.prog 181 #[ptr G.kl] (w.drewN n) fun e w' => e = .returned (ptr (G.L.getD 0 0)) ∧ w' = w.drewN n) := fun n => first_any (h.cm.kp0 (drewN_kp _ _ _)) h0
    have hbL : G.L.getD 0 0 ∈ G.L := gn_mem h0
    obtain ⟨b, hb⟩ : ∃ b, G.L.getD 0 0 = b := ⟨_, rfl⟩
    rw [hb] at hbL HF ⊢
    have HE : Hid (∀ n, Calls Tryz.prog 71 #[.func (.func 72) #[ptr Q] #[], .slice (some ⟨w.heap.size, 0, none⟩) 1 1] ((w.drewN n).alloc (.cells #[ptr b] 138)) (Bk S g bits room Q N G q ft F (w.drewN n) [b])) := fun n => by
      have e : (w.drewN n).heap.size = w.heap.size := by simp
      rw [← e]
      exact each1_any (h.kp0 (drewN_kp _ _ _)) b (h.cm.lb b hbL) hN
    have HH := hid h
    have HBL := hid hbL
    clear h hb
    unfold ptr at *
    go_enter Tryz.func143, Tryz.ntmps143
    go_wp2_with (fail)
    go_quiet (first | (go_at_call 180; refine Calls.quiet_of_same (HL.out _)))
    replace z5 := (drewN_kp (fun _ => False) w nq).cell z5
    go_wp2_with (first
      | (go_at_call 181; refine (HF.out nq).mono ?_; rintro e w' ⟨rfl, h⟩; replace h := h.symm; subst h))
    refine (HE.out nq).mono ?_
    rintro _ w1 ⟨z, k, G', q', ft', F', rfl, H1, H2, H3, H4, H5⟩
    have HV := hid H1
    have HC := hid (Cch.pre (drewN_kp _ _ _) H2)
    have HO := hid H3
    have HB := hid H4
    have HD := hid H5
    have hbL' : b ∈ G'.L := by
      have := H3.stb.L
      exact (List.Perm.mem_iff this).2 HBL.out
    have HG := hid (letgo_cv H1 b hbL')
    clear H1 H2 H3 H4 H5 HE HF HL z5 z3 hbL'
    unfold ptr at HG
    by_cases hz : z = 0
    · subst hz
      go_wp2_with (first
        | (go_at_call 86; refine HG.out.mono ?_; rintro _ w2 ⟨rfl, lv, M, G1, G2, G3⟩))
      go_ret
      refine ⟨0, k, G', q', ft', F', rfl, HO.out, HB.out, ?_⟩
      rw [if_pos rfl]
      exact ⟨HD.out (by first | rfl | trivial) b (by simp), lv, M, G1, G2, HC.out.trans G3⟩
    · have hz2 : decide (z = 0) = false := by simpa using hz
      go_wp2_with (fail)
      all_goals
        go_ret
        refine ⟨z, k, G', q', ft', F', rfl, HO.out, HB.out, ?_⟩
        rw [if_neg hz]
        exact ⟨HV.out, HC.out⟩
end
end Go.Proofs.YtnccklbnncaeoaaGreat
/- cache: what bringing a page in leaves. -/
namespace Go.Proofs.YtnccklbnncaeoaaGreat
open Go.RowKit
set_option linter.unusedVariables false
set_option linter.unusedSimpArgs false
/-- The page of a number is known now. -/
def KnG (s : Nat) (G : Gc) (k b : Nat) (G2 : Gc) : Prop :=
  (nget G.c G.K k = some b ∧ G2 = G) ∨ (nget G.c G.K k = none ∧ ∃ wm rm, s ≤ b ∧ s ≤ wm ∧ s ≤ rm ∧ G2 = { gNew G b k wm rm with K := G.K ++ [b] })
/-- Its bytes are brought in. -/
def gBring (G : Gc) (b i : Nat) (Z : List Int) : Gc := { G with c := upd G.c b { G.c b with bv := .slice (some ⟨i, 0, none⟩) Z.length Z.length }, y := upd G.y b (some (i, Z)) }
section
variable {S : ByteArray} {g bits room Q N : Nat} {G : Gc} {q : Gf} {ft : List (Int × Int)} {F : Nat → Prop} {w : World}
theorem Iv.wb (h : Iv G) : (∀ b a, a ∈ G.W b → a ∈ G.B) ∧ (∀ b a, a ∈ G.R b → a ∈ G.B) :=
  ⟨fun b a ha => h.kb a (h.wk b a ha).2, fun b a ha => h.kb a (h.wk a b ((h.wr a b).2 ha)).1⟩
theorem known_any (h : Cm S g bits room Q G w) (hW : ∀ b a, a ∈ G.W b → a ∈ G.B) (hR : ∀ b a, a ∈ G.R b → a ∈ G.B) (k : Nat) :
    Calls Tryz.prog 68 #[ptr Q, .int .i64 k] w fun e w' => ∃ b G2, KnG w.heap.size G k b G2 ∧ e = .returned (ptr b) ∧ Cm S g bits room Q G2 w' ∧ Kp (fun i => i = G.pm) w w' := by
  cases hk : nget G.c G.K k with
  | none =>
    refine (known_new h hW hR k hk).mono ?_
    rintro e w' ⟨b, wm, rm, h1, h2, h3, h4, h5, h6⟩
    exact ⟨b, _, .inr ⟨hk, wm, rm, h1, h2, h3, rfl⟩, h4, h5, h6⟩
  | some b =>
    refine (known_there h k b hk).mono ?_
    rintro e w' ⟨h1, rfl⟩
    exact ⟨b, _, .inl ⟨hk, rfl⟩, h1, h, Kp.refl _ _⟩
/-- What is known of it then. -/
structure KnP (s : Nat) (G : Gc) (k b : Nat) (G2 : Gc) : Prop where
  kl : G2.kl = G.kl
  pm : G2.pm = G.pm
  lv : G2.lv = G.lv
  pv : G2.pv = G.pv
  L : G2.L = G.L
  P : G2.P = G.P
  t : G2.t = G.t
  n1 : G2.n1 = G.n1
  n2 : G2.n2 = G.n2
  n3 : G2.n3 = G.n3
  n4 : G2.n4 = G.n4
  bB : b ∈ G2.B
  bK : b ∈ G2.K
  bL : b ∉ G2.L
  y : G2.y b = none
  n : (G2.c b).n = k
  di : (G2.c b).di = false
  ne : ∀ a ∈ G.B, a ≠ b ∨ b ∈ G.B
  c : ∀ a ∈ G.B, G2.c a = G.c a
  ya : ∀ a ∈ G.B, G2.y a = G.y a
  B : ∀ a ∈ G2.B, a ∈ G.B ∨ a = b
  nw : b ∉ G.B → s ≤ b ∧ s ≤ (G2.c b).wm ∧ s ≤ (G2.c b).rm ∧ (G2.c b).pe = false ∧ (G2.c b).tk = 0
  iv : Iv G2
  op : Op G2
theorem KnG.of (hs : ∀ a ∈ G.B, a < w.heap.size) (hi : Iv G) (ho : Op G) {s k b : Nat} {G2 : Gc} (hss : w.heap.size ≤ s) (hno : ∀ a ∈ G.L, (G.c a).n ≠ k) (h : KnG s G k b G2) : KnP s G k b G2 := by
  rcases h with ⟨hg, rfl⟩ | ⟨hg, wm, rm, h1, h2, h3, rfl⟩
  · obtain ⟨hK, hn⟩ := nget_mem hg
    have hB := hi.kb b hK
    have hL : b ∉ G2.L := fun e => hno b e hn
    have hy : G2.y b = none := by
      cases e : G2.y b with
      | none => rfl
      | some x => exact absurd ((hi.lk b).2 ⟨hB, by rw [e]; simp⟩) hL
    exact ⟨rfl, rfl, rfl, rfl, rfl, rfl, rfl, rfl, rfl, rfl, rfl, hB, hK, hL, hy, hn, by
      cases e : (G2.c b).di with
      | false => rfl
      | true => exact absurd (hi.dk b hB e) hL, fun _ _ => .inr hB, fun _ _ => rfl, fun _ _ => rfl, fun a ha => .inl ha, fun e => absurd hB e, hi, ho⟩
  · have hlt : ∀ a ∈ G.B, a ≠ b := fun a ha e => by have := hs a ha; omega
    have hbB : b ∉ G.B := fun e => hlt b e rfl
    have hc : ∀ a, a ≠ b → (gNew G b k wm rm).c a = G.c a := fun a ha => upd_other _ _ ha
    have hcb : (gNew G b k wm rm).c b = pc0 k wm rm := upd_same _ _ _
    have hy : ∀ a, a ≠ b → (gNew G b k wm rm).y a = G.y a := fun a ha => upd_other _ _ ha
    have hyb : (gNew G b k wm rm).y b = none := upd_same _ _ _
    have hWb : G.W b = [] := by
      cases e : G.W b with
      | nil => rfl
      | cons a l => exact absurd (hi.kb b (hi.wk b a (by rw [e]; exact List.mem_cons_self)).1) hbB
    have hRb : G.R b = [] := by
      cases e : G.R b with
      | nil => rfl
      | cons a l => exact absurd (hi.kb b (hi.wk a b ((hi.wr a b).2 (by rw [e]; exact List.mem_cons_self))).2) hbB
    have hW : (gNew G b k wm rm).W = G.W := by show upd G.W b [] = G.W; rw [← hWb]; exact upd_self _ _
    have hR : (gNew G b k wm rm).R = G.R := by show upd G.R b [] = G.R; rw [← hRb]; exact upd_self _ _
    have hiv : Iv { gNew G b k wm rm with K := G.K ++ [b] } := by
      refine ⟨fun x a ha => ?_, fun x a => ?_, ?_, fun a ha => ?_, fun a => ?_, fun a ha => List.mem_append_left _ (hi.ll a ha), fun a ha hp => ?_, fun a ha hd => ?_, ?_⟩
      · have ha2 : a ∈ G.W x := by rw [← hW]; exact ha
        exact ⟨List.mem_append_left _ (hi.wk x a ha2).1, List.mem_append_left _ (hi.wk x a ha2).2⟩
      · show a ∈ (gNew G b k wm rm).W x ↔ x ∈ (gNew G b k wm rm).R a
        rw [hW, hR]
        exact hi.wr x a
      · show Ranked (gNew G b k wm rm).W
        rw [hW]; exact hi.rk
      · rcases List.mem_append.1 ha with ha | ha
        · exact List.mem_cons_of_mem _ (hi.kb a ha)
        · rw [List.mem_singleton.1 ha]; exact List.mem_cons_self
      · show a ∈ G.L ↔ a ∈ b :: G.B ∧ (gNew G b k wm rm).y a ≠ none
        by_cases e : a = b
        · subst e
          rw [hyb]
          exact ⟨fun ha => absurd ((hi.lk a).1 ha).1 hbB, fun ha => absurd rfl ha.2⟩
        · rw [hy a e, hi.lk a]
          simp [e]
      · rcases List.mem_cons.1 ha with rfl | ha
        · change ((gNew G a k wm rm).c a).pe = true at hp
          rw [hcb] at hp
          cases hp
        · change ((gNew G b k wm rm).c a).pe = true at hp
          rw [hc a (hlt a ha)] at hp
          exact ⟨List.mem_append_left _ (hi.pk a ha hp).1, (hi.pk a ha hp).2⟩
      · rcases List.mem_cons.1 ha with rfl | ha
        · change ((gNew G a k wm rm).c a).di = true at hd
          rw [hcb] at hd
          cases hd
        · change ((gNew G b k wm rm).c a).di = true at hd
          rw [hc a (hlt a ha)] at hd
          exact hi.dk a ha hd
      · show Hpd (gNew G b k wm rm).c G.L
        exact Hpd.congr hi.hp (fun a ha => by
          have := hc a (hlt a ((hi.lk a).1 ha).1)
          unfold key
          rw [this])
    refine ⟨rfl, rfl, rfl, rfl, rfl, rfl, rfl, rfl, rfl, rfl, rfl, List.mem_cons_self, List.mem_append_right _ (List.mem_singleton.2 rfl), fun e => hbB ((hi.lk b).1 e).1, hyb, by show ((gNew G b k wm rm).c b).n = k; rw [hcb]; rfl, by show ((gNew G b k wm rm).c b).di = false; rw [hcb]; rfl, fun a ha => .inl (hlt a ha), fun a ha => hc a (hlt a ha), fun a ha => hy a (hlt a ha), fun a ha => (List.mem_cons.1 ha).symm, fun _ => ?_, hiv, fun x a ha => ?_⟩
    · show s ≤ b ∧ s ≤ ((gNew G b k wm rm).c b).wm ∧ s ≤ ((gNew G b k wm rm).c b).rm ∧ ((gNew G b k wm rm).c b).pe = false ∧ ((gNew G b k wm rm).c b).tk = 0
      rw [hcb]
      exact ⟨h1, h2, h3, rfl, rfl⟩
    · have ha2 : a ∈ G.W x := by rw [← hW]; exact ha
      have hab := hi.kb a (hi.wk x a ha2).2
      show ((gNew G b k wm rm).c a).di = true ∨ ((gNew G b k wm rm).c a).pe = true
      rw [hc a (hlt a hab)]
      exact ho x a ha2
end
end Go.Proofs.YtnccklbnncaeoaaGreat
/- cache: a page's bytes are brought in. -/
namespace Go.Proofs.YtnccklbnncaeoaaGreat
open Go.RowKit
set_option linter.unusedVariables false
set_option linter.unusedSimpArgs false
/-- A cache over its store while a ticket is still to be drawn. -/
structure Cb (S : ByteArray) (g bits room Q N : Nat) (G : Gc) (q : Gf) (ft : List (Int × Int)) (F : Nat → Prop) (w : World) : Prop where
  cm : Cm S g bits room Q G w
  sw : Sw S g N F q ft w
  ap : ∀ i, Fc Q G i → ¬ F i
  iv : Iv G
  op : Op G
  pp : ∀ b ∈ G.P, (G.c b).pe = true
  pn : G.P.Nodup
  nn : G.n3 + G.n4 ≤ N
  tt : G.n1 + G.n2 = G.t + 1
  tk : ∀ b ∈ G.B, (G.c b).tk ≤ G.t
  nb : ∀ b ∈ G.B, (G.c b).n < 268435456 / 2 ^ bits
  yl : ∀ b ∈ G.B, ∀ i zs, G.y b = some (i, zs) → zs.length = 2 ^ bits
  lr : G.L.length ≤ room
  bb : 9 ≤ bits ∧ bits ≤ 16
  rr : 1 ≤ room ∧ room ≤ 1024
section
variable {S : ByteArray} {g bits room Q N : Nat} {G G1 G2 : Gc} {q : Gf} {ft : List (Int × Int)} {F : Nat → Prop} {w : World}
theorem bring_cm (h : Cm S g bits room Q G w) {b i : Nat} {Z : List Int} (hb : b ∈ G.B) (hbL : b ∉ G.L) (hr : Rw .u8 5 w i Z) (hf : ∀ a ∈ G.B, a ≠ b → ∀ zs', G.y a ≠ some (i, zs')) :
    Cm S g bits room Q (gBring G b i Z) (w.setCell ⟨b, 1, none⟩ (.slice (some ⟨i, 0, none⟩) Z.length Z.length)) ∧ Kp (fun j => j = b) w (w.setCell ⟨b, 1, none⟩ (.slice (some ⟨i, 0, none⟩) Z.length Z.length)) := by
  have hk : Kp (fun j => j = b) w (w.setCell ⟨b, 1, none⟩ (.slice (some ⟨i, 0, none⟩) Z.length Z.length)) := kp_setCell w b 1 _ (fun j => j = b) rfl
  refine ⟨Cm.page h (b := b) hb (p := { G.c b with bv := .slice (some ⟨i, 0, none⟩) Z.length Z.length }) (y := some (i, Z)) (fun s hs => ?_) hk rfl rfl rfl (fun e => absurd e hbL) ⟨rfl, hr.kp hk (tag_ne (rw_tag hr) (h.pt hb) (by decide))⟩ (fun j zs e a ha hab zs' => ?_), hk⟩
  · have h2 : St 142 (w.setCell ⟨b, 1, none⟩ (.slice (some ⟨i, 0, none⟩) Z.length Z.length)) b (((G.c b).cs s).set! 1 (.slice (some ⟨i, 0, none⟩) Z.length Z.length)) := St.set hs 1 _
    simpa [Pc.cs] using h2
  · cases e
    exact hf a ha hab zs'
theorem fc_bring {b i : Nat} {Z : List Int} (hb : b ∈ G.B) {j : Nat} (hj : Fc Q (gBring G b i Z) j) : Fc Q G j ∨ j = i := by
  rcases hj with e | e | e | e | e | ⟨a, ha, e⟩
  · exact .inl (.inl e)
  · exact .inl (.inr (.inl e))
  · exact .inl (.inr (.inr (.inl e)))
  · exact .inl (.inr (.inr (.inr (.inl e))))
  · exact .inl (.inr (.inr (.inr (.inr (.inl e)))))
  · have hwm : ((gBring G b i Z).c a).wm = (G.c a).wm ∧ ((gBring G b i Z).c a).rm = (G.c a).rm := by
      show (upd G.c b _ a).wm = _ ∧ (upd G.c b _ a).rm = _
      unfold upd; split
      · rename_i e; rw [e]; exact ⟨rfl, rfl⟩
      · exact ⟨rfl, rfl⟩
    rw [hwm.1, hwm.2] at e
    rcases e with e | e | e | ⟨zs, e⟩
    · exact .inl (.inr (.inr (.inr (.inr (.inr ⟨a, ha, .inl e⟩)))))
    · exact .inl (.inr (.inr (.inr (.inr (.inr ⟨a, ha, .inr (.inl e)⟩)))))
    · exact .inl (.inr (.inr (.inr (.inr (.inr ⟨a, ha, .inr (.inr (.inl e))⟩)))))
    · change upd G.y b (some (i, Z)) a = some (j, zs) at e
      unfold upd at e
      split at e
      · cases e; exact .inr rfl
      · exact .inl (.inr (.inr (.inr (.inr (.inr ⟨a, ha, .inr (.inr (.inr ⟨zs, e⟩))⟩)))))
theorem fc_kn {s k b : Nat} (hp : KnP s G k b G2) {j : Nat} (hj : Fc Q G2 j) : Fc Q G j ∨ s ≤ j := by
  rcases hj with e | e | e | e | e | ⟨a, ha, e⟩
  · exact .inl (.inl e)
  · exact .inl (.inr (.inl (by rw [← hp.kl]; exact e)))
  · exact .inl (.inr (.inr (.inl (by rw [← hp.pm]; exact e))))
  · exact .inl (.inr (.inr (.inr (.inl (by rw [← hp.lv]; exact e)))))
  · exact .inl (.inr (.inr (.inr (.inr (.inl (by rw [← hp.pv]; exact e))))))
  · by_cases hB : a ∈ G.B
    · rw [hp.c a hB, hp.ya a hB] at e
      exact .inl (.inr (.inr (.inr (.inr (.inr ⟨a, hB, e⟩)))))
    · have hab := (hp.B a ha).resolve_left hB
      subst hab
      have hn := hp.nw hB
      rw [hp.y] at e
      rcases e with e | e | e | ⟨zs, e⟩
      · exact .inr (by omega)
      · exact .inr (by omega)
      · exact .inr (by omega)
      · cases e
/-- What all of it leaves. -/
theorem bring_cb {w' : World} {s k b i : Nat} {Z : List Int} {lv : Value} {L : List Nat} (h : Cv S g bits room Q N G q ft F w) (hk : k < 268435456 / 2 ^ bits) (hroom : G.L.length < room) (hp : KnP s { G with n2 := G.n2 + 1 } k b G2) (hs : w.heap.size ≤ s) (hi : w.heap.size ≤ i) (hZ : Z.length = 2 ^ bits)
    (hL : L.Perm (b :: G.L)) (hh : Hpd (gBring G2 b i Z).c L) (hc : Cm S g bits room Q { gBring G2 b i Z with lv := lv, L := L } w') (hkp : Kp (Fc Q G) w w') (hfc : ∀ j, Fc Q { gBring G2 b i Z with lv := lv, L := L } j → Fc Q G j ∨ w.heap.size ≤ j) :
    Cb S g bits room Q N { gBring G2 b i Z with lv := lv, L := L } q ft F w' ∧ Cch Q G { gBring G2 b i Z with lv := lv, L := L } F F w w' := by
  have hcc : ∀ a, ((gBring G2 b i Z).c a).n = (G2.c a).n ∧ ((gBring G2 b i Z).c a).pe = (G2.c a).pe ∧ ((gBring G2 b i Z).c a).di = (G2.c a).di ∧ ((gBring G2 b i Z).c a).tk = (G2.c a).tk := fun a => by
    show (upd G2.c b _ a).n = _ ∧ (upd G2.c b _ a).pe = _ ∧ (upd G2.c b _ a).di = _ ∧ (upd G2.c b _ a).tk = _
    unfold upd; split
    · rename_i e; rw [e]; exact ⟨rfl, rfl, rfl, rfl⟩
    · exact ⟨rfl, rfl, rfl, rfl⟩
  have hy : ∀ a, (gBring G2 b i Z).y a = if a = b then some (i, Z) else G2.y a := fun a => rfl
  have hm : ∀ a, a ∈ L ↔ a = b ∨ a ∈ G.L := fun a => by rw [hL.mem_iff, List.mem_cons]
  have hL2 : G2.L = G.L := hp.L
  refine ⟨⟨hc, h.sw.kp hkp (fun j hj hf => h.ap j hf hj), fun j hj hf => ?_, ⟨hp.iv.wk, hp.iv.wr, hp.iv.rk, hp.iv.kb, fun a => ?_, fun a ha => ?_, fun a ha he => ?_, fun a ha hd => ?_, hh⟩, fun x a ha => ?_, fun a ha => ?_, ?_, ?_, ?_, fun a ha => ?_, fun a ha => ?_, fun a ha j zs e => ?_, ?_, h.bb, h.rr⟩, hkp.mono (fun j _ e => .inl e), hfc, fun j hj => .inl hj⟩
  · rcases hfc j hj with e | e
    · exact h.ap j e hf
    · have := h.sw.lt hf; omega
  · show a ∈ L ↔ a ∈ G2.B ∧ (gBring G2 b i Z).y a ≠ none
    rw [hm a, hy a]
    by_cases e : a = b
    · subst e
      simp [hp.bB]
    · rw [if_neg e, ← hp.iv.lk a, hL2]
      simp [e]
  · rcases (hm a).1 ha with rfl | ha
    · exact hp.bK
    · exact hp.iv.ll a (by rw [hL2]; exact ha)
  · exact hp.iv.pk a ha (by rw [← (hcc a).2.1]; exact he)
  · refine (hm a).2 (.inr ?_)
    rw [← hL2]
    exact hp.iv.dk a ha (by rw [← (hcc a).2.2.1]; exact hd)
  · show ((gBring G2 b i Z).c a).di = true ∨ ((gBring G2 b i Z).c a).pe = true
    rw [(hcc a).2.1, (hcc a).2.2.1]
    exact hp.op x a ha
  · show ((gBring G2 b i Z).c a).pe = true
    rw [(hcc a).2.1]
    have ha' : a ∈ G.P := by have e := hp.P; change G2.P = G.P at e; rw [← e]; exact ha
    have hpe := h.pp a ha'
    have hc2 := hp.c a (h.cm.pb a ha')
    change G2.c a = G.c a at hc2
    rw [hc2]
    exact hpe
  · have e := hp.P
    change G2.P = G.P at e
    show G2.P.Nodup
    rw [e]; exact h.pn
  · have e3 := hp.n3
    have e4 := hp.n4
    change G2.n3 = G.n3 at e3
    change G2.n4 = G.n4 at e4
    show G2.n3 + G2.n4 ≤ N
    rw [e3, e4]; exact h.nn
  · have e1 := hp.n1
    have e2 := hp.n2
    have e3 := hp.t
    change G2.n1 = G.n1 at e1
    change G2.n2 = G.n2 + 1 at e2
    change G2.t = G.t at e3
    show G2.n1 + G2.n2 = G2.t + 1
    have := h.tt
    omega
  · show ((gBring G2 b i Z).c a).tk ≤ G2.t
    have e3 := hp.t
    change G2.t = G.t at e3
    rw [(hcc a).2.2.2, e3]
    by_cases hB : a ∈ G.B
    · have hc2 := hp.c a hB
      change G2.c a = G.c a at hc2
      rw [hc2]; exact h.tk a hB
    · have hab := (hp.B a ha).resolve_left hB
      subst hab
      rw [(hp.nw hB).2.2.2.2]; omega
  · show ((gBring G2 b i Z).c a).n < _
    rw [(hcc a).1]
    rcases hp.B a ha with hB | rfl
    · have hc2 := hp.c a hB
      change G2.c a = G.c a at hc2
      rw [hc2]; exact h.nb a hB
    · rw [hp.n]; exact hk
  · have e' : (gBring G2 b i Z).y a = some (j, zs) := e
    rw [hy a] at e'
    split at e'
    · cases e'; exact hZ
    · rename_i hab
      have hB := (hp.B a ha).resolve_right hab
      have hya := hp.ya a hB
      change G2.y a = G.y a at hya
      rw [hya] at e'
      exact h.yl a hB j zs e'
  · show L.length ≤ room
    have := hL.length_eq
    simp at this
    omega
end
end Go.Proofs.YtnccklbnncaeoaaGreat
