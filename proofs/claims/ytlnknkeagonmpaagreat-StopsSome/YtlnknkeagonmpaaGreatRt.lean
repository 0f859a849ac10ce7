/- The document's store: Create. -/
import Derived.Test.YtlnknkeagonmpaaGreatRq
import Derived.Test.YtlnknkeagonmpaaGreatFl
namespace Go.Proofs.YtlnknkeagonmpaaGreat
open Go.RowKit

theorem hid {p : Prop} (h : p) : Hid p := h
/-- append onto a row of one's own of a slice that may be nil or not. -/
theorem wpList_append_any {P : Program} {w : World} {ops : Array Oper} {rest : List Oper} {o : Oper} {a : Act} {Q : Exit → Act → World → Prop} (hgd : o.guard = none) (s x : Operand) (t : TypeId)
    (ho : o.op = .call { callee := .builtin .append, args := #[s, x], argTypes := #[t, t] }) (base : Nat) (e : TypeId) (z : Value) (size bytes : Nat) (ht : P.underlying t = some (.slice e)) (hinfo : (P.info? e).map (fun i => (i.zero, i.size, i.bytes)) = some (some z, size, bytes)) (hzs : z.cells.size = size) (hsz : 0 < size)
    (v : Value) (n : Nat) (xs : List Value) (hs : a.eval s = v) (hown : w.ownsRow base e size v n xs)
    (ao : Option Addr) (m c : Nat) (news : List Value) (hx : a.eval x = .slice ao m c) (hnone : ao = none → m = 0 ∧ c = 0) (hl : news.length = m * size) (hnews : ∀ ad, ao = some ad → ∀ j u, news[j]? = some u → w.cell? (ad.add j) = some u) (h1 : ∀ u ∈ news, u.oneCell' = true)
    (h63 : n + m ≤ maxLen) (hbytes : (n + m) * bytes ≤ 140737488355328) (hbase : base ≤ w.heap.size)
    (h : ∀ v' w', w'.ownsRow base e size v' (n + m) (xs ++ news) → Kp (fun i => v.ownBlock = some i) w w' → (v'.ownBlock = v.ownBlock ∨ v'.ownBlock = some w.heap.size) → wpList P ops Q rest (a.put o.dst v') w') : wpList P ops Q (o :: rest) a w := by
  obtain ⟨i0, hi, hz0, hz1, hz2⟩ := info_parts hinfo
  cases ao with
  | none =>
    obtain ⟨hm0, hc⟩ := hnone rfl
    subst hm0 hc
    obtain rfl : news = [] := List.eq_nil_of_length_eq_zero (by simpa using hl)
    refine wpList_append_own_none hgd s x t ho base e i0 size ht hi v n xs hs hown hx (h v w ?_ (Kp.refl _ _) (.inl rfl))
    rw [Nat.add_zero, List.append_nil]
    exact hown
  | some ad =>
    refine wpList_append_own_at w hgd s x t ho base e i0 z size bytes ht hi hz0 hz1 hz2 hzs hsz v n xs hs hown ad m c news hx hl (hnews ad rfl) h1 h63 hbytes hbase ?_
    intro v' w' h2 h3 _ h4
    exact h v' w' h2 (Kp.of_grown h3 (fun i e => e.symm ▸ rfl)) h4
theorem Tryz.info75 : (Tryz.prog.info? 75).map (fun i => (i.zero, i.size, i.bytes)) = some (some (.agg #[.string ⟨#[]⟩, .string ⟨#[]⟩, .slice none 0 0]), 3, 56) := by kernel_rfl
theorem PSrc.kp {D F : Nat → Prop} {w w' : World} {v : Value} {ps : List (Nat × ByteArray)} (h : PSrc D w v ps) (k : Kp F w w') (hd : ∀ i, D i → ¬ F i) : PSrc D w' v ps := by
  obtain ⟨ao, cap, rfl, h1, h0, h2⟩ := h
  refine ⟨ao, cap, rfl, h1, h0, fun hp => ?_⟩
  obtain ⟨b, off, e, hb, hl, hc⟩ := h2 hp
  exact ⟨b, off, e, hb, Nat.lt_of_lt_of_le hl k.size, fun j u hu => kp_cell k (hc j u hu) (hd b hb)⟩
theorem PSrc.mono {D D' : Nat → Prop} {w : World} {v : Value} {ps : List (Nat × ByteArray)} (h : PSrc D w v ps) (hd : ∀ i, D i → D' i) : PSrc D' w v ps := by
  obtain ⟨ao, cap, rfl, h1, h0, h2⟩ := h
  refine ⟨ao, cap, rfl, h1, h0, fun hp => ?_⟩
  obtain ⟨b, off, e, hb, hl, hc⟩ := h2 hp
  exact ⟨b, off, e, hd b hb, hl, hc⟩
theorem ownsRow_mono {w : World} {base base' n size : Nat} {e : TypeId} {v : Value} {xs : List Value} (h : w.ownsRow base e size v n xs) (hb : base' ≤ base) : w.ownsRow base' e size v n xs := by
  refine ⟨h.1, ?_⟩
  rcases h.2 with h2 | ⟨g, cap, cur, rfl, h1, h2⟩
  · exact .inl h2
  · exact .inr ⟨g, cap, cur, rfl, Nat.le_trans hb h1, h2⟩
theorem ownsRow_kp {F : Nat → Prop} {w w' : World} {base n size : Nat} {e : TypeId} {v : Value} {xs : List Value} (h : w.ownsRow base e size v n xs) (k : Kp F w w') (hf : ∀ b, v.ownBlock = some b → ¬ F b) : w'.ownsRow base e size v n xs := by
  refine ⟨h.1, ?_⟩
  rcases h.2 with h2 | ⟨g, cap, cur, rfl, h1, h2, h3⟩
  · exact .inl h2
  · exact .inr ⟨g, cap, cur, rfl, h1, (k.block g (Array.getElem?_eq_some_iff.1 h2).1 (hf g rfl)).trans h2, h3⟩
section
variable {D : Nat → Prop} {w : World} {g : Nat} {fv : Value} {steps : Nat} {fs : List (Rf × Value)}
theorem Rs.kp (h : Rs D w g fv steps fs) {F : Nat → Prop} {w' : World} (k : Kp F w w') (hg : ¬ F g) (hv : ∀ b, fv.ownBlock = some b → ¬ F b) (hd : ∀ i, D i → ¬ F i) : Rs D w' g fv steps fs :=
  ⟨h.st.kp k hg, ownsRow_kp h.row k hv, fun x hx => (h.pc x hx).kp k hd, h.ng, h.dn, fun i hi => Nat.lt_of_lt_of_le (h.db i hi) k.size, h.sb, h.nf, h.np, h.pw, h.lb⟩
theorem Rs.vlt (h : Rs D w g fv steps fs) : ∀ b, fv.ownBlock = some b → b < w.heap.size := fun b hb => (h.row.lt b hb).2
theorem Rs.step (h : Rs D w g fv steps fs) (hs : steps < 1000000000) : Rs D (w.setCell ⟨g, 2, none⟩ (.int .i64 ((steps + 1 : Nat) : Int))) g fv (steps + 1) fs := by
  have k := kp_setCell w g 2 (.int .i64 ((steps + 1 : Nat) : Int)) (fun i => i = g) rfl
  refine ⟨h.st.set 2 _, ownsRow_kp h.row k (fun b hb e => h.ng (e ▸ hb)), fun x hx => (h.pc x hx).kp k (fun i hi => (h.dn i hi).1), h.ng, h.dn, fun i hi => Nat.lt_of_lt_of_le (h.db i hi) k.size, by omega, h.nf, h.np, h.pw, h.lb⟩
end
theorem rcs_append (a b : List (Rf × Value)) : rcs (a ++ b) = rcs a ++ rcs b := by simp [rcs]
theorem rcs_one {fs : List (Rf × Value)} (h : ∀ x ∈ fs, ∃ ao n c, x.2 = .slice ao n c) : ∀ u ∈ rcs fs, u.oneCell' = true := by
  intro u hu
  simp only [rcs, List.mem_flatMap] at hu
  obtain ⟨x, hx, hu⟩ := hu
  obtain ⟨ao, n, c, e⟩ := h x hx
  simp [e] at hu
  rcases hu with rfl | rfl | rfl <;> rfl
theorem rcs_take (fs : List (Rf × Value)) (k : Nat) : (rcs fs).take (k * 3) = rcs (fs.take k) := by
  induction fs generalizing k with
  | nil => simp [rcs]
  | cons f fs ih =>
    cases k with
    | zero => simp [rcs]
    | succ k =>
      have h1 : ∀ t : List (Rf × Value), rcs (f :: t) = .string f.1.name :: .string f.1.last :: f.2 :: rcs t := fun _ => rfl
      rw [show (k + 1) * 3 = k * 3 + 1 + 1 + 1 by omega, h1, List.take_succ_cons, List.take_succ_cons, List.take_succ_cons, List.take_succ_cons, h1, ih]
theorem rcs_drop (fs : List (Rf × Value)) (k : Nat) : (rcs fs).drop (k * 3) = rcs (fs.drop k) := by
  induction fs generalizing k with
  | nil => simp [rcs]
  | cons f fs ih =>
    cases k with
    | zero => simp [rcs]
    | succ k =>
      have h1 : ∀ t : List (Rf × Value), rcs (f :: t) = .string f.1.name :: .string f.1.last :: f.2 :: rcs t := fun _ => rfl
      rw [show (k + 1) * 3 = k * 3 + 1 + 1 + 1 by omega, h1, List.drop_succ_cons, List.drop_succ_cons, List.drop_succ_cons, List.drop_succ_cons, ih]
theorem Rs.made {D : Nat → Prop} {W w4 : World} {g : Nat} {fv v4 : Value} {steps k : Nat} {fs : List (Rf × Value)} {s : ByteArray} (h : Rs D W g fv steps fs) (K4 : Kp (fun _ => False) W w4) (hk : k ≤ fs.length) (hl : fs.length < 256)
    (R4 : w4.ownsRow W.heap.size 75 3 v4 (k + 1 + (fs.length - k)) (rcs (fs.take k) ++ [.string s, .string ⟨#[]⟩, .slice none 0 0] ++ rcs (fs.drop k))) :
    Rs D (w4.setCell ⟨g, 0, none⟩ v4) g v4 steps (fs.take k ++ (⟨s, ⟨#[]⟩, []⟩, .slice none 0 0) :: fs.drop k) := by
  have hg := h.st.lt
  have kk := kp_setCell w4 g 0 v4 (fun i => i = g) rfl
  have kg : Kp (fun i => i = g) W (w4.setCell ⟨g, 0, none⟩ v4) := (K4.mono (G := fun i => i = g) (fun _ _ h => h.elim)).trans kk (fun _ _ h => h)
  have hne : ∀ b, v4.ownBlock = some b → W.heap.size ≤ b := fun b hb => (R4.lt b hb).1
  have hlen : (fs.take k ++ ((⟨s, ⟨#[]⟩, []⟩, .slice none 0 0) : Rf × Value) :: fs.drop k).length = k + 1 + (fs.length - k) := by
    rw [List.length_append, List.length_cons, List.length_take, List.length_drop, Nat.min_eq_left hk]; omega
  have hin : ∀ x, x ∈ fs.take k ++ ((⟨s, ⟨#[]⟩, []⟩, .slice none 0 0) : Rf × Value) :: fs.drop k → x ∈ fs ∨ x = (⟨s, ⟨#[]⟩, []⟩, .slice none 0 0) := by
    intro x hx
    rcases List.mem_append.1 hx with h1 | h1
    · exact .inl (List.mem_of_mem_take h1)
    · rcases List.mem_cons.1 h1 with h1 | h1
      · exact .inr h1
      · exact .inl (List.mem_of_mem_drop h1)
  refine ⟨(h.st.kp K4 (fun h => h)).set 0 v4, ?_, fun x hx => ?_, fun e => ?_, fun i hi => ⟨(h.dn i hi).1, fun e => ?_⟩, fun i hi => Nat.lt_of_lt_of_le (h.db i hi) kg.size, h.sb, ?_, fun x hx => ?_, fun x hx => ?_, fun x hx => ?_⟩
  · rw [hlen]
    have e : rcs (fs.take k ++ ((⟨s, ⟨#[]⟩, []⟩, .slice none 0 0) : Rf × Value) :: fs.drop k) = rcs (fs.take k) ++ [.string s, .string ⟨#[]⟩, .slice none 0 0] ++ rcs (fs.drop k) := by
      simp [rcs]
    rw [e]
    exact ownsRow_kp (ownsRow_mono R4 (Nat.zero_le _)) kk (fun b hb e => by have := hne b hb; omega)
  · rcases hin x hx with h1 | rfl
    · exact (h.pc x h1).kp kg (fun i hi => (h.dn i hi).1)
    · exact ⟨none, 0, rfl, Nat.le_refl _, fun _ => rfl, fun h => absurd h (by simp)⟩
  · have := hne g e; omega
  · have h1 := hne i e
    have h2 := h.db i hi
    omega
  · rw [hlen]; omega
  · rcases hin x hx with h1 | rfl
    · exact h.np x h1
    · exact Nat.zero_le _
  · rcases hin x hx with h1 | rfl
    · exact h.pw x h1
    · intro p hp; simp at hp
  · rcases hin x hx with h1 | rfl
    · exact h.lb x h1
    · exact Nat.zero_le _
theorem Rs.tk {D : Nat → Prop} {w : World} {g b fc : Nat} {fv : Value} {steps : Nat} {fs : List (Rf × Value)} (h : Rs D w g fv steps fs) (hfv : fv = .slice (some ⟨b, 0, none⟩) fs.length fc) (k : Nat) : ∀ j u, (rcs (fs.take k))[j]? = some u → w.cell? ⟨b, j, none⟩ = some u := by
  intro j u hu
  rw [← rcs_take, List.getElem?_take] at hu
  split at hu
  · have := h.row.cells (g := b) (by rw [hfv]; rfl) j u hu
    rwa [add_z] at this
  · cases hu
theorem Rs.dr {D : Nat → Prop} {w : World} {g b fc : Nat} {fv : Value} {steps : Nat} {fs : List (Rf × Value)} (h : Rs D w g fv steps fs) (hfv : fv = .slice (some ⟨b, 0, none⟩) fs.length fc) (k : Nat) : ∀ j u, (rcs (fs.drop k))[j]? = some u → w.cell? ⟨b, (if fc = k then 0 else k * 3) + j, none⟩ = some u := by
  intro j u hu
  have hlt : k < fs.length := by
    by_cases h1 : k < fs.length
    · exact h1
    · rw [List.drop_of_length_le (by omega)] at hu
      simp [rcs] at hu
  have hcap : fs.length ≤ fc := by
    rcases h.row.2 with ⟨_, h1⟩ | ⟨g', cap, cur, e, h1, h2, h3, _⟩
    · omega
    · rw [hfv] at e
      simp only [Value.slice.injEq] at e
      omega
  rw [if_neg (by omega)]
  rw [← rcs_drop, List.getElem?_drop] at hu
  have := h.row.cells (g := b) (by rw [hfv]; rfl) _ u hu
  rwa [add_z] at this
set_option maxRecDepth 100000 in
set_option maxHeartbeats 1000000 in
theorem rcreate_err (s : ByteArray) (v : Value) (w : World) (e0 e1 i0 : Int) (hf : Calls Tryz.prog 51 #[v, .string s] w fun e w' => e = .returned (.tuple #[.int .i64 i0, .int .i64 e0]) ∧ w' = w) (he : e0 = 2 ∧ e1 = 2 ∨ e0 = 0 ∧ e1 = 8) :
    Calls Tryz.prog 24 #[v, .string s] w fun e w' => e = .returned (.int .i64 e1) ∧ w' = w := by
  have HF := hid hf
  clear hf
  rcases he with ⟨rfl, rfl⟩ | ⟨rfl, rfl⟩
  · go_enter Tryz.func24, Tryz.ntmps24
    go_wp2_with (first | (go_at_call 51; refine HF.out.mono ?_; rintro _ _ ⟨rfl, rfl⟩))
    go_ret
    exact ⟨rfl, rfl⟩
  · go_enter Tryz.func24, Tryz.ntmps24
    go_wp2_with (first | (go_at_call 51; refine HF.out.mono ?_; rintro _ _ ⟨rfl, rfl⟩))
    go_ret
    exact ⟨rfl, rfl⟩
set_option maxRecDepth 100000 in
set_option maxHeartbeats 1000000 in
theorem rcreate_full (D : Nat → Prop) (w : World) (g : Nat) (fv : Value) (steps : Nat) (fs : List (Rf × Value)) (h : Rs D w g fv steps fs) (s : ByteArray) (hn : nmd s = true) (hb : ∀ j, j < fs.length → rnm fs j ≠ s) (hl : 256 ≤ fs.length) :
    Calls Tryz.prog 24 #[.pointer (some ⟨g, 0, none⟩), .string s] w fun e w' => e = .returned (.int .i64 6) ∧ w' = w := by
  have HF := hid (rfind_none D w g fv steps fs h s hn hb)
  obtain ⟨fa, fc, hfv⟩ := ownsRow_shape h.row
  have c0 : w.cell? ⟨g, 0, none⟩ = some (.slice fa fs.length fc) := by rw [← hfv]; exact h.st.cell 0
  have hli : (256 : Int) ≤ (fs.length : Int) := by omega
  clear h hn hb
  go_enter Tryz.func24, Tryz.ntmps24
  go_wp2_with (first | (go_at_call 51; refine HF.out.mono ?_; rintro _ _ ⟨rfl, rfl⟩))
  go_ret
  exact ⟨rfl, rfl⟩
set_option maxRecDepth 100000 in
set_option maxHeartbeats 4000000 in
theorem rcreate_good (D : Nat → Prop) (w : World) (g : Nat) (fv : Value) (steps : Nat) (fs : List (Rf × Value)) (h : Rs D w g fv steps fs) (s : ByteArray) (hn : nmd s = true) (hb : ∀ j, j < fs.length → rnm fs j ≠ s) (hl : fs.length < 256) (hsb : steps < 1000000000) :
    Calls Tryz.prog 24 #[.pointer (some ⟨g, 0, none⟩), .string s] w fun e w' => e = .returned (.int .i64 0) ∧ ∃ fv' k, k ≤ fs.length ∧ (∀ j, j < k → Op.bytesLess (rnm fs j).toList s.toList = true) ∧ (k < fs.length → Op.bytesLess (rnm fs k).toList s.toList = false) ∧
      Rs D w' g fv' (steps + 1) (fs.take k ++ (⟨s, ⟨#[]⟩, []⟩, .slice none 0 0) :: fs.drop k) ∧ Kp (fun i => i = g) w w' ∧ ∀ b, fv'.ownBlock = some b → w.heap.size ≤ b := by
  have HF := hid (rfind_none D w g fv steps fs h s hn hb)
  obtain ⟨fa, fc, hfv⟩ := ownsRow_shape h.row
  have c0 : w.cell? ⟨g, 0, none⟩ = some (.slice fa fs.length fc) := by rw [← hfv]; exact h.st.cell 0
  have hli : ¬ (256 : Int) ≤ (fs.length : Int) := by omega
  have HR : Hid (Rs D w g fv steps fs) := h
  have hst := h.st
  have HS := hid hst
  clear h hn hb hst
  go_enter Tryz.func24, Tryz.ntmps24
  go_wp2_with (first | (go_at_call 51; refine HF.out.mono ?_; rintro _ _ ⟨rfl, hw⟩; replace hw := hw.symm; subst hw))
  refine (rstep_any fv g steps w HS.out (by omega)).mono ?_
  rintro _ _ ⟨rfl, rfl⟩
  have hr1 := HR.out.step hsb
  have k1 : Kp (fun i => i = g) w (w.setCell ⟨g, 2, none⟩ (.int .i64 ((steps + 1 : Nat) : Int))) := kp_setCell w g 2 _ (fun i => i = g) rfl
  generalize w.setCell ⟨g, 2, none⟩ (.int .i64 ((steps + 1 : Nat) : Int)) = W1 at hr1 k1 ⊢
  have HR1 := hid hr1
  have HK1 := hid k1
  have c1 : W1.cell? ⟨g, 0, none⟩ = some (.slice fa fs.length fc) := by rw [← hfv]; exact hr1.st.cell 0
  clear hr1 k1 HS HF c0 HR
  have HNO : Hid (∀ x ∈ fs, ∃ ao n c, x.2 = Value.slice ao n c) := fun x hx => by obtain ⟨ao, c, e, _⟩ := HR1.out.pc x hx; exact ⟨ao, _, c, e⟩
  go_wp2_with fail
  go_loop [9] (fun iv => ∃ k : Nat, k ≤ fs.length ∧ iv = .int .i64 k ∧ ∀ j, j < k → Op.bytesLess (rnm fs j).toList s.toList = true) (fun iv => fs.length - (intOf iv).toNat)
  case atStart => exact ⟨0, Nat.zero_le _, rfl, fun j hj => (by omega)⟩
  case round =>
    obtain ⟨k, hk, rfl, hj⟩ := hrel
    have HJ := hid hj
    clear hj
    have HCAP : Hid (∀ b, fa = some ⟨b, 0, none⟩ → fs.length ≤ fc) := by
      intro b e
      rcases HR1.out.row.2 with ⟨e1, h1⟩ | ⟨g', cap, cur, e1, h1, h2, h3, _⟩
      · omega
      · rw [hfv] at e1
        simp only [Value.slice.injEq] at e1
        omega
    by_cases hlt : k < fs.length
    · have hlk : (k : Int) < (fs.length : Int) := by omega
      obtain ⟨b, cap, hpe, hcs⟩ := HR1.out.cells (by omega)
      rw [hfv] at hpe
      obtain ⟨rfl, rfl⟩ : fa = some ⟨b, 0, none⟩ ∧ fc = cap := by
        simp only [Value.slice.injEq] at hpe; exact ⟨hpe.1, hpe.2.2⟩
      have hcap := HCAP.out b rfl
      clear HCAP
      have y0 := (hcs k hlt).1
      rw [Nat.zero_add] at y0
      have HNM : Hid (rnm fs k = (fs.getD k zrf).1.name) := rfl
      clear hcs hpe
      generalize (fs.getD k zrf).1.name = nm at *
      cases hbl : Op.bytesLess nm.toList s.toList
      rotate_left
      · go_wp2_with fail
        refine ⟨⟨k + 1, hlt, rfl, fun j hj => ?_⟩, by simp only [intOf]; omega⟩
        by_cases e : j = k
        · rw [e, HNM.out]; exact hbl
        · exact HJ.out j (by omega)
      · have HTK : Hid (∀ j u, (rcs (fs.take k))[j]? = some u → W1.cell? ⟨b, j, none⟩ = some u) := HR1.out.tk hfv k
        have HDR : ∀ W, Hid (Kp (fun _ => False) W1 W) → ∀ j u, (rcs (fs.drop k))[j]? = some u → W.cell? ⟨b, (if fc = k then 0 else k * 3) + j, none⟩ = some u := fun W hW j u hu => kp_cell hW.out (HR1.out.dr hfv k j u hu) (fun h => h)
        have hz1 := HK1.out.size
        have g1lt := HR1.out.st.lt
        go_wp2_with (first
         | (at_builtin; refine wpList_append_any rfl (.const (.slice none 0 0)) (.tmp 62) 65 rfl W1.heap.size 75 (.agg #[.string ⟨#[]⟩, .string ⟨#[]⟩, .slice none 0 0]) 3 56 Tryz.underlying65 Tryz.info75 rfl (by decide) (.slice none 0 0) 0 [] rfl (World.ownsRow_nil _ _ _ _) (some ⟨b, 0, none⟩) k fc (rcs (fs.take k)) (by first | rfl | simp [Act.eval]) (fun h => by cases h) (by rw [rcs_len, List.length_take, Nat.min_eq_left hk]) (fun ad e j u hu => by (cases e; rw [add_z]; exact HTK.out j u hu)) (rcs_one (fun x hx => HNO.out x (List.mem_of_mem_take hx))) (by unfold maxLen; omega) (by omega) (Nat.le_refl _) ?_; intro v2 w2 r2 k2 l2; rw [Nat.zero_add, List.nil_append] at r2; have R2 := hid r2; have K2 : Hid (Kp (fun _ => False) W1 w2) := k2.mono (fun i _ e => by cases e); have st2 := HR1.out.st.kp K2.out (fun h => h); have c2 : w2.cell? ⟨g, 0, none⟩ = some fv := st2.cell 0; rw [hfv] at c2; have hz2 := K2.out.size; have X2 := hid (St.new 75 w2 #[.string s, .string ⟨#[]⟩, .slice none 0 0]); have L2 := hid l2; clear r2 k2 l2 st2)
         | (at_builtin; refine wpList_append_any rfl (.tmp 64) (.tmp 67) 65 rfl W1.heap.size 75 (.agg #[.string ⟨#[]⟩, .string ⟨#[]⟩, .slice none 0 0]) 3 56 Tryz.underlying65 Tryz.info75 rfl (by decide) v2 k (rcs (fs.take k)) rfl (R2.out.alloc _) (some ⟨w2.heap.size, 0, none⟩) 1 1 [.string s, .string ⟨#[]⟩, .slice none 0 0] (by first | rfl | simp [Act.eval]) (fun h => by cases h) rfl (fun ad e j u hu => by (cases e; rw [add_z, X2.out.cell]; simpa using hu)) (fun u hu => by (simp at hu; rcases hu with rfl | rfl | rfl <;> rfl)) (by unfold maxLen; omega) (by omega) (by simp; omega) ?_; intro v3 w3 r3 k3 l3; have K3 : Hid (Kp (fun _ => False) W1 w3) := (K2.out.alloc _).trans k3 (fun i hi e => by have := (R2.out.lt i e).1; omega); have R3 := hid r3; have L3 := hid l3; have st3 := HR1.out.st.kp K3.out (fun h => h); have c3 : w3.cell? ⟨g, 0, none⟩ = some fv := st3.cell 0; rw [hfv] at c3; have hz3 := K3.out.size; clear r3 k3 l3 st3 c2)
         | (at_builtin; refine wpList_append_any rfl (.tmp 70) (.tmp 76) 65 rfl W1.heap.size 75 (.agg #[.string ⟨#[]⟩, .string ⟨#[]⟩, .slice none 0 0]) 3 56 Tryz.underlying65 Tryz.info75 rfl (by decide) v3 (k + 1) _ rfl R3.out (some ⟨b, k * 3, none⟩) (fs.length - k) (fc - k) (rcs (fs.drop k)) (by first | rfl | (simp [Act.eval]; done) | (simp [Act.eval]; split <;> simp_all)) (fun h => by cases h) (by rw [rcs_len, List.length_drop]) (fun ad e j u hu => by (cases e; rw [add_o]; have := HDR w3 K3 j u hu; rwa [if_neg (by omega)] at this)) (rcs_one (fun x hx => HNO.out x (List.mem_of_mem_drop hx))) (by unfold maxLen; omega) (by omega) (by omega) ?_; intro v4 w4 r4 k4 l4; have K4 : Hid (Kp (fun _ => False) W1 w4) := K3.out.trans k4 (fun i hi e => by have := (R3.out.lt i e).1; omega); obtain ⟨a4, c4, hv4⟩ := ownsRow_shape r4; subst hv4; have R4 := hid r4; have L4 := hid l4; have st4 := HR1.out.st.kp K4.out (fun h => h); have f4 := st4.frozen 0; have c4g : w4.cell? ⟨g, 0, none⟩ = some fv := st4.cell 0; rw [hfv] at c4g; have hz4 := K4.out.size; have h4lt : g < w4.heap.size := (by omega); clear r4 k4 l4 st4 c3))
        all_goals go_ret
        all_goals exact ⟨rfl, _, k, hk, HJ.out, fun _ => by rw [HNM.out]; exact hbl, HR1.out.made K4.out hk hl R4.out, (HK1.out.trans K4.out (fun _ _ h => h.elim)).trans (kp_setCell _ _ _ _ (fun i => i = g) rfl) (fun _ _ h => h), fun b hb => by have := (R4.out.lt b hb).1; omega⟩
    · have hlk : ¬ (k : Int) < (fs.length : Int) := by omega
      rcases HR1.out.row.2 with ⟨e1, h1⟩ | ⟨b, cap, cur, e1, h1, h2, h3, h4, _⟩
      · rw [hfv] at e1
        obtain ⟨rfl, rfl⟩ : fa = none ∧ fc = 0 := by simp only [Value.slice.injEq] at e1; exact ⟨e1.1, e1.2.2⟩
        clear HCAP e1
        have hz1 := HK1.out.size
        have g1lt := HR1.out.st.lt
        go_wp2_with (first
         | (at_builtin; refine wpList_append_any rfl (.const (.slice none 0 0)) (.tmp 62) 65 rfl W1.heap.size 75 (.agg #[.string ⟨#[]⟩, .string ⟨#[]⟩, .slice none 0 0]) 3 56 Tryz.underlying65 Tryz.info75 rfl (by decide) (.slice none 0 0) 0 [] rfl (World.ownsRow_nil _ _ _ _) none k 0 (rcs (fs.take k)) (by first | rfl | simp [Act.eval]) (fun _ => ⟨by omega, rfl⟩) (by rw [rcs_len, List.length_take, Nat.min_eq_left hk]) (fun ad e => by cases e) (rcs_one (fun x hx => HNO.out x (List.mem_of_mem_take hx))) (by unfold maxLen; omega) (by omega) (Nat.le_refl _) ?_; intro v2 w2 r2 k2 l2; rw [Nat.zero_add, List.nil_append] at r2; have R2 := hid r2; have K2 : Hid (Kp (fun _ => False) W1 w2) := k2.mono (fun i _ e => by cases e); have st2 := HR1.out.st.kp K2.out (fun h => h); have c2 : w2.cell? ⟨g, 0, none⟩ = some fv := st2.cell 0; rw [hfv] at c2; have hz2 := K2.out.size; have X2 := hid (St.new 75 w2 #[.string s, .string ⟨#[]⟩, .slice none 0 0]); have L2 := hid l2; clear r2 k2 l2 st2)
         | (at_builtin; refine wpList_append_any rfl (.tmp 64) (.tmp 67) 65 rfl W1.heap.size 75 (.agg #[.string ⟨#[]⟩, .string ⟨#[]⟩, .slice none 0 0]) 3 56 Tryz.underlying65 Tryz.info75 rfl (by decide) v2 k (rcs (fs.take k)) rfl (R2.out.alloc _) (some ⟨w2.heap.size, 0, none⟩) 1 1 [.string s, .string ⟨#[]⟩, .slice none 0 0] (by first | rfl | simp [Act.eval]) (fun h => by cases h) rfl (fun ad e j u hu => by (cases e; rw [add_z, X2.out.cell]; simpa using hu)) (fun u hu => by (simp at hu; rcases hu with rfl | rfl | rfl <;> rfl)) (by unfold maxLen; omega) (by omega) (by simp; omega) ?_; intro v3 w3 r3 k3 l3; have K3 : Hid (Kp (fun _ => False) W1 w3) := (K2.out.alloc _).trans k3 (fun i hi e => by have := (R2.out.lt i e).1; omega); have R3 := hid r3; have L3 := hid l3; have st3 := HR1.out.st.kp K3.out (fun h => h); have c3 : w3.cell? ⟨g, 0, none⟩ = some fv := st3.cell 0; rw [hfv] at c3; have hz3 := K3.out.size; clear r3 k3 l3 st3 c2)
         | (at_builtin; refine wpList_append_any rfl (.tmp 70) (.tmp 76) 65 rfl W1.heap.size 75 (.agg #[.string ⟨#[]⟩, .string ⟨#[]⟩, .slice none 0 0]) 3 56 Tryz.underlying65 Tryz.info75 rfl (by decide) v3 (k + 1) _ rfl R3.out none 0 0 (rcs (fs.drop k)) (by first | rfl | (simp [Act.eval]; done) | (simp [Act.eval]; split <;> simp_all)) (fun _ => ⟨rfl, rfl⟩) (by rw [rcs_len, List.length_drop]; omega) (fun ad e => by cases e) (rcs_one (fun x hx => HNO.out x (List.mem_of_mem_drop hx))) (by unfold maxLen; omega) (by omega) (by omega) ?_; intro v4 w4 r4 k4 l4; rw [Nat.add_zero] at r4; have K4 : Hid (Kp (fun _ => False) W1 w4) := K3.out.trans k4 (fun i hi e => by have := (R3.out.lt i e).1; omega); obtain ⟨a4, c4, hv4⟩ := ownsRow_shape r4; subst hv4; have R4 := hid r4; have L4 := hid l4; have st4 := HR1.out.st.kp K4.out (fun h => h); have f4 := st4.frozen 0; have c4g : w4.cell? ⟨g, 0, none⟩ = some fv := st4.cell 0; rw [hfv] at c4g; have hz4 := K4.out.size; have h4lt : g < w4.heap.size := (by omega); clear r4 k4 l4 st4 c3))
        go_ret
        have r5 : w4.ownsRow W1.heap.size 75 3 (Value.slice a4 (k + 1) c4) (k + 1 + (fs.length - k)) (rcs (fs.take k) ++ [.string s, .string ⟨#[]⟩, .slice none 0 0] ++ rcs (fs.drop k)) := by
          have := R4.out
          rwa [show k + 1 + (fs.length - k) = k + 1 by omega]
        have hm := HR1.out.made K4.out hk hl r5
        have e1 : fs.take k ++ ((⟨s, ⟨#[]⟩, []⟩, .slice none 0 0) : Rf × Value) :: fs.drop k = (⟨s, ⟨#[]⟩, []⟩, .slice none 0 0) :: fs := by
          rw [show k = 0 by omega]; rfl
        rw [e1] at hm
        exact ⟨rfl, _, hm, (HK1.out.trans K4.out (fun _ _ h => h.elim)).trans (kp_setCell _ _ _ _ (fun i => i = g) rfl) (fun _ _ h => h), fun b hb => by have := (R4.out.lt b hb).1; omega⟩
      · rw [hfv] at e1
        obtain ⟨rfl, rfl⟩ : fa = some ⟨b, 0, none⟩ ∧ fc = cap := by simp only [Value.slice.injEq] at e1; exact ⟨e1.1, e1.2.2⟩
        clear HCAP e1 h1 h2
        have HTK : Hid (∀ j u, (rcs (fs.take k))[j]? = some u → W1.cell? ⟨b, j, none⟩ = some u) := HR1.out.tk hfv k
        have HDR : ∀ W, Hid (Kp (fun _ => False) W1 W) → ∀ j u, (rcs (fs.drop k))[j]? = some u → W.cell? ⟨b, (if fc = k then 0 else k * 3) + j, none⟩ = some u := fun W hW j u hu => kp_cell hW.out (HR1.out.dr hfv k j u hu) (fun h => h)
        have hz1 := HK1.out.size
        have g1lt := HR1.out.st.lt
        go_wp2_with (first
         | (at_builtin; refine wpList_append_any rfl (.const (.slice none 0 0)) (.tmp 62) 65 rfl W1.heap.size 75 (.agg #[.string ⟨#[]⟩, .string ⟨#[]⟩, .slice none 0 0]) 3 56 Tryz.underlying65 Tryz.info75 rfl (by decide) (.slice none 0 0) 0 [] rfl (World.ownsRow_nil _ _ _ _) (some ⟨b, 0, none⟩) k fc (rcs (fs.take k)) (by first | rfl | simp [Act.eval]) (fun h => by cases h) (by rw [rcs_len, List.length_take, Nat.min_eq_left hk]) (fun ad e j u hu => by (cases e; rw [add_z]; exact HTK.out j u hu)) (rcs_one (fun x hx => HNO.out x (List.mem_of_mem_take hx))) (by unfold maxLen; omega) (by omega) (Nat.le_refl _) ?_; intro v2 w2 r2 k2 l2; rw [Nat.zero_add, List.nil_append] at r2; have R2 := hid r2; have K2 : Hid (Kp (fun _ => False) W1 w2) := k2.mono (fun i _ e => by cases e); have st2 := HR1.out.st.kp K2.out (fun h => h); have c2 : w2.cell? ⟨g, 0, none⟩ = some fv := st2.cell 0; rw [hfv] at c2; have hz2 := K2.out.size; have X2 := hid (St.new 75 w2 #[.string s, .string ⟨#[]⟩, .slice none 0 0]); have L2 := hid l2; clear r2 k2 l2 st2)
         | (at_builtin; refine wpList_append_any rfl (.tmp 64) (.tmp 67) 65 rfl W1.heap.size 75 (.agg #[.string ⟨#[]⟩, .string ⟨#[]⟩, .slice none 0 0]) 3 56 Tryz.underlying65 Tryz.info75 rfl (by decide) v2 k (rcs (fs.take k)) rfl (R2.out.alloc _) (some ⟨w2.heap.size, 0, none⟩) 1 1 [.string s, .string ⟨#[]⟩, .slice none 0 0] (by first | rfl | simp [Act.eval]) (fun h => by cases h) rfl (fun ad e j u hu => by (cases e; rw [add_z, X2.out.cell]; simpa using hu)) (fun u hu => by (simp at hu; rcases hu with rfl | rfl | rfl <;> rfl)) (by unfold maxLen; omega) (by omega) (by simp; omega) ?_; intro v3 w3 r3 k3 l3; have K3 : Hid (Kp (fun _ => False) W1 w3) := (K2.out.alloc _).trans k3 (fun i hi e => by have := (R2.out.lt i e).1; omega); have R3 := hid r3; have L3 := hid l3; have st3 := HR1.out.st.kp K3.out (fun h => h); have c3 : w3.cell? ⟨g, 0, none⟩ = some fv := st3.cell 0; rw [hfv] at c3; have hz3 := K3.out.size; clear r3 k3 l3 st3 c2)
         | (at_builtin; refine wpList_append_any rfl (.tmp 70) (.tmp 76) 65 rfl W1.heap.size 75 (.agg #[.string ⟨#[]⟩, .string ⟨#[]⟩, .slice none 0 0]) 3 56 Tryz.underlying65 Tryz.info75 rfl (by decide) v3 (k + 1) _ rfl R3.out (some ⟨b, if fc = k then 0 else k * 3, none⟩) (fs.length - k) (fc - k) (rcs (fs.drop k)) (by first | rfl | (simp [Act.eval]; done) | (simp [Act.eval]; split <;> simp_all)) (fun h => by cases h) (by rw [rcs_len, List.length_drop]) (fun ad e j u hu => by (cases e; rw [add_o]; exact HDR w3 K3 j u hu)) (rcs_one (fun x hx => HNO.out x (List.mem_of_mem_drop hx))) (by unfold maxLen; omega) (by omega) (by omega) ?_; intro v4 w4 r4 k4 l4; have K4 : Hid (Kp (fun _ => False) W1 w4) := K3.out.trans k4 (fun i hi e => by have := (R3.out.lt i e).1; omega); obtain ⟨a4, c4, hv4⟩ := ownsRow_shape r4; subst hv4; have R4 := hid r4; have L4 := hid l4; have st4 := HR1.out.st.kp K4.out (fun h => h); have f4 := st4.frozen 0; have c4g : w4.cell? ⟨g, 0, none⟩ = some fv := st4.cell 0; rw [hfv] at c4g; have hz4 := K4.out.size; have h4lt : g < w4.heap.size := (by omega); clear r4 k4 l4 st4 c3))
        all_goals go_ret
        all_goals exact ⟨rfl, _, k, hk, HJ.out, fun h => absurd h hlt, HR1.out.made K4.out hk hl R4.out, (HK1.out.trans K4.out (fun _ _ h => h.elim)).trans (kp_setCell _ _ _ _ (fun i => i = g) rfl) (fun _ _ h => h), fun b hb => by have := (R4.out.lt b hb).1; omega⟩
end Go.Proofs.YtlnknkeagonmpaaGreat
