/- later: Push and Pop of a line. -/
import Derived.Test.YtgfondgejimkkaaLs
namespace Go.Proofs.Ytgfondgejimkkaa
open Go.RowKit
set_option linter.unusedVariables false
theorem own_short {w : World} {base g n cap : Nat} {z : Value} {xs : List Value} {t : TypeId} (h : w.ownsRow base t 1 (.slice (some ⟨g, 0, none⟩) (n + 1) cap) (n + 1) (xs ++ [z])) (hx : xs.length = n) : w.ownsRow base t 1 (.slice (some ⟨g, 0, none⟩) n cap) n xs := by
  refine ⟨by simpa using hx, ?_⟩
  rcases h.2 with ⟨e, h0⟩ | ⟨g', cap', cur, e, h1, h2, h3, h4, h5, h6⟩
  · omega
  · cases e
    refine .inr ⟨g, cap, cur, rfl, h1, h2, by omega, h4, h5, ?_⟩
    have := congrArg (List.take n) h6
    rw [List.take_take, List.take_left' hx] at this
    rw [← this]
    congr 1
    omega
set_option maxHeartbeats 4000000 in
set_option maxRecDepth 100000 in
theorem pop_any (c : Nat → Rn) (w : World) (base B : Nat) (v : Value) (M : List Nat) (b : Nat) (h : Ln c w base B v (M ++ [b])) (hM : M.length < 4611686018427387904) :
    Calls Try.prog 109 #[ptr B] w fun e w' => e = .returned (.iface 74 (ptr b)) ∧ ∃ v', Ln c w' base B v' M ∧ v'.ownBlock = v.ownBlock ∧ Kp (fun k => k = B ∨ v.ownBlock = some k) w w' ∧ ∃ s, Wt c w' b s := by
  obtain ⟨g, cap, rfl, hb, hgl, hc1, hc2, hcells, hfr⟩ := h.row (by simp)
  have hl : (M ++ [b]).length = M.length + 1 := by simp
  have HO := hid h.own
  rw [hl] at hc1 hcells h HO ⊢
  have hgn := h.ne g rfl
  have h1 := h.st.cell 0
  have cb := hcells M.length (by omega)
  have fg := hfr M.length
  rw [show (M ++ [b]).getD M.length 0 = b by simp] at cb
  simp at h1
  have hm2 : cap ≤ 9223372036854775807 := by unfold maxLen at hc2; omega
  have hib : b ∈ M ++ [b] := by simp
  obtain ⟨sb, hsb⟩ := h.wt hib
  have hbB : b ≠ B := fun e => h.nb (e ▸ hib)
  have kg := kp_setCell w g M.length (.pointer none) (fun k => k = g) rfl
  have SB := hid (h.st.kp kg (Ne.symm hgn.1))
  have d1 : (w.setCell ⟨g, M.length, none⟩ (.pointer none)).cell? ⟨B, 0, none⟩ = some (.slice (some ⟨g, 0, none⟩) (M.length + 1) cap) := SB.out.cell 0
  have f1 : (w.setCell ⟨g, M.length, none⟩ (.pointer none)).frozen? ⟨B, 0, none⟩ = false := SB.out.frozen 0
  have KG := hid kg
  have HH := hid h
  have HW := hid hsb
  have HN := hid hgn
  clear h kg hsb hgn hcells hfr
  unfold ptr at *
  go_enter Try.func109, Try.ntmps109
  go_wp2
  go_ret
  refine ⟨rfl, .slice (some ⟨g, 0, none⟩) M.length cap, ?_, rfl, ?_, ?_⟩
  · have hg := HN.out
    obtain ⟨o1, _⟩ := HO.out.stored M.length (.pointer none)
    have o2 : (w.setCell ⟨g, M.length, none⟩ (.pointer none)).ownsRow base 74 1 (.slice (some ⟨g, 0, none⟩) M.length cap) M.length (M.map ptr) := by
      refine own_short (z := .pointer none) ?_ (by simp)
      have e : ((M ++ [b]).map ptr).set M.length (.pointer none) = M.map ptr ++ [.pointer none] := by simp
      rw [← e]
      exact o1
    have kB := kp_setCell (w.setCell ⟨g, M.length, none⟩ (.pointer none)) B 0 (.slice (some ⟨g, 0, none⟩) M.length cap) (fun k => k = B) rfl
    refine ⟨by simpa using SB.out.set 0 (.slice (some ⟨g, 0, none⟩) M.length cap), own_kp o2 kB (fun g' e => by simp [Value.ownBlock] at e; omega), fun i hi => ?_, fun x hx => HH.out.may x (by simp [hx])⟩
    have ht := HH.out.tr i (by simp; omega)
    have he : (M ++ [b]).getD i 0 = M.getD i 0 := by simp [List.getD, List.getElem?_append_left hi]
    rw [he] at ht
    have hm : M.getD i 0 ∈ M ++ [b] := List.mem_append_left _ (gn_mem hi)
    exact (ht.kp KG.out (fun e => hg.2 (e ▸ hm))).kp kB (fun e => HH.out.nb (e ▸ hm))
  · exact (KG.out.mono (G := fun k => k = B ∨ (Value.slice (some ⟨g, 0, none⟩) (M.length + 1) cap).ownBlock = some k) (fun k _ e => .inr (by rw [e]; rfl))).trans (kp_setCell _ B 0 _ (fun k => k = B) rfl) (fun k _ e => .inl e)
  · exact ⟨sb, (HW.out.kp KG.out (fun e => HN.out.2 (e ▸ hib))).kp (kp_setCell _ B 0 _ (fun k => k = B) rfl) hbB⟩
/-- append onto a row of one's own of a slice that may be nil or not. -/
theorem wpList_append_any {P : Program} {w : World} {ops : Array Oper} {rest : List Oper} {o : Oper} {a : Act} {Q : Exit → Act → World → Prop} (hgd : o.guard = none) (s x : Operand) (t : TypeId)
    (ho : o.op = .call { callee := .builtin .append, args := #[s, x], argTypes := #[t, t] }) (base : Nat) (e : TypeId) (z : Value) (size bytes : Nat) (ht : P.underlying t = some (.slice e)) (hinfo : (P.info? e).map (fun i => (i.zero, i.size, i.bytes)) = some (some z, size, bytes)) (hzs : z.cells.size = size) (hsz : 0 < size)
    (v : Value) (n : Nat) (xs : List Value) (hs : a.eval s = v) (hown : w.ownsRow base e size v n xs)
    (ao : Option Addr) (m c : Nat) (news : List Value) (hx : a.eval x = .slice ao m c) (hnone : ao = none → m = 0 ∧ c = 0) (hl : news.length = m * size) (hnews : ∀ ad, ao = some ad → ∀ j u, news[j]? = some u → w.cell? (ad.add j) = some u) (h1 : ∀ u ∈ news, u.oneCell' = true)
    (h63 : n + m ≤ maxLen) (hbytes : (n + m) * bytes ≤ 140737488355328) (hbase : base ≤ w.heap.size)
    (h : ∀ v' w', w'.ownsRow base e size v' (n + m) (xs ++ news) → Kp (fun i => v.ownBlock = some i) w w' → (v'.ownBlock = v.ownBlock ∨ v'.ownBlock = some w.heap.size) → wpList P ops Q rest (a.put o.dst v') w') : wpList P ops Q (o :: rest) a w := by
  obtain ⟨i0, hi, hz0, hz1, hz2⟩ := info_parts hinfo
  cases ao with
  | none =>
    obtain ⟨hm0, hc⟩ := hnone rfl
    subst hm0 hc
    obtain rfl : news = [] := List.eq_nil_of_length_eq_zero (by simpa using hl)
    refine wpList_append_own_none hgd s x t ho base e i0 size ht hi v n xs hs hown hx (h v w ?_ (Kp.refl _ _) (.inl rfl))
    rw [Nat.add_zero, List.append_nil]
    exact hown
  | some ad =>
    refine wpList_append_own_at w hgd s x t ho base e i0 z size bytes ht hi hz0 hz1 hz2 hzs hsz v n xs hs hown ad m c news hx hl (hnews ad rfl) h1 h63 hbytes hbase ?_
    intro v' w' h2 h3 _ h4
    exact h v' w' h2 (Kp.of_grown h3 (fun i e => e.symm ▸ rfl)) h4
theorem Try.info74 : (Try.prog.info? 74).map (fun i => (i.zero, i.size, i.bytes)) = some (some (.pointer none), 1, 8) := by kernel_rfl
theorem is_waits (b : Nat) (w : World) : Sem.run Try.prog (Instr.typeAssert (.iface 74 (.pointer (some ⟨b, 0, none⟩))) 20 74 false) w = .ok (.pointer (some ⟨b, 0, none⟩)) w := by kernel_rfl
theorem own_slice {w : World} {base n : Nat} {v : Value} {xs : List Value} (h : w.ownsRow base 74 1 v (n + 1) xs) : ∃ g cap, v = .slice (some ⟨g, 0, none⟩) (n + 1) cap := by
  rcases h.2 with ⟨_, h0⟩ | ⟨g, cap, cur, rfl, _⟩
  · omega
  · exact ⟨g, cap, rfl⟩
/-- What a push leaves. -/
structure Pushed (c : Nat → Rn) (w w' : World) (base B b : Nat) (v v' : Value) (L : List Nat) : Prop where
  ln : Ln c w' base B v' L
  own : v'.ownBlock = v.ownBlock ∨ ∃ g, v'.ownBlock = some g ∧ w.heap.size ≤ g
  kp : Kp (fun k => k = B ∨ v.ownBlock = some k ∨ k = b) w w'
theorem push_parts (c : Nat → Rn) (w w2 : World) (base B : Nat) (v v2 : Value) (L : List Nat) (b s : Nat) (o : Obj) (h : Ln c w base B v L) (hb : Wt c w b s) (hm : Mayr (c b)) (hbL : b ∉ L)
    (O2 : w2.ownsRow base 74 1 v2 (L.length + 1) (L.map ptr ++ [ptr b])) (K2 : Kp (fun i => v.ownBlock = some i) ((w.setCell ⟨b, 2, none⟩ (.int .i64 (L.length : Int))).alloc o) w2) (L2 : v2.ownBlock = v.ownBlock ∨ v2.ownBlock = some ((w.setCell ⟨b, 2, none⟩ (.int .i64 (L.length : Int))).alloc o).heap.size) : Pushed c w (w2.setCell ⟨B, 0, none⟩ v2) base B b v v2 (L ++ [b]) := by
  have kb := kp_setCell w b 2 (.int .i64 (L.length : Int)) (fun k => k = b) rfl
  have hbB : b ≠ B := fun e => by subst e; exact apart_types h.st hb (by decide)
  have hbv : v.ownBlock ≠ some b := fun e => by obtain ⟨cur, hg, _⟩ := ownb h.own e; exact apart_types hg hb (by decide)
  have wb : Wt c (w.setCell ⟨b, 2, none⟩ (.int .i64 (L.length : Int))) b L.length := St.set hb 2 (.int .i64 (L.length : Int))
  have K1 : Kp (fun i => v.ownBlock = some i) (w.setCell ⟨b, 2, none⟩ (.int .i64 (L.length : Int))) w2 := ((Kp.refl _ _).alloc o).trans K2 (fun _ _ h => h)
  have hln : Ln c (w.setCell ⟨b, 2, none⟩ (.int .i64 (L.length : Int))) base B v L := h.kp kb (Ne.symm hbB) (fun g e e2 => hbv (e2 ▸ e)) (fun x hx e => hbL (e ▸ hx))
  have S2 := hln.st.kp K1 (fun e => (hln.ne _ e).1 rfl)
  have wb2 := wb.kp K1 hbv
  have kB := kp_setCell w2 B 0 v2 (fun k => k = B) rfl
  have hnB : v2.ownBlock ≠ some B := fun e => by obtain ⟨cur, hg, _⟩ := ownb O2 e; exact apart_types hg S2 (by decide)
  have hsz : ((w.setCell ⟨b, 2, none⟩ (.int .i64 (L.length : Int))).alloc o).heap.size = w.heap.size + 1 := by simp
  refine ⟨⟨by simpa using S2.set 0 v2, ?_, fun i hi => ?_, fun x hx => ?_⟩, ?_, ?_⟩
  · have h3 : w2.ownsRow base 74 1 v2 (L ++ [b]).length ((L ++ [b]).map ptr) := by simpa using O2
    exact own_kp h3 kB (fun g e e2 => hnB (e2 ▸ e))
  · rw [List.length_append, List.length_singleton] at hi
    by_cases e : i = L.length
    · subst e
      rw [show (L ++ [b]).getD L.length 0 = b by simp]
      exact wb2.kp kB hbB
    · have hi2 : i < L.length := by omega
      rw [show (L ++ [b]).getD i 0 = L.getD i 0 by simp [List.getD, List.getElem?_append_left hi2]]
      exact ((hln.tr i hi2).kp K1 (fun e => (hln.ne _ e).2 (gn_mem hi2))).kp kB (fun e => h.nb (e ▸ gn_mem hi2))
  · rcases List.mem_append.1 hx with hx | hx
    · exact h.may x hx
    · simp at hx; rw [hx]; exact hm
  · rcases L2 with e2 | e2
    · exact .inl e2
    · exact .inr ⟨_, e2, by omega⟩
  · exact ((kb.mono (G := fun k => k = B ∨ v.ownBlock = some k ∨ k = b) (fun _ _ h => .inr (.inr h))).trans K1 (fun _ _ h => .inr (.inl h))).trans kB (fun _ _ h => .inl h)
set_option maxHeartbeats 4000000 in
set_option maxRecDepth 100000 in
theorem push_any (c : Nat → Rn) (w : World) (base B : Nat) (v : Value) (L : List Nat) (b s : Nat) (h : Ln c w base B v L) (hb : Wt c w b s) (hm : Mayr (c b)) (hbL : b ∉ L) (hbase : base ≤ w.heap.size) (hL : L.length < 17592186044415) :
    Calls Try.prog 110 #[ptr B, .iface 74 (ptr b)] w fun e w' => e = .returned (.tuple #[]) ∧ ∃ v', Pushed c w w' base B b v v' (L ++ [b]) := by
  have hbB : b ≠ B := fun e => by subst e; exact apart_types h.st hb (by decide)
  have hbv : v.ownBlock ≠ some b := fun e => by obtain ⟨cur, hg, _⟩ := ownb h.own e; exact apart_types hg hb (by decide)
  have kb := kp_setCell w b 2 (.int .i64 (L.length : Int)) (fun k => k = b) rfl
  have hln := hid (h.kp kb (Ne.symm hbB) (fun g e e2 => hbv (e2 ▸ e)) (fun x hx e => hbL (e ▸ hx)))
  obtain ⟨ao, cap, hv, _⟩ := h.len
  subst hv
  have h1 : w.cell? ⟨B, 0, none⟩ = some (.slice ao L.length cap) := h.st.cell 0
  have y2 : w.cell? ⟨b, 2, none⟩ = some (.int .i64 (s : Int)) := St.cell hb 2
  have f2 : w.frozen? ⟨b, 2, none⟩ = false := St.frozen hb 2
  have hbl := hb.lt
  have z1 : (w.setCell ⟨b, 2, none⟩ (.int .i64 (L.length : Int))).cell? ⟨B, 0, none⟩ = some (.slice ao L.length cap) := hln.out.st.cell 0
  have HH := hid h
  have HB := hid hb
  have HM := hid hm
  have mT := is_waits b
  clear h hb kb
  unfold ptr at *
  go_enter Try.func110, Try.ntmps110
  generalize hC2 : Code.region 2 _ _ = C2
  go_wp2_with fail
  subst hC2
  obtain ⟨W1, hW⟩ : ∃ W1, W1 = w.setCell ⟨b, 2, none⟩ (.int .i64 (L.length : Int)) := ⟨_, rfl⟩
  have hsz : W1.heap.size = w.heap.size := by rw [hW]; simp
  rw [← hW] at z1 hln ⊢
  have HWW := hid hW
  clear hW
  go_wp2_with (first
    | (at_builtin; refine wpList_append_any rfl (.tmp 19) (.tmp 21) 66 rfl base 74 (.pointer none) 1 8 Try.underlying66 Try.info74 rfl (by decide) _ L.length (L.map ptr) rfl (hln.out.own.alloc _) (some ⟨W1.heap.size, 0, none⟩) 1 1 [ptr b] (by first | rfl | simp [Act.eval]) (fun h => by cases h) rfl (fun ad e j u hu => by (cases e; rw [add_z]; exact ((St.new 74 W1 #[ptr b]).cell j).trans (by simpa using hu))) (fun u hu => by (simp at hu; subst hu; rfl)) (by unfold maxLen; omega) (by omega) (by simp; omega) ?_; intro v2 w2 O2 K2 L2; obtain ⟨g2, cap2, hv2⟩ := own_slice O2; subst hv2; have S2 := (hln.out.st.kp (Kp.alloc (Kp.refl (fun _ => False) W1) _) (fun h => h)).kp K2 (fun e => (hln.out.ne _ e).1 rfl); have C2 := S2.cell 0; have F2 := S2.frozen 0; simp at C2))
  go_end0
  rw [HWW.out] at K2 L2
  exact ⟨rfl, _, push_parts c w w2 base B _ _ L b s _ HH.out HB.out HM.out hbL O2 K2 L2⟩
end Go.Proofs.Ytgfondgejimkkaa
