/- stops: At. -/
import Derived.Test.YtlnknkeagonmpaaGreatBk
namespace Go.Proofs.YtlnknkeagonmpaaGreat
open Go.RowKit Go.Shelf
attribute [local go_sem] Oper.semAt_some

/-- The picks of a number. -/
def atf (P n : Nat) (i : Nat) : Int := ((n / 2 ^ (P - 1 - i) % 2 : Nat) : Int)
theorem and_one (q : Nat) (hq : q < 9223372036854775808) : bits .and .i64 (q : Int) 1 = ((q % 2 : Nat) : Int) := by
  show IntKind.i64.wrap (((BitVec.ofInt 64 (q : Int) &&& BitVec.ofInt 64 1).toNat : Nat) : Int) = _
  have e1 : BitVec.ofInt 64 (1 : Int) = BitVec.ofNat 64 1 := by rfl
  rw [BitVec.ofInt_natCast, e1, BitVec.toNat_and, BitVec.toNat_ofNat, BitVec.toNat_ofNat, Nat.mod_eq_of_lt (by omega), Nat.mod_eq_of_lt (by omega), Nat.and_one_is_mod, IntKind.wrap_i64]
  omega
structure AtI (R : World) (Bn G P n0 : Nat) (qs : List Nat) (W : World) (L : List Int) (nv : Nat) : Prop where
  len : L.length = P
  row : Rw .i64 3 W G L
  st : St 2 W Bn #[.int .i64 (nv : Int)]
  nb : nv < 4611686018427387904
  kp : Kp (fun i => i = G ∨ i = Bn) R W
  ok : qs = ((List.range P).reverse).take qs.length → nv = n0 / 2 ^ qs.length ∧ L = lst P (fun i => if P - qs.length ≤ i then atf P n0 i else 0)
theorem AtI.own {R : World} {Bn G P n0 : Nat} {qs : List Nat} {A B : World} {L : List Int} {nv : Nat} {row : Option Nat} (h : AtI R Bn G P n0 qs A L nv) (hg : A.grownBy B row) (hr : ∀ r, row = some r → R.heap.size ≤ r ∧ ∃ o : Obj, A.heap[r]? = some o ∧ o.isCells = false) : AtI R Bn G P n0 qs B L nv := by
  have k : Kp (fun i => row = some i) A B := Kp.of_grown hg (fun i e => e)
  have h1 : ¬ row = some G := by
    intro e
    obtain ⟨_, o, h1, h2⟩ := hr G e
    have := h.row
    unfold Rw at this
    rw [h1] at this
    cases this
    cases h2
  have h2 : ¬ row = some Bn := by
    intro e
    obtain ⟨_, o, h1, h2⟩ := hr Bn e
    have := h.st
    unfold St at this
    rw [h1] at this
    cases this
    cases h2
  refine ⟨h.len, h.row.kp k h1, h.st.kp k h2, h.nb, h.kp.trans k (fun i hi e => ?_), h.ok⟩
  have := (hr i e).1
  omega
theorem take_rev {P : Nat} {qs : List Nat} {i : Nat} (hl : qs.length < P) (h : qs ++ [i] = ((List.range P).reverse).take (qs ++ [i]).length) : qs = ((List.range P).reverse).take qs.length ∧ i = P - 1 - qs.length := by
  rw [List.length_append, List.length_singleton, List.take_add_one] at h
  have hg : ((List.range P).reverse)[qs.length]? = some (P - 1 - qs.length) := by
    rw [List.getElem?_reverse (by simpa using hl)]
    simp
    rw [List.getElem?_range (by omega)]
  rw [hg] at h
  have := List.append_inj h (by simp; omega)
  refine ⟨this.1, ?_⟩
  simpa using this.2
theorem AtI.next {R W W' : World} {Bn G P n0 : Nat} {qs : List Nat} {L : List Int} {nv i : Nat} (h : AtI R Bn G P n0 qs W L nv) (hl : qs.length < P) (hr : Rw .i64 3 W' G (L.set i ((nv % 2 : Nat) : Int))) (hs : St 2 W' Bn #[.int .i64 ((nv / 2 : Nat) : Int)]) (k : Kp (fun i => i = G ∨ i = Bn) W W') : AtI R Bn G P n0 (qs ++ [i]) W' (L.set i ((nv % 2 : Nat) : Int)) (nv / 2) := by
  refine ⟨by rw [List.length_set]; exact h.len, hr, hs, by have := h.nb; omega, h.kp.trans k (fun _ _ h => h), fun hq => ?_⟩
  obtain ⟨h1, h2⟩ := take_rev hl hq
  obtain ⟨h3, h4⟩ := h.ok h1
  rw [List.length_append, List.length_singleton]
  refine ⟨by rw [h3, Nat.pow_succ, Nat.div_div_eq_div_mul], ?_⟩
  rw [h4, lst_set]
  refine lst_ext (fun j hj => ?_)
  by_cases e : j = i
  · rw [if_pos e, if_pos (by omega), e]
    unfold atf
    rw [h3, show P - 1 - i = qs.length by omega]
  · rw [if_neg e]
    by_cases e2 : P - qs.length ≤ j
    · rw [if_pos e2, if_pos (by omega)]
    · rw [if_neg e2, if_neg (by omega)]
set_option maxRecDepth 100000 in
set_option maxHeartbeats 4000000 in
theorem at_in (D : Nat → Prop) (w : World) (g fm : Nat) (fv : Value) (steps : Nat) (fs : List Fe) (ft : List (Int × Int)) (es : List (ByteArray × Value × Nat)) (c : Nat) (h : Sr D w g fm fv steps fs ft es c) (hP : pnd fs ≤ 62) (n0 : Nat) (hn : n0 < 2 ^ pnd fs) :
    CallsIn Fence.wide 4 Tryz.prog 20 #[.pointer (some ⟨g, 0, none⟩), .int .i64 n0] w fun e w' => ∃ G, e = .returned (.tuple #[.slice (some ⟨G, 0, none⟩) (pnd fs) (pnd fs), .int .i64 0]) ∧ w.heap.size ≤ G ∧ Rw .i64 3 w' G (lst (pnd fs) (atf (pnd fs) n0)) ∧ Kp (fun _ => False) w w' := by
  have h62 : (2 : Nat) ^ pnd fs ≤ 2 ^ 62 := Nat.pow_le_pow_right (by omega) hP
  have e62 : (2 : Nat) ^ 62 = 4611686018427387904 := by decide
  have hnb : n0 < 4611686018427387904 := by omega
  have hni : ¬ (2 : Int) ^ pnd fs ≤ (n0 : Int) := by
    have : ((2 : Int) ^ pnd fs) = (((2 : Nat) ^ pnd fs : Nat) : Int) := by simp
    rw [this]
    omega
  have HS : Hid (Sr D w g fm fv steps fs ft es c) := h
  have ST0 : Hid (St 2 (w.alloc (.cells #[.int .i64 (n0 : Int)] 2)) w.heap.size #[.int .i64 (n0 : Int)]) := St.new 2 w _
  have K0 : Hid (Kp (fun _ => False) w (w.alloc (.cells #[.int .i64 (n0 : Int)] 2))) := (Kp.refl _ _).alloc _
  have HN : Hid (n0 < 2 ^ pnd fs) := hn
  clear h hn h62 e62
  obtain ⟨P, hPe⟩ : ∃ P, P = pnd fs := ⟨_, rfl⟩
  have HPE : Hid (P = pnd fs) := hPe
  rw [← hPe] at hP HN hni ⊢
  clear hPe
  refine callsIn_of_wp_marks Tryz.func20 rfl trivial ?_ rfl
  simp only [Tryz.ntmps20, List.size_toArray, List.length_cons, List.length_nil, Nat.reduceAdd, Nat.reduceSub, Array.replicate_succ, Array.replicate_zero, List.push_toArray, List.append_toArray, List.nil_append, List.cons_append]
  gi_wp2_with fail
  generalize w.alloc (.cells #[.int .i64 (n0 : Int)] 2) = W0 at ST0 K0 ⊢
  have hS0 := HS.out.kp K0.out (fun _ _ h => h) (fun _ _ h => h)
  have HS0 : Hid (Sr D W0 g fm fv steps fs ft es c) := hS0
  refine ⟨trivial, (callsIn_wide.2 (snone_live hS0)).mono ?_⟩
  rintro e w' ⟨rfl, hw'⟩
  replace hw' := hw'.symm
  subst hw'
  have cn0 : W0.cell? ⟨w.heap.size, 0, none⟩ = some (.int .i64 (n0 : Int)) := ST0.out.cell 0
  clear hS0
  gi_wp2_with fail
  refine ⟨trivial, (callsIn_wide.2 (count_any D W0 g fm fv steps fs ft es c HS0.out (by have := HPE.out; omega))).mono ?_⟩
  rintro e w1 ⟨rfl, k1⟩
  rw [← HPE.out, if_pos hP, if_pos hP]
  have HS1 : Hid (Sr D w1 g fm fv steps fs ft es c) := HS0.out.kp k1 (fun _ _ h => h) (fun _ _ h => h)
  have ST1 : Hid (St 2 w1 w.heap.size #[.int .i64 (n0 : Int)]) := ST0.out.kp k1 (fun h => h)
  have K1 : Hid (Kp (fun _ => False) w w1) := K0.out.trans k1 (fun _ _ h => h)
  have cn1 : w1.cell? ⟨w.heap.size, 0, none⟩ = some (.int .i64 (n0 : Int)) := ST1.out.cell 0
  clear k1 cn0 ST0 K0 HS0 HS
  gi_wp2_with fail
  refine ⟨trivial, (callsIn_wide.2 (pending_any D w1 g fm fv steps fs ft es c HS1.out)).mono ?_⟩
  rintro e w2 ⟨rfl, k2⟩
  rw [← HPE.out]
  have ST2 : Hid (St 2 w2 w.heap.size #[.int .i64 (n0 : Int)]) := ST1.out.kp k2 (fun h => h)
  have K2 : Hid (Kp (fun _ => False) w w2) := K1.out.trans k2 (fun _ _ h => h)
  clear k2 cn1 ST1 K1 HS1
  gi_wp2_with (first | (gi_at_make; refine wpListIn_make_rw (κ := .i64) 40 3 8 Tryz.underlying40 info3 (by decide) rfl _ _ rfl P rfl rfl (by omega) ?_; intro w3 r3 b3 z3))
  refine ⟨trivial, (callsIn_wide.2 (back_any _ P P _)).mono ?_⟩
  rintro e R ⟨rfl, hR⟩
  rw [World.size_alloc, z3]
  have kR : Kp (fun _ => False) w2 R := by rw [hR]; exact ((Kp.of_below b3).alloc _).alloc _
  have rR : Rw .i64 3 R w2.heap.size (List.replicate P 0) := by rw [hR]; exact r3.kp (F := fun _ => False) (((Kp.refl _ _).alloc _).alloc _) (fun h => h)
  have sW : St 40 R (w2.heap.size + 1) #[.slice (some ⟨w2.heap.size, 0, none⟩) P P] := by
    rw [hR]
    have := St.new 40 w3 #[.slice (some ⟨w2.heap.size, 0, none⟩) P P]
    rw [z3] at this
    exact this.kp (F := fun _ => False) ((Kp.refl _ _).alloc _) (fun h => h)
  have sB : St 40 R (w2.heap.size + 1 + 1) #[.slice (some ⟨w2.heap.size, 0, none⟩) P P] := by
    rw [hR]
    have := St.new 40 (w3.alloc (.cells #[.slice (some ⟨w2.heap.size, 0, none⟩) P P] 40)) #[.slice (some ⟨w2.heap.size, 0, none⟩) P P]
    rw [World.size_alloc, z3] at this
    exact this
  have zR : R.heap.size = w2.heap.size + 1 + 1 + 1 := by rw [hR, World.size_alloc, World.size_alloc, z3]
  have STR : Hid (St 2 R w.heap.size #[.int .i64 (n0 : Int)]) := ST2.out.kp kR (fun h => h)
  have KR : Hid (Kp (fun _ => False) w R) := K2.out.trans kR (fun _ _ h => h)
  have hwl : w.heap.size < w2.heap.size := ST2.out.lt
  have RR : Hid (Rw .i64 3 R w2.heap.size (List.replicate P 0)) := rR
  have SW : Hid (St 40 R (w2.heap.size + 1) #[.slice (some ⟨w2.heap.size, 0, none⟩) P P]) := sW
  have SB : Hid (St 40 R (w2.heap.size + 1 + 1) #[.slice (some ⟨w2.heap.size, 0, none⟩) P P]) := sB
  clear hR kR rR sW sB r3 b3 z3 ST2 K2
  generalize w2.heap.size = G at *
  gi_wp2_with fail
  have HG0 : Hid (AtI R w.heap.size G P n0 [] R (List.replicate P 0) n0) := by
    refine ⟨List.length_replicate, RR.out, STR.out, hnb, Kp.refl _ _, fun _ => ⟨by simp, ?_⟩⟩
    apply List.ext_getElem?
    intro j
    by_cases h : j < P
    · have h2 : ¬ P ≤ j := by omega
      simp [lst, h, h2]
    · simp [lst, h]
  refine wpIn_rangeFunc_ownH rfl (by omega) (gf := 76) (lb := #[.pointer (some ⟨G + 1 + 1, 0, none⟩)]) rfl trivial (enters_of Tryz.func76 (by kernel_rfl) rfl)
    (back_stops Fence.wide (4 - 1) trivial rfl (by omega) (G + 1 + 1) G P (by omega) R (List.replicate P 0) List.length_replicate (SB.out.cell 0) RR.out) (fun h1 h2 => h1.trans h2) (fun W l o o' hl _ _ _ => KN.of_blocks (World.putObj_heap_other (by omega)) (World.putObj_heap_other (by omega))) (Below.refl _ _) (fun _ => rfl)
    (fun (pre : List (Bx P)) W => ∃ L nv, AtI R w.heap.size G P n0 (pre.map (fun x : Bx P => x.1.1)) W L nv) (fun _ _ _ => False)
    (fun pp A B row hs hg hr => by obtain ⟨L, nv, h⟩ := hs; exact ⟨L, nv, h.own hg hr⟩) (fun cc pp A B row hs hg hr => hs) ⟨_, _, HG0.out⟩
    (fun x a1 _ => a1 = { tmps := #[Value.pointer (some { block := g, off := 0 }), Value.int IntKind.i64 ↑n0, undef, Value.pointer (some { block := w.heap.size, off := 0 }), Value.slice none 0 0, Value.int IntKind.i64 0, Value.int IntKind.i64 ((2 : Int) ^ P), Value.int IntKind.i64 0, Value.pointer (some { block := G + 1, off := 0 }), .int .i64 (x.1.1 : Int), Value.pointer (some { block := g, off := 0 }), Value.bool false, Value.int IntKind.i64 ↑n0, Value.bool (decide ((n0 : Int) < 0)), Value.tuple #[Value.int IntKind.i64 ((2 : Int) ^ P), Value.int IntKind.i64 0], Value.pointer (some { block := g, off := 0 }), Value.tuple #[Value.int IntKind.i64 ((2 : Int) ^ P), Value.int IntKind.i64 0], Value.int IntKind.i64 ((2 : Int) ^ P), Value.int IntKind.i64 0, Value.int IntKind.i64 0, Value.bool false, undef, Value.int IntKind.i64 ↑n0, Value.int IntKind.i64 ((2 : Int) ^ P), Value.bool (decide ((2 : Int) ^ P ≤ (n0 : Int))), Value.pointer (some { block := g, off := 0 }), Value.int IntKind.i64 ↑P, Value.slice (some { block := G, off := 0 }) P P, Value.slice (some { block := G, off := 0 }) P P, Value.func (Fn.func 76) #[] #[Value.pointer (some { block := G + 1 + 1, off := 0 })], .int .i64 (x.1.1 : Int), .int .i64 x.1.2, undef, undef, undef, undef, undef, undef, undef, undef], defers := [] })
    (fun x a1 pp A B row hs hg hr => hs) ?assign ?body ?done (fun D c pre W hD hs hx => hx.elim)
  case assign =>
    intro l pre x W K hi hK
    dsimp only [benc]
    gi_wp2
    exact hK _ _ (KeepsFrom.refl _ _) (KN.of_blocks rfl rfl) hi rfl
  case body =>
    rintro lp pre x a1 W hl hlr ⟨L, nv, hi⟩ rfl hlen
    obtain ⟨⟨i, v⟩, hx⟩ := x
    dsimp only at hx ⊢
    have HAI : Hid (AtI R w.heap.size G P n0 (pre.map (fun x : Bx P => x.1.1)) W L nv) := hi
    have cw : W.cell? ⟨G + 1, 0, none⟩ = some (.slice (some ⟨G, 0, none⟩) P P) := (SW.out.kp hi.kp (by omega)).cell 0
    have cn : W.cell? ⟨w.heap.size, 0, none⟩ = some (.int .i64 (nv : Int)) := hi.st.cell 0
    have cg := hi.row.cell i (by rw [hi.len]; exact hx)
    have fg := hi.row.frozen i
    have hab := and_one nv (by have := hi.nb; omega)
    have hnv := hi.nb
    have kg := kp_setCell W G i (.int .i64 ((nv % 2 : Nat) : Int)) (fun j => j = G) rfl
    have stn : St 2 (W.setCell ⟨G, i, none⟩ (.int .i64 ((nv % 2 : Nat) : Int))) w.heap.size #[.int .i64 (nv : Int)] := hi.st.kp kg (by omega)
    have cn2 : (W.setCell ⟨G, i, none⟩ (.int .i64 ((nv % 2 : Nat) : Int))).cell? ⟨w.heap.size, 0, none⟩ = some (.int .i64 (nv : Int)) := stn.cell 0
    have fn2 := stn.frozen 0
    have fn0 := hi.st.frozen 0
    have HNX : Hid (AtI R w.heap.size G P n0 (pre.map (fun x : Bx P => x.1.1) ++ [i]) ((W.setCell ⟨G, i, none⟩ (.int .i64 ((nv % 2 : Nat) : Int))).setCell ⟨w.heap.size, 0, none⟩ (.int .i64 ((nv / 2 : Nat) : Int))) (L.set i ((nv % 2 : Nat) : Int)) (nv / 2)) := by
      have kn := kp_setCell (W.setCell ⟨G, i, none⟩ (.int .i64 ((nv % 2 : Nat) : Int))) w.heap.size 0 (.int .i64 ((nv / 2 : Nat) : Int)) (fun j => j = w.heap.size) rfl
      refine hi.next (by rw [List.length_map]; exact hlen) ((hi.row.set i ((nv % 2 : Nat) : Int)).kp kn (by omega)) ?_ ((kg.mono (G := fun i => i = G ∨ i = w.heap.size) (fun i _ h => .inl h)).trans kn (fun i _ h => .inr h))
      have := stn.set 0 (.int .i64 ((nv / 2 : Nat) : Int))
      simpa using this
    have hRW := hi.kp.size
    have hxi : (i : Int) < (P : Int) := by omega
    have hxn : ¬ (P : Int) ≤ (i : Int) := by omega
    clear hi kg stn
    generalize L.getD i 0 = l0 at cg
    gi_wp2_with fail
    have kW : Kp (fun j => j = G ∨ j = w.heap.size) W ((W.setCell ⟨G, i, none⟩ (.int .i64 ((nv % 2 : Nat) : Int))).setCell ⟨w.heap.size, 0, none⟩ (.int .i64 ((nv / 2 : Nat) : Int))) := ((kp_setCell W G i _ (fun j => j = G) rfl).mono (G := fun j => j = G ∨ j = w.heap.size) (fun i _ h => .inl h)).trans (kp_setCell _ w.heap.size 0 _ (fun j => j = w.heap.size) rfl) (fun i _ h => .inr h)
    refine ⟨⟨kW.size, fun kk o hB hk ho => (kW.block kk (Array.getElem?_eq_some_iff.1 hk).1 (by omega)).trans hk⟩, ⟨kW.block _ (by omega) (by omega), fun L1 hL1 => ⟨L.set i ((nv % 2 : Nat) : Int), ?_, HNX.out.row⟩⟩, L.set i ((nv % 2 : Nat) : Int), nv / 2, ?_⟩
    · rw [List.length_set, HAI.out.len]
      have h1 := HAI.out.row
      unfold Rw at h1 hL1
      rw [h1] at hL1
      have h2 : (L.map (Value.int .i64)).toArray = (L1.map (Value.int .i64)).toArray := by injection hL1 with hL1; injection hL1
      have h3 := congrArg Array.size h2
      simp at h3
      have := HAI.out.len
      omega
    · rw [List.map_append]
      exact HNX.out
  intro Dd xs W2 hDd hxs hAI hDm
  obtain ⟨L, nv, hAI⟩ := hAI
  have hq : xs.map (fun x : Bx P => x.1.1) = ((List.range P).reverse).take (xs.map (fun x : Bx P => x.1.1)).length := by
    rw [hxs, List.take_of_length_le (by simp)]
  have hL := (hAI.ok hq).2
  rw [hxs, List.length_reverse, List.length_range, Nat.sub_self] at hL
  have cw : W2.cell? ⟨G + 1, 0, none⟩ = some (.slice (some ⟨G, 0, none⟩) P P) := (SW.out.kp hAI.kp (by omega)).cell 0
  have HRW : Hid (Rw .i64 3 W2 G (lst P (atf P n0))) := by
    have h1 := hAI.row
    rw [hL] at h1
    rw [show lst P (atf P n0) = lst P (fun i => if 0 ≤ i then atf P n0 i else 0) from lst_ext (fun i _ => (if_pos (Nat.zero_le _)).symm)]
    exact h1
  have HKP : Hid (Kp (fun _ => False) w W2) := ((KR.out.mono (G := fun i => i = G ∨ i = w.heap.size) (fun _ _ h => h.elim)).trans hAI.kp (fun _ _ h => h)).mono (fun i hi h => by omega)
  have HDm : Hid (W2.heap[Dd]? = some (.deferred (some []))) := hDm
  clear hAI hL hq hxs hDm
  gi_wp2_with fail
  refine ⟨by simp, .inl ⟨_, _, rfl, run_takeDeferred HDm.out, ?_⟩⟩
  have kp := kp_put1 W2 Dd (.deferred none)
  refine ⟨.tuple #[.slice (some ⟨G, 0, none⟩) P P, .int .i64 0], by simp [results, Tryz.results20, go_sem], G, rfl, by omega, HRW.out.kp kp (by omega), HKP.out.trans kp (fun i hi h => by omega)⟩
theorem at_any (D : Nat → Prop) (w : World) (g fm : Nat) (fv : Value) (steps : Nat) (fs : List Fe) (ft : List (Int × Int)) (es : List (ByteArray × Value × Nat)) (c : Nat) (h : Sr D w g fm fv steps fs ft es c) (hP : pnd fs ≤ 62) (n0 : Nat) (hn : n0 < 2 ^ pnd fs) :
    Calls Tryz.prog 20 #[.pointer (some ⟨g, 0, none⟩), .int .i64 n0] w fun e w' => ∃ G, e = .returned (.tuple #[.slice (some ⟨G, 0, none⟩) (pnd fs) (pnd fs), .int .i64 0]) ∧ w.heap.size ≤ G ∧ Rw .i64 3 w' G (lst (pnd fs) (atf (pnd fs) n0)) ∧ Kp (fun _ => False) w w' := callsIn_wide.1 (at_in D w g fm fv steps fs ft es c h hP n0 hn)
set_option maxRecDepth 100000 in
set_option maxHeartbeats 2000000 in
theorem at_neg (D : Nat → Prop) (w : World) (g fm : Nat) (fv : Value) (steps : Nat) (fs : List Fe) (ft : List (Int × Int)) (es : List (ByteArray × Value × Nat)) (c : Nat) (h : Sr D w g fm fv steps fs ft es c) (n : Int) (hn : n < 0) :
    Calls Tryz.prog 20 #[.pointer (some ⟨g, 0, none⟩), .int .i64 n] w fun e w' => e = .returned (.tuple #[.slice none 0 0, .int .i64 2]) ∧ Kp (fun _ => False) w w' := by
  have HS : Hid (Sr D (w.alloc (.cells #[.int .i64 n] 2)) g fm fv steps fs ft es c) := h.kp ((Kp.refl (fun _ => False) _).alloc _) (fun _ _ h => h) (fun _ _ h => h)
  have K0 : Hid (Kp (fun _ => False) w (w.alloc (.cells #[.int .i64 n] 2))) := (Kp.refl _ _).alloc _
  have ST0 : Hid (St 2 (w.alloc (.cells #[.int .i64 n] 2)) w.heap.size #[.int .i64 n]) := St.new 2 w _
  clear h
  go_enter Tryz.func20, Tryz.ntmps20
  go_wp2_with fail
  generalize w.alloc (.cells #[.int .i64 n] 2) = W0 at HS K0 ST0 ⊢
  have cn0 : W0.cell? ⟨w.heap.size, 0, none⟩ = some (.int .i64 n) := ST0.out.cell 0
  refine (snone_live HS.out).mono ?_
  rintro e w' ⟨rfl, hw'⟩
  replace hw' := hw'.symm
  subst hw'
  go_wp2
  go_ret2
  exact ⟨rfl, K0.out⟩
set_option maxRecDepth 100000 in
set_option maxHeartbeats 2000000 in
theorem at_long (D : Nat → Prop) (w : World) (g fm : Nat) (fv : Value) (steps : Nat) (fs : List Fe) (ft : List (Int × Int)) (es : List (ByteArray × Value × Nat)) (c : Nat) (h : Sr D w g fm fv steps fs ft es c) (n : Nat) (hP : ¬ pnd fs ≤ 62) (hPb : pnd fs ≤ 1000000000) :
    Calls Tryz.prog 20 #[.pointer (some ⟨g, 0, none⟩), .int .i64 (n : Int)] w fun e w' => e = .returned (.tuple #[.slice none 0 0, .int .i64 3]) ∧ Kp (fun _ => False) w w' := by
  have HS : Hid (Sr D (w.alloc (.cells #[.int .i64 (n : Int)] 2)) g fm fv steps fs ft es c) := h.kp ((Kp.refl (fun _ => False) _).alloc _) (fun _ _ h => h) (fun _ _ h => h)
  have K0 : Hid (Kp (fun _ => False) w (w.alloc (.cells #[.int .i64 (n : Int)] 2))) := (Kp.refl _ _).alloc _
  have ST0 : Hid (St 2 (w.alloc (.cells #[.int .i64 (n : Int)] 2)) w.heap.size #[.int .i64 (n : Int)]) := St.new 2 w _
  clear h
  go_enter Tryz.func20, Tryz.ntmps20
  go_wp2_with fail
  generalize w.alloc (.cells #[.int .i64 (n : Int)] 2) = W0 at HS K0 ST0 ⊢
  have cn0 : W0.cell? ⟨w.heap.size, 0, none⟩ = some (.int .i64 (n : Int)) := ST0.out.cell 0
  refine (snone_live HS.out).mono ?_
  rintro e w' ⟨rfl, hw'⟩
  replace hw' := hw'.symm
  subst hw'
  go_wp2_with fail
  refine (count_any D W0 g fm fv steps fs ft es c HS.out hPb).mono ?_
  rintro e w1 ⟨rfl, k1⟩
  rw [if_neg hP, if_neg hP]
  have K1 : Hid (Kp (fun _ => False) w w1) := K0.out.trans k1 (fun _ _ h => h)
  have cn1 : w1.cell? ⟨w.heap.size, 0, none⟩ = some (.int .i64 (n : Int)) := (ST0.out.kp k1 (fun h => h)).cell 0
  clear k1
  go_wp2
  go_ret2
  exact ⟨rfl, K1.out⟩
set_option maxRecDepth 100000 in
set_option maxHeartbeats 2000000 in
theorem at_rng (D : Nat → Prop) (w : World) (g fm : Nat) (fv : Value) (steps : Nat) (fs : List Fe) (ft : List (Int × Int)) (es : List (ByteArray × Value × Nat)) (c : Nat) (h : Sr D w g fm fv steps fs ft es c) (n : Nat) (hP : pnd fs ≤ 62) (hPb : pnd fs ≤ 1000000000) (hn : 2 ^ pnd fs ≤ n) :
    Calls Tryz.prog 20 #[.pointer (some ⟨g, 0, none⟩), .int .i64 (n : Int)] w fun e w' => e = .returned (.tuple #[.slice none 0 0, .int .i64 4]) ∧ Kp (fun _ => False) w w' := by
  have HS : Hid (Sr D (w.alloc (.cells #[.int .i64 (n : Int)] 2)) g fm fv steps fs ft es c) := h.kp ((Kp.refl (fun _ => False) _).alloc _) (fun _ _ h => h) (fun _ _ h => h)
  have K0 : Hid (Kp (fun _ => False) w (w.alloc (.cells #[.int .i64 (n : Int)] 2))) := (Kp.refl _ _).alloc _
  have ST0 : Hid (St 2 (w.alloc (.cells #[.int .i64 (n : Int)] 2)) w.heap.size #[.int .i64 (n : Int)]) := St.new 2 w _
  have hni : (2 : Int) ^ pnd fs ≤ (n : Int) := by
    have : ((2 : Int) ^ pnd fs) = (((2 : Nat) ^ pnd fs : Nat) : Int) := by simp
    rw [this]
    omega
  clear h
  go_enter Tryz.func20, Tryz.ntmps20
  go_wp2_with fail
  generalize w.alloc (.cells #[.int .i64 (n : Int)] 2) = W0 at HS K0 ST0 ⊢
  have cn0 : W0.cell? ⟨w.heap.size, 0, none⟩ = some (.int .i64 (n : Int)) := ST0.out.cell 0
  refine (snone_live HS.out).mono ?_
  rintro e w' ⟨rfl, hw'⟩
  replace hw' := hw'.symm
  subst hw'
  go_wp2_with fail
  refine (count_any D W0 g fm fv steps fs ft es c HS.out hPb).mono ?_
  rintro e w1 ⟨rfl, k1⟩
  rw [if_pos hP, if_pos hP]
  have K1 : Hid (Kp (fun _ => False) w w1) := K0.out.trans k1 (fun _ _ h => h)
  have cn1 : w1.cell? ⟨w.heap.size, 0, none⟩ = some (.int .i64 (n : Int)) := (ST0.out.kp k1 (fun h => h)).cell 0
  clear k1
  go_wp2
  go_ret2
  exact ⟨rfl, K1.out⟩
end Go.Proofs.YtlnknkeagonmpaaGreat
