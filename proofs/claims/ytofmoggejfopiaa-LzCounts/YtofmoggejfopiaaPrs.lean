/- Contract of Parse: the tokens of bytes, in a row of its own. -/
import Derived.Test.YtofmoggejfopiaaTok
import Derived.Maps.OwnIn
import Derived.Maps.AppendAt
namespace Go.Proofs.Ytofmoggejfopiaa
open Go.RowKit Go.Shelf
attribute [local go_sem] Oper.semAt_some

/-- The cells of tokens, one behind the other. -/
def tcs (l : List Tok) : List Value := l.flatMap (fun t => [.int .u8 t.1, .int .i64 t.2.1, .int .i64 t.2.2])
theorem tcs_len (l : List Tok) : (tcs l).length = l.length * 3 := by
  induction l with
  | nil => rfl
  | cons t l ih => simp only [tcs, List.flatMap_cons, List.length_append, List.length_cons, List.length_nil] at ih ⊢; omega
theorem tcs_append (l m : List Tok) : tcs (l ++ m) = tcs l ++ tcs m := by simp [tcs]
theorem Try.info25 : (Try.prog.info? 25).map (fun i => (i.zero, i.size, i.bytes)) = some (some (.agg #[.int .u8 0, .int .i64 0, .int .i64 0]), 3, 24) := by kernel_rfl
set_option maxRecDepth 100000 in
set_option maxHeartbeats 400000 in
theorem tokens_any (ao : Option Addr) (n c : Nat) (bo : Option Addr) (bl bc : Nat) (a : Bool) (w : World) :
    Calls Try.prog 36 #[.agg #[.slice ao n c, .slice bo bl bc], .bool a] w fun e w' => e = .returned (.func (.func 50) #[] #[.pointer (some ⟨w.heap.size, 0, none⟩), .pointer (some ⟨w.heap.size + 1, 0, none⟩)]) ∧ w' = (w.alloc (.cells #[.slice ao n c, .slice bo bl bc] 71)).alloc (.cells #[.bool a] 4) := by
  go_enter Try.func36, Try.ntmps36
  go_wp2
  go_ret
  exact ⟨rfl, rfl⟩
theorem ownsRow_kpt {F : Nat → Prop} {w w' : World} {base : Nat} {e : TypeId} {size : Nat} {v : Value} {n : Nat} {xs : List Value} (h : w.ownsRow base e size v n xs) (k : Kp F w w') (hF : ∀ b, v.ownBlock = some b → ¬ F b) : w'.ownsRow base e size v n xs := by
  refine ⟨h.1, ?_⟩
  rcases h.2 with hn | ⟨g, cap, cur, rfl, hb, hgg, rest⟩
  · exact .inl hn
  · refine .inr ⟨g, cap, cur, rfl, hb, ?_, rest⟩
    rw [k.block g (Array.getElem?_eq_some_iff.1 hgg).1 (hF g (by simp [Value.ownBlock]))]
    exact hgg
theorem ownsRow_ty {w : World} {base : Nat} {e : TypeId} {size : Nat} {v : Value} {n : Nat} {xs : List Value} (h : w.ownsRow base e size v n xs) {b : Nat} (hb : v.ownBlock = some b) : ∃ cs, w.heap[b]? = some (.cells cs e (0, 0)) := by
  rcases h.2 with ⟨rfl, _⟩ | ⟨g, cap, cur, rfl, _, hgg, _⟩
  · simp [Value.ownBlock] at hb
  · simp [Value.ownBlock] at hb
    subst hb
    exact ⟨_, hgg⟩
theorem St.ne {t u : TypeId} {w : World} {b : Nat} {cs : Array Value} (h : St t w b cs) (h2 : ∃ cs, w.heap[b]? = some (.cells cs u (0, 0))) : t = u := by
  obtain ⟨cs2, e2⟩ := h2
  unfold St at h
  rw [h] at e2
  injection e2 with e2
  injection e2
/-- What Parse's loop keeps. -/
structure PI (w : World) (pre : List PT) (O : Nat → Prop) (W : World) (v : Value) : Prop where
  box : St 28 W w.heap.size #[v]
  row : W.ownsRow w.heap.size 25 3 v pre.length (tcs (pre.map (·.1.2)))
  nb : ¬ O w.heap.size
  nr : ∀ b, v.ownBlock = some b → ¬ O b
  lim : ∀ i, O i → i < W.heap.size
  bel : Below w.heap.size w W
theorem PI.kp {w A B : World} {pre : List PT} {O : Nat → Prop} {v : Value} (h : PI w pre O A v) (k : Kp (fun i => O i ∧ w.heap.size ≤ i) A B) : PI w pre (fun i => O i ∨ (A.heap.size ≤ i ∧ i < B.heap.size)) B v :=
  ⟨h.box.kp k (fun x => h.nb x.1), ownsRow_kpt h.row k (fun b e x => h.nr b e x.1), fun x => x.elim h.nb (fun x => absurd h.box.lt (by omega)), fun b e x => x.elim (h.nr b e) (fun x => absurd (h.row.lt b e).2 (by omega)),
    fun i x => x.elim (fun x => Nat.lt_of_lt_of_le (h.lim i x) k.size) (fun x => x.2), h.bel.trans (k.below h.bel.size (fun i x => x.2))⟩
/-- The set of the iterator's blocks stays. -/
theorem PI.same {w A B : World} {pre : List PT} {O : Nat → Prop} {v : Value} (h : PI w pre O A v) (F : Nat → Prop) (k : Kp F A B) (hF : ∀ i, F i → w.heap.size ≤ i) (h1 : ¬ F w.heap.size) (h2 : ∀ b, v.ownBlock = some b → ¬ F b) : PI w pre O B v :=
  ⟨h.box.kp k h1, ownsRow_kpt h.row k h2, h.nb, h.nr, fun i x => Nat.lt_of_lt_of_le (h.lim i x) k.size, h.bel.trans (k.below h.bel.size hF)⟩
theorem PI.alloc {w A : World} {pre : List PT} {O : Nat → Prop} {v : Value} (h : PI w pre O A v) (o : Obj) : PI w pre O (A.alloc o) v := h.same (fun _ => False) ((Kp.refl _ _).alloc o) (fun _ x => x.elim) (fun x => x) (fun _ _ x => x)
theorem PI.put {w A : World} {pre : List PT} {O : Nat → Prop} {v : Value} (h : PI w pre O A v) (l : Nat) (o o' : Obj) (hl : w.heap.size ≤ l) (ho : A.heap[l]? = some o) (hc : o.isCells = false) : PI w pre O (A.putObj l o') v := by
  refine h.same (fun i => i = l) ⟨rfl, rfl, rfl, by simp, fun k _ hk => World.putObj_heap_other (fun e => hk e)⟩ (fun i e => by omega) (fun e => ?_) (fun b hb e => ?_)
  · have := h.box
    unfold St at this
    rw [e, ho] at this
    cases this
    cases hc
  · obtain ⟨cs, e2⟩ := ownsRow_ty h.row hb
    rw [e, ho] at e2
    cases e2
    cases hc
theorem keeps_of_kp {F : Nat → Prop} {W W' : World} (k : Kp F W W') (B : Nat) (hF : ∀ i, F i → ∃ cs t, W.heap[i]? = some (.cells cs t (0, 0))) : KeepsFrom B W W' :=
  ⟨k.size, fun i o _ ho hc => by
    rw [k.block i (Array.getElem?_eq_some_iff.1 ho).1 (fun x => by
      obtain ⟨cs, t, e⟩ := hF i x
      rw [e] at ho
      cases ho
      cases hc)]
    exact ho⟩
theorem three_new (W : World) (a b c : Value) : ∀ j u, [a, b, c][j]? = some u → (W.alloc (.cells #[a, b, c] 25)).cell? ((⟨W.heap.size, 0, none⟩ : Addr).add j) = some u := by
  intro j u h
  rw [add_z, (St.new 25 W #[a, b, c]).cell j]
  simpa using h
theorem PI.box3 {w W w3 : World} {pre : List PT} {O : Nat → Prop} {v : Value} {o : Obj} (h : PI w pre O W v) (hg : (W.alloc o).grownBy w3 v.ownBlock) : St 28 w3 w.heap.size #[v] := by
  have k1 : Kp (fun i => v.ownBlock = some i) W w3 := ((Kp.refl _ W).alloc o).trans (Kp.of_grown hg (F := fun i => v.ownBlock = some i) (fun i e => e)) (fun _ _ e => e)
  refine h.box.kp k1 (fun e => ?_)
  have := h.box.ne (ownsRow_ty h.row e)
  cases this
/-- A token is appended, and the variable holds the new list. -/
theorem PI.push {B : Nat} {w W w3 : World} {pre : List PT} {O : Nat → Prop} {v v' : Value} {x : PT} {o : Obj} (h : PI w pre O W v) (hown : w3.ownsRow w.heap.size 25 3 v' (pre.length + 1) (tcs (pre.map (·.1.2)) ++ [.int .u8 x.1.2.1, .int .i64 x.1.2.2.1, .int .i64 x.1.2.2.2])) (hg : (W.alloc o).grownBy w3 v.ownBlock) (hb : v'.ownBlock = v.ownBlock ∨ v'.ownBlock = some (W.alloc o).heap.size) :
    KeepsFrom B W (w3.setCell ⟨w.heap.size, 0, none⟩ v') ∧ Kp (fun i => ¬ O i) W (w3.setCell ⟨w.heap.size, 0, none⟩ v') ∧ PI w (pre ++ [x]) O (w3.setCell ⟨w.heap.size, 0, none⟩ v') v' := by
  have hne : ∀ b, v.ownBlock = some b → b ≠ w.heap.size := fun b e e2 => by
    have := h.box.ne (e2 ▸ ownsRow_ty h.row e)
    cases this
  have k1 : Kp (fun i => v.ownBlock = some i) W w3 := ((Kp.refl _ W).alloc o).trans (Kp.of_grown hg (F := fun i => v.ownBlock = some i) (fun i e => e)) (fun _ _ e => e)
  have st3 : St 28 w3 w.heap.size #[v] := h.box.kp k1 (fun e => hne _ e rfl)
  have hne3 : ∀ b, v'.ownBlock = some b → b ≠ w.heap.size := fun b e e2 => by
    have := st3.ne (e2 ▸ ownsRow_ty hown e)
    cases this
  have k2 : Kp (fun i => i = w.heap.size ∨ v.ownBlock = some i) W (w3.setCell ⟨w.heap.size, 0, none⟩ v') :=
    (k1.mono (G := fun i => i = w.heap.size ∨ v.ownBlock = some i) (fun _ _ e => .inr e)).trans (kp_setCell w3 w.heap.size 0 v' (fun i => i = w.heap.size) rfl) (fun _ _ e => .inl e)
  refine ⟨keeps_of_kp k2 _ (fun i e => ?_), k2.mono (fun i _ e => ?_), ?_, ?_, h.nb, fun b e => ?_, fun i x => Nat.lt_of_lt_of_le (h.lim i x) k2.size, h.bel.trans (k2.below h.bel.size (fun i e => ?_))⟩
  · rcases e with rfl | e
    · exact ⟨_, _, h.box⟩
    · obtain ⟨cs, e2⟩ := ownsRow_ty h.row e
      exact ⟨_, _, e2⟩
  · rcases e with rfl | e
    · exact h.nb
    · exact h.nr i e
  · have := st3.set 0 v'
    simpa using this
  · have := ownsRow_kpt hown (kp_setCell w3 w.heap.size 0 v' (fun i => i = w.heap.size) rfl) hne3
    rw [List.length_append, List.map_append, tcs_append]
    exact this
  · rcases hb with e2 | e2
    · exact h.nr b (by rw [← e2]; exact e)
    · rw [e2] at e
      intro x
      have := h.lim b x
      simp at e
      omega
  · rcases e with rfl | e
    · exact Nat.le_refl _
    · exact (h.row.lt i e).1
theorem linked_n (zs : List Int) (N : Nat) (hNe : N = zs.length) (ao : Option Addr) (cap : Nat) (w : World) (hB : Byt zs) (hN : N ≤ 2000000) (hS : Src .u8 w ao zs) :
    Calls Try.prog 35 #[.slice ao N cap] w fun e w' => ∃ bo bl bc, e = .returned (.agg #[.slice ao N cap, .slice bo bl bc]) ∧ LkV w' zs.length (.slice bo bl bc) (lkf (bf zs)) ∧ Below w.heap.size w w' ∧ (3 ≤ zs.length → ∃ B, bo = some ⟨B, 0, none⟩ ∧ w.heap.size ≤ B) := by
  subst hNe
  exact linked_any zs ao cap w hB hN hS
set_option maxRecDepth 100000 in
set_option maxHeartbeats 4000000 in
theorem parse_in (zs : List Int) (ao : Option Addr) (cap : Nat) (a : Bool) (w : World) (hB : Byt zs) (hN : zs.length ≤ 1048576) (hc : zs.length ≤ cap) (hc2 : cap ≤ maxLen) (hS : Src .u8 w ao zs) :
    CallsIn Fence.wide 3 Try.prog 12 #[.slice ao zs.length cap, .bool a] w fun e w' => ∃ v K, e = .returned (.tuple #[v, .int .i64 0]) ∧ Many (bf zs) zs.length a K ∧ w'.ownsRow w.heap.size 25 3 v K (tcs (tks (bf zs) zs.length a K)) ∧ Below w.heap.size w w' := by
  obtain ⟨N, hNe⟩ : ∃ x, x = zs.length := ⟨_, rfl⟩
  have HNE : Hid (N = zs.length) := hNe
  have HB : Hid (Byt zs) := hB
  have HS : Hid (Src .u8 w ao zs) := hS
  have hgt : ¬ (1048576 : Int) < (N : Int) := by omega
  clear hB hS
  refine callsIn_of_wp_marks Try.func12 rfl trivial ?_ rfl
  simp only [Try.ntmps12, List.size_toArray, List.length_cons, List.length_nil, Nat.reduceAdd, Nat.reduceSub, Array.replicate_succ, Array.replicate_zero, List.push_toArray, List.append_toArray, List.nil_append, List.cons_append]
  rw [← hNe] at hN hc ⊢
  clear hNe
  gi_wp2_with fail
  refine ⟨trivial, ?_⟩
  have hb0 : Below w.heap.size w (w.alloc (.cells #[.slice none 0 0] 28)) := (Below.refl _ w).alloc (Nat.le_refl _) _
  refine (callsIn_wide.2 (linked_n zs N HNE.out ao cap _ HB.out (by omega) (HS.out.below hb0))).mono ?_
  rintro e w1 ⟨bo, bl, bc, rfl, hlk, b1, hbo⟩
  have st1 : St 28 w1 w.heap.size #[.slice none 0 0] := (St.new 28 w _).below b1 (by simp)
  have hb1 : Below w.heap.size w w1 := hb0.trans (b1.mono (by simp))
  have HST1 : Hid (St 28 w1 w.heap.size #[.slice none 0 0]) := st1
  have HB1 : Hid (Below w.heap.size w w1) := hb1
  have HLK : Hid (LkV w1 zs.length (.slice bo bl bc) (lkf (bf zs))) := hlk
  have HBO : Hid (3 ≤ zs.length → ∃ B, bo = some ⟨B, 0, none⟩ ∧ w.heap.size < B) := fun h => by
    obtain ⟨B, e1, e2⟩ := hbo h
    exact ⟨B, e1, by simp at e2; omega⟩
  clear b1 hb0 st1 hb1 hlk hbo
  gi_wp2_with fail
  refine ⟨trivial, ?_⟩
  refine (callsIn_wide.2 (tokens_any ao N cap bo bl bc a w1)).mono ?_
  rintro e w2 ⟨rfl, rfl⟩
  have hbw : Below w1.heap.size w1 ((w1.alloc (.cells #[.slice ao N cap, .slice bo bl bc] 71)).alloc (.cells #[.bool a] 4)) := ((Below.refl _ w1).alloc (Nat.le_refl _) _).alloc (by simp) _
  have hIts : Its zs ((w1.alloc (.cells #[.slice ao N cap, .slice bo bl bc] 71)).alloc (.cells #[.bool a] 4)) w1.heap.size (w1.heap.size + 1) ao cap bo bl bc a := by
    refine ⟨?_, ?_, (HS.out.below HB1.out).below hbw, HLK.out.below hbw⟩
    · have := (St.new 71 w1 #[.slice ao N cap, .slice bo bl bc]).below (B := w1.heap.size + 1) ((Below.refl _ _).alloc (by simp) (.cells #[.bool a] 4)) (by omega)
      rw [HNE.out] at this ⊢
      exact this
    · have := St.new 4 (w1.alloc (.cells #[.slice ao N cap, .slice bo bl bc] 71)) #[.bool a]
      rw [World.size_alloc] at this
      exact this
  have hPI : PI w [] (Oz zs w1.heap.size (w1.heap.size + 1) ao bo) ((w1.alloc (.cells #[.slice ao N cap, .slice bo bl bc] 71)).alloc (.cells #[.bool a] 4)) (.slice none 0 0) := by
    have hlt := HST1.out.lt
    refine ⟨HST1.out.below hbw hlt, World.ownsRow_nil _ _ _ _, ?_, fun b e => by simp [Value.ownBlock] at e, fun i hi => hIts.lt hi, HB1.out.trans (hbw.mono HB1.out.size)⟩
    rintro (e | e | ⟨h0, off, e⟩ | ⟨h3, off, e⟩)
    · omega
    · omega
    · obtain ⟨b, off', e', hcc⟩ := HS.out h0
      rw [e] at e'
      cases e'
      have hq := block_lt_of_cell (hcc 0 h0)
      simp at hq
    · obtain ⟨B, e1, e2⟩ := HBO.out h3
      rw [e] at e1
      cases e1
      omega
  have HITS : Hid (Its zs ((w1.alloc (.cells #[.slice ao N cap, .slice bo bl bc] 71)).alloc (.cells #[.bool a] 4)) w1.heap.size (w1.heap.size + 1) ao cap bo bl bc a) := hIts
  have HPI : Hid (PI w [] (Oz zs w1.heap.size (w1.heap.size + 1) ao bo) ((w1.alloc (.cells #[.slice ao N cap, .slice bo bl bc] 71)).alloc (.cells #[.bool a] 4)) (.slice none 0 0)) := hPI
  have hbsz : w.heap.size ≤ w1.heap.size := HB1.out.size
  clear hIts hPI hbw
  gi_wp2_with fail
  generalize hW0 : (w1.alloc (.cells #[.slice ao N cap, .slice bo bl bc] 71)).alloc (.cells #[.bool a] 4) = W0 at HITS HPI ⊢
  have hsz0 : w.heap.size ≤ W0.heap.size := HPI.out.bel.size
  generalize w1.heap.size = Bp at HITS HPI ⊢
  clear hW0 HB1 HST1 HLK HBO hbsz
  obtain ⟨i0, hi, hz0, hz1, hz2⟩ := info_parts Try.info25
  refine wpIn_rangeFunc_O rfl (by omega) (gf := 50) (lb := #[.pointer (some ⟨Bp, 0, none⟩), .pointer (some ⟨Bp + 1, 0, none⟩)]) rfl trivial (enters_of Try.func50 (by kernel_rfl) rfl)
    (tokens1_seq 2 (by omega) zs HB.out (by have := HNE.out; omega) Bp (Bp + 1) ao cap (by have := HNE.out; omega) hc2 bo bl bc a W0 HITS.out) (fun i hi => HITS.out.lt hi) (Below.refl _ _) (fun _ => rfl)
    (fun pre O W => ∃ v, PI w pre O W v) (fun _ _ _ => False)
    (fun s O A B ⟨v, h⟩ k => ⟨v, h.kp (k.mono (fun i _ x => ⟨x.1, Nat.le_trans hsz0 x.2⟩))⟩) (fun s O A o ⟨v, h⟩ => ⟨v, h.alloc o⟩) (fun s O A l o o' ⟨v, h⟩ hl ho hc => ⟨v, h.put l o o' (Nat.le_trans hsz0 hl) ho hc⟩) (fun _ _ _ _ _ _ h => h.elim)
    ⟨_, HPI.out⟩
    (fun x a' W => ∃ Bx, St 25 W Bx #[.int .u8 x.1.2.1, .int .i64 x.1.2.2.1, .int .i64 x.1.2.2.2] ∧ a' = { tmps := #[.slice ao N cap, .bool a, undef, undef, .slice none 0 0, .int .i64 0, .pointer (some ⟨w.heap.size, 0, none⟩), undef, .pointer (some ⟨Bx, 0, none⟩), .slice ao N cap, .int .i64 (N : Int), .bool false, .slice ao N cap, .agg #[.slice ao N cap, .slice bo bl bc], .bool a, .func (.func 50) #[] #[.pointer (some ⟨Bp, 0, none⟩), .pointer (some ⟨Bp + 1, 0, none⟩)], .int .i64 (x.1.1 : Int), .agg #[.int .u8 x.1.2.1, .int .i64 x.1.2.2.1, .int .i64 x.1.2.2.2], undef, undef, undef, undef, undef], defers := [] })
    (fun x a' _ A B row ⟨Bx, hb, e⟩ hg hr => ⟨Bx, by
      unfold St at hb ⊢
      rw [hg.block Bx (Array.getElem?_eq_some_iff.1 hb).1 (fun e' => by
        obtain ⟨_, o, ho, hc⟩ := hr Bx e'.symm
        rw [hb] at ho
        cases ho
        cases hc)]
      exact hb, e⟩) ?assign ?body ?done ?stop
  case assign =>
    rintro l pre O x W K ⟨v, hpi⟩ hK
    dsimp only [encT]
    gi_wp2
    exact hK _ _ ((KeepsOthers.alloc _ _).from _) ((Kp.refl _ _).alloc _) ⟨v, hpi.alloc _⟩ ⟨W.heap.size, St.new 25 W _, rfl⟩
  case body =>
    rintro l pre O ⟨⟨i, t0, t1, t2⟩, htb⟩ a' W hl hr ⟨v, hpi⟩ ⟨Bx, hbx, rfl⟩ hlen
    have HPI1 : Hid (PI w pre O W v) := hpi
    have y0 : W.cell? ⟨w.heap.size, 0, none⟩ = some v := hpi.box.cell 0
    have x0 : W.cell? ⟨Bx, 0, none⟩ = some (.int .u8 t0) := hbx.cell 0
    have x1 : W.cell? ⟨Bx, 1, none⟩ = some (.int .i64 t1) := hbx.cell 1
    have x2 : W.cell? ⟨Bx, 2, none⟩ = some (.int .i64 t2) := hbx.cell 2
    have hle : pre.length < N := by have := HNE.out; omega
    clear hpi hbx
    gi_wp2_with (first | (gi_at_builtin; refine wpListIn_append_own_at _ rfl (.tmp 18) (.tmp 20) 28 rfl w.heap.size 25 i0 (.agg #[.int .u8 0, .int .i64 0, .int .i64 0]) 3 24 Try.underlying28 hi hz0 hz1 hz2 rfl (by decide) v pre.length (tcs (pre.map (·.1.2))) rfl (HPI1.out.row.alloc _) ⟨W.heap.size, 0, none⟩ 1 1 [.int .u8 t0, .int .i64 t1, .int .i64 t2] rfl rfl (three_new _ _ _ _) (by simp [Value.oneCell']) (by unfold maxLen; omega) (by omega) (by have := HPI1.out.bel.size; simp; omega) ?_; intro v' w3 hown' hgrow hnil hblk; obtain ⟨g', cap', rfl⟩ := ownsRow_succ hown'; have st3 := HPI1.out.box3 hgrow; have c3 : w3.cell? ⟨w.heap.size, 0, none⟩ = some v := st3.cell 0; have f3 := st3.frozen 0))
    have hp := HPI1.out.push (B := W0.heap.size) (x := ⟨(i, t0, t1, t2), htb⟩) hown' hgrow hblk
    exact ⟨hp.1, hp.2.1, _, hp.2.2⟩
  case done =>
    rintro D ys O W hD ⟨K, hK1, hK2⟩ ⟨v, hpi⟩ hK
    have y0 : W.cell? ⟨w.heap.size, 0, none⟩ = some v := hpi.box.cell 0
    gi_wp2
    refine ⟨by simp, .inl ⟨_, _, rfl, run_takeDeferred hK, ?_⟩⟩
    have hl : ys.length = K := by
      have := congrArg List.length hK2
      rw [List.length_map, tkp_len] at this
      exact this
    have hp2 := hpi.put D _ (.deferred none) (Nat.le_trans hsz0 hD) hK rfl
    have ht : ys.map (·.1.2) = tks (bf zs) zs.length a K := by
      rw [← tkp_toks, ← hK2, List.map_map]
      rfl
    have hrow := hp2.row
    rw [hl, ht] at hrow
    refine ⟨.tuple #[v, .int .i64 0], by simp [results, Try.results12, go_sem], v, K, rfl, by rw [HNE.out]; exact hK1, by rw [HNE.out]; exact hrow, hp2.bel⟩
  case stop =>
    rintro D c pre W _ _ h _
    exact h.elim
theorem parse_any (zs : List Int) (ao : Option Addr) (cap : Nat) (a : Bool) (w : World) (hB : Byt zs) (hN : zs.length ≤ 1048576) (hc : zs.length ≤ cap) (hc2 : cap ≤ maxLen) (hS : Src .u8 w ao zs) :
    Calls Try.prog 12 #[.slice ao zs.length cap, .bool a] w fun e w' => ∃ v K, e = .returned (.tuple #[v, .int .i64 0]) ∧ Many (bf zs) zs.length a K ∧ w'.ownsRow w.heap.size 25 3 v K (tcs (tks (bf zs) zs.length a K)) ∧ Below w.heap.size w w' :=
  callsIn_wide.1 (parse_in zs ao cap a w hB hN hc hc2 hS)
set_option maxRecDepth 100000 in
set_option maxHeartbeats 1000000 in
theorem parse_long (ao : Option Addr) (N cap : Nat) (a : Bool) (w : World) (hN : 1048576 < N) :
    Calls Try.prog 12 #[.slice ao N cap, .bool a] w fun e w' => e = .returned (.tuple #[.slice none 0 0, .int .i64 3]) ∧ w' = w := by
  have hgt : (1048576 : Int) < (N : Int) := by omega
  go_enter Try.func12, Try.ntmps12
  go_wp2
  go_ret2
  exact ⟨rfl, rfl⟩
end Go.Proofs.Ytofmoggejfopiaa
