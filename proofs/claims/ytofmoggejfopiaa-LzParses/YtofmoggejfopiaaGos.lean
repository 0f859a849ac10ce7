/- goes: what the iterator of tokens tells, held against a list. -/
import Derived.Test.YtofmoggejfopiaaTks
import Derived.Test.YtofmoggejfopiaaQr
namespace Go.Proofs.Ytofmoggejfopiaa
open Go.RowKit Go.Shelf
attribute [local go_sem] Oper.semAt_some

theorem tks_getD (b : Nat → Int) (N : Nat) (a : Bool) (K n : Nat) (h : n < K) : (tks b N a K).getD n zt = tokAt b N a (ps b N a n) := by
  induction K with
  | zero => omega
  | succ K ih =>
    show (tks b N a K ++ [tokAt b N a (ps b N a K)]).getD n zt = _
    by_cases e : n = K
    · subst e
      simp [List.getD, tks_len]
    · rw [← ih (by omega)]
      simp only [List.getD]
      rw [List.getElem?_append_left (by rw [tks_len]; omega)]
/-- What came is the first tokens. -/
def SpG (zs : List Int) (xs : List PT) : Prop := ∃ k, 0 < k ∧ ps (bf zs) zs.length false (k - 1) < zs.length ∧ xs.map (·.1) = tkp (bf zs) zs.length false k
theorem SpG.last {zs : List Int} {pre : List PT} {x : PT} (h : SpG zs (pre ++ [x])) : ps (bf zs) zs.length false pre.length < zs.length ∧ x.1 = (ps (bf zs) zs.length false pre.length, tokAt (bf zs) zs.length false (ps (bf zs) zs.length false pre.length)) := by
  obtain ⟨k, hk, hp, he⟩ := h
  have hl := congrArg List.length he
  rw [List.length_map, List.length_append, tkp_len] at hl
  simp only [List.length_cons, List.length_nil, Nat.zero_add] at hl
  subst hl
  refine ⟨by simpa using hp, ?_⟩
  rw [List.map_append] at he
  have h2 := (List.append_inj' he rfl).2
  simpa using h2
theorem not_sp_many {zs : List Int} {pre : List PT} {x : PT} {K : Nat} (hM : Many (bf zs) zs.length false K) (h : K ≤ pre.length) : ¬ SpG zs (pre ++ [x]) := fun hs => by
  have h1 := hs.last.1
  have h2 := ps_mono (bf zs) zs.length false h
  unfold Many at hM
  omega
theorem not_sp_other {zs : List Int} {pre : List PT} {x : PT} (h : x.1 ≠ (ps (bf zs) zs.length false pre.length, tokAt (bf zs) zs.length false (ps (bf zs) zs.length false pre.length))) : ¬ SpG zs (pre ++ [x]) := fun hs => h hs.last.2
/-- What goes' loop keeps. -/
structure GI (zs : List Int) (w : World) (g4 g5 g6 g7 g8 : Nat) (lv : Value) (leave : Int) (pre : List PT) (O : Nat → Prop) (W : World) : Prop where
  lst : St 28 W g4 #[lv]
  lvl : St 3 W g5 #[.int .i64 leave]
  res : St 4 W g6 #[.bool false]
  plc : St 3 W g7 #[.int .i64 (ps (bf zs) zs.length false pre.length : Int)]
  num : St 3 W g8 #[.int .i64 (pre.length : Int)]
  hpre : pre.map (·.1) = tkp (bf zs) zs.length false pre.length
  n7 : ¬ O g7
  n8 : ¬ O g8
  bel : Below w.heap.size w W
/-- Where the five variables lie. -/
def GG (w : World) (L g4 g5 g6 g7 g8 : Nat) : Prop := w.heap.size ≤ L ∧ (g4 < L ∧ g5 < L ∧ g6 < L ∧ g7 < L ∧ g8 < L) ∧ (w.heap.size ≤ g6 ∧ w.heap.size ≤ g7 ∧ w.heap.size ≤ g8) ∧ (g6 ≠ g4 ∧ g6 ≠ g5 ∧ g6 ≠ g7 ∧ g6 ≠ g8) ∧ (g7 ≠ g4 ∧ g7 ≠ g5 ∧ g7 ≠ g8) ∧ g8 ≠ g4 ∧ g8 ≠ g5
theorem GI.same {zs : List Int} {w A B : World} {L g4 g5 g6 g7 g8 : Nat} {lv : Value} {leave : Int} {pre : List PT} {O O' F : Nat → Prop} (hG : GG w L g4 g5 g6 g7 g8) (h : GI zs w g4 g5 g6 g7 g8 lv leave pre O A) (k : Kp F A B) (hF : ∀ i, F i → L ≤ i) (h7 : ¬ O' g7) (h8 : ¬ O' g8) : GI zs w g4 g5 g6 g7 g8 lv leave pre O' B := by
  obtain ⟨hL, ⟨a4, a5, a6, a7, a8⟩, _⟩ := hG
  have hn : ∀ g, g < L → ¬ F g := fun g hg x => by have := hF g x; omega
  exact ⟨h.lst.kp k (hn _ a4), h.lvl.kp k (hn _ a5), h.res.kp k (hn _ a6), h.plc.kp k (hn _ a7), h.num.kp k (hn _ a8), h.hpre, h7, h8, h.bel.trans (k.below h.bel.size (fun i x => Nat.le_trans hL (hF i x)))⟩
theorem GI.kp {zs : List Int} {w A B : World} {L g4 g5 g6 g7 g8 : Nat} {lv : Value} {leave : Int} {pre : List PT} {O : Nat → Prop} (hG : GG w L g4 g5 g6 g7 g8) (h : GI zs w g4 g5 g6 g7 g8 lv leave pre O A) (k : Kp (fun i => O i ∧ L ≤ i) A B) : GI zs w g4 g5 g6 g7 g8 lv leave pre (fun i => O i ∨ (A.heap.size ≤ i ∧ i < B.heap.size)) B :=
  h.same hG k (fun _ x => x.2) (fun x => x.elim h.n7 (fun x => absurd h.plc.lt (by omega))) (fun x => x.elim h.n8 (fun x => absurd h.num.lt (by omega)))
theorem GI.alloc {zs : List Int} {w A : World} {L g4 g5 g6 g7 g8 : Nat} {lv : Value} {leave : Int} {pre : List PT} {O : Nat → Prop} (hG : GG w L g4 g5 g6 g7 g8) (h : GI zs w g4 g5 g6 g7 g8 lv leave pre O A) (o : Obj) : GI zs w g4 g5 g6 g7 g8 lv leave pre O (A.alloc o) :=
  h.same hG ((Kp.refl (fun _ => False) _).alloc o) (fun _ x => x.elim) h.n7 h.n8
theorem kp_putObj (W : World) (l : Nat) (o' : Obj) : Kp (fun i => i = l) W (W.putObj l o') := ⟨rfl, rfl, rfl, by simp, fun k _ hk => World.putObj_heap_other (fun e => hk e)⟩
theorem GI.put {zs : List Int} {w A : World} {L g4 g5 g6 g7 g8 : Nat} {lv : Value} {leave : Int} {pre : List PT} {O : Nat → Prop} (hG : GG w L g4 g5 g6 g7 g8) (h : GI zs w g4 g5 g6 g7 g8 lv leave pre O A) (l : Nat) (o' : Obj) (hl : L ≤ l) : GI zs w g4 g5 g6 g7 g8 lv leave pre O (A.putObj l o') :=
  h.same hG (kp_putObj A l o') (fun i e => by omega) h.n7 h.n8
/-- What there is when it is left. -/
def GX (zs : List Int) (w : World) (g6 : Nat) (c : Code) (xs : List PT) (W : World) : Prop := c = .ret ∧ Below w.heap.size w W ∧ ∃ b, St 4 W g6 #[.bool b] ∧ (b = true ∨ ¬ SpG zs xs)
theorem GX.put {zs : List Int} {w A : World} {L g4 g5 g6 g7 g8 : Nat} {c : Code} {xs : List PT} (hG : GG w L g4 g5 g6 g7 g8) (h : GX zs w g6 c xs A) (l : Nat) (o' : Obj) (hl : L ≤ l) : GX zs w g6 c xs (A.putObj l o') := by
  obtain ⟨hL, ⟨a4, a5, a6, a7, a8⟩, _⟩ := hG
  obtain ⟨h1, h2, b, h3, h4⟩ := h
  exact ⟨h1, h2.trans ((kp_putObj A l o').below h2.size (fun i e => by omega)), b, h3.kp (kp_putObj A l o') (by omega), h4⟩
/-- It is left, with b. -/
theorem GI.leave {zs : List Int} {w A X : World} {L g4 g5 g6 g7 g8 B : Nat} {lv : Value} {leave : Int} {pre : List PT} {O F : Nat → Prop} {xs : List PT} (hG : GG w L g4 g5 g6 g7 g8) (h : GI zs w g4 g5 g6 g7 g8 lv leave pre O A) (k : Kp F A X) (hF : ∀ i, F i → i = g7 ∨ i = g8) (b : Bool) (hb : b = true ∨ ¬ SpG zs xs) :
    KeepsFrom B A (X.setCell ⟨g6, 0, none⟩ (.bool b)) ∧ GX zs w g6 .ret xs (X.setCell ⟨g6, 0, none⟩ (.bool b)) := by
  obtain ⟨hL, ⟨a4, a5, a6, a7, a8⟩, ⟨e6, e7, e8⟩, ⟨_, _, n67, n68⟩, _⟩ := hG
  have h6 : St 4 X g6 #[.bool false] := h.res.kp k (fun x => by rcases hF _ x with e | e <;> omega)
  have k2 : Kp (fun i => i = g6 ∨ i = g7 ∨ i = g8) A (X.setCell ⟨g6, 0, none⟩ (.bool b)) := (k.mono (G := fun i => i = g6 ∨ i = g7 ∨ i = g8) (fun i _ x => .inr (hF i x))).trans (kp_setCell X g6 0 _ (fun i => i = g6) rfl) (fun _ _ e => .inl e)
  refine ⟨keeps_of_kp k2 _ (fun i x => ?_), rfl, h.bel.trans (k2.below h.bel.size (fun i x => by rcases x with e | e | e <;> omega)), b, ?_, hb⟩
  · rcases x with e | e | e
    · rw [e]; exact ⟨_, _, h.res⟩
    · rw [e]; exact ⟨_, _, h.plc⟩
    · rw [e]; exact ⟨_, _, h.num⟩
  · have := h6.set 0 (.bool b)
    simpa using this
/-- A round more. -/
theorem GI.round {zs : List Int} {w A X : World} {L g4 g5 g6 g7 g8 B : Nat} {lv : Value} {leave : Int} {pre : List PT} {O : Nat → Prop} {x : PT} {r m : Int} (hG : GG w L g4 g5 g6 g7 g8) (h : GI zs w g4 g5 g6 g7 g8 lv leave pre O A) (k : Kp (fun _ => False) A X) (hx : x.1 = (ps (bf zs) zs.length false pre.length, tokAt (bf zs) zs.length false (ps (bf zs) zs.length false pre.length))) (hr : r = (ps (bf zs) zs.length false (pre.length + 1) : Int)) (hm : m = ((pre.length + 1 : Nat) : Int)) :
    KeepsFrom B A ((X.setCell ⟨g7, 0, none⟩ (.int .i64 r)).setCell ⟨g8, 0, none⟩ (.int .i64 m)) ∧ Kp (fun i => ¬ O i) A ((X.setCell ⟨g7, 0, none⟩ (.int .i64 r)).setCell ⟨g8, 0, none⟩ (.int .i64 m)) ∧ GI zs w g4 g5 g6 g7 g8 lv leave (pre ++ [x]) O ((X.setCell ⟨g7, 0, none⟩ (.int .i64 r)).setCell ⟨g8, 0, none⟩ (.int .i64 m)) := by
  have hG' := hG
  obtain ⟨hL, ⟨a4, a5, a6, a7, a8⟩, ⟨e6, e7, e8⟩, ⟨n64, n65, n67, n68⟩, ⟨n74, n75, n78⟩, n84, n85⟩ := hG'
  have k1 : Kp (fun i => i = g7 ∨ i = g8) A ((X.setCell ⟨g7, 0, none⟩ (.int .i64 r)).setCell ⟨g8, 0, none⟩ (.int .i64 m)) :=
    ((k.mono (G := fun i => i = g7 ∨ i = g8) (fun _ _ x => x.elim)).trans (kp_setCell X g7 0 _ (fun i => i = g7) rfl) (fun _ _ e => .inl e)).trans (kp_setCell _ g8 0 _ (fun i => i = g8) rfl) (fun _ _ e => .inr e)
  have s7 : St 3 X g7 #[.int .i64 (ps (bf zs) zs.length false pre.length : Int)] := h.plc.kp k (fun x => x)
  have s8 : St 3 X g8 #[.int .i64 (pre.length : Int)] := h.num.kp k (fun x => x)
  refine ⟨keeps_of_kp k1 _ (fun i x => ?_), k1.mono (fun i _ x => ?_), ⟨h.lst.kp k1 (by omega), h.lvl.kp k1 (by omega), h.res.kp k1 (by omega), ?_, ?_, ?_, h.n7, h.n8, h.bel.trans (k1.below h.bel.size (fun i x => by rcases x with e | e <;> omega))⟩⟩
  · rcases x with e | e
    · rw [e]; exact ⟨_, _, h.plc⟩
    · rw [e]; exact ⟨_, _, h.num⟩
  · rcases x with e | e
    · rw [e]; exact h.n7
    · rw [e]; exact h.n8
  · have := (s7.set 0 (.int .i64 r)).other (g' := g8) (i := 0) (v := .int .i64 m) n78
    rw [List.length_append]
    rw [hr] at this ⊢
    simpa using this
  · have := (s8.other (g' := g7) (i := 0) (v := .int .i64 r) (Ne.symm n78)).set 0 (.int .i64 m)
    rw [List.length_append]
    rw [hm] at this ⊢
    simpa using this
  · rw [List.map_append, List.length_append, h.hpre]
    show _ ++ [x.1] = _
    rw [hx]
    rfl
set_option maxRecDepth 100000 in
set_option maxHeartbeats 4000000 in
theorem goes_in (zs : List Int) (hB : Byt zs) (hN : zs.length ≤ 1000000) (Bp Ba : Nat) (ao : Option Addr) (cap : Nat) (hc : zs.length ≤ cap) (hc2 : cap ≤ maxLen) (bo : Option Addr) (bl bc : Nat) (lo : Option Addr) (K capl : Nat) (leave : Int) (w : World) (hI : Its zs w Bp Ba ao cap bo bl bc false) (hM : Many (bf zs) zs.length false K) (hT : TSrc w lo (tks (bf zs) zs.length false K)) :
    CallsIn Fence.wide 3 Try.prog 17 #[.func (.func 50) #[] #[.pointer (some ⟨Bp, 0, none⟩), .pointer (some ⟨Ba, 0, none⟩)], .slice lo K capl, .int .i64 leave] w fun e w' => e = .returned (.bool true) ∧ Below w.heap.size w w' := by
  have he : ∀ w : World, (binOp .eql 33 (.func (.func 50) #[] #[.pointer (some ⟨Bp, 0, none⟩), .pointer (some ⟨Ba, 0, none⟩)]) Value.nilFunc).run Try.prog w = .ok (.bool false) w := fun _ => rfl
  have HB : Hid (Byt zs) := hB
  have HIT : Hid (Its zs w Bp Ba ao cap bo bl bc false) := hI
  have HM : Hid (Many (bf zs) zs.length false K) := hM
  have HT : Hid (TSrc w lo (tks (bf zs) zs.length false K)) := hT
  have hK : K ≤ 1000000 := by have := ps_ge (bf zs) zs.length false K; unfold Many at hM; omega
  clear hB hI hM hT
  refine callsIn_of_wp_marks Try.func17 rfl trivial ?_ rfl
  simp only [Try.ntmps17, List.size_toArray, List.length_cons, List.length_nil, Nat.reduceAdd, Nat.reduceSub, Array.replicate_succ, Array.replicate_zero, List.push_toArray, List.append_toArray, List.nil_append, List.cons_append]
  gi_wp2_with fail
  clear he
  have hb0 : Below w.heap.size w (((((w.alloc (.cells #[.slice lo K capl] 28)).alloc (.cells #[.int .i64 leave] 3)).alloc (.cells #[.bool false] 4)).alloc (.cells #[.int .i64 0] 3)).alloc (.cells #[.int .i64 0] 3)) :=
    (((((Below.refl _ w).alloc (Nat.le_refl _) _).alloc (by simp) _).alloc (by simp; omega) _).alloc (by simp; omega) _).alloc (by simp; omega) _
  have hsz : (((((w.alloc (.cells #[.slice lo K capl] 28)).alloc (.cells #[.int .i64 leave] 3)).alloc (.cells #[.bool false] 4)).alloc (.cells #[.int .i64 0] 3)).alloc (.cells #[.int .i64 0] 3)).heap.size = w.heap.size + 5 := by simp
  have hgi : GI zs w w.heap.size (w.heap.size + 1) (w.heap.size + 1 + 1) (w.heap.size + 1 + 1 + 1) (w.heap.size + 1 + 1 + 1 + 1) (.slice lo K capl) leave [] (Oz zs Bp Ba ao bo) (((((w.alloc (.cells #[.slice lo K capl] 28)).alloc (.cells #[.int .i64 leave] 3)).alloc (.cells #[.bool false] 4)).alloc (.cells #[.int .i64 0] 3)).alloc (.cells #[.int .i64 0] 3)) := by
    have kf : ∀ (A : World) (o : Obj), Kp (fun _ => False) A (A.alloc o) := fun A o => (Kp.refl _ A).alloc o
    have s4 := St.new 28 w #[.slice lo K capl]
    have s5 := St.new 3 (w.alloc (.cells #[.slice lo K capl] 28)) #[.int .i64 leave]
    have s6 := St.new 4 ((w.alloc (.cells #[.slice lo K capl] 28)).alloc (.cells #[.int .i64 leave] 3)) #[.bool false]
    have s7 := St.new 3 (((w.alloc (.cells #[.slice lo K capl] 28)).alloc (.cells #[.int .i64 leave] 3)).alloc (.cells #[.bool false] 4)) #[.int .i64 0]
    have s8 := St.new 3 ((((w.alloc (.cells #[.slice lo K capl] 28)).alloc (.cells #[.int .i64 leave] 3)).alloc (.cells #[.bool false] 4)).alloc (.cells #[.int .i64 0] 3)) #[.int .i64 0]
    simp only [World.size_alloc] at s5 s6 s7 s8
    exact ⟨(((s4.kp (kf _ _) (fun x => x)).kp (kf _ _) (fun x => x)).kp (kf _ _) (fun x => x)).kp (kf _ _) (fun x => x), ((s5.kp (kf _ _) (fun x => x)).kp (kf _ _) (fun x => x)).kp (kf _ _) (fun x => x), (s6.kp (kf _ _) (fun x => x)).kp (kf _ _) (fun x => x), s7.kp (kf _ _) (fun x => x), s8, rfl, fun x => absurd (HIT.out.lt x) (by omega), fun x => absurd (HIT.out.lt x) (by omega), hb0⟩
  have hg : GG w (w.heap.size + 5) w.heap.size (w.heap.size + 1) (w.heap.size + 1 + 1) (w.heap.size + 1 + 1 + 1) (w.heap.size + 1 + 1 + 1 + 1) := by unfold GG; omega
  have hit0 := HIT.out.below hb0
  generalize (((((w.alloc (.cells #[.slice lo K capl] 28)).alloc (.cells #[.int .i64 leave] 3)).alloc (.cells #[.bool false] 4)).alloc (.cells #[.int .i64 0] 3)).alloc (.cells #[.int .i64 0] 3)) = W0 at hb0 hsz hgi hit0 ⊢
  rw [← hsz] at hg
  have HGG : Hid (GG w W0.heap.size w.heap.size (w.heap.size + 1) (w.heap.size + 1 + 1) (w.heap.size + 1 + 1 + 1) (w.heap.size + 1 + 1 + 1 + 1)) := hg
  have HGI : Hid (GI zs w w.heap.size (w.heap.size + 1) (w.heap.size + 1 + 1) (w.heap.size + 1 + 1 + 1) (w.heap.size + 1 + 1 + 1 + 1) (.slice lo K capl) leave [] (Oz zs Bp Ba ao bo) W0) := hgi
  have HIT0 : Hid (Its zs W0 Bp Ba ao cap bo bl bc false) := hit0
  clear hb0 hsz hgi hg hit0
  generalize w.heap.size + 1 + 1 + 1 + 1 = g8 at HGG HGI ⊢
  generalize w.heap.size + 1 + 1 + 1 = g7 at HGG HGI ⊢
  generalize w.heap.size + 1 + 1 = g6 at HGG HGI ⊢
  generalize w.heap.size + 1 = g5 at HGG HGI ⊢
  have HGG2 := HGG
  have HGI2 := HGI
  refine wpIn_rangeFunc_O rfl (by omega) (gf := 50) (lb := #[.pointer (some ⟨Bp, 0, none⟩), .pointer (some ⟨Ba, 0, none⟩)]) rfl trivial (enters_of Try.func50 (by kernel_rfl) rfl)
    (tokens1_seq 2 (by omega) zs HB.out (by omega) Bp Ba ao cap hc hc2 bo bl bc false W0 HIT0.out) (fun i hi => HIT0.out.lt hi) (Below.refl _ _) (fun _ => rfl)
    (fun pre O W => GI zs w w.heap.size g5 g6 g7 g8 (.slice lo K capl) leave pre O W) (fun c xs W => GX zs w g6 c xs W)
    (fun s O A B h k => h.kp HGG2.out k) (fun s O A o h => h.alloc HGG2.out o) (fun s O A l o o' h hl ho hc => h.put HGG2.out l o' hl) (fun c s A l o o' h hl ho hc => h.put HGG2.out l o' hl)
    HGI2.out
    (fun x a' W => ∃ Bx, St 25 W Bx #[.int .u8 x.1.2.1, .int .i64 x.1.2.2.1, .int .i64 x.1.2.2.2] ∧ a' = { tmps := #[.func (.func 50) #[] #[.pointer (some ⟨Bp, 0, none⟩), .pointer (some ⟨Ba, 0, none⟩)], .slice lo K capl, .int .i64 leave, undef, .pointer (some ⟨w.heap.size, 0, none⟩), .pointer (some ⟨g5, 0, none⟩), .pointer (some ⟨g6, 0, none⟩), .pointer (some ⟨g7, 0, none⟩), .pointer (some ⟨g8, 0, none⟩), .int .i64 (x.1.1 : Int), .pointer (some ⟨Bx, 0, none⟩), .func (.func 50) #[] #[.pointer (some ⟨Bp, 0, none⟩), .pointer (some ⟨Ba, 0, none⟩)], .bool false, .func (.func 50) #[] #[.pointer (some ⟨Bp, 0, none⟩), .pointer (some ⟨Ba, 0, none⟩)], .int .i64 (x.1.1 : Int), .agg #[.int .u8 x.1.2.1, .int .i64 x.1.2.2.1, .int .i64 x.1.2.2.2], undef, undef, undef, undef, undef, undef, undef, undef, undef, undef, undef, undef, undef, undef, undef, undef, undef, undef, undef, undef, undef, undef, undef, undef, undef, undef, undef, undef, undef, undef, undef], defers := [] })
    (fun x a' _ A B row ⟨Bx, hb, e⟩ hg hr => ⟨Bx, by
      unfold St at hb ⊢
      rw [hg.block Bx (Array.getElem?_eq_some_iff.1 hb).1 (fun e' => by
        obtain ⟨_, o, ho, hc⟩ := hr Bx e'.symm
        rw [hb] at ho
        cases ho
        cases hc)]
      exact hb, e⟩) ?assign ?body ?done ?stop
  case assign =>
    rintro l pre O x W K hpi hK
    dsimp only [encT]
    gi_wp2
    exact hK _ _ ((KeepsOthers.alloc _ _).from _) ((Kp.refl _ _).alloc _) (hpi.alloc HGG2.out _) ⟨W.heap.size, St.new 25 W _, rfl⟩
  case body =>
    rintro l pre O ⟨⟨i, t0, t1, t2⟩, htb⟩ a' W hl hr hpi ⟨Bx, hbx, rfl⟩ hlen
    have HPI : Hid (GI zs w w.heap.size g5 g6 g7 g8 (.slice lo K capl) leave pre O W) := hpi
    obtain ⟨n, hn⟩ : ∃ n, n = pre.length := ⟨_, rfl⟩
    obtain ⟨p, hp⟩ : ∃ p, p = ps (bf zs) zs.length false n := ⟨_, rfl⟩
    have c4 : W.cell? ⟨w.heap.size, 0, none⟩ = some (.slice lo K capl) := hpi.lst.cell 0
    have c5 : W.cell? ⟨g5, 0, none⟩ = some (.int .i64 leave) := hpi.lvl.cell 0
    have c6 : W.cell? ⟨g6, 0, none⟩ = some (.bool false) := hpi.res.cell 0
    have c7 : W.cell? ⟨g7, 0, none⟩ = some (.int .i64 (p : Int)) := by rw [hp, hn]; exact hpi.plc.cell 0
    have c8 : W.cell? ⟨g8, 0, none⟩ = some (.int .i64 (n : Int)) := by rw [hn]; exact hpi.num.cell 0
    have x0 : W.cell? ⟨Bx, 0, none⟩ = some (.int .u8 t0) := hbx.cell 0
    have x1 : W.cell? ⟨Bx, 1, none⟩ = some (.int .i64 t1) := hbx.cell 1
    have x2 : W.cell? ⟨Bx, 2, none⟩ = some (.int .i64 t2) := hbx.cell 2
    have HNN : Hid (n = pre.length) := hn
    have HP : Hid (p = ps (bf zs) zs.length false n) := hp
    have hnb : n ≤ 1000000 := by omega
    have HBX : Hid (St 25 W Bx #[.int .u8 t0, .int .i64 t1, .int .i64 t2]) := hbx
    clear hpi hbx hp hn hl hr hlen
    have hmix : Try.prog.follows .mixedOrders = true := by kernel_rfl
    by_cases hnK : n < K
    · obtain ⟨⟨y, yl, yd⟩, hy⟩ : ∃ t, t = tokAt (bf zs) zs.length false p := ⟨_, rfl⟩
      obtain ⟨gl, ol, hlo, hcs⟩ := HT.out (by rw [tks_len]; omega)
      subst hlo
      obtain ⟨z0, z1, z2⟩ := hcs n (by rw [tks_len]; exact hnK)
      rw [tks_getD _ _ _ _ _ hnK, ← HP.out, ← hy] at z0 z1 z2
      dsimp only at z0 z1 z2
      have lW : ∀ {ad : Addr} {v : Value}, w.cell? ad = some v → W.cell? ad = some v := fun h => (HPI.out.bel.cell (block_lt_of_cell h)).trans h
      have q0 := lW z0
      have q1 := lW z1
      have q2 := lW z2
      have HY : Hid ((y, yl, yd) = tokAt (bf zs) zs.length false p) := hy
      have d1 : ¬ (K : Int) ≤ (n : Int) := by omega
      have d2 : decide ((K : Int) ≤ (n : Int)) = false := by simp; omega
      have d3 : decide (K ≤ n) = false := by simp; omega
      clear hcs lW z0 z1 z2 hy
      by_cases hip : i = p
      · subst hip
        by_cases ht : (t0 = y ∧ t1 = yl) ∧ t2 = yd
        · obtain ⟨⟨rfl, rfl⟩, rfl⟩ := ht
          have hlt : t1 = 0 ∨ 1 < t1 := by
            have h1 := tokAt_len (bf zs) zs.length false i
            rw [← HY.out] at h1
            dsimp only at h1
            rcases tk_cases (bf zs) zs.length false i with h | ⟨h, h3, _⟩
            · rw [h] at h1; left; simpa using h1
            · rw [h] at h1; right; omega
          have HR : Hid ((i : Int) + max 1 t1 = (ps (bf zs) zs.length false (n + 1) : Int)) := by
            show _ = _
            have h1 := tokAt_len (bf zs) zs.length false i
            rw [← HY.out] at h1
            dsimp only at h1
            simp only [ps]
            rw [← HP.out, h1]
            omega
          have hib : i ≤ 2000000 := htb.1
          have htl : t1 ≤ 258 := htb.2.2.1.2
          have HX1 : Hid ((i, t0, t1, t2) = (ps (bf zs) zs.length false pre.length, tokAt (bf zs) zs.length false (ps (bf zs) zs.length false pre.length))) := by show _ = _; rw [← HNN.out, ← HP.out, ← HY.out]
          gi_wp2_with fail
          refine wpIn_region_quietR hmix (by kernel_rfl) (by kernel_rfl) ?_
          repeat (gi_big_quiet_step (fail))
          refine wpQuietIn_nil ?_
          intro _ hw'
          obtain ⟨nq, hw2⟩ := hw'
          subst hw2
          generalize hX : W.drewN nq = X
          have kX : Kp (fun _ => False) W X := by rw [← hX]; exact drewN_kp _ _ _
          clear hX
          have k6 : X.cell? ⟨g6, 0, none⟩ = some (.bool false) := (HPI.out.res.kp kX (fun x => x)).cell 0
          have v6 := (HPI.out.res.kp kX (fun x => x)).frozen 0
          have k7 : X.cell? ⟨g7, 0, none⟩ = some (.int .i64 (i : Int)) := by rw [HP.out, HNN.out]; exact (HPI.out.plc.kp kX (fun x => x)).cell 0
          have v7 := (HPI.out.plc.kp kX (fun x => x)).frozen 0
          have k8 : X.cell? ⟨g8, 0, none⟩ = some (.int .i64 (n : Int)) := by rw [HNN.out]; exact (HPI.out.num.kp kX (fun x => x)).cell 0
          have v8 := (HPI.out.num.kp kX (fun x => x)).frozen 0
          have k5 : X.cell? ⟨g5, 0, none⟩ = some (.int .i64 leave) := (HPI.out.lvl.kp kX (fun x => x)).cell 0
          have kx : X.cell? ⟨Bx, 1, none⟩ = some (.int .i64 t1) := (HBX.out.kp kX (fun x => x)).cell 1
          have n78 : g7 ≠ g8 := HGG2.out.2.2.2.2.1.2.2
          have n87 : g8 ≠ g7 := Ne.symm n78
          have n75 : g5 ≠ g7 := Ne.symm HGG2.out.2.2.2.2.1.2.1
          have n85 : g5 ≠ g8 := Ne.symm HGG2.out.2.2.2.2.2.2
          have n67 : g6 ≠ g7 := HGG2.out.2.2.2.1.2.2.1
          have n68 : g6 ≠ g8 := HGG2.out.2.2.2.1.2.2.2
          have nBx : Bx ≠ g7 := fun e => by
            have := HBX.out.ne (u := 3) ⟨_, by rw [e]; exact HPI.out.plc⟩
            cases this
          have HKX : Hid (Kp (fun _ => False) W X) := kX
          clear c4 c5 c6 c7 c8 x0 x1 x2 q0 q1 q2 kX hnK
          rcases hlt with rfl | hlt
          all_goals
            by_cases hlv : ((n : Int) + 1) = leave
            · subst hlv
              gi_wp2_with fail
              exact HPI.out.leave HGG2.out (F := fun i => i = g7 ∨ i = g8) (((HKX.out.mono (fun _ _ x => x.elim)).trans (kp_setCell X g7 0 _ (fun i => i = g7) rfl) (fun _ _ e => .inl e)).trans (kp_setCell _ g8 0 _ (fun i => i = g8) rfl) (fun _ _ e => .inr e)) (fun _ x => x) true (.inl rfl)
            · have hlv2 : (((n : Int) + 1) == leave) = false := beq_eq_false_iff_ne.2 hlv
              gi_wp2_with fail
              exact HPI.out.round HGG2.out HKX.out HX1.out (by rw [← HNN.out, ← HR.out]; omega) (by rw [← HNN.out]; omega)
        · have HNS : Hid (¬ SpG zs (pre ++ [⟨(i, t0, t1, t2), htb⟩])) := not_sp_other (fun e => by
            rw [← HNN.out, ← HP.out, ← HY.out] at e
            cases e
            exact ht ⟨⟨rfl, rfl⟩, rfl⟩)
          by_cases e0 : t0 = y
          · subst e0
            by_cases e1 : t1 = yl
            · subst e1
              have e2 : ¬ t2 = yd := fun e => ht ⟨⟨rfl, rfl⟩, e⟩
              have f2 : (t2 == yd) = false := beq_eq_false_iff_ne.2 e2
              clear ht
              gi_wp2_with fail
              refine wpIn_region_quietR hmix (by kernel_rfl) (by kernel_rfl) ?_
              repeat (gi_big_quiet_step (fail))
              refine wpQuietIn_nil ?_
              intro _ hw'
              obtain ⟨nq, hw2⟩ := hw'
              subst hw2
              generalize hX : W.drewN nq = X
              have kX : Kp (fun _ => False) W X := by rw [← hX]; exact drewN_kp _ _ _
              clear hX
              have k6 : X.cell? ⟨g6, 0, none⟩ = some (.bool false) := (HPI.out.res.kp kX (fun x => x)).cell 0
              have v6 := (HPI.out.res.kp kX (fun x => x)).frozen 0
              gi_wp2_with fail
              exact HPI.out.leave HGG2.out kX (fun _ x => x.elim) false (.inr HNS.out)
            · have f1 : (t1 == yl) = false := beq_eq_false_iff_ne.2 e1
              clear ht
              gi_wp2_with fail
              refine wpIn_region_quietR hmix (by kernel_rfl) (by kernel_rfl) ?_
              repeat (gi_big_quiet_step (fail))
              refine wpQuietIn_nil ?_
              intro _ hw'
              obtain ⟨nq, hw2⟩ := hw'
              subst hw2
              generalize hX : W.drewN nq = X
              have kX : Kp (fun _ => False) W X := by rw [← hX]; exact drewN_kp _ _ _
              clear hX
              have k6 : X.cell? ⟨g6, 0, none⟩ = some (.bool false) := (HPI.out.res.kp kX (fun x => x)).cell 0
              have v6 := (HPI.out.res.kp kX (fun x => x)).frozen 0
              gi_wp2_with fail
              exact HPI.out.leave HGG2.out kX (fun _ x => x.elim) false (.inr HNS.out)
          · have f0 : (t0 == y) = false := beq_eq_false_iff_ne.2 e0
            clear ht
            gi_wp2_with fail
            refine wpIn_region_quietR hmix (by kernel_rfl) (by kernel_rfl) ?_
            repeat (gi_big_quiet_step (fail))
            refine wpQuietIn_nil ?_
            intro _ hw'
            obtain ⟨nq, hw2⟩ := hw'
            subst hw2
            generalize hX : W.drewN nq = X
            have kX : Kp (fun _ => False) W X := by rw [← hX]; exact drewN_kp _ _ _
            clear hX
            have k6 : X.cell? ⟨g6, 0, none⟩ = some (.bool false) := (HPI.out.res.kp kX (fun x => x)).cell 0
            have v6 := (HPI.out.res.kp kX (fun x => x)).frozen 0
            gi_wp2_with fail
            exact HPI.out.leave HGG2.out kX (fun _ x => x.elim) false (.inr HNS.out)
      · have hip2 : ((i : Int) == (p : Int)) = false := beq_eq_false_iff_ne.2 (by omega)
        have hip3 : ¬ (i : Int) = (p : Int) := by omega
        have hip4 : ((i : Int) != (p : Int)) = true := bne_iff_ne.2 (by omega)
        have hip5 : decide (i = p) = false := by simp; omega
        have hip6 : decide ((i : Int) = (p : Int)) = false := by simp; omega
        have HNS : Hid (¬ SpG zs (pre ++ [⟨(i, t0, t1, t2), htb⟩])) := not_sp_other (fun e => by
          rw [← HNN.out, ← HP.out] at e
          exact hip (congrArg (·.1) e))
        gi_wp2_with fail
        refine wpIn_region_quietR hmix (by kernel_rfl) (by kernel_rfl) ?_
        repeat (gi_big_quiet_step (fail))
        refine wpQuietIn_nil ?_
        intro _ hw'
        obtain ⟨nq, hw2⟩ := hw'
        subst hw2
        generalize hX : W.drewN nq = X
        have kX : Kp (fun _ => False) W X := by rw [← hX]; exact drewN_kp _ _ _
        clear hX
        have k6 : X.cell? ⟨g6, 0, none⟩ = some (.bool false) := (HPI.out.res.kp kX (fun x => x)).cell 0
        have v6 := (HPI.out.res.kp kX (fun x => x)).frozen 0
        gi_wp2_with fail
        exact HPI.out.leave HGG2.out kX (fun _ x => x.elim) false (.inr HNS.out)
    · have d1 : (K : Int) ≤ (n : Int) := by omega
      have d2 : decide ((K : Int) ≤ (n : Int)) = true := by simp; omega
      have d3 : decide (K ≤ n) = true := by simp; omega
      have HNS : Hid (¬ SpG zs (pre ++ [⟨(i, t0, t1, t2), htb⟩])) := not_sp_many HM.out (by have := HNN.out; omega)
      clear hnK
      gi_wp2_with fail
      refine wpIn_region_quietR hmix (by kernel_rfl) (by kernel_rfl) ?_
      repeat (gi_big_quiet_step (fail))
      refine wpQuietIn_nil ?_
      intro _ hw'
      obtain ⟨nq, hw2⟩ := hw'
      subst hw2
      generalize hX : W.drewN nq = X
      have kX : Kp (fun _ => False) W X := by rw [← hX]; exact drewN_kp _ _ _
      clear hX
      have k6 : X.cell? ⟨g6, 0, none⟩ = some (.bool false) := (HPI.out.res.kp kX (fun x => x)).cell 0
      have v6 := (HPI.out.res.kp kX (fun x => x)).frozen 0
      gi_wp2_with fail
      exact HPI.out.leave HGG2.out kX (fun _ x => x.elim) false (.inr HNS.out)
  case done =>
    rintro D ys O W hD ⟨k, hk1, hk2⟩ hpi hKD
    obtain rfl : k = K := hk1.uniq HM.out
    have hl : ys.length = k := by
      have := congrArg List.length hk2
      rw [List.length_map, tkp_len] at this
      exact this
    have c4 : W.cell? ⟨w.heap.size, 0, none⟩ = some (.slice lo k capl) := hpi.lst.cell 0
    have c6 : W.cell? ⟨g6, 0, none⟩ = some (.bool false) := hpi.res.cell 0
    have c8 : W.cell? ⟨g8, 0, none⟩ = some (.int .i64 (k : Int)) := by rw [← hl]; exact hpi.num.cell 0
    have f6 := hpi.res.frozen 0
    gi_wp2
    have h6 := HGG2.out.2.1.2.2.1
    have hK2 : (W.setCell ⟨g6, 0, none⟩ (.bool true)).heap[D]? = some (.deferred (some [])) := by rw [heap_setCell_other _ _ _ _ (show D ≠ g6 by omega)]; exact hKD
    refine ⟨by simp, .inl ⟨_, _, rfl, run_takeDeferred hK2, ?_⟩⟩
    have s6 : St 4 (W.setCell ⟨g6, 0, none⟩ (.bool true)) g6 #[.bool true] := by have := hpi.res.set 0 (.bool true); simpa using this
    have s6' : St 4 ((W.setCell ⟨g6, 0, none⟩ (.bool true)).putObj D (.deferred none)) g6 #[.bool true] := s6.kp (kp_putObj _ _ _) (by omega)
    have r6 : ((W.setCell ⟨g6, 0, none⟩ (.bool true)).putObj D (.deferred none)).cell? ⟨g6, 0, none⟩ = some (.bool true) := s6'.cell 0
    refine ⟨.bool true, by simp [results, Try.results17, go_sem, r6], rfl, ?_⟩
    have h6w := HGG2.out.2.2.1.1
    have hLw := HGG2.out.1
    exact (hpi.bel.trans ((kp_setCell W g6 0 _ (fun i => i = g6) rfl).below hpi.bel.size (fun i e => by omega))).trans ((kp_putObj _ D _).below (by have := hpi.bel.size; simp; omega) (fun i e => by omega))
  case stop =>
    rintro D c pre W hD hSp ⟨rfl, hb, b, hres, hbt⟩ hK
    obtain rfl : b = true := hbt.resolve_right (fun h => h hSp)
    gi_wp2
    have h6 := HGG2.out.2.1.2.2.1
    have hLw := HGG2.out.1
    refine ⟨by simp, .inl ⟨_, _, rfl, run_takeDeferred hK, ?_⟩⟩
    have s6' : St 4 (W.putObj D (.deferred none)) g6 #[.bool true] := hres.kp (kp_putObj _ _ _) (by omega)
    have r6 : (W.putObj D (.deferred none)).cell? ⟨g6, 0, none⟩ = some (.bool true) := s6'.cell 0
    exact ⟨.bool true, by simp [results, Try.results17, go_sem, r6], rfl, hb.trans ((kp_putObj _ D _).below hb.size (fun i e => by omega))⟩
/-- goes, as a plain contract. -/
theorem goes_any (zs : List Int) (hB : Byt zs) (hN : zs.length ≤ 1000000) (Bp Ba : Nat) (ao : Option Addr) (cap : Nat) (hc : zs.length ≤ cap) (hc2 : cap ≤ maxLen) (bo : Option Addr) (bl bc : Nat) (lo : Option Addr) (K capl : Nat) (leave : Int) (w : World) (hI : Its zs w Bp Ba ao cap bo bl bc false) (hM : Many (bf zs) zs.length false K) (hT : TSrc w lo (tks (bf zs) zs.length false K)) :
    Calls Try.prog 17 #[.func (.func 50) #[] #[.pointer (some ⟨Bp, 0, none⟩), .pointer (some ⟨Ba, 0, none⟩)], .slice lo K capl, .int .i64 leave] w fun e w' => e = .returned (.bool true) ∧ Below w.heap.size w w' :=
  callsIn_wide.1 (goes_in zs hB hN Bp Ba ao cap hc hc2 bo bl bc lo K capl leave w hI hM hT)
end Go.Proofs.Ytofmoggejfopiaa
