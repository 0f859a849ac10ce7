/- The iterator of tokens. -/
import Derived.Test.YtofmoggejfopiaaLg
import Derived.Test.YtofmoggejfopiaaLnk
import Derived.Test.YtofmoggejfopiaaSeq
namespace Go.Proofs.Ytofmoggejfopiaa
open Go.RowKit Go.Shelf
attribute [local go_sem] Oper.semAt_some

/-- Places and tokens, the first k. -/
def tkp (b : Nat → Int) (N : Nat) (a : Bool) : Nat → List (Nat × Tok)
  | 0 => []
  | k + 1 => tkp b N a k ++ [(ps b N a k, tokAt b N a (ps b N a k))]
theorem tkp_len (b : Nat → Int) (N : Nat) (a : Bool) (k : Nat) : (tkp b N a k).length = k := by
  induction k with
  | zero => rfl
  | succ k ih => simp [tkp, ih]
theorem tkp_toks (b : Nat → Int) (N : Nat) (a : Bool) (k : Nat) : (tkp b N a k).map (·.2) = tks b N a k := by
  induction k with
  | zero => rfl
  | succ k ih => simp [tkp, tks, ih]
/-- What may be told. -/
def Tb (x : Nat × Tok) : Prop := x.1 ≤ 2000000 ∧ (0 ≤ x.2.1 ∧ x.2.1 ≤ 255) ∧ (0 ≤ x.2.2.1 ∧ x.2.2.1 ≤ 258) ∧ (0 ≤ x.2.2.2 ∧ x.2.2.2 ≤ 32768)
abbrev PT := { x : Nat × Tok // Tb x }
def tv (t : Tok) : Value := .agg #[.int .u8 t.1, .int .i64 t.2.1, .int .i64 t.2.2]
def encT (x : PT) : Array Value := #[.int .i64 (x.1.1 : Int), .agg #[.int .u8 x.1.2.1, .int .i64 x.1.2.2.1, .int .i64 x.1.2.2.2]]
theorem tok_tb {zs : List Int} (hB : Byt zs) (hN : zs.length ≤ 2000000) (a : Bool) {p : Nat} (hp : p < zs.length) : Tb (p, tokAt (bf zs) zs.length a p) := by
  have h := tk_le (bf zs) zs.length a p
  have hb : 0 ≤ bf zs p ∧ bf zs p ≤ 255 := hB.get p
  unfold tokAt Tb
  split
  · exact ⟨by simp only; omega, hb, by simp, by simp⟩
  · exact ⟨by simp only; omega, by simp, by simp only; omega, by simp only; omega⟩
/-- The blocks that the iterator reads. -/
def Oz (zs : List Int) (Bp Ba : Nat) (ao bo : Option Addr) (i : Nat) : Prop := i = Bp ∨ i = Ba ∨ (0 < zs.length ∧ ∃ off, ao = some ⟨i, off, none⟩) ∨ (3 ≤ zs.length ∧ ∃ off, bo = some ⟨i, off, none⟩)
/-- What the iterator reads. -/
structure Its (zs : List Int) (w : World) (Bp Ba : Nat) (ao : Option Addr) (cap : Nat) (bo : Option Addr) (bl bc : Nat) (a : Bool) : Prop where
  box : St 71 w Bp #[.slice ao zs.length cap, .slice bo bl bc]
  ah : St 4 w Ba #[.bool a]
  src : Src .u8 w ao zs
  lk : LkV w zs.length (.slice bo bl bc) (lkf (bf zs))
theorem LkV.kp3 {F : Nat → Prop} {w w' : World} {N : Nat} {bo : Option Addr} {bl bc : Nat} {L : Nat → Nat} (h : LkV w N (.slice bo bl bc) L) (k : Kp F w w') (hf : 3 ≤ N → ∀ B off, bo = some ⟨B, off, none⟩ → ¬ F B) : LkV w' N (.slice bo bl bc) L := by
  rcases h with h | ⟨B, c, h1, h2⟩
  · exact .inl h
  · refine .inr ⟨B, c, h1, fun q hq => ⟨?_, (h2 q hq).2⟩⟩
    have hbo : bo = some ⟨B, 0, none⟩ := by injection h1
    rw [← (h2 q hq).1]
    have hb := k.block B (block_lt_of_cell (h2 q hq).1) (hf (by omega) B 0 hbo)
    unfold World.cell?
    simp only [hb]
theorem Its.kp {F : Nat → Prop} {zs : List Int} {w w' : World} {Bp Ba : Nat} {ao : Option Addr} {cap : Nat} {bo : Option Addr} {bl bc : Nat} {a : Bool} (h : Its zs w Bp Ba ao cap bo bl bc a) (k : Kp F w w') (hf : ∀ i, Oz zs Bp Ba ao bo i → ¬ F i) : Its zs w' Bp Ba ao cap bo bl bc a := by
  refine ⟨h.box.kp k (hf _ (.inl rfl)), h.ah.kp k (hf _ (.inr (.inl rfl))), ?_, h.lk.kp3 k (fun h3 B off e => hf _ (.inr (.inr (.inr ⟨h3, off, e⟩))))⟩
  by_cases h0 : 0 < zs.length
  · exact h.src.kp k (fun b off e => hf _ (.inr (.inr (.inl ⟨h0, off, e⟩))))
  · obtain rfl : zs = [] := List.eq_nil_of_length_eq_zero (by omega)
    exact Src.nil _ _ _
theorem Its.below {zs : List Int} {w w' : World} {Bp Ba : Nat} {ao : Option Addr} {cap : Nat} {bo : Option Addr} {bl bc : Nat} {a : Bool} (h : Its zs w Bp Ba ao cap bo bl bc a) (k : Below w.heap.size w w') : Its zs w' Bp Ba ao cap bo bl bc a :=
  h.kp (Kp.of_below (F := fun _ => False) k) (fun _ _ x => x)
/-- The token in numbers. -/
theorem tokAt_byte {b : Nat → Int} {N p t1 t2 : Nat} {a : Bool} (h : lng b N p = (t1, t2)) (hc : t1 = 0 ∨ (a = true ∧ t1 < (lng b N (p + 1)).1)) : tokAt b N a p = (b p, 0, 0) := by
  unfold tokAt tk; rw [h]; simp only; rw [if_pos hc]; rfl
theorem tokAt_match {b : Nat → Int} {N p t1 t2 : Nat} {a : Bool} (h : lng b N p = (t1, t2)) (hc : ¬ (t1 = 0 ∨ (a = true ∧ t1 < (lng b N (p + 1)).1))) : tokAt b N a p = (0, (t1 : Int), (t2 : Int)) := by
  unfold tokAt tk; rw [h]; simp only; rw [if_neg hc, if_neg (by simp only; omega)]
theorem Its.lt {zs : List Int} {w : World} {Bp Ba : Nat} {ao : Option Addr} {cap : Nat} {bo : Option Addr} {bl bc : Nat} {a : Bool} (h : Its zs w Bp Ba ao cap bo bl bc a) {i : Nat} (hi : Oz zs Bp Ba ao bo i) : i < w.heap.size := by
  rcases hi with rfl | rfl | ⟨h0, off, e⟩ | ⟨h3, off, e⟩
  · exact h.box.lt
  · exact h.ah.lt
  · obtain ⟨b, off', e', hc⟩ := h.src h0
    rw [e] at e'
    cases e'
    exact block_lt_of_cell (hc 0 h0)
  · exact h.lk.lt h3 (by rw [e]; rfl)
/-- What the iterator goes over from round to round. -/
structure TK (zs : List Int) (J : List PT → (Nat → Prop) → World → Prop) (wr : World) (Bp Ba g4 : Nat) (ao : Option Addr) (cap : Nat) (bo : Option Addr) (bl bc : Nat) (a : Bool) (k : Nat) (pre : List PT) (O : Nat → Prop) (n1 n2 : Nat) : Prop where
  hp : ps (bf zs) zs.length a k ≤ zs.length
  hpre : pre.map (·.1) = tkp (bf zs) zs.length a k
  j : J pre O wr
  sub : ∀ i, Oz zs Bp Ba ao bo i → O i
  og : O g4
  ng : ¬ Oz zs Bp Ba ao bo g4
  st : St 25 wr g4 #[.int .u8 0, .int .i64 (n1 : Int), .int .i64 (n2 : Int)]
  nx : (n1 = 0 ∧ n2 = 0) ∨ (0 < n1 ∧ lng (bf zs) zs.length (ps (bf zs) zs.length a k) = (n1, n2))
  its : Its zs wr Bp Ba ao cap bo bl bc a
theorem longer_n (zs : List Int) (N : Nat) (hNe : N = zs.length) (ao : Option Addr) (cap p k : Nat) (q : Int) (hq : q = (p : Int)) (bo : Option Addr) (bl bc : Nat) (w : World) (hB : Byt zs) (hN : N ≤ 2000000) (hc : N ≤ cap) (hc2 : cap ≤ maxLen) (hS : Src .u8 w ao zs) (hv : LkV w zs.length (.slice bo bl bc) (lkf (bf zs))) (hp : p ≤ N) (hk : 2 ≤ k) (hk2 : k ≤ 258) (t1 t2 : Nat) (ht : lngk (bf zs) zs.length p k = (t1, t2)) :
    Calls Try.prog 34 #[.agg #[.slice ao N cap, .slice bo bl bc], .int .i64 q, .int .i64 (k : Int)] w fun e w' => e = .returned (.agg #[.int .u8 0, .int .i64 (t1 : Int), .int .i64 (t2 : Int)]) ∧ Below w.heap.size w w' := by
  subst hNe hq
  have := longer_any zs (lkf (bf zs)) ao cap p k bo bl bc w hB hN hc hc2 hS (.inr (lkf_linked _ _)) hv hp hk hk2
  rw [ht] at this
  exact this
theorem at_world {F : Fence} {n : Nat} {P : Program} {C : Code} {Q : Exit → Act → World → Prop} {a : Act} {X : World} {R : World → Prop} (hX : R X) (h : ∀ X', R X' → C.wpIn F n P Q a X') : C.wpIn F n P Q a X := h X hX
theorem yield_in {F : Fence} {n m : Nat} {P : Program} {C : Code} {Q : Exit → Act → World → Prop} {a : Act} {X : World} {l : Nat} {args : Array Value} {R : Ending → World → Prop} (hY : YieldAt F m P l args X R)
    (h : ∀ fn tmps assign body, (Instr.yield l args).run P X = .ok (.round l fn tmps assign body) X → RoundIn F m P l fn tmps assign body X R → C.wpIn F n P Q a X) : C.wpIn F n P Q a X := by
  obtain ⟨fn, tmps, assign, body, hy, hR⟩ := hY
  exact h fn tmps assign body hy hR
theorem kpn_set {F : Nat → Prop} {w X : World} {g i : Nat} {v : Value} (h : Kp F w X) (hg : F g ∨ w.heap.size ≤ g) : Kp F w (X.setCell ⟨g, i, none⟩ v) :=
  h.trans (kp_setCell X g i v (fun j => j = g) rfl) (fun j hj e => by subst e; exact hg.elim id (fun x => absurd hj (by omega)))
theorem St.other {t : TypeId} {w : World} {g g' i : Nat} {cs : Array Value} {v : Value} (h : St t w g cs) (hne : g ≠ g') : St t (w.setCell ⟨g', i, none⟩ v) g cs := h.kp (kp_setCell w g' i v (fun j => j = g') rfl) hne
theorem St.eq {t : TypeId} {w : World} {g : Nat} {cs cs' : Array Value} (h : St t w g cs) (e : cs = cs') : St t w g cs' := e ▸ h
/-- What next is, at the place q. -/
def Nxt (zs : List Int) (q m1 m2 : Nat) : Prop := (m1 = 0 ∧ m2 = 0) ∨ (0 < m1 ∧ lng (bf zs) zs.length q = (m1, m2))
/-- What there is when a token is told. -/
def Tld (zs : List Int) (a : Bool) (wr : World) (g4 g6 p : Nat) (X : World) : Prop :=
  ∃ (y0 y1 y2 : Int) (m1 m2 : Nat), tokAt (bf zs) zs.length a p = (y0, y1, y2) ∧ Nxt zs (p + max 1 (tk (bf zs) zs.length a p).1) m1 m2 ∧ Kp (fun i => i = g4) wr X ∧ St 25 X g4 #[.int .u8 0, .int .i64 (m1 : Int), .int .i64 (m2 : Int)] ∧ St 25 X g6 #[.int .u8 y0, .int .i64 y1, .int .i64 y2]
theorem tld_byte {zs : List Int} {a : Bool} {wr X : World} {g4 g6 p t1 t2 m1 m2 : Nat} {Y : Int} (hT : lng (bf zs) zs.length p = (t1, t2)) (hY : Y = bf zs p) (hc : t1 = 0 ∨ (a = true ∧ t1 < (lng (bf zs) zs.length (p + 1)).1)) (hn : Nxt zs (p + 1) m1 m2)
    (K : Kp (fun i => i = g4) wr X) (s4 : St 25 X g4 #[.int .u8 0, .int .i64 (m1 : Int), .int .i64 (m2 : Int)]) (s6 : St 25 X g6 #[.int .u8 Y, .int .i64 0, .int .i64 0]) : Tld zs a wr g4 g6 p X := by
  refine ⟨Y, 0, 0, m1, m2, by rw [tokAt_byte hT hc, hY], ?_, K, s4, s6⟩
  have : tk (bf zs) zs.length a p = (0, 0) := by unfold tk; rw [hT]; simp only; rw [if_pos hc]
  rw [this]; exact hn
theorem tld_match {zs : List Int} {a : Bool} {wr X : World} {g4 g6 p t1 t2 : Nat} (hT : lng (bf zs) zs.length p = (t1, t2)) (hc : ¬ (t1 = 0 ∨ (a = true ∧ t1 < (lng (bf zs) zs.length (p + 1)).1)))
    (K : Kp (fun i => i = g4) wr X) (s4 : St 25 X g4 #[.int .u8 0, .int .i64 0, .int .i64 0]) (s6 : St 25 X g6 #[.int .u8 0, .int .i64 (t1 : Int), .int .i64 (t2 : Int)]) : Tld zs a wr g4 g6 p X :=
  ⟨0, t1, t2, 0, 0, tokAt_match hT hc, .inl ⟨rfl, rfl⟩, K, s4, s6⟩
theorem lngk_parts {b : Nat → Int} {N q k m1 m2 : Nat} (h : lngk b N q k = (m1, m2)) : (m1 = 0 → m2 = 0 ∧ ¬ k < (lng b N q).1) ∧ (m1 ≠ 0 → k < (lng b N q).1 ∧ lng b N q = (m1, m2)) := by
  unfold lngk at h
  split at h
  · rename_i hc
    rw [h] at hc
    exact ⟨fun e => by simp only at hc; omega, fun _ => ⟨by rw [h]; exact hc, h⟩⟩
  · rename_i hc
    cases h
    exact ⟨fun _ => ⟨rfl, hc⟩, fun e => absurd rfl e⟩
theorem tokAt_len (b : Nat → Int) (N : Nat) (a : Bool) (p : Nat) : (tokAt b N a p).2.1 = ((tk b N a p).1 : Int) := by
  unfold tokAt
  split
  · rename_i h; rw [h]; rfl
  · rfl
theorem TK.step {zs : List Int} {J : List PT → (Nat → Prop) → World → Prop} {wr X W3 W4 : World} {Bp Ba g4 : Nat} {ao : Option Addr} {cap : Nat} {bo : Option Addr} {bl bc : Nat} {a : Bool} {k : Nat} {pre : List PT} {O : Nat → Prop} {n1 n2 m1 m2 : Nat} {x : PT}
    (h : TK zs J wr Bp Ba g4 ao cap bo bl bc a k pre O n1 n2) (hp : ps (bf zs) zs.length a k < zs.length) (kX : Kp (fun i => i = g4) wr X) (s4 : St 25 X g4 #[.int .u8 0, .int .i64 (m1 : Int), .int .i64 (m2 : Int)]) (hnx : Nxt zs (ps (bf zs) zs.length a (k + 1)) m1 m2)
    (hJ3 : J (pre ++ [x]) (fun i => O i ∨ (wr.heap.size ≤ i ∧ i < X.heap.size)) W3) (hk3 : Kp (fun i => ¬ (O i ∨ (wr.heap.size ≤ i ∧ i < X.heap.size))) X W3) (b4 : Below W3.heap.size W3 W4) (HJ : ∀ s O A B, J s O A → Kp (fun i => O i ∧ g4 ≤ i) A B → J s (fun i => O i ∨ (A.heap.size ≤ i ∧ i < B.heap.size)) B) (hcy : (pre ++ [x]).map (·.1) = tkp (bf zs) zs.length a (k + 1)) :
    TK zs J W4 Bp Ba g4 ao cap bo bl bc a (k + 1) (pre ++ [x]) (fun i => (O i ∨ (wr.heap.size ≤ i ∧ i < X.heap.size)) ∨ (W3.heap.size ≤ i ∧ i < W4.heap.size)) m1 m2 :=
  ⟨ps_le hp, hcy, HJ _ _ _ _ hJ3 (Kp.of_below b4), fun i x => .inl (.inl (h.sub i x)), .inl (.inl h.og), h.ng, (s4.kp hk3 (fun x => x (.inl h.og))).below b4 (s4.kp hk3 (fun x => x (.inl h.og))).lt, hnx,
    ((h.its.kp kX (fun _ hi e => h.ng (e ▸ hi))).kp hk3 (fun i hi x => x (.inl (h.sub i hi)))).below b4⟩
set_option maxRecDepth 100000 in
set_option maxHeartbeats 8000000 in
theorem tokens1_seq (n : Nat) (hn : 1 ≤ n) (zs : List Int) (hB : Byt zs) (hN : zs.length ≤ 2000000) (Bp Ba : Nat) (ao : Option Addr) (cap : Nat) (hc : zs.length ≤ cap) (hc2 : cap ≤ maxLen) (bo : Option Addr) (bl bc : Nat) (a : Bool) (w : World) (h : Its zs w Bp Ba ao cap bo bl bc a) :
    SeqO Fence.wide n Try.prog 50 #[.pointer (some ⟨Bp, 0, none⟩), .pointer (some ⟨Ba, 0, none⟩)] encT
      (fun ys => ∃ k, Many (bf zs) zs.length a k ∧ ys.map (·.1) = tkp (bf zs) zs.length a k) (fun pre => ∃ k, 0 < k ∧ ps (bf zs) zs.length a (k - 1) < zs.length ∧ pre.map (·.1) = tkp (bf zs) zs.length a k) zs.length (Oz zs Bp Ba ao bo) w := by
  intro l J Jx W hW hJ hY h0
  have hi := h.below hW
  refine callsIn_of_wp Try.func50 rfl trivial ?_ rfl
  simp only [Try.ntmps50, List.size_toArray, List.length_cons, List.length_nil, Nat.reduceAdd, Nat.reduceSub, Array.replicate_succ, Array.replicate_zero, List.push_toArray, List.append_toArray, List.nil_append, List.cons_append]
  obtain ⟨N, hNe⟩ : ∃ x, x = zs.length := ⟨_, rfl⟩
  have HNE : Hid (N = zs.length) := hNe
  have HI : Hid (Its zs W Bp Ba ao cap bo bl bc a) := hi
  have HB : Hid (Byt zs) := hB
  have HJ : Hid (∀ s O A B, J s O A → Kp (fun i => O i ∧ W.heap.size ≤ i) A B → J s (fun i => O i ∨ (A.heap.size ≤ i ∧ i < B.heap.size)) B) := hJ
  have HY : Hid (∀ pre O x W1, J pre O W1 → pre.length < zs.length → YieldAt Fence.wide (n - 1) Try.prog l (encT x) W1 fun e W' =>
      (e = .returned (.bool true) ∧ J (pre ++ [x]) O W' ∧ Kp (fun i => ¬ O i) W1 W') ∨ (e = .returned (.bool false) ∧ Jx (pre ++ [x]) W')) := hY
  have HTK : Hid (TK zs J (W.alloc (.cells #[.int .u8 0, .int .i64 0, .int .i64 0] 25)) Bp Ba W.heap.size ao cap bo bl bc a 0 [] (fun i => Oz zs Bp Ba ao bo i ∨ (W.heap.size ≤ i ∧ i < (W.alloc (.cells #[.int .u8 0, .int .i64 0, .int .i64 0] 25)).heap.size)) 0 0) :=
    ⟨Nat.zero_le _, rfl, hJ _ _ _ _ h0 ((Kp.refl _ _).alloc _), fun i x => .inl x, .inr ⟨Nat.le_refl _, by simp⟩, fun x => absurd (HI.out.lt x) (by omega), St.new 25 W _, .inl ⟨rfl, rfl⟩, HI.out.below ((Below.refl _ _).alloc (Nat.le_refl _) _)⟩
  clear h hi hW hB hJ hY h0
  gi_wp2
  generalize W.alloc (.cells #[.int .u8 0, .int .i64 0, .int .i64 0] 25) = W1 at HTK ⊢
  generalize W.heap.size = g4 at HTK HJ ⊢
  gi_loopw [5, 6] (fun u5 _ wr => ∃ k pre O n1 n2, u5 = .int .i64 (ps (bf zs) zs.length a k : Int) ∧ TK zs J wr Bp Ba g4 ao cap bo bl bc a k pre O n1 n2) (fun u5 _ _ => zs.length - (intOf u5).toNat)
  case atStart => exact ⟨0, [], _, 0, 0, rfl, HTK.out⟩
  case round =>
    clear HTK HI
    obtain ⟨k, pre, O, n1, n2, rfl, htk⟩ := hrel
    have HK : Hid (TK zs J wr Bp Ba g4 ao cap bo bl bc a k pre O n1 n2) := htk
    obtain ⟨p, hp⟩ : ∃ x, x = ps (bf zs) zs.length a k := ⟨_, rfl⟩
    rw [← hp]
    have HP : Hid (p = ps (bf zs) zs.length a k) := hp
    have hpN : p ≤ N := by rw [hp, hNe]; exact htk.hp
    have b0 : wr.cell? ⟨Bp, 0, none⟩ = some (.slice ao N cap) := by rw [hNe]; exact htk.its.box.cell 0
    have b1 : wr.cell? ⟨Bp, 1, none⟩ = some (.slice bo bl bc) := htk.its.box.cell 1
    have ba : wr.cell? ⟨Ba, 0, none⟩ = some (.bool a) := htk.its.ah.cell 0
    have q0 : wr.cell? ⟨g4, 0, none⟩ = some (.int .u8 0) := htk.st.cell 0
    have q1 : wr.cell? ⟨g4, 1, none⟩ = some (.int .i64 (n1 : Int)) := htk.st.cell 1
    have q2 : wr.cell? ⟨g4, 2, none⟩ = some (.int .i64 (n2 : Int)) := htk.st.cell 2
    have gB : Bp < wr.heap.size := htk.its.box.lt
    have gA : Ba < wr.heap.size := htk.its.ah.lt
    have g4l : g4 < wr.heap.size := htk.st.lt
    have nB : Bp ≠ g4 := fun e => htk.ng (.inl e.symm)
    have nA : Ba ≠ g4 := fun e => htk.ng (.inr (.inl e.symm))
    rw [← hNe] at hN hc
    clear hp hNe
    by_cases hlt : p < N
    · obtain ⟨⟨t1, t2⟩, ht⟩ : ∃ t, lng (bf zs) zs.length p = t := ⟨_, rfl⟩
      have HT : Hid (lng (bf zs) zs.length p = (t1, t2)) := ht
      have HNX : Hid ((n1 = 0 ∧ n2 = 0) ∨ (0 < n1 ∧ t1 = n1 ∧ t2 = n2)) := by
        rcases htk.nx with h | ⟨h, h2⟩
        · exact .inl h
        · rw [← HP.out, ht] at h2
          cases h2
          exact .inr ⟨h, rfl, rfl⟩
      clear ht htk
      obtain ⟨gb, off, hao, hcs⟩ := HK.out.its.src (by have := HNE.out; omega)
      subst hao
      obtain ⟨Y, hYb⟩ : ∃ Y, Y = zs.getD p 0 := ⟨_, rfl⟩
      have yb : wr.cell? ⟨gb, off + p, none⟩ = some (.int .u8 Y) := by rw [hYb]; exact hcs p (by have := HNE.out; omega)
      have HYB : Hid (Y = bf zs p) := hYb
      have gbl : gb < wr.heap.size := block_lt_of_cell yb
      have gb4 : gb ≠ g4 := fun e => HK.out.ng (.inr (.inr (.inl ⟨by have := HNE.out; omega, off, by rw [e]⟩)))
      clear hcs hYb
      generalize hC11 : Code.region 11 _ _ = C11
      have HC11 : Hid (Code.region 11 _ _ = C11) := hC11
      clear hC11
      generalize hC6 : (Code.region 6 _ _).seq _ = C6
      have HC6 : Hid ((Code.region 6 _ _).seq _ = C6) := hC6
      clear hC6
      have f40 := HK.out.st.frozen 0
      have f41 := HK.out.st.frozen 1
      have f42 := HK.out.st.frozen 2
      have ht258 : t1 ≤ 258 := by
        rcases lng_cases (bf zs) zs.length p with h | h
        · rw [HT.out] at h; cases h; omega
        · rw [HT.out] at h; have := h.2.1; unfold mst at this; simp at this; omega
      have htt : t1 = 0 → t2 = 0 := fun h => by
        rcases lng_cases (bf zs) zs.length p with h' | h'
        · rw [HT.out] at h'; cases h'; rfl
        · rw [HT.out] at h'; have := h'.1; simp at this; omega
      have HTT : Hid (t1 = 0 → t2 = 0) := htt
      clear htt
      obtain ⟨g6, hg6⟩ : ∃ x, x = wr.heap.size := ⟨_, rfl⟩
      have HG6 : Hid (g6 = wr.heap.size) := hg6
      have n46 : g4 ≠ g6 := by omega
      have n64 : g6 ≠ g4 := by omega
      have nB6 : Bp ≠ g6 := by omega
      have nA6 : Ba ≠ g6 := by omega
      have nb6 : gb ≠ g6 := by omega
      clear hg6
      have s4w := HK.out.st
      have HS4 : Hid (St 25 wr g4 #[.int .u8 0, .int .i64 (n1 : Int), .int .i64 (n2 : Int)]) := s4w
      clear s4w
      rcases HNX.out with ⟨rfl, rfl⟩ | ⟨h1, rfl, rfl⟩
      rotate_left 1
      have h1b : ((t1 : Int) == 0) = false := beq_eq_false_iff_ne.2 (by omega)
      gi_wp2_with fail
      refine at_world (R := fun X => Kp (fun i => i = g4) wr X ∧ (∃ n1 n2 : Nat, St 25 X g4 #[.int .u8 0, .int .i64 (n1 : Int), .int .i64 (n2 : Int)]) ∧ St 25 X g6 #[.int .u8 0, .int .i64 (t1 : Int), .int .i64 (t2 : Int)]) ⟨(Kp.refl _ _).alloc _, ⟨t1, t2, HS4.out.below ((Below.refl wr.heap.size wr).alloc (Nat.le_refl _) _) g4l⟩, by rw [HG6.out]; exact St.new 25 wr _⟩ ?_
      rw [← HG6.out]
      rotate_left 1
      gi_wp2_with fail
      have its1 := HK.out.its.kp ((Kp.refl (fun i => i = g4) wr).alloc (.cells #[.int .u8 0, .int .i64 0, .int .i64 0] 25)) (fun i hi e => HK.out.ng (e ▸ hi))
      refine ⟨trivial, ?_⟩
      refine (callsIn_wide.2 (longer_n zs N HNE.out (some ⟨gb, off, none⟩) cap p 2 _ rfl bo bl bc _ HB.out hN hc hc2 its1.src its1.lk hpN (by omega) (by omega) t1 t2 (by rw [lngk_two]; exact HT.out))).mono ?_
      rintro e w2 ⟨rfl, b2⟩
      have st6 : St 25 w2 g6 #[.int .u8 0, .int .i64 0, .int .i64 0] := by rw [HG6.out]; exact (St.new 25 wr #[.int .u8 0, .int .i64 0, .int .i64 0]).below b2 (by simp)
      have HST6 : Hid (St 25 w2 g6 #[.int .u8 0, .int .i64 0, .int .i64 0]) := st6
      have HST4 : Hid (St 25 w2 g4 #[.int .u8 0, .int .i64 ((0 : Nat) : Int), .int .i64 ((0 : Nat) : Int)]) := (HS4.out.below ((Below.refl wr.heap.size wr).alloc (Nat.le_refl _) (.cells #[.int .u8 0, .int .i64 0, .int .i64 0] 25)) g4l).below b2 (by simp; omega)
      have K2 : Hid (Kp (fun i => i = g4) wr w2) := ((Kp.refl (fun i => i = g4) wr).alloc _).trans (Kp.of_below b2) (fun _ _ e => e)
      have c60 : w2.cell? ⟨g6, 0, none⟩ = some (.int .u8 0) := st6.cell 0
      have c61 : w2.cell? ⟨g6, 1, none⟩ = some (.int .i64 0) := st6.cell 1
      have c62 : w2.cell? ⟨g6, 2, none⟩ = some (.int .i64 0) := st6.cell 2
      have z60 := st6.frozen 0
      have z61 := st6.frozen 1
      have z62 := st6.frozen 2
      clear its1 b2 st6
      rw [← HG6.out]
      gi_wp2_with fail
      refine at_world (R := fun X => Kp (fun i => i = g4) wr X ∧ (∃ n1 n2 : Nat, St 25 X g4 #[.int .u8 0, .int .i64 (n1 : Int), .int .i64 (n2 : Int)]) ∧ St 25 X g6 #[.int .u8 0, .int .i64 (t1 : Int), .int .i64 (t2 : Int)]) ⟨?kk, ⟨0, 0, ?s4⟩, ?s6⟩ ?_
      case kk => exact kpn_set (kpn_set (kpn_set K2.out (.inr (Nat.le_of_eq HG6.out.symm))) (.inr (Nat.le_of_eq HG6.out.symm))) (.inr (Nat.le_of_eq HG6.out.symm))
      case s4 => exact ((HST4.out.other n46).other n46).other n46
      case s6 =>
        refine St.eq (cs := (((#[.int .u8 0, .int .i64 0, .int .i64 0] : Array Value).set! 0 (.int .u8 0)).set! 1 (.int .i64 (t1 : Int))).set! 2 (.int .i64 (t2 : Int))) ?_ (by simp)
        exact ((HST6.out.set 0 _).set 1 _).set 2 _
      all_goals
        rintro X ⟨kX, ⟨n1', n2', s4X⟩, s6X⟩
        try clear c60 c61 c62 z60 z61 z62
        clear q0 q1 q2 f40 f41 f42
        have itsX := HK.out.its.kp kX (fun i hi e => HK.out.ng (e ▸ hi))
        have HITS : Hid (Its zs X Bp Ba (some ⟨gb, off, none⟩) cap bo bl bc a) := itsX
        have KX : Hid (Kp (fun i => i = g4) wr X) := kX
        have S4X : Hid (St 25 X g4 #[.int .u8 0, .int .i64 (n1' : Int), .int .i64 (n2' : Int)]) := s4X
        have S6X : Hid (St 25 X g6 #[.int .u8 0, .int .i64 (t1 : Int), .int .i64 (t2 : Int)]) := s6X
        have x0 : X.cell? ⟨Bp, 0, none⟩ = some (.slice (some ⟨gb, off, none⟩) N cap) := by rw [HNE.out]; exact itsX.box.cell 0
        have x1 : X.cell? ⟨Bp, 1, none⟩ = some (.slice bo bl bc) := itsX.box.cell 1
        have xa : X.cell? ⟨Ba, 0, none⟩ = some (.bool a) := itsX.ah.cell 0
        have xy : X.cell? ⟨gb, off + p, none⟩ = some (.int .u8 Y) := by rw [HYB.out]; exact itsX.src.at p (by have := HNE.out; omega)
        have x40 : X.cell? ⟨g4, 0, none⟩ = some (.int .u8 0) := s4X.cell 0
        have x41 : X.cell? ⟨g4, 1, none⟩ = some (.int .i64 (n1' : Int)) := s4X.cell 1
        have x42 : X.cell? ⟨g4, 2, none⟩ = some (.int .i64 (n2' : Int)) := s4X.cell 2
        have x60 : X.cell? ⟨g6, 0, none⟩ = some (.int .u8 0) := s6X.cell 0
        have x61 : X.cell? ⟨g6, 1, none⟩ = some (.int .i64 (t1 : Int)) := s6X.cell 1
        have x62 : X.cell? ⟨g6, 2, none⟩ = some (.int .i64 (t2 : Int)) := s6X.cell 2
        have v40 := s4X.frozen 0
        have v41 := s4X.frozen 1
        have v42 := s4X.frozen 2
        have v60 := s6X.frozen 0
        have v61 := s6X.frozen 1
        have v62 := s6X.frozen 2
        clear itsX kX s4X s6X b0 b1 ba yb
        rw [← HC6.out]
        cases a with
        | false =>
          by_cases ht0 : t1 = 0
          · try (exfalso; omega)
            all_goals
            have ht2 := HTT.out ht0
            clear HTT
            subst ht0 ht2
            gi_wp2_with fail
            refine at_world (R := Tld zs false wr g4 g6 p) (tld_byte HT.out HYB.out (.inl rfl) (m1 := 0) (m2 := 0) (.inl ⟨rfl, rfl⟩) (kpn_set (kpn_set (kpn_set (kpn_set (kpn_set (kpn_set KX.out (.inl rfl)) (.inl rfl)) (.inl rfl)) (.inr (Nat.le_of_eq HG6.out.symm))) (.inr (Nat.le_of_eq HG6.out.symm))) (.inr (Nat.le_of_eq HG6.out.symm)))
              (St.eq (cs := (((#[.int .u8 0, .int .i64 (n1' : Int), .int .i64 (n2' : Int)] : Array Value).set! 0 (.int .u8 0)).set! 1 (.int .i64 0)).set! 2 (.int .i64 0)) (((((((S4X.out.set 0 _).set 1 _).set 2 _).other n46).other n46).other n46)) (by simp))
              (St.eq (cs := (((#[.int .u8 0, .int .i64 0, .int .i64 0] : Array Value).set! 0 (.int .u8 Y)).set! 1 (.int .i64 0)).set! 2 (.int .i64 0)) (((((((S6X.out.other n64).other n64).other n64).set 0 _).set 1 _).set 2 _)) (by simp))) ?_
            rintro X' ⟨y0, y1, y2, m1', m2', hta, hnx, kX', s4', s6'⟩
            rw [← HC11.out]
            have jX := HJ.out _ _ _ _ HK.out.j (kX'.mono (G := fun i => O i ∧ g4 ≤ i) (fun _ _ e => by rw [e]; exact ⟨HK.out.og, Nat.le_refl _⟩))
            have o6 : O g6 ∨ (wr.heap.size ≤ g6 ∧ g6 < X'.heap.size) := .inr ⟨Nat.le_of_eq HG6.out.symm, s6'.lt⟩
            have hlen : pre.length < zs.length := by
              have e1 := congrArg List.length HK.out.hpre
              rw [List.length_map, tkp_len] at e1
              have e2 := ps_ge (bf zs) zs.length false k
              have e3 := HP.out
              have e4 := HNE.out
              omega
            have tb : Tb (p, tokAt (bf zs) zs.length false p) := tok_tb HB.out (by have := HNE.out; omega) false (by have := HNE.out; omega)
            have HYL : Hid (y1 = ((tk (bf zs) zs.length false p).1 : Int)) := by show _ = _; rw [← tokAt_len, hta]
            have HCY : Hid ((pre ++ [(⟨(p, tokAt (bf zs) zs.length false p), tb⟩ : PT)]).map (·.1) = tkp (bf zs) zs.length false (k + 1)) := by
              show _ = _
              rw [List.map_append, HK.out.hpre]
              show _ ++ [(p, tokAt (bf zs) zs.length false p)] = _
              rw [HP.out]; rfl
            refine yield_in (HY.out pre _ ⟨(p, tokAt (bf zs) zs.length false p), tb⟩ X' jX hlen) ?_
            intro fn tmps assign body hy hR
            dsimp only [encT] at hy
            rw [hta] at hy
            dsimp only at hy
            have r60 : X'.cell? ⟨g6, 0, none⟩ = some (.int .u8 y0) := s6'.cell 0
            have r61 : X'.cell? ⟨g6, 1, none⟩ = some (.int .i64 y1) := s6'.cell 1
            have r62 : X'.cell? ⟨g6, 2, none⟩ = some (.int .i64 y2) := s6'.cell 2
            have HKX : Hid (Kp (fun i => i = g4) wr X') := kX'
            have H4' : Hid (St 25 X' g4 #[.int .u8 0, .int .i64 (m1' : Int), .int .i64 (m2' : Int)]) := s4'
            have H6' : Hid (St 25 X' g6 #[.int .u8 y0, .int .i64 y1, .int .i64 y2]) := s6'
            obtain ⟨r, hr⟩ : ∃ r, r = p + max 1 (tk (bf zs) zs.length false p).1 := ⟨_, rfl⟩
            have hrs : r = ps (bf zs) zs.length false (k + 1) := by rw [hr, HP.out]; rfl
            have HNX' : Hid (Nxt zs (ps (bf zs) zs.length false (k + 1)) m1' m2') := by rw [← hrs, hr]; exact hnx
            have HRS : Hid (r = ps (bf zs) zs.length false (k + 1)) := hrs
            have htk := (tk_le (bf zs) zs.length false p).1
            have e9 : IntKind.i64.wrap ((p : Int) + max 1 y1) = (r : Int) := by
              rw [IntKind.wrap_i64, HYL.out, hr]; omega
            have hpr : p < r := by omega
            have HPS : Hid (ps (bf zs) zs.length false k < zs.length) := by rw [← HP.out, ← HNE.out]; exact hlt
            clear hta hnx kX' s4' s6' jX hr hrs htk
            gi_wp2
            refine hR.mono ?_
            rintro e W3 (⟨rfl, hJ3, hk3⟩ | ⟨rfl, hJx3⟩)
            · have s63 := H6'.out.kp hk3 (fun x => x o6)
              have d60 : W3.cell? ⟨g6, 0, none⟩ = some (.int .u8 y0) := s63.cell 0
              have d61 : W3.cell? ⟨g6, 1, none⟩ = some (.int .i64 y1) := s63.cell 1
              have d62 : W3.cell? ⟨g6, 2, none⟩ = some (.int .i64 y2) := s63.cell 2
              clear s63 r60 r61 r62 hy hR
              gi_wp2_with fail
              refine ⟨trivial, ?_⟩
              refine (callsIn_wide.2 (size_any y0 y1 y2 _)).mono ?_
              rintro e W4 ⟨rfl, b4⟩
              have HTS := HK.out.step HPS.out HKX.out H4'.out HNX'.out hJ3 hk3 b4 HJ.out HCY.out
              have HTS' : Hid (TK zs J W4 Bp Ba g4 (some ⟨gb, off, none⟩) cap bo bl bc false (k + 1) (pre ++ [(⟨(p, tokAt (bf zs) zs.length false p), tb⟩ : PT)]) (fun i => (O i ∨ (wr.heap.size ≤ i ∧ i < X'.heap.size)) ∨ (W3.heap.size ≤ i ∧ i < W4.heap.size)) m1' m2') := HTS
              clear HTS b4 hk3 hJ3 d60 d61 d62
              gi_wp2
              exact ⟨⟨k + 1, _, _, m1', m2', by rw [HRS.out], HTS'.out⟩, by simp [intOf]; have := HNE.out; omega⟩
            · gi_wp2
              exact bodyPost_ret (results_none rfl _ _ _) rfl ⟨⟨_, rfl⟩, .inr ⟨_, ⟨k + 1, by omega, HPS.out, HCY.out⟩, hJx3⟩⟩
          · have ht1 : ((t1 : Int) == 0) = false := beq_eq_false_iff_ne.2 (by omega)
            have ht3 : 0 < t1 := by omega
            gi_wp2_with fail
            refine at_world (R := Tld zs false wr g4 g6 p) (tld_match HT.out (by simp; omega) (kpn_set (kpn_set (kpn_set KX.out (.inl rfl)) (.inl rfl)) (.inl rfl))
              (St.eq (cs := (((#[.int .u8 0, .int .i64 (n1' : Int), .int .i64 (n2' : Int)] : Array Value).set! 0 (.int .u8 0)).set! 1 (.int .i64 0)).set! 2 (.int .i64 0)) (((S4X.out.set 0 _).set 1 _).set 2 _) (by simp)) (((S6X.out.other n64).other n64).other n64)) ?_
            rintro X' ⟨y0, y1, y2, m1', m2', hta, hnx, kX', s4', s6'⟩
            rw [← HC11.out]
            have jX := HJ.out _ _ _ _ HK.out.j (kX'.mono (G := fun i => O i ∧ g4 ≤ i) (fun _ _ e => by rw [e]; exact ⟨HK.out.og, Nat.le_refl _⟩))
            have o6 : O g6 ∨ (wr.heap.size ≤ g6 ∧ g6 < X'.heap.size) := .inr ⟨Nat.le_of_eq HG6.out.symm, s6'.lt⟩
            have hlen : pre.length < zs.length := by
              have e1 := congrArg List.length HK.out.hpre
              rw [List.length_map, tkp_len] at e1
              have e2 := ps_ge (bf zs) zs.length false k
              have e3 := HP.out
              have e4 := HNE.out
              omega
            have tb : Tb (p, tokAt (bf zs) zs.length false p) := tok_tb HB.out (by have := HNE.out; omega) false (by have := HNE.out; omega)
            have HYL : Hid (y1 = ((tk (bf zs) zs.length false p).1 : Int)) := by show _ = _; rw [← tokAt_len, hta]
            have HCY : Hid ((pre ++ [(⟨(p, tokAt (bf zs) zs.length false p), tb⟩ : PT)]).map (·.1) = tkp (bf zs) zs.length false (k + 1)) := by
              show _ = _
              rw [List.map_append, HK.out.hpre]
              show _ ++ [(p, tokAt (bf zs) zs.length false p)] = _
              rw [HP.out]; rfl
            refine yield_in (HY.out pre _ ⟨(p, tokAt (bf zs) zs.length false p), tb⟩ X' jX hlen) ?_
            intro fn tmps assign body hy hR
            dsimp only [encT] at hy
            rw [hta] at hy
            dsimp only at hy
            have r60 : X'.cell? ⟨g6, 0, none⟩ = some (.int .u8 y0) := s6'.cell 0
            have r61 : X'.cell? ⟨g6, 1, none⟩ = some (.int .i64 y1) := s6'.cell 1
            have r62 : X'.cell? ⟨g6, 2, none⟩ = some (.int .i64 y2) := s6'.cell 2
            have HKX : Hid (Kp (fun i => i = g4) wr X') := kX'
            have H4' : Hid (St 25 X' g4 #[.int .u8 0, .int .i64 (m1' : Int), .int .i64 (m2' : Int)]) := s4'
            have H6' : Hid (St 25 X' g6 #[.int .u8 y0, .int .i64 y1, .int .i64 y2]) := s6'
            obtain ⟨r, hr⟩ : ∃ r, r = p + max 1 (tk (bf zs) zs.length false p).1 := ⟨_, rfl⟩
            have hrs : r = ps (bf zs) zs.length false (k + 1) := by rw [hr, HP.out]; rfl
            have HNX' : Hid (Nxt zs (ps (bf zs) zs.length false (k + 1)) m1' m2') := by rw [← hrs, hr]; exact hnx
            have HRS : Hid (r = ps (bf zs) zs.length false (k + 1)) := hrs
            have htk := (tk_le (bf zs) zs.length false p).1
            have e9 : IntKind.i64.wrap ((p : Int) + max 1 y1) = (r : Int) := by
              rw [IntKind.wrap_i64, HYL.out, hr]; omega
            have hpr : p < r := by omega
            have HPS : Hid (ps (bf zs) zs.length false k < zs.length) := by rw [← HP.out, ← HNE.out]; exact hlt
            clear hta hnx kX' s4' s6' jX hr hrs htk
            gi_wp2
            refine hR.mono ?_
            rintro e W3 (⟨rfl, hJ3, hk3⟩ | ⟨rfl, hJx3⟩)
            · have s63 := H6'.out.kp hk3 (fun x => x o6)
              have d60 : W3.cell? ⟨g6, 0, none⟩ = some (.int .u8 y0) := s63.cell 0
              have d61 : W3.cell? ⟨g6, 1, none⟩ = some (.int .i64 y1) := s63.cell 1
              have d62 : W3.cell? ⟨g6, 2, none⟩ = some (.int .i64 y2) := s63.cell 2
              clear s63 r60 r61 r62 hy hR
              gi_wp2_with fail
              refine ⟨trivial, ?_⟩
              refine (callsIn_wide.2 (size_any y0 y1 y2 _)).mono ?_
              rintro e W4 ⟨rfl, b4⟩
              have HTS := HK.out.step HPS.out HKX.out H4'.out HNX'.out hJ3 hk3 b4 HJ.out HCY.out
              have HTS' : Hid (TK zs J W4 Bp Ba g4 (some ⟨gb, off, none⟩) cap bo bl bc false (k + 1) (pre ++ [(⟨(p, tokAt (bf zs) zs.length false p), tb⟩ : PT)]) (fun i => (O i ∨ (wr.heap.size ≤ i ∧ i < X'.heap.size)) ∨ (W3.heap.size ≤ i ∧ i < W4.heap.size)) m1' m2') := HTS
              clear HTS b4 hk3 hJ3 d60 d61 d62
              gi_wp2
              exact ⟨⟨k + 1, _, _, m1', m2', by rw [HRS.out], HTS'.out⟩, by simp [intOf]; have := HNE.out; omega⟩
            · gi_wp2
              exact bodyPost_ret (results_none rfl _ _ _) rfl ⟨⟨_, rfl⟩, .inr ⟨_, ⟨k + 1, by omega, HPS.out, HCY.out⟩, hJx3⟩⟩
        | true =>
          by_cases ht0 : t1 = 0
          · try (exfalso; omega)
            all_goals
            have ht2 := HTT.out ht0
            clear HTT
            subst ht0 ht2
            gi_wp2_with fail
            refine at_world (R := Tld zs true wr g4 g6 p) (tld_byte HT.out HYB.out (.inl rfl) (m1 := 0) (m2 := 0) (.inl ⟨rfl, rfl⟩) (kpn_set (kpn_set (kpn_set (kpn_set (kpn_set (kpn_set KX.out (.inl rfl)) (.inl rfl)) (.inl rfl)) (.inr (Nat.le_of_eq HG6.out.symm))) (.inr (Nat.le_of_eq HG6.out.symm))) (.inr (Nat.le_of_eq HG6.out.symm)))
              (St.eq (cs := (((#[.int .u8 0, .int .i64 (n1' : Int), .int .i64 (n2' : Int)] : Array Value).set! 0 (.int .u8 0)).set! 1 (.int .i64 0)).set! 2 (.int .i64 0)) (((((((S4X.out.set 0 _).set 1 _).set 2 _).other n46).other n46).other n46)) (by simp))
              (St.eq (cs := (((#[.int .u8 0, .int .i64 0, .int .i64 0] : Array Value).set! 0 (.int .u8 Y)).set! 1 (.int .i64 0)).set! 2 (.int .i64 0)) (((((((S6X.out.other n64).other n64).other n64).set 0 _).set 1 _).set 2 _)) (by simp))) ?_
            rintro X' ⟨y0, y1, y2, m1', m2', hta, hnx, kX', s4', s6'⟩
            rw [← HC11.out]
            have jX := HJ.out _ _ _ _ HK.out.j (kX'.mono (G := fun i => O i ∧ g4 ≤ i) (fun _ _ e => by rw [e]; exact ⟨HK.out.og, Nat.le_refl _⟩))
            have o6 : O g6 ∨ (wr.heap.size ≤ g6 ∧ g6 < X'.heap.size) := .inr ⟨Nat.le_of_eq HG6.out.symm, s6'.lt⟩
            have hlen : pre.length < zs.length := by
              have e1 := congrArg List.length HK.out.hpre
              rw [List.length_map, tkp_len] at e1
              have e2 := ps_ge (bf zs) zs.length true k
              have e3 := HP.out
              have e4 := HNE.out
              omega
            have tb : Tb (p, tokAt (bf zs) zs.length true p) := tok_tb HB.out (by have := HNE.out; omega) true (by have := HNE.out; omega)
            have HYL : Hid (y1 = ((tk (bf zs) zs.length true p).1 : Int)) := by show _ = _; rw [← tokAt_len, hta]
            have HCY : Hid ((pre ++ [(⟨(p, tokAt (bf zs) zs.length true p), tb⟩ : PT)]).map (·.1) = tkp (bf zs) zs.length true (k + 1)) := by
              show _ = _
              rw [List.map_append, HK.out.hpre]
              show _ ++ [(p, tokAt (bf zs) zs.length true p)] = _
              rw [HP.out]; rfl
            refine yield_in (HY.out pre _ ⟨(p, tokAt (bf zs) zs.length true p), tb⟩ X' jX hlen) ?_
            intro fn tmps assign body hy hR
            dsimp only [encT] at hy
            rw [hta] at hy
            dsimp only at hy
            have r60 : X'.cell? ⟨g6, 0, none⟩ = some (.int .u8 y0) := s6'.cell 0
            have r61 : X'.cell? ⟨g6, 1, none⟩ = some (.int .i64 y1) := s6'.cell 1
            have r62 : X'.cell? ⟨g6, 2, none⟩ = some (.int .i64 y2) := s6'.cell 2
            have HKX : Hid (Kp (fun i => i = g4) wr X') := kX'
            have H4' : Hid (St 25 X' g4 #[.int .u8 0, .int .i64 (m1' : Int), .int .i64 (m2' : Int)]) := s4'
            have H6' : Hid (St 25 X' g6 #[.int .u8 y0, .int .i64 y1, .int .i64 y2]) := s6'
            obtain ⟨r, hr⟩ : ∃ r, r = p + max 1 (tk (bf zs) zs.length true p).1 := ⟨_, rfl⟩
            have hrs : r = ps (bf zs) zs.length true (k + 1) := by rw [hr, HP.out]; rfl
            have HNX' : Hid (Nxt zs (ps (bf zs) zs.length true (k + 1)) m1' m2') := by rw [← hrs, hr]; exact hnx
            have HRS : Hid (r = ps (bf zs) zs.length true (k + 1)) := hrs
            have htk := (tk_le (bf zs) zs.length true p).1
            have e9 : IntKind.i64.wrap ((p : Int) + max 1 y1) = (r : Int) := by
              rw [IntKind.wrap_i64, HYL.out, hr]; omega
            have hpr : p < r := by omega
            have HPS : Hid (ps (bf zs) zs.length true k < zs.length) := by rw [← HP.out, ← HNE.out]; exact hlt
            clear hta hnx kX' s4' s6' jX hr hrs htk
            gi_wp2
            refine hR.mono ?_
            rintro e W3 (⟨rfl, hJ3, hk3⟩ | ⟨rfl, hJx3⟩)
            · have s63 := H6'.out.kp hk3 (fun x => x o6)
              have d60 : W3.cell? ⟨g6, 0, none⟩ = some (.int .u8 y0) := s63.cell 0
              have d61 : W3.cell? ⟨g6, 1, none⟩ = some (.int .i64 y1) := s63.cell 1
              have d62 : W3.cell? ⟨g6, 2, none⟩ = some (.int .i64 y2) := s63.cell 2
              clear s63 r60 r61 r62 hy hR
              gi_wp2_with fail
              refine ⟨trivial, ?_⟩
              refine (callsIn_wide.2 (size_any y0 y1 y2 _)).mono ?_
              rintro e W4 ⟨rfl, b4⟩
              have HTS := HK.out.step HPS.out HKX.out H4'.out HNX'.out hJ3 hk3 b4 HJ.out HCY.out
              have HTS' : Hid (TK zs J W4 Bp Ba g4 (some ⟨gb, off, none⟩) cap bo bl bc true (k + 1) (pre ++ [(⟨(p, tokAt (bf zs) zs.length true p), tb⟩ : PT)]) (fun i => (O i ∨ (wr.heap.size ≤ i ∧ i < X'.heap.size)) ∨ (W3.heap.size ≤ i ∧ i < W4.heap.size)) m1' m2') := HTS
              clear HTS b4 hk3 hJ3 d60 d61 d62
              gi_wp2
              exact ⟨⟨k + 1, _, _, m1', m2', by rw [HRS.out], HTS'.out⟩, by simp [intOf]; have := HNE.out; omega⟩
            · gi_wp2
              exact bodyPost_ret (results_none rfl _ _ _) rfl ⟨⟨_, rfl⟩, .inr ⟨_, ⟨k + 1, by omega, HPS.out, HCY.out⟩, hJx3⟩⟩
          · have ht1 : ((t1 : Int) == 0) = false := beq_eq_false_iff_ne.2 (by omega)
            have ht3 : 0 < t1 := by omega
            have ht4 : 3 ≤ t1 := by
              rcases lng_cases (bf zs) zs.length p with h | h
              · rw [HT.out] at h; cases h; omega
              · rw [HT.out] at h; exact h.1
            obtain ⟨⟨m1, m2⟩, hm⟩ : ∃ t, lngk (bf zs) zs.length (p + 1) t1 = t := ⟨_, rfl⟩
            have HMM : Hid (lngk (bf zs) zs.length (p + 1) t1 = (m1, m2)) := hm
            clear hm
            gi_wp2_with fail
            have k3 : Kp (fun i => i = g4) wr (((X.setCell ⟨g4, 0, none⟩ (.int .u8 0)).setCell ⟨g4, 1, none⟩ (.int .i64 0)).setCell ⟨g4, 2, none⟩ (.int .i64 0)) := kpn_set (kpn_set (kpn_set KX.out (.inl rfl)) (.inl rfl)) (.inl rfl)
            have its3 := HK.out.its.kp k3 (fun i hi e => HK.out.ng (e ▸ hi))
            have st4 : St 25 (((X.setCell ⟨g4, 0, none⟩ (.int .u8 0)).setCell ⟨g4, 1, none⟩ (.int .i64 0)).setCell ⟨g4, 2, none⟩ (.int .i64 0)) g4 #[.int .u8 0, .int .i64 0, .int .i64 0] := St.eq (cs := (((#[.int .u8 0, .int .i64 (n1' : Int), .int .i64 (n2' : Int)] : Array Value).set! 0 (.int .u8 0)).set! 1 (.int .i64 0)).set! 2 (.int .i64 0)) (((S4X.out.set 0 _).set 1 _).set 2 _) (by simp)
            have st6 : St 25 (((X.setCell ⟨g4, 0, none⟩ (.int .u8 0)).setCell ⟨g4, 1, none⟩ (.int .i64 0)).setCell ⟨g4, 2, none⟩ (.int .i64 0)) g6 #[.int .u8 0, .int .i64 (t1 : Int), .int .i64 (t2 : Int)] := ((S6X.out.other n64).other n64).other n64
            refine ⟨trivial, ?_⟩
            refine (callsIn_wide.2 (longer_n zs N HNE.out (some ⟨gb, off, none⟩) cap (p + 1) t1 _ (by simp) bo bl bc _ HB.out hN hc hc2 its3.src its3.lk (by omega) (by omega) (by omega) m1 m2 HMM.out)).mono ?_
            rintro e w3 ⟨rfl, b3⟩
            replace its3 := its3.below b3
            replace st4 := st4.below b3 st4.lt
            replace st6 := st6.below b3 st6.lt
            have K3 : Hid (Kp (fun i => i = g4) wr w3) := k3.trans (Kp.of_below b3) (fun _ _ e => e)
            have HS43 : Hid (St 25 w3 g4 #[.int .u8 0, .int .i64 0, .int .i64 0]) := st4
            have HS63 : Hid (St 25 w3 g6 #[.int .u8 0, .int .i64 (t1 : Int), .int .i64 (t2 : Int)]) := st6
            have x0 : w3.cell? ⟨Bp, 0, none⟩ = some (.slice (some ⟨gb, off, none⟩) N cap) := by rw [HNE.out]; exact its3.box.cell 0
            have xy : w3.cell? ⟨gb, off + p, none⟩ = some (.int .u8 Y) := by rw [HYB.out]; exact its3.src.at p (by have := HNE.out; omega)
            have x40 : w3.cell? ⟨g4, 0, none⟩ = some (.int .u8 0) := st4.cell 0
            have x41 : w3.cell? ⟨g4, 1, none⟩ = some (.int .i64 0) := st4.cell 1
            have x42 : w3.cell? ⟨g4, 2, none⟩ = some (.int .i64 0) := st4.cell 2
            have x60 : w3.cell? ⟨g6, 0, none⟩ = some (.int .u8 0) := st6.cell 0
            have x61 : w3.cell? ⟨g6, 1, none⟩ = some (.int .i64 (t1 : Int)) := st6.cell 1
            have x62 : w3.cell? ⟨g6, 2, none⟩ = some (.int .i64 (t2 : Int)) := st6.cell 2
            have v40 := st4.frozen 0
            have v41 := st4.frozen 1
            have v42 := st4.frozen 2
            have v60 := st6.frozen 0
            have v61 := st6.frozen 1
            have v62 := st6.frozen 2
            clear k3 its3 st4 st6 b3 S4X S6X KX
            by_cases hm0 : m1 = 0
            · have hm2 := ((lngk_parts HMM.out).1 hm0).1
              have HNO : Hid (¬ t1 < (lng (bf zs) zs.length (p + 1)).1) := ((lngk_parts HMM.out).1 hm0).2
              clear HMM
              subst hm0 hm2
              gi_wp2_with fail
              refine at_world (R := Tld zs true wr g4 g6 p) (tld_match HT.out (by have := HNO.out; simp; omega) (kpn_set (kpn_set (kpn_set K3.out (.inl rfl)) (.inl rfl)) (.inl rfl))
                (St.eq (cs := (((#[.int .u8 0, .int .i64 0, .int .i64 0] : Array Value).set! 0 (.int .u8 0)).set! 1 (.int .i64 0)).set! 2 (.int .i64 0)) (((HS43.out.set 0 _).set 1 _).set 2 _) (by simp)) (((HS63.out.other n64).other n64).other n64)) ?_
              rintro X' ⟨y0, y1, y2, m1', m2', hta, hnx, kX', s4', s6'⟩
              rw [← HC11.out]
              have jX := HJ.out _ _ _ _ HK.out.j (kX'.mono (G := fun i => O i ∧ g4 ≤ i) (fun _ _ e => by rw [e]; exact ⟨HK.out.og, Nat.le_refl _⟩))
              have o6 : O g6 ∨ (wr.heap.size ≤ g6 ∧ g6 < X'.heap.size) := .inr ⟨Nat.le_of_eq HG6.out.symm, s6'.lt⟩
              have hlen : pre.length < zs.length := by
                have e1 := congrArg List.length HK.out.hpre
                rw [List.length_map, tkp_len] at e1
                have e2 := ps_ge (bf zs) zs.length true k
                have e3 := HP.out
                have e4 := HNE.out
                omega
              have tb : Tb (p, tokAt (bf zs) zs.length true p) := tok_tb HB.out (by have := HNE.out; omega) true (by have := HNE.out; omega)
              have HYL : Hid (y1 = ((tk (bf zs) zs.length true p).1 : Int)) := by show _ = _; rw [← tokAt_len, hta]
              have HCY : Hid ((pre ++ [(⟨(p, tokAt (bf zs) zs.length true p), tb⟩ : PT)]).map (·.1) = tkp (bf zs) zs.length true (k + 1)) := by
                show _ = _
                rw [List.map_append, HK.out.hpre]
                show _ ++ [(p, tokAt (bf zs) zs.length true p)] = _
                rw [HP.out]; rfl
              refine yield_in (HY.out pre _ ⟨(p, tokAt (bf zs) zs.length true p), tb⟩ X' jX hlen) ?_
              intro fn tmps assign body hy hR
              dsimp only [encT] at hy
              rw [hta] at hy
              dsimp only at hy
              have r60 : X'.cell? ⟨g6, 0, none⟩ = some (.int .u8 y0) := s6'.cell 0
              have r61 : X'.cell? ⟨g6, 1, none⟩ = some (.int .i64 y1) := s6'.cell 1
              have r62 : X'.cell? ⟨g6, 2, none⟩ = some (.int .i64 y2) := s6'.cell 2
              have HKX : Hid (Kp (fun i => i = g4) wr X') := kX'
              have H4' : Hid (St 25 X' g4 #[.int .u8 0, .int .i64 (m1' : Int), .int .i64 (m2' : Int)]) := s4'
              have H6' : Hid (St 25 X' g6 #[.int .u8 y0, .int .i64 y1, .int .i64 y2]) := s6'
              obtain ⟨r, hr⟩ : ∃ r, r = p + max 1 (tk (bf zs) zs.length true p).1 := ⟨_, rfl⟩
              have hrs : r = ps (bf zs) zs.length true (k + 1) := by rw [hr, HP.out]; rfl
              have HNX' : Hid (Nxt zs (ps (bf zs) zs.length true (k + 1)) m1' m2') := by rw [← hrs, hr]; exact hnx
              have HRS : Hid (r = ps (bf zs) zs.length true (k + 1)) := hrs
              have htk := (tk_le (bf zs) zs.length true p).1
              have e9 : IntKind.i64.wrap ((p : Int) + max 1 y1) = (r : Int) := by
                rw [IntKind.wrap_i64, HYL.out, hr]; omega
              have hpr : p < r := by omega
              have HPS : Hid (ps (bf zs) zs.length true k < zs.length) := by rw [← HP.out, ← HNE.out]; exact hlt
              clear hta hnx kX' s4' s6' jX hr hrs htk
              gi_wp2
              refine hR.mono ?_
              rintro e W3 (⟨rfl, hJ3, hk3⟩ | ⟨rfl, hJx3⟩)
              · have s63 := H6'.out.kp hk3 (fun x => x o6)
                have d60 : W3.cell? ⟨g6, 0, none⟩ = some (.int .u8 y0) := s63.cell 0
                have d61 : W3.cell? ⟨g6, 1, none⟩ = some (.int .i64 y1) := s63.cell 1
                have d62 : W3.cell? ⟨g6, 2, none⟩ = some (.int .i64 y2) := s63.cell 2
                clear s63 r60 r61 r62 hy hR
                gi_wp2_with fail
                refine ⟨trivial, ?_⟩
                refine (callsIn_wide.2 (size_any y0 y1 y2 _)).mono ?_
                rintro e W4 ⟨rfl, b4⟩
                have HTS := HK.out.step HPS.out HKX.out H4'.out HNX'.out hJ3 hk3 b4 HJ.out HCY.out
                have HTS' : Hid (TK zs J W4 Bp Ba g4 (some ⟨gb, off, none⟩) cap bo bl bc true (k + 1) (pre ++ [(⟨(p, tokAt (bf zs) zs.length true p), tb⟩ : PT)]) (fun i => (O i ∨ (wr.heap.size ≤ i ∧ i < X'.heap.size)) ∨ (W3.heap.size ≤ i ∧ i < W4.heap.size)) m1' m2') := HTS
                clear HTS b4 hk3 hJ3 d60 d61 d62
                gi_wp2
                exact ⟨⟨k + 1, _, _, m1', m2', by rw [HRS.out], HTS'.out⟩, by simp [intOf]; have := HNE.out; omega⟩
              · gi_wp2
                exact bodyPost_ret (results_none rfl _ _ _) rfl ⟨⟨_, rfl⟩, .inr ⟨_, ⟨k + 1, by omega, HPS.out, HCY.out⟩, hJx3⟩⟩
            · have hm1 : 0 < m1 := by omega
              have HPM : Hid (t1 < (lng (bf zs) zs.length (p + 1)).1 ∧ lng (bf zs) zs.length (p + 1) = (m1, m2)) := (lngk_parts HMM.out).2 hm0
              gi_wp2_with fail
              refine at_world (R := Tld zs true wr g4 g6 p) (tld_byte HT.out HYB.out (.inr ⟨rfl, HPM.out.1⟩) (m1 := m1) (m2 := m2) (.inr ⟨hm1, HPM.out.2⟩) (kpn_set (kpn_set (kpn_set (kpn_set (kpn_set (kpn_set K3.out (.inl rfl)) (.inl rfl)) (.inl rfl)) (.inr (Nat.le_of_eq HG6.out.symm))) (.inr (Nat.le_of_eq HG6.out.symm))) (.inr (Nat.le_of_eq HG6.out.symm)))
                (St.eq (cs := (((#[.int .u8 0, .int .i64 0, .int .i64 0] : Array Value).set! 0 (.int .u8 0)).set! 1 (.int .i64 (m1 : Int))).set! 2 (.int .i64 (m2 : Int))) ((((((HS43.out.set 0 _).set 1 _).set 2 _).other n46).other n46).other n46) (by simp))
                (St.eq (cs := (((#[.int .u8 0, .int .i64 (t1 : Int), .int .i64 (t2 : Int)] : Array Value).set! 0 (.int .u8 Y)).set! 1 (.int .i64 0)).set! 2 (.int .i64 0)) ((((((HS63.out.other n64).other n64).other n64).set 0 _).set 1 _).set 2 _) (by simp))) ?_
              rintro X' ⟨y0, y1, y2, m1', m2', hta, hnx, kX', s4', s6'⟩
              rw [← HC11.out]
              have jX := HJ.out _ _ _ _ HK.out.j (kX'.mono (G := fun i => O i ∧ g4 ≤ i) (fun _ _ e => by rw [e]; exact ⟨HK.out.og, Nat.le_refl _⟩))
              have o6 : O g6 ∨ (wr.heap.size ≤ g6 ∧ g6 < X'.heap.size) := .inr ⟨Nat.le_of_eq HG6.out.symm, s6'.lt⟩
              have hlen : pre.length < zs.length := by
                have e1 := congrArg List.length HK.out.hpre
                rw [List.length_map, tkp_len] at e1
                have e2 := ps_ge (bf zs) zs.length true k
                have e3 := HP.out
                have e4 := HNE.out
                omega
              have tb : Tb (p, tokAt (bf zs) zs.length true p) := tok_tb HB.out (by have := HNE.out; omega) true (by have := HNE.out; omega)
              have HYL : Hid (y1 = ((tk (bf zs) zs.length true p).1 : Int)) := by show _ = _; rw [← tokAt_len, hta]
              have HCY : Hid ((pre ++ [(⟨(p, tokAt (bf zs) zs.length true p), tb⟩ : PT)]).map (·.1) = tkp (bf zs) zs.length true (k + 1)) := by
                show _ = _
                rw [List.map_append, HK.out.hpre]
                show _ ++ [(p, tokAt (bf zs) zs.length true p)] = _
                rw [HP.out]; rfl
              refine yield_in (HY.out pre _ ⟨(p, tokAt (bf zs) zs.length true p), tb⟩ X' jX hlen) ?_
              intro fn tmps assign body hy hR
              dsimp only [encT] at hy
              rw [hta] at hy
              dsimp only at hy
              have r60 : X'.cell? ⟨g6, 0, none⟩ = some (.int .u8 y0) := s6'.cell 0
              have r61 : X'.cell? ⟨g6, 1, none⟩ = some (.int .i64 y1) := s6'.cell 1
              have r62 : X'.cell? ⟨g6, 2, none⟩ = some (.int .i64 y2) := s6'.cell 2
              have HKX : Hid (Kp (fun i => i = g4) wr X') := kX'
              have H4' : Hid (St 25 X' g4 #[.int .u8 0, .int .i64 (m1' : Int), .int .i64 (m2' : Int)]) := s4'
              have H6' : Hid (St 25 X' g6 #[.int .u8 y0, .int .i64 y1, .int .i64 y2]) := s6'
              obtain ⟨r, hr⟩ : ∃ r, r = p + max 1 (tk (bf zs) zs.length true p).1 := ⟨_, rfl⟩
              have hrs : r = ps (bf zs) zs.length true (k + 1) := by rw [hr, HP.out]; rfl
              have HNX' : Hid (Nxt zs (ps (bf zs) zs.length true (k + 1)) m1' m2') := by rw [← hrs, hr]; exact hnx
              have HRS : Hid (r = ps (bf zs) zs.length true (k + 1)) := hrs
              have htk := (tk_le (bf zs) zs.length true p).1
              have e9 : IntKind.i64.wrap ((p : Int) + max 1 y1) = (r : Int) := by
                rw [IntKind.wrap_i64, HYL.out, hr]; omega
              have hpr : p < r := by omega
              have HPS : Hid (ps (bf zs) zs.length true k < zs.length) := by rw [← HP.out, ← HNE.out]; exact hlt
              clear hta hnx kX' s4' s6' jX hr hrs htk
              gi_wp2
              refine hR.mono ?_
              rintro e W3 (⟨rfl, hJ3, hk3⟩ | ⟨rfl, hJx3⟩)
              · have s63 := H6'.out.kp hk3 (fun x => x o6)
                have d60 : W3.cell? ⟨g6, 0, none⟩ = some (.int .u8 y0) := s63.cell 0
                have d61 : W3.cell? ⟨g6, 1, none⟩ = some (.int .i64 y1) := s63.cell 1
                have d62 : W3.cell? ⟨g6, 2, none⟩ = some (.int .i64 y2) := s63.cell 2
                clear s63 r60 r61 r62 hy hR
                gi_wp2_with fail
                refine ⟨trivial, ?_⟩
                refine (callsIn_wide.2 (size_any y0 y1 y2 _)).mono ?_
                rintro e W4 ⟨rfl, b4⟩
                have HTS := HK.out.step HPS.out HKX.out H4'.out HNX'.out hJ3 hk3 b4 HJ.out HCY.out
                have HTS' : Hid (TK zs J W4 Bp Ba g4 (some ⟨gb, off, none⟩) cap bo bl bc true (k + 1) (pre ++ [(⟨(p, tokAt (bf zs) zs.length true p), tb⟩ : PT)]) (fun i => (O i ∨ (wr.heap.size ≤ i ∧ i < X'.heap.size)) ∨ (W3.heap.size ≤ i ∧ i < W4.heap.size)) m1' m2') := HTS
                clear HTS b4 hk3 hJ3 d60 d61 d62
                gi_wp2
                exact ⟨⟨k + 1, _, _, m1', m2', by rw [HRS.out], HTS'.out⟩, by simp [intOf]; have := HNE.out; omega⟩
              · gi_wp2
                exact bodyPost_ret (results_none rfl _ _ _) rfl ⟨⟨_, rfl⟩, .inr ⟨_, ⟨k + 1, by omega, HPS.out, HCY.out⟩, hJx3⟩⟩
    · gi_wp2
      go_end0
      exact ⟨⟨_, rfl⟩, .inl ⟨pre, O, ⟨k, by have := HP.out; have := HNE.out; have := HK.out.hp; unfold Many; omega, HK.out.hpre⟩, HK.out.j⟩⟩
end Go.Proofs.Ytofmoggejfopiaa
