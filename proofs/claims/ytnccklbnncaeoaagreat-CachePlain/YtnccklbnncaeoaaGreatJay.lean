import Derived.Test.YtnccklbnncaeoaaGreatJaw
import Derived.Test.YtnccklbnncaeoaaGreatJao
import Derived.Test.YtnccklbnncaeoaaGreatJax
/- Bytes are written. -/
namespace Go.Proofs.YtnccklbnncaeoaaGreat
open Go.RowKit Go.Shelf
attribute [local go_sem] Oper.semAt_some

/-- The bytes of a piece. -/
def wby (p : Nat) (xs : List Int) (x : Nat × Nat) : List Int := (xs.drop (x.1 - p)).take x.2
def gw1 (p : Nat) (xs : List Int) (q : Gf) (x : Nat × Nat) : Gf := ⟨max q.sz (x.1 + x.2), q.L, q.ps ++ [(x.1, wby p xs x)]⟩
/-- A file behind writes of these pieces. -/
def gwr (p : Nat) (xs : List Int) (q : Gf) (l : List (Nat × Nat)) : Gf := l.foldl (gw1 p xs) q
theorem gwr_snoc (p : Nat) (xs : List Int) (q : Gf) (l : List (Nat × Nat)) (x : Nat × Nat) : gwr p xs q (l ++ [x]) = gw1 p xs (gwr p xs q l) x := by simp [gwr]
theorem gwr_len (p : Nat) (xs : List Int) (q : Gf) (l : List (Nat × Nat)) : (gwr p xs q l).ps.length = q.ps.length + l.length := by
  induction l generalizing q with
  | nil => rfl
  | cons x l ih =>
    show (gwr p xs (gw1 p xs q x) l).ps.length = _
    rw [ih]
    simp [gw1]
    omega
theorem wby_len (p m : Nat) (xs : List Int) (x : Nat × Nat) (hm : m = xs.length) (h1 : p ≤ x.1) (h2 : x.1 + x.2 ≤ p + m) : (wby p xs x).length = x.2 := by
  unfold wby
  rw [List.length_take, List.length_drop]
  omega
/-- How many pieces a step does at most. -/
def lft (k0 n0 : Int) (m : Nat) : Nat := if k0 = 0 then m else (min (max n0 0) (m : Int)).toNat
theorem lft_int (k0 n0 : Int) (m : Nat) : (if k0 = 0 then (m : Int) else min (max n0 0) (m : Int)) = (lft k0 n0 m : Int) := by
  unfold lft
  by_cases h : k0 = 0
  · rw [if_pos h, if_pos h]
  · rw [if_neg h, if_neg h]; omega
theorem kept_f (k n : Int) (m : Nat) (w : World) : Calls Tryz.prog 149 #[.agg #[.int .i64 k, .int .i64 n], .int .i64 m] w fun e w' => e = .returned (.int .i64 (lft k n m : Int)) ∧ Below w.heap.size w w' := by
  rw [← lft_int]
  exact kept_any k n m w
/-- What the loop of Write keeps. -/
structure WtI (D : Nat → Prop) (w1 : World) (a : Fa) (q : Gf) (p m cap lf : Nat) (ao : Option Addr) (xs : List Int) (B0 Bf Bl B6 : Nat) (k0 n0 : Int) (pre : List (Nat × Nat)) (W : World) (D' : Nat → Prop) (a' : Fa) : Prop where
  wk : Wk D w1 a.own W D' a'.own
  fb : a'.fb = a.fb ∧ a'.lm = a.lm ∧ a'.om = a.om
  f : Fr D' W a' (gwr p xs q pre).sz (gwr p xs q pre).L (gwr p xs q pre).ps
  b6 : St 2 W B0 #[.int .i64 p]
  b7 : St 47 W (B0 + 1) #[.slice ao m cap]
  b9 : St 159 W (B0 + 1 + 1) #[.pointer (some ⟨a.fb, 0, none⟩)]
  bf : St 137 W Bf #[.int .i64 k0, .int .i64 n0]
  bl : St 3 W Bl #[.int .i64 ((lf - pre.length : Nat) : Int)]
  le : pre.length ≤ lf
  sr : Src .u8 W ao xs
  d6 : ∀ i, D' i → D i ∨ B6 ≤ i
  o6 : ∀ i, i ∈ a'.own → i ∈ a.own ∨ B6 ≤ i
  z6 : B6 ≤ W.heap.size
theorem WtI.turns {D : Nat → Prop} {w1 : World} {a : Fa} {q : Gf} {p m cap lf : Nat} {ao : Option Addr} {xs : List Int} {B0 Bf Bl B6 : Nat} {k0 n0 : Int} {pre : List (Nat × Nat)} {W W' : World} {D' : Nat → Prop} {a' : Fa} {B : Nat} (h : WtI D w1 a q p m cap lf ao xs B0 Bf Bl B6 k0 n0 pre W D' a') (t : Turns B W W') (hB : w1.heap.size ≤ B) (h1 : a.lm < B) (h2 : a.om < B) : WtI D w1 a q p m cap lf ao xs B0 Bf Bl B6 k0 n0 pre W' D' a' :=
  ⟨h.wk.turns t hB, h.fb, h.f.turns t (by rw [h.fb.2.1]; exact h1) (by rw [h.fb.2.2]; exact h2), h.b6.turns t, h.b7.turns t, h.b9.turns t, h.bf.turns t, h.bl.turns t, h.le, h.sr.turns t, h.d6, h.o6, Nat.le_trans h.z6 t.size⟩
set_option maxRecDepth 100000 in
set_option maxHeartbeats 2000000 in
theorem write_go (D : Nat → Prop) (w : World) (g fm : Nat) (fv : Value) (steps : Nat) (l r : List Fe) (ft : List (Int × Int)) (es : List (ByteArray × Value × Nat)) (c : Nat) (s : ByteArray) (a : Fa) (q : Gf) (h : Sr D w g fm fv steps (l ++ (s, a, q) :: r) ft es c) (hq : fget (l ++ (s, a, q) :: r) s = some (s, a, q)) (hsb : steps < 1000000000) (k0 n0 : Int) (hk : ft.headD (0, 0) = (k0, n0))
    (p m cap : Nat) (ao : Option Addr) (xs : List Int) (hm : m = xs.length) (hb : p + m ≤ 268435456) (hS : Src .u8 w ao xs) (hcap : m ≤ cap) (hdis : 0 < m → ∀ b off, ao = some ⟨b, off, none⟩ → b ∉ ownS g fm fv (l ++ (s, a, q) :: r)) (hnb : q.ps.length + m ≤ 1000000000) :
    CallsIn Fence.wide 5 Tryz.prog 115 #[.pointer (some ⟨g, 0, none⟩), .string s, .int .i64 p, .slice ao m cap] w fun e w' => e = .returned (.int .i64 (ferr k0)) ∧ ∃ D' fv' a', Sr D' w' g fm fv' (steps + 1) (l ++ (s, a', gwr p xs q ((pcs p m).take (lft k0 n0 m))) :: r) ft.tail es c ∧ fv'.ownBlock = fv.ownBlock ∧ Wk D w (g :: a.own) w' D' (g :: a'.own) := by
  have hn : nmd s = true := h.nm (s, a, q) (by simp)
  have HFI : Hid (Calls Tryz.prog 79 #[.pointer (some ⟨g, 0, none⟩), .string s] ((w.alloc (.cells #[.int .i64 p] 2)).alloc (.cells #[.slice ao m cap] 47)) fun e w' => e = .returned (.tuple #[.pointer (some ⟨a.fb, 0, none⟩), .int .i64 0]) ∧ w' = ((w.alloc (.cells #[.int .i64 p] 2)).alloc (.cells #[.slice ao m cap] 47))) :=
    (h.kp (F := fun _ => False) (((Kp.refl _ _).alloc _).alloc _) (fun _ _ h => h) (fun _ _ h => h)).file_some s hn (s, a, q) hq
  have HS : Hid (Sr D w g fm fv steps (l ++ (s, a, q) :: r) ft es c) := h
  have HK : Hid (ft.headD (0, 0) = (k0, n0)) := hk
  have HM : Hid (m = xs.length) := hm
  have HSR : Hid (Src .u8 w ao xs) := hS
  have HDI : Hid (0 < m → ∀ b off, ao = some ⟨b, off, none⟩ → b ∉ ownS g fm fv (l ++ (s, a, q) :: r)) := hdis
  have hsp := h.sb
  clear h hq hk hm hS hdis hn
  refine callsIn_of_wp_marks Tryz.func115 rfl trivial ?_ rfl
  simp only [Tryz.ntmps115, List.size_toArray, List.length_cons, List.length_nil, Nat.reduceAdd, Nat.reduceSub, Array.replicate_succ, Array.replicate_zero, List.push_toArray, List.append_toArray, List.nil_append, List.cons_append]
  gi_wp2_with fail
  refine ⟨trivial, (callsIn_wide.2 HFI.out).mono ?_⟩
  rintro e w' ⟨rfl, hw'⟩
  subst hw'
  gi_wp2_with fail
  have k1 : Kp (fun _ => False) w (((w.alloc (.cells #[.int .i64 p] 2)).alloc (.cells #[.slice ao m cap] 47)).alloc (.cells #[.pointer (some ⟨a.fb, 0, none⟩)] 159)) := (((Kp.refl _ _).alloc _).alloc _).alloc _
  have t6 : St 2 (((w.alloc (.cells #[.int .i64 p] 2)).alloc (.cells #[.slice ao m cap] 47)).alloc (.cells #[.pointer (some ⟨a.fb, 0, none⟩)] 159)) w.heap.size #[.int .i64 p] := (St.new 2 w _).kp (F := fun _ => False) (((Kp.refl _ _).alloc _).alloc _) (fun h => h)
  have t7 : St 47 (((w.alloc (.cells #[.int .i64 p] 2)).alloc (.cells #[.slice ao m cap] 47)).alloc (.cells #[.pointer (some ⟨a.fb, 0, none⟩)] 159)) (w.heap.size + 1) #[.slice ao m cap] := by
    have := (St.new 47 (w.alloc (.cells #[.int .i64 p] 2)) #[.slice ao m cap]).kp (F := fun _ => False) ((Kp.refl _ _).alloc (.cells #[.pointer (some ⟨a.fb, 0, none⟩)] 159)) (fun h => h)
    rwa [World.size_alloc] at this
  have t9 : St 159 (((w.alloc (.cells #[.int .i64 p] 2)).alloc (.cells #[.slice ao m cap] 47)).alloc (.cells #[.pointer (some ⟨a.fb, 0, none⟩)] 159)) (w.heap.size + 1 + 1) #[.pointer (some ⟨a.fb, 0, none⟩)] := by
    have := St.new 159 ((w.alloc (.cells #[.int .i64 p] 2)).alloc (.cells #[.slice ao m cap] 47)) #[.pointer (some ⟨a.fb, 0, none⟩)]
    rwa [World.size_alloc, World.size_alloc] at this
  have z1 : (((w.alloc (.cells #[.int .i64 p] 2)).alloc (.cells #[.slice ao m cap] 47)).alloc (.cells #[.pointer (some ⟨a.fb, 0, none⟩)] 159)).heap.size = w.heap.size + 3 := by simp [World.size_alloc]
  generalize (((w.alloc (.cells #[.int .i64 p] 2)).alloc (.cells #[.slice ao m cap] 47)).alloc (.cells #[.pointer (some ⟨a.fb, 0, none⟩)] 159)) = W1 at k1 t6 t7 t9 z1 ⊢
  have S1 := HS.out.kp k1 (fun _ _ h => h) (fun _ _ h => h)
  have hlt := HS.out.lt
  have hgl : g < w.heap.size := hlt g (mem_ownS.2 (.inl rfl))
  refine ⟨trivial, (callsIn_wide.2 (step_any g _ fv steps ft _ S1.st (by omega) S1.fa S1.fvg)).mono ?_⟩
  rintro e w2 ⟨rfl, fv1, s2, f2, o2, k2⟩
  rw [HK.out]
  have S2 := S1.stepped s2 f2 o2 k2 hsb
  have HS2 : Hid (Sr D w2 g fm fv1 (steps + 1) (l ++ (s, a, q) :: r) ft.tail es c) := S2
  have HO2 : Hid (fv1.ownBlock = fv.ownBlock) := o2
  have z2 := k2.size
  replace t6 := t6.kp k2 (by omega)
  replace t7 := t7.kp k2 (by omega)
  replace t9 := t9.kp k2 (by omega)
  have K2 : Hid (Kp (fun i => i = g) w w2) := (k1.mono (G := fun i => i = g) (fun _ _ h => h.elim)).trans k2 (fun _ _ h => h)
  have HT6 : Hid (St 2 w2 w.heap.size #[.int .i64 p]) := t6
  have HT7 : Hid (St 47 w2 (w.heap.size + 1) #[.slice ao m cap]) := t7
  have HT9 : Hid (St 159 w2 (w.heap.size + 1 + 1) #[.pointer (some ⟨a.fb, 0, none⟩)]) := t9
  have u6 : w2.cell? ⟨w.heap.size, 0, none⟩ = some (.int .i64 p) := t6.cell 0
  have u7 : w2.cell? ⟨w.heap.size + 1, 0, none⟩ = some (.slice ao m cap) := t7.cell 0
  have y1 : w.heap.size + 1 < w2.heap.size := by omega
  have y0 : w.heap.size < w2.heap.size := by omega
  have HZ2 : Hid (w.heap.size + 3 ≤ w2.heap.size) := by show _ ≤ _; omega
  clear S1 S2 s2 f2 o2 k1 k2 t6 t7 t9 z1 z2
  generalize decide ((p : Int) < 0) = q1
  generalize decide (268435456 - (p : Int) < (m : Int)) = q2
  gi_wp2_with fail
  have tf := St.new 137 w2 #[.int .i64 k0, .int .i64 n0]
  have k3 : Kp (fun _ => False) w2 (w2.alloc (.cells #[.int .i64 k0, .int .i64 n0] 137)) := (Kp.refl _ _).alloc _
  generalize w2.alloc (.cells #[.int .i64 k0, .int .i64 n0] 137) = W3 at tf k3 ⊢
  refine ⟨trivial, (callsIn_wide.2 (kept_f k0 n0 m _)).mono ?_⟩
  rintro e w4 ⟨rfl, b4⟩
  obtain ⟨lf, hlf⟩ : ∃ lf, lf = lft k0 n0 m := ⟨_, rfl⟩
  rw [← hlf]
  have HLF : Hid (lf = lft k0 n0 m) := hlf
  have k4 : Kp (fun _ => False) w2 w4 := k3.trans (Kp.of_below b4) (fun _ _ h => h)
  have HTF : Hid (St 137 w4 w2.heap.size #[.int .i64 k0, .int .i64 n0]) := tf.kp (F := fun _ => False) (Kp.of_below b4) (fun h => h)
  have z4 : w2.heap.size < w4.heap.size := HTF.out.lt
  have K4 : Hid (Kp (fun _ => False) w2 w4) := k4
  have v6 : w4.cell? ⟨w.heap.size, 0, none⟩ = some (.int .i64 p) := kp_cell k4 u6 (fun h => h)
  have v7 : w4.cell? ⟨w.heap.size + 1, 0, none⟩ = some (.slice ao m cap) := kp_cell k4 u7 (fun h => h)
  have y2 : w.heap.size + 1 < w4.heap.size := by omega
  have y3 : w.heap.size < w4.heap.size := by omega
  clear tf k3 b4 k4 hlf u6 u7 y0 y1
  gi_wp2_with fail
  refine ⟨trivial, (cuts_in Fence.wide 4 trivial rfl _ _ _).mono ?_⟩
  rintro e w5 ⟨rfl, hw5⟩
  subst hw5
  gi_wp2_with fail
  have tl : St 3 (((w4.alloc (.cells #[.int .i64 lf] 3)).alloc (.cells #[.int .i64 p] 2)).alloc (.cells #[.int .i64 m] 3)) w4.heap.size #[.int .i64 lf] := (St.new 3 w4 _).kp (F := fun _ => False) (((Kp.refl _ _).alloc _).alloc _) (fun h => h)
  have tp : St 2 (((w4.alloc (.cells #[.int .i64 lf] 3)).alloc (.cells #[.int .i64 p] 2)).alloc (.cells #[.int .i64 m] 3)) (w4.heap.size + 1) #[.int .i64 p] := by
    have := (St.new 2 (w4.alloc (.cells #[.int .i64 lf] 3)) #[.int .i64 p]).kp (F := fun _ => False) ((Kp.refl _ _).alloc (.cells #[.int .i64 m] 3)) (fun h => h)
    rwa [World.size_alloc] at this
  have tm : St 3 (((w4.alloc (.cells #[.int .i64 lf] 3)).alloc (.cells #[.int .i64 p] 2)).alloc (.cells #[.int .i64 m] 3)) (w4.heap.size + 1 + 1) #[.int .i64 m] := by
    have := St.new 3 ((w4.alloc (.cells #[.int .i64 lf] 3)).alloc (.cells #[.int .i64 p] 2)) #[.int .i64 m]
    rwa [World.size_alloc, World.size_alloc] at this
  have k6 : Kp (fun _ => False) w4 (((w4.alloc (.cells #[.int .i64 lf] 3)).alloc (.cells #[.int .i64 p] 2)).alloc (.cells #[.int .i64 m] 3)) := (((Kp.refl _ _).alloc _).alloc _).alloc _
  have z6 : (((w4.alloc (.cells #[.int .i64 lf] 3)).alloc (.cells #[.int .i64 p] 2)).alloc (.cells #[.int .i64 m] 3)).heap.size = w4.heap.size + 3 := by simp [World.size_alloc]
  generalize (((w4.alloc (.cells #[.int .i64 lf] 3)).alloc (.cells #[.int .i64 p] 2)).alloc (.cells #[.int .i64 m] 3)) = W6 at tl tp tm k6 z6 ⊢
  have k26 : Kp (fun _ => False) w2 W6 := K4.out.trans k6 (fun _ _ h => h)
  have S6 : Sr D W6 g fm fv1 (steps + 1) (l ++ (s, a, q) :: r) ft.tail es c := HS2.out.kp k26 (fun _ _ h => h) (fun _ _ h => h)
  have HS6 : Hid (Sr D W6 g fm fv1 (steps + 1) (l ++ (s, a, q) :: r) ft.tail es c) := S6
  have K6 : Hid (Kp (fun i => i = g) w W6) := K2.out.trans k26 (fun _ _ h => h.elim)
  have fr6 : Fr D W6 a q.sz q.L q.ps := S6.fr (s, a, q) (by simp)
  have hown : ∀ i, i ∈ a.own → i < w.heap.size := fun i hi => hlt i (mem_ownS.2 (.inr (.inr (.inr ⟨(s, a, q), by simp, hi⟩))))
  have hfbl : a.fb < w.heap.size := hown _ (by rw [Fa.mem]; exact .inl rfl)
  have hlml : a.lm < w.heap.size := hown _ (by rw [Fa.mem]; exact .inr (.inl rfl))
  have homl : a.om < w.heap.size := hown _ (by rw [Fa.mem]; exact .inr (.inr (.inl rfl)))
  have hDlt : ∀ i, D i → i < w.heap.size := HS.out.db
  have hz2 := HZ2.out
  have sr6 : Src .u8 W6 ao xs := fun hp => (HSR.out.kp K6.out (fun b off e h => HDI.out (by rw [HM.out]; exact hp) b off e (mem_ownS.2 (.inl h)))) hp
  have i0 : WtI D w2 a q p m cap lf ao xs w.heap.size w2.heap.size w4.heap.size W6.heap.size k0 n0 [] W6 D a := ⟨(Wk.refl _ _ _).kp k26, ⟨rfl, rfl, rfl⟩, fr6, HT6.out.kp k26 (fun h => h), HT7.out.kp k26 (fun h => h), HT9.out.kp k26 (fun h => h), HTF.out.kp k6 (fun h => h), tl, Nat.zero_le _, sr6, fun i h => .inl h, fun i h => .inl h, Nat.le_refl _⟩
  clear S6 fr6 sr6 tl k26 k6 v6 v7
  refine wpIn_rangeFunc_ownH rfl (by omega) (gf := 162) (lb := #[.pointer (some ⟨w4.heap.size + 1, 0, none⟩), .pointer (some ⟨w4.heap.size + 1 + 1, 0, none⟩)]) rfl trivial (enters_of Tryz.func162 (by kernel_rfl) rfl)
    (cuts_stops Fence.wide (5 - 1) trivial rfl (by omega) (w4.heap.size + 1) (w4.heap.size + 1 + 1) p m (by omega) W6 (tp.cell 0) (tm.cell 0)) (fun _ _ => trivial) (fun _ _ _ _ _ _ _ _ => trivial) (Below.refl _ _) (fun _ => rfl)
    (fun (pre : List (Cx p m)) W => ∃ D' a', WtI D w2 a q p m cap lf ao xs w.heap.size w2.heap.size w4.heap.size W6.heap.size k0 n0 (pre.map (fun x : Cx p m => x.1)) W D' a')
    (fun cc (pre : List (Cx p m)) W => cc = .exit 0 ∧ ∃ pre0 x, pre = pre0 ++ [x] ∧ pre0.length = lf ∧ ∃ D' a', WtI D w2 a q p m cap lf ao xs w.heap.size w2.heap.size w4.heap.size W6.heap.size k0 n0 (pre0.map (fun x : Cx p m => x.1)) W D' a')
    (fun pp A B row hs hg hr => by
      obtain ⟨D', a', h⟩ := hs
      exact ⟨D', a', h.turns (turns_own hg hr) (by omega) (by omega) (by omega)⟩)
    (fun cc pp A B row hs hg hr => by
      obtain ⟨h1, pre0, x, h2, h3, D', a', h⟩ := hs
      exact ⟨h1, pre0, x, h2, h3, D', a', h.turns (turns_own hg hr) (by omega) (by omega) (by omega)⟩) ⟨D, a, i0⟩
    (fun x a1 W => ∃ Bx, W6.heap.size ≤ Bx ∧ St 133 W Bx #[.int .i64 (x.1.1 : Int), .int .i64 (x.1.2 : Int)] ∧ a1 = { tmps := #[.pointer (some ⟨g, 0, none⟩), .string s, .int .i64 p, .slice ao m cap, undef, undef, .pointer (some ⟨w.heap.size, 0, none⟩), .pointer (some ⟨w.heap.size + 1, 0, none⟩), .int .i64 0, .pointer (some ⟨w.heap.size + 1 + 1, 0, none⟩), .int .i64 0, .pointer (some ⟨w2.heap.size, 0, none⟩), .pointer (some ⟨w4.heap.size, 0, none⟩), .pointer (some ⟨Bx, 0, none⟩), .tuple #[.pointer (some ⟨a.fb, 0, none⟩), .int .i64 0], .pointer (some ⟨g, 0, none⟩), .string s, .tuple #[.pointer (some ⟨a.fb, 0, none⟩), .int .i64 0], .pointer (some ⟨a.fb, 0, none⟩), .int .i64 0, .int .i64 0, .bool false, undef, .int .i64 p, .bool q1, .slice ao m cap, .int .i64 m, .int .i64 p, .int .i64 (268435456 - (p : Int)), .bool q2, .pointer (some ⟨g, 0, none⟩), .agg #[.int .i64 k0, .int .i64 n0], .agg #[.int .i64 k0, .int .i64 n0], .slice ao m cap, .int .i64 m, .int .i64 lf, .int .i64 p, .slice ao m cap, .int .i64 m, .func (.func 162) #[] #[.pointer (some ⟨w4.heap.size + 1, 0, none⟩), .pointer (some ⟨w4.heap.size + 1 + 1, 0, none⟩)], .agg #[.int .i64 (x.1.1 : Int), .int .i64 (x.1.2 : Int)], undef, undef, undef, undef, undef, undef, undef, undef, undef, undef, undef, undef, undef, undef, undef, undef, undef, undef, undef], defers := [] })
    (fun x a1 pp A B row hs hg hr => by
      obtain ⟨Bx, q1, q2, q3⟩ := hs
      exact ⟨Bx, q1, q2.turns (turns_own hg hr), q3⟩) ?assign ?body ?done ?stop
  case assign =>
    intro l pre x W K hi hK
    dsimp only [cenc]
    gi_wp2
    obtain ⟨D', a', hi⟩ := hi
    have t0 : Turns W6.heap.size W (W.alloc (.cells #[.int .i64 (x.1.1 : Int), .int .i64 (x.1.2 : Int)] 133)) := ⟨none, World.grownBy_alloc _ _ _, fun r e => by cases e⟩
    exact hK _ _ ((KeepsOthers.alloc _ _).from _) trivial ⟨D', a', hi.turns t0 (by omega) (by omega) (by omega)⟩ ⟨W.heap.size, hi.z6, St.new 133 W _, rfl⟩
  case body =>
    rintro lp pre x a1 W hl hlr ⟨D', a', hi⟩ ⟨Bx, hBx, sx, rfl⟩ hlen
    obtain ⟨⟨y, n1⟩, hx⟩ := x
    dsimp only at sx ⊢
    have hm4 := pcs_mem m p (y, n1) hx
    dsimp only at hm4
    obtain ⟨h41, h42, h43, h44⟩ := hm4
    have HI : Hid (WtI D w2 a q p m cap lf ao xs w.heap.size w2.heap.size w4.heap.size W6.heap.size k0 n0 (pre.map (fun x : Cx p m => x.1)) W D' a') := hi
    have c6 : W.cell? ⟨w.heap.size, 0, none⟩ = some (.int .i64 p) := hi.b6.cell 0
    have c7 : W.cell? ⟨w.heap.size + 1, 0, none⟩ = some (.slice ao m cap) := hi.b7.cell 0
    have c9 : W.cell? ⟨w.heap.size + 1 + 1, 0, none⟩ = some (.pointer (some ⟨a.fb, 0, none⟩)) := hi.b9.cell 0
    have cl : W.cell? ⟨w4.heap.size, 0, none⟩ = some (.int .i64 ((lf - (pre.map (fun x : Cx p m => x.1)).length : Nat) : Int)) := hi.bl.cell 0
    have fl : W.frozen? ⟨w4.heap.size, 0, none⟩ = false := hi.bl.frozen 0
    have x0 : W.cell? ⟨Bx, 0, none⟩ = some (.int .i64 y) := sx.cell 0
    have x1 : W.cell? ⟨Bx, 1, none⟩ = some (.int .i64 n1) := sx.cell 1
    have hle := hi.le
    rw [List.length_map] at cl hle
    by_cases hz : pre.length = lf
    · have cl0 : W.cell? ⟨w4.heap.size, 0, none⟩ = some (.int .i64 0) := by rw [cl, hz, Nat.sub_self]; rfl
      clear cl
      gi_wp2
      exact ⟨KeepsFrom.refl _ _, rfl, pre, _, rfl, hz, D', a', HI.out⟩
    · obtain ⟨b, off, rfl, hsc⟩ := hi.sr (by rw [← HM.out]; omega)
      have hbl : b < w.heap.size := by
        obtain ⟨b', off', e', hc'⟩ := HSR.out (by rw [← HM.out]; omega)
        cases e'
        exact block_lt_of_cell (hc' 0 (by rw [← HM.out]; omega))
      have hbo : b ∉ a.own := fun hm => HDI.out (by omega) b off rfl (mem_ownS.2 (.inr (.inr (.inr ⟨(s, a, q), by simp, hm⟩))))
      obtain ⟨LL, hLL⟩ : ∃ LL, lf - pre.length = LL + 1 := ⟨lf - pre.length - 1, by omega⟩
      rw [hLL] at cl
      have hzb : (((LL + 1 : Nat) : Int) == 0) = false := beq_eq_false_iff_ne.2 (by omega)
      have hsb1 : ((LL + 1 : Nat) : Int) - 1 = (LL : Int) := by omega
      have hlfm : lf ≤ m := by rw [HLF.out]; unfold lft; split <;> omega
      have hLb : LL ≤ 1000000000 := by omega
      have HLL : Hid (lf - pre.length = LL + 1) := hLL
      clear hLL hsc
      -- left--
      have k8 : Kp (fun i => i = w4.heap.size) W (W.setCell ⟨w4.heap.size, 0, none⟩ (.int .i64 LL)) := kp_setCell _ _ _ _ _ rfl
      have tl8 : St 3 (W.setCell ⟨w4.heap.size, 0, none⟩ (.int .i64 LL)) w4.heap.size #[.int .i64 LL] := hi.bl.set 0 _
      gi_wp2_with fail
      generalize W.setCell ⟨w4.heap.size, 0, none⟩ (.int .i64 LL) = W8 at k8 tl8 ⊢
      have d6 : W8.cell? ⟨w.heap.size, 0, none⟩ = some (.int .i64 p) := kp_cell k8 c6 (by omega)
      have d7 : W8.cell? ⟨w.heap.size + 1, 0, none⟩ = some (.slice (some ⟨b, off, none⟩) m cap) := kp_cell k8 c7 (by omega)
      have d9 : W8.cell? ⟨w.heap.size + 1 + 1, 0, none⟩ = some (.pointer (some ⟨a.fb, 0, none⟩)) := kp_cell k8 c9 (by omega)
      have e0 : W8.cell? ⟨Bx, 0, none⟩ = some (.int .i64 y) := kp_cell k8 x0 (by omega)
      have e1 : W8.cell? ⟨Bx, 1, none⟩ = some (.int .i64 n1) := kp_cell k8 x1 (by omega)
      have hsub : (y : Int) - (p : Int) = ((y - p : Nat) : Int) := by omega
      have hcp : ¬ cap = y - p := by omega
      have hn1 : n1 ≤ cap - (y - p) := by omega
      clear c6 c7 c9 x0 x1 cl fl
      refine wpIn_region_tail hmix (by kernel_rfl) ?_
      dsimp only [List.dropLast, List.getLast]
      repeat (gi_big_quiet_step (fail))
      refine wpQuietIn_nil ?_
      intro _ hw'
      obtain ⟨nq, hw2⟩ := hw'
      subst hw2
      have kq := drewN_kp (fun i => i = w4.heap.size) W8 nq
      have kq0 := drewN_kp (fun _ => False) W8 nq
      generalize W8.drewN nq = X at kq kq0 ⊢
      have kX : Kp (fun i => i = w4.heap.size) W X := k8.trans kq (fun _ _ h => h)
      have zX := kX.size
      have nbl : w4.heap.size ∉ a'.own := fun hm => (HI.out.o6 _ hm).elim (fun h => by have := hown _ h; omega) (fun h => by omega)
      have nbd : ∀ i, D' i → ¬ i = w4.heap.size := fun i hi e => (HI.out.d6 i hi).elim (fun h => by have := hDlt i h; omega) (fun h => by omega)
      have frX := HI.out.f.kp kX (fun i hi e => nbl (e ▸ hi)) nbd
      have srX : Src .u8 X (some ⟨b, off + (y - p), none⟩) (wby p xs (y, n1)) := by
        have h1 : Src .u8 X (some ⟨b, off, none⟩) xs := HI.out.sr.kp kX (fun b' off' e h => by cases e; omega)
        unfold wby
        exact (h1.drop (y - p)).take n1
      have hwl := wby_len p m xs (y, n1) HM.out h41 h42
      have hwr := write_any D' a' _ _ _ y n1 (cap - (y - p)) ⟨b, off + (y - p), none⟩ (wby p xs (y, n1)) X frX srX hwl.symm h43 h44 (by omega) (by rw [gwr_len, List.length_map]; omega)
      rw [HI.out.fb.1] at hwr
      gi_wp2_with fail
      refine ⟨trivial, ?_⟩
      refine (CallsIn.inRound lp (callsIn_wide.2 hwr)).mono ?_
      rintro e w9 ⟨rfl, a9, hfb9, ho9, f9, k9⟩
      gi_wp2
      have z9 := k9.size
      have HP : (pre ++ [(⟨(y, n1), hx⟩ : Cx p m)]).map (fun x : Cx p m => x.1) = pre.map (fun x : Cx p m => x.1) ++ [(y, n1)] := by rw [List.map_append]; rfl
      have hlow : ∀ i, w.heap.size ≤ i → i < W6.heap.size → ¬ i ∈ a'.own := fun i h1 h2 hm => (HI.out.o6 _ hm).elim (fun h => by have := hown _ h; omega) (fun h => by omega)
      have keepf : KeepsFrom W6.heap.size W w9 := by
        have h1 : KeepsFrom W6.heap.size W X := kfrom_of_kp kX (fun i e => by omega)
        exact h1.trans (frX.keeps k9 (by rw [HI.out.fb.1]; omega) (by rw [HI.out.fb.2.1]; omega) (by rw [HI.out.fb.2.2]; omega))
      have z6W := HI.out.z6
      refine ⟨keepf, trivial, (fun i => D' i ∨ (X.heap.size ≤ i ∧ i < w9.heap.size ∧ i ∉ a9.own)), a9, ?_⟩
      rw [HP]
      refine ⟨⟨(HI.out.wk.k.trans kX (fun i hi e => by omega)).trans k9 (fun i hi h => (HI.out.wk.o i h).elim id (fun h => by omega)), fun i hi => ?_, fun i hi => .inl (HI.out.wk.d i hi), fun i hi => ?_⟩, ⟨hfb9.1, hfb9.2.1.trans HI.out.fb.2.1, hfb9.2.2.trans HI.out.fb.2.2⟩, by rw [gwr_snoc]; exact f9, (HI.out.b6.kp kX (by omega)).kp k9 (hlow _ (by omega) (by omega)), (HI.out.b7.kp kX (by omega)).kp k9 (hlow _ (by omega) (by omega)), (HI.out.b9.kp kX (by omega)).kp k9 (hlow _ (by omega) (by omega)), (HI.out.bf.kp kX (by omega)).kp k9 (hlow _ (by omega) (by omega)), ?_, ?_, ?_, fun i hi => ?_, fun i hi => ?_, by omega⟩
      · rcases ho9 i hi with h | h
        · exact HI.out.wk.o i h
        · exact .inr (by omega)
      · rcases hi with h | h
        · exact HI.out.wk.e i h
        · exact .inr (by have := h.1; omega)
      · have e : lf - (pre.map (fun x : Cx p m => x.1) ++ [(y, n1)]).length = LL := by rw [List.length_append, List.length_map]; have := HLL.out; simp; omega
        rw [e]
        exact (tl8.kp kq0 (fun h => h)).kp k9 (hlow _ (by omega) (by omega))
      · rw [List.length_append, List.length_map]; have := HLL.out; simp; omega
      · refine (HI.out.sr.kp kX (fun b' off' e h => by cases e; omega)).kp k9 (fun b' off' e h => ?_)
        cases e
        rcases HI.out.o6 _ h with h | h
        · exact hbo h
        · omega
      · rcases hi with h | h
        · exact HI.out.d6 i h
        · exact .inr (by have := h.1; omega)
      · rcases ho9 i hi with h | h
        · exact HI.out.o6 i h
        · exact .inr (by omega)
  case done =>
    rintro Dd ys W hD hys ⟨D', a', hi⟩ hK
    have hle := hi.le
    rw [hys] at hi hle
    have htk : (pcs p m).take (lft k0 n0 m) = pcs p m := List.take_of_length_le (by rw [← HLF.out]; exact hle)
    have f0 : W.cell? ⟨w2.heap.size, 0, none⟩ = some (.int .i64 k0) := hi.bf.cell 0
    have f1 : W.cell? ⟨w2.heap.size, 1, none⟩ = some (.int .i64 n0) := hi.bf.cell 1
    have HTK := htk
    have HI : Hid (WtI D w2 a q p m cap lf ao xs w.heap.size w2.heap.size w4.heap.size W6.heap.size k0 n0 (pcs p m) W D' a') := hi
    clear hi hys htk hle
    gi_wp2_with fail
    refine ⟨trivial, (callsIn_wide.2 (came_f k0 n0 _)).mono ?_⟩
    rintro e w7 ⟨rfl, b7⟩
    have k7 : Kp (fun _ => False) W w7 := Kp.of_below b7
    have HK7 : w7.heap[Dd]? = some (.deferred (some [])) := (k7.block Dd (Array.getElem?_eq_some_iff.1 hK).1 (fun h => h)).trans hK
    gi_wp2
    refine ⟨by simp, .inl ⟨_, _, rfl, run_takeDeferred HK7, ?_⟩⟩
    have kp := kp_put1 w7 Dd (.deferred none)
    have kE : Kp (fun i => i = Dd) W (w7.putObj Dd (.deferred none)) := (k7.mono (G := fun i => i = Dd) (fun _ _ h => h.elim)).trans kp (fun _ _ h => h)
    have zD : Dd < W.heap.size := (Array.getElem?_eq_some_iff.1 hK).1
    have nown : ∀ i, i ∈ a'.own → ¬ i = Dd := fun i hi e => by
      rw [e] at hi
      rcases (a'.mem _).1 hi with h | h | h | h
      · rw [HI.out.fb.1] at h; omega
      · rw [HI.out.fb.2.1] at h; omega
      · rw [HI.out.fb.2.2] at h; omega
      · obtain ⟨vs, h4⟩ := HI.out.f.pc
        rcases h4.row.2 with ⟨h5, _⟩ | ⟨gg, cap', cur, h5, _, h6, _⟩
        · rw [h5] at h; cases h
        · rw [h5] at h
          have : gg = Dd := by simpa [Value.ownBlock] using h
          rw [this, hK] at h6
          cases h6
    have tD : Turns W6.heap.size w7 (w7.putObj Dd (.deferred none)) := ⟨some Dd, grownBy_putObj' _ _ _, fun r e => by cases e; exact ⟨hD, _, HK7, rfl⟩⟩
    have wkE := (HI.out.wk.kp k7).turns tD (by omega)
    have frE := (HI.out.f.kp k7 (fun _ _ h => h) (fun _ _ h => h)).turns tD (by rw [HI.out.fb.2.1]; omega) (by rw [HI.out.fb.2.2]; omega)
    refine ⟨_, results_tmp rfl _ _ _, rfl, D', fv1, a', ?_, HO2.out, ?_⟩
    · have := HS2.out.upd wkE HI.out.fb.1 frE
      rw [HTK]
      exact this
    · have o2 := K2.out
      have w0 : Wk D w (g :: a.own) w2 D (g :: a.own) := ⟨o2.mono (fun i _ e => by simp [e]), fun i h => .inl h, fun i h => h, fun i h => .inl h⟩
      refine w0.trans ⟨wkE.k.mono (fun i _ h => List.mem_cons_of_mem _ h), fun i hi => ?_, wkE.d, wkE.e⟩
      rcases List.mem_cons.1 hi with h | h
      · exact .inl (by simp [h])
      · exact (wkE.o i h).elim (fun x => .inl (List.mem_cons_of_mem _ x)) .inr
  case stop =>
    rintro Dd cc pre W hD hpre ⟨rfl, pre0, x, rfl, hl0, D', a', hi⟩ hK
    have htk : (pcs p m).take (lft k0 n0 m) = pre0.map (fun x : Cx p m => x.1) := by
      obtain ⟨rest, hr⟩ := hpre
      rw [List.map_append, List.append_assoc] at hr
      refine (congrArg (List.take (lft k0 n0 m)) hr.symm).trans ?_
      rw [← HLF.out, ← hl0, show pre0.length = (pre0.map (fun x : Cx p m => x.1)).length from (List.length_map _).symm]
      exact List.take_left
    have f0 : W.cell? ⟨w2.heap.size, 0, none⟩ = some (.int .i64 k0) := hi.bf.cell 0
    have f1 : W.cell? ⟨w2.heap.size, 1, none⟩ = some (.int .i64 n0) := hi.bf.cell 1
    have HTK := htk
    have HI : Hid (WtI D w2 a q p m cap lf ao xs w.heap.size w2.heap.size w4.heap.size W6.heap.size k0 n0 (pre0.map (fun x : Cx p m => x.1)) W D' a') := hi
    clear hi htk hpre
    gi_wp2_with fail
    refine ⟨trivial, (callsIn_wide.2 (came_f k0 n0 _)).mono ?_⟩
    rintro e w7 ⟨rfl, b7⟩
    have k7 : Kp (fun _ => False) W w7 := Kp.of_below b7
    have HK7 : w7.heap[Dd]? = some (.deferred (some [])) := (k7.block Dd (Array.getElem?_eq_some_iff.1 hK).1 (fun h => h)).trans hK
    gi_wp2
    refine ⟨by simp, .inl ⟨_, _, rfl, run_takeDeferred HK7, ?_⟩⟩
    have kp := kp_put1 w7 Dd (.deferred none)
    have kE : Kp (fun i => i = Dd) W (w7.putObj Dd (.deferred none)) := (k7.mono (G := fun i => i = Dd) (fun _ _ h => h.elim)).trans kp (fun _ _ h => h)
    have zD : Dd < W.heap.size := (Array.getElem?_eq_some_iff.1 hK).1
    have nown : ∀ i, i ∈ a'.own → ¬ i = Dd := fun i hi e => by
      rw [e] at hi
      rcases (a'.mem _).1 hi with h | h | h | h
      · rw [HI.out.fb.1] at h; omega
      · rw [HI.out.fb.2.1] at h; omega
      · rw [HI.out.fb.2.2] at h; omega
      · obtain ⟨vs, h4⟩ := HI.out.f.pc
        rcases h4.row.2 with ⟨h5, _⟩ | ⟨gg, cap', cur, h5, _, h6, _⟩
        · rw [h5] at h; cases h
        · rw [h5] at h
          have : gg = Dd := by simpa [Value.ownBlock] using h
          rw [this, hK] at h6
          cases h6
    have tD : Turns W6.heap.size w7 (w7.putObj Dd (.deferred none)) := ⟨some Dd, grownBy_putObj' _ _ _, fun r e => by cases e; exact ⟨hD, _, HK7, rfl⟩⟩
    have wkE := (HI.out.wk.kp k7).turns tD (by omega)
    have frE := (HI.out.f.kp k7 (fun _ _ h => h) (fun _ _ h => h)).turns tD (by rw [HI.out.fb.2.1]; omega) (by rw [HI.out.fb.2.2]; omega)
    refine ⟨_, results_tmp rfl _ _ _, rfl, D', fv1, a', ?_, HO2.out, ?_⟩
    · have := HS2.out.upd wkE HI.out.fb.1 frE
      rw [HTK]
      exact this
    · have o2 := K2.out
      have w0 : Wk D w (g :: a.own) w2 D (g :: a.own) := ⟨o2.mono (fun i _ e => by simp [e]), fun i h => .inl h, fun i h => h, fun i h => .inl h⟩
      refine w0.trans ⟨wkE.k.mono (fun i _ h => List.mem_cons_of_mem _ h), fun i hi => ?_, wkE.d, wkE.e⟩
      rcases List.mem_cons.1 hi with h | h
      · exact .inl (by simp [h])
      · exact (wkE.o i h).elim (fun x => .inl (List.mem_cons_of_mem _ x)) .inr
end Go.Proofs.YtnccklbnncaeoaaGreat
